/- Texts that this proof stands on, put together. -/
import Derived.Test.YtaonlpjfbajlcaaG4
import Derived.Maps.Own
import Derived.DeepKeys4
import Derived.ChangeKeys
import Derived.Maps.OwnOps
import Derived.Maps.Views
import Derived.Test.YtaonlpjfbajlcaaG3
import Derived.Test.YtaonlpjfbajlcaaG2
import Derived.Test.YtaonlpjfbajlcaaMxr1
import Derived.Lib.MinMax
import Derived.DeepKeys2
import Derived.Maps.RangeWalk
import Derived.Test.YtaonlpjfbajlcaaReads
import Derived.Test.YtaonlpjfbajlcaaFix4
import Derived.Deep.AppendLies
import Derived.Deep.RegionHeld3
import Derived.Test.YtaonlpjfbajlcaaRMulDiv2
import Derived.Test.YtaonlpjfbajlcaaFix3
import Derived.BigQuiet

namespace Go.Proofs.Ytaonlpjfbajlcaa
open Go.RowKit

set_option maxRecDepth 100000 in
theorem spk_laid : laidOutB Try.prog = true := by kernel_rfl

set_option maxRecDepth 100000 in
theorem spk_row : (47 : TypeId) < Try.prog.types.size := of_decide_eq_true (by kernel_rfl)

set_option maxRecDepth 100000 in
theorem spk_wide : (match Try.prog.underlying 47 with | some (.array _ _) | some (.struct _) => true | _ => false) = true := by kernel_rfl

set_option maxRecDepth 100000 in
theorem spk_law : WideMaps.KeyLaw Try.prog 47 := deep_law_laid spk_laid (m := 2) (by omega) spk_row (by kernel_rfl) spk_wide

theorem spk_keyed : Go.Maps.Keyed Try.prog 47 := Go.Maps.Keyed.of_law spk_law

abbrev spkV (a b : Int) : Value := .agg #[.int .i64 a, .int .i64 b]

abbrev spkL (a b : Int) : Lit := .string (keyBytes [.int .i64 a, .int .i64 b])

set_option maxRecDepth 100000 in
theorem spk_key {a b : Int} (ha : (Lit.int .i64 a).wf = true) (hb : (Lit.int .i64 b).wf = true) : keyOf Try.prog 47 (spkV a b) = some (spkL a b) := by
  have hk : Try.prog.keyType 47 = true := by kernel_rfl
  have hc : Try.prog.cellsOf 47 = 2 := by kernel_rfl
  have hi : Try.prog.cellsOf 3 = 1 := by kernel_rfl
  have hf : (spkV a b).formed Try.prog 47 = true := by
    simp [Value.formed, Try.underlying47, hc]
  have hl : ∀ d, Try.prog.keyLits (d + 2) 47 [.int .i64 a, .int .i64 b] = some [.int .i64 a, .int .i64 b] := by
    intro d
    unfold Program.keyLits
    rw [Try.underlying47 ]
    have k1 : ∀ n, (Lit.int .i64 n).wf = true → Try.prog.keyLits (d + 1) 3 [.int .i64 n] = some [.int .i64 n] := by
      intro n hn
      unfold Program.keyLits
      rw [Try.underlying3 ]
      simp [hn]
    simp [hc, hi, k1 a ha, k1 b hb]
  have hs : Try.prog.types.size + 1 = (Try.prog.types.size - 1) + 2 := by
    have : 0 < Try.prog.types.size := of_decide_eq_true (by kernel_rfl)
    omega
  have hl' : Try.prog.keyLits (Try.prog.types.size + 1) 47 (spkV a b).cells.toList = some [.int .i64 a, .int .i64 b] := by
    rw [hs]
    exact hl _
  unfold keyOf
  rw [Try.underlying47 ]
  simp only [hk, hf, hl', Bool.and_self, if_true, Option.map_some]

theorem spk_inj {a b c d : Int} (ha : (Lit.int .i64 a).wf = true) (hb : (Lit.int .i64 b).wf = true) (hc : (Lit.int .i64 c).wf = true) (hd : (Lit.int .i64 d).wf = true) (e : spkL a b = spkL c d) : a = c ∧ b = d := by
  have h1 : keyBytes [.int .i64 a, .int .i64 b] = keyBytes [.int .i64 c, .int .i64 d] := by
    injection e
  have h2 := keyBytes_inj (l := [.int .i64 a, .int .i64 b]) (l' := [.int .i64 c, .int .i64 d]) (by simp [Alike, Lit.sameKind]) (by intro x hx; simp only [List.mem_cons, List.not_mem_nil, or_false] at hx; rcases hx with rfl | rfl <;> simpa [Lit.keyWf] using by assumption) (by intro x hx; simp only [List.mem_cons, List.not_mem_nil, or_false] at hx; rcases hx with rfl | rfl <;> simpa [Lit.keyWf] using by assumption) h1
  injection h2 with e1 e2
  injection e2 with e3 e4
  injection e1 with _ e5
  injection e3 with _ e6
  exact ⟨e5, e6⟩

end Go.Proofs.Ytaonlpjfbajlcaa

namespace Go.Proofs.Ytaonlpjfbajlcaa
open Go.RowKit

/-- The greatest of those that want the same span. -/
def msV (l : List WnD) (a b : Int) : Int := l.foldl (fun m x => if x.a = a ∧ x.b = b then max m x.x else m) 0

theorem msV_snoc (l : List WnD) (x : WnD) (a b : Int) : msV (l ++ [x]) a b = if x.a = a ∧ x.b = b then max (msV l a b) x.x else msV l a b := by
  simp [msV, List.foldl_append]

abbrev I64 (n : Int) : Prop := (Lit.int .i64 n).wf = true

/-- The map as it stands when l's wants are in. -/
structure MsI {H : Type} (D : DataW H) (l : List WnD) : Prop where
  isMap : Go.Maps.IsMap D
  has : ∀ k, Go.Maps.has D k = true ↔ ∃ x ∈ l, k = spkL x.a x.b
  at_ : ∀ a b, I64 a → I64 b → D.atKey (spkL a b) (.lit (.int .i64 0)) = .lit (.int .i64 (msV l a b))

theorem MsI.nil {H : Type} : MsI (DataW.map [] : DataW H) [] where
  isMap := ⟨[], rfl⟩
  has k := by simp [Go.Maps.has]
  at_ a b _ _ := by
    rw [WideAt.atKey_none _ (by simp)]
    rfl

theorem MsI.put {H : Type} {D : DataW H} {l : List WnD} (h : MsI D l) (x : WnD) (ha : I64 x.a) (hb : I64 x.b) :
    MsI (D.put (spkL x.a x.b) (.lit (.int .i64 (max (msV l x.a x.b) x.x)))) (l ++ [x]) where
  isMap := by
    obtain ⟨es, rfl⟩ := h.isMap
    exact ⟨_, rfl⟩
  has k := by
    by_cases e : k = spkL x.a x.b
    · subst e
      rw [Go.Maps.has_put_same h.isMap (by trivial)]
      simp only [List.mem_append, List.mem_singleton, true_iff]
      exact ⟨x, .inr rfl, rfl⟩
    · rw [Go.Maps.has_put_other e, h.has]
      constructor
      · rintro ⟨y, hy, r⟩
        exact ⟨y, by simp [hy], r⟩
      · rintro ⟨y, hy, r⟩
        rcases List.mem_append.1 hy with hy | hy
        · exact ⟨y, hy, r⟩
        · rw [List.mem_singleton] at hy
          subst hy
          exact (e r).elim
  at_ a b ia ib := by
    rw [msV_snoc]
    by_cases e : x.a = a ∧ x.b = b
    · obtain ⟨rfl, rfl⟩ := e
      rw [Go.Maps.atKey_put_same h.isMap (by trivial), if_pos ⟨rfl, rfl⟩]
    · rw [Go.Maps.atKey_put_other, if_neg e, h.at_ a b ia ib]
      intro r
      obtain ⟨e1, e2⟩ := spk_inj ia ib ha hb r
      exact e ⟨e1.symm, e2.symm⟩

end Go.Proofs.Ytaonlpjfbajlcaa

namespace Go.Proofs.Ytaonlpjfbajlcaa
open Go.RowKit

/-- The greatest that a flexible one of the first so many had, in parts of an fr. -/
def uhV (l : List SzD) : Nat → Int
  | 0 => 0
  | k + 1 => if ((l.getD k noSz).mx == 5) = true then max (uhV l k) (dvU ((l.getD k noSz).base * 1000) (max (l.getD k noSz).fr 1000)) else uhV l k

theorem dvU_bd {a b : Int} (hb : 0 < b) (h0 : 0 ≤ a) (h1 : a ≤ 4611686018427387904) : 0 ≤ dvU a b ∧ dvU a b ≤ a := by
  obtain ⟨g0, g1, g2⟩ := gdiv_pos (a := -a) hb (by omega) (by omega)
  unfold dvU
  omega

theorem uhV_bd {l : List SzD} {N : Nat} (hg : ∀ k, k < N → 0 ≤ (l.getD k noSz).base ∧ (l.getD k noSz).base ≤ 68719476736) : ∀ k, k ≤ N → 0 ≤ uhV l k ∧ uhV l k ≤ 68719476736000
  | 0, _ => by simp only [uhV]; omega
  | k + 1, hk => by
    have h1 := uhV_bd hg k (by omega)
    have h2 := hg k (by omega)
    have h3 := dvU_bd (a := (l.getD k noSz).base * 1000) (b := max (l.getD k noSz).fr 1000) (by omega) (by omega) (by omega)
    simp only [uhV]
    split <;> omega

set_option maxRecDepth 100000 in
set_option maxHeartbeats 8000000 in
theorem unitHad26_any (v : Value) (l : List SzD) (w : World) (h : SzL w v l) (hN : l.length ≤ 1000000) (hg : ∀ k, k < l.length → 0 ≤ (l.getD k noSz).base ∧ (l.getD k noSz).base ≤ 68719476736) :
    Calls Try.prog 37 #[v] w fun e w' => e = .returned (.int .i64 (uhV l l.length)) ∧ Below w.heap.size w w' := by
  have HS := hide h
  obtain ⟨ao, cap, rfl⟩ := h.slice
  obtain ⟨N, hN0⟩ : ∃ N, N = l.length := ⟨_, rfl⟩
  have HNL := hide hN0
  rw [← hN0] at HS hN hg ⊢
  have HBD := hide (uhV_bd hg)
  have HG := hide hg
  have HSU : Hid (∀ k, uhV l (k + 1) = if ((l.getD k noSz).mx == 5) = true then max (uhV l k) (dvU ((l.getD k noSz).base * 1000) (max (l.getD k noSz).fr 1000)) else uhV l k) := hide (fun k => rfl)
  clear h hN0 hg
  go_enter Try.func37, Try.ntmps37
  go_wp2_with fail
  go_loopw [3, 8] (fun o i wr => ∃ k : Nat, k ≤ N ∧ i = .int .i64 (k : Int) ∧ o = .int .i64 (uhV l k) ∧ Hid (Below w.heap.size w wr)) (fun _ i _ => N - (intOf i).toNat)
  case atStart => exact ⟨0, Nat.zero_le _, by go_num, rfl, hide (Below.refl _ _)⟩
  case round =>
    obtain ⟨k, hk, rfl, rfl, HB⟩ := hrel
    by_cases hkl : k < N
    · have hi : (k : Int) < (N : Int) := by omega
      have hn2 : ¬ (k : Int) < 0 := by omega
      have hkL : k < l.length := by rw [← HNL.out]; exact hkl
      obtain ⟨b, off, hao, hlt, x0, x1, x2, x3, x4, x5, x6⟩ := ((HS.out).below (HB.out)).at hkL
      obtain ⟨g0, g1⟩ := (HG.out) k hkl
      obtain ⟨u0, u1⟩ := (HBD.out) k hk
      have hsu := (HSU.out) k
      have CF := hide (fun W => isFlex26_any (l.getD k noSz) W)
      have CD := hide (fun W hb h0 h1 => divUp26_any ((l.getD k noSz).base * 1000) (max (l.getD k noSz).fr 1000) W hb h0 h1)
      subst hao
      clear hkL HG HBD HSU
      generalize hu1 : uhV l (k + 1) = U1 at *
      have HUE := hide hu1
      clear hu1
      have HU1 := hide hsu
      clear hsu
      generalize uhV l k = U at *
      generalize l.getD k noSz = s at *
      obtain ⟨a1, a2, a3, q, a5, a6, a7⟩ := s
      unfold szC at CF
      simp only at x0 x1 x2 x3 x4 x5 x6 g0 g1 HU1 CF CD
      have hL : SzR (wr.alloc (.cells #[.int .i64 a1, .int .i64 a2, .int .i64 a3, .bool q, .int .i64 a5, .int .i64 a6, .int .i64 a7] 32)) wr.heap.size ⟨a1, a2, a3, q, a5, a6, a7⟩ := SzR.new wr ⟨a1, a2, a3, q, a5, a6, a7⟩
      have HB2 := hide ((HB.out).alloc (HB.out).size (.cells #[.int .i64 a1, .int .i64 a2, .int .i64 a3, .bool q, .int .i64 a5, .int .i64 a6, .int .i64 a7] 32))
      clear HB
      go_upto_region 5 with fail
      generalize wr.alloc (.cells #[.int .i64 a1, .int .i64 a2, .int .i64 a3, .bool q, .int .i64 a5, .int .i64 a6, .int .i64 a7] 32) = w2 at *
      have hVlt := hL.lt
      generalize wr.heap.size = V at *
      obtain ⟨t0, t1, t2, t3, t4, t5, t6⟩ := hL.cells
      have HL := hide hL
      clear x0 x1 x2 x3 x4 x5 x6 hL
      generalize hmx : (a2 == 5) = mx at *
      clear hmx
      cases mx
      · have HV : Hid (U1 = U) := hide (by rw [HU1.out]; rfl)
        clear HU1 CD
        go_wp2_with fail
        refine Calls.mono ((CF.out) _) ?_
        rintro e w3 ⟨rfl, hb3⟩
        have HB3 := hide ((HB2.out).trans (hb3.mono (HB2.out).size))
        clear hb3
        go_wp2_with fail
        go_roundw
        case rel => exact ⟨k + 1, by omega, by go_num, congrArg (Value.int .i64) ((HV.out).symm.trans (HUE.out).symm), HB3⟩
        case measure => simp [intOf]; omega
      · have HV : Hid (U1 = max U (dvU (a6 * 1000) (max a3 1000))) := hide (by rw [HU1.out]; rfl)
        have CD2 := hide (fun W => (CD.out) W (by omega) (by omega) (by omega))
        clear HU1 CD
        generalize dvU (a6 * 1000) (max a3 1000) = d at *
        go_wp2_with fail
        refine Calls.mono ((CF.out) _) ?_
        rintro e w3 ⟨rfl, hb3⟩
        have HB3 := hide ((HB2.out).trans (hb3.mono (HB2.out).size))
        have HL3 : Hid (SzR w3 V ⟨a1, a2, a3, q, a5, a6, a7⟩) := hide ((hb3.block V hVlt).trans HL.out)
        clear hb3 t0 t1 t2 t3 t4 t5 t6 HL
        obtain ⟨t0, t1, t2, t3, t4, t5, t6⟩ := (HL3.out).cells
        go_wp2_with fail
        refine Calls.mono ((CD2.out) _) ?_
        rintro e w4 ⟨rfl, rfl⟩
        go_wp2_with fail
        go_roundw
        case rel => exact ⟨k + 1, by omega, by go_num, congrArg (Value.int .i64) ((HV.out).symm.trans (HUE.out).symm), HB3⟩
        case measure => simp [intOf]; omega
    · have hi : ¬ (k : Int) < (N : Int) := by omega
      obtain rfl : k = N := by omega
      generalize hU : uhV l k = U at *
      have HU := hide hU
      clear hU HBD HSU HG
      go_wp2_with fail
      go_ret
      exact ⟨by rw [HU.out] <;> rfl, HB.out⟩

end Go.Proofs.Ytaonlpjfbajlcaa

namespace Go.Proofs.Ytaonlpjfbajlcaa
open Go.RowKit

theorem upV_bd {a c : Int} (h0 : 0 ≤ a) (h1 : a ≤ 1125899906842624) (hc : 1 ≤ c) : 0 ≤ upV a 1000 c ∧ upV a 1000 c ≤ a * 1000 := by
  obtain ⟨_, h2, h3⟩ := mdV_low h0 h1 hc
  unfold upV
  omega

/-- How much one fr is for the tracks as they are. -/
def gu26 (l : List SzD) : Nat → Int
  | 0 => 0
  | k + 1 => if flx l k then max (gu26 l k) (upV (l.getD k noSz).base 1000 (max (l.getD k noSz).fr 1000)) else gu26 l k

theorem gu26_bd {l : List SzD} {N : Nat} (hb : ∀ k, k < N → 0 ≤ (l.getD k noSz).base ∧ (l.getD k noSz).base ≤ 68719476736) : ∀ k, k ≤ N → 0 ≤ gu26 l k ∧ gu26 l k ≤ 68719476736000
  | 0, _ => by simp [gu26]
  | k + 1, hk => by
    have h1 := gu26_bd hb k (by omega)
    have h2 := hb k (by omega)
    have h3 := upV_bd (a := (l.getD k noSz).base) (c := max (l.getD k noSz).fr 1000) h2.1 (by omega) (by omega)
    simp only [gu26]
    split <;> omega

theorem unV_bd (l : List SzD) (space : Int) : 0 ≤ unV l space ∧ unV l space ≤ 68719476736000 := by
  unfold unV
  split
  · rename_i h
    obtain ⟨⟨h0, h1⟩, hb, hf, -⟩ := rgF_facts h.1
    have hlb := lf26_bd (st := unS l space) h0 (fun k hk => (hb k hk).1) l.length (Nat.le_refl _)
    have h3 := upV_bd (a := lf26 l (unS l space) space l.length) (c := max (sm26 l (unS l space) l.length) 1000) hlb.1 (by omega) (by omega)
    omega
  · omega

/-- The space of a want less the gaps within, after so many of them. -/
def spG (f : Nat → Int) (s : Int) (a : Nat) : Nat → Int
  | 0 => s
  | n + 1 => max 0 (spG f s a n - f (a + 1 + n))

/-- The tracks that a want spans. -/
def subL (l : List SzD) (x : WnD) : List SzD := (l.drop x.a.toNat).take (x.b - x.a).toNat

/-- How much one fr is for what is wanted besides. -/
def gw26 (l : List SzD) (f : Nat → Int) (ws : List WnD) : Nat → Int
  | 0 => gu26 l l.length
  | k + 1 => max (gw26 l f ws k) (unV (subL l (ws.getD k noWn)) (spG f (ws.getD k noWn).x (ws.getD k noWn).a.toNat ((ws.getD k noWn).b - (ws.getD k noWn).a - 1).toNat))

def gfV (l : List SzD) (u : Int) (k : Nat) : SzD := raiseV (if flx l k then setB (l.getD k noSz) (max (l.getD k noSz).base (min (mdV u (l.getD k noSz).fr 1000).1 68719476736)) else l.getD k noSz)

def gfL (l : List SzD) (u : Int) : Nat → List SzD
  | 0 => []
  | k + 1 => gfL l u k ++ [gfV l u k]

def growW (l : List SzD) (M : Nat) (f : Nat → Int) (ws : List WnD) : List SzD :=
  if rgF l 0 = true ∧ good24 l M f ws 0 = true then gfL l (gw26 l f ws ws.length) l.length else l

theorem subL_len {l : List SzD} {x : WnD} (h0 : 0 ≤ x.a) (h1 : x.a < x.b) (h2 : x.b ≤ (l.length : Int)) : (subL l x).length = (x.b - x.a).toNat := by
  unfold subL
  simp
  omega

theorem subL_get {l : List SzD} {x : WnD} {i : Nat} (hi : i < (x.b - x.a).toNat) : (subL l x).getD i noSz = l.getD (x.a.toNat + i) noSz := by
  unfold subL
  simp [List.getD, hi]

/-- A part of a slice of tracks. -/
theorem SzL.sub {w : World} {b off N cap : Nat} {l : List SzD} {x : WnD} (h : SzL w (.slice (some ⟨b, off, none⟩) N cap) l) (h0 : 0 ≤ x.a) (h1 : x.a < x.b) (h2 : x.b ≤ (l.length : Int)) (c : Nat) : SzL w (.slice (some ⟨b, off + x.a.toNat * 7, none⟩) (x.b - x.a).toNat c) (subL l x) := by
  rcases h with ⟨he, _⟩ | ⟨b', off', c1, hv, hlt, hc⟩
  · rw [he] at h2; simp at h2; omega
  · obtain ⟨⟨rfl, rfl⟩, -, -⟩ : (b = b' ∧ off = off') ∧ N = l.length ∧ cap = c1 := by simpa using hv
    refine .inr ⟨b, _, c, by rw [subL_len h0 h1 h2], hlt, fun i hi j u hu => ?_⟩
    rw [subL_len h0 h1 h2] at hi
    rw [subL_get hi] at hu
    have := hc (x.a.toNat + i) (by omega) j u hu
    rw [show off + x.a.toNat * 7 + i * 7 + j = off + (x.a.toNat + i) * 7 + j by omega]
    exact this

theorem goodW_bd {N : Nat} {x : WnD} (h : goodW N x = true) : 0 ≤ x.a ∧ x.a < x.b ∧ x.b ≤ (N : Int) ∧ 0 ≤ x.x ∧ x.x ≤ 68719476736 := by
  unfold goodW at h
  simp only [Bool.and_eq_true, decide_eq_true_eq] at h
  have := isSz_bd h.2.2.2.2.2
  exact ⟨h.1, h.2.1, h.2.2.1, this.1, this.2⟩

theorem gw26_bd {l : List SzD} {f : Nat → Int} {ws : List WnD} (hb : ∀ k, k < l.length → 0 ≤ (l.getD k noSz).base ∧ (l.getD k noSz).base ≤ 68719476736) : ∀ k, 0 ≤ gw26 l f ws k ∧ gw26 l f ws k ≤ 68719476736000
  | 0 => gu26_bd hb l.length (Nat.le_refl _)
  | k + 1 => by
    have h1 := gw26_bd (f := f) (ws := ws) hb k
    have h2 := unV_bd (subL l (ws.getD k noWn)) (spG f (ws.getD k noWn).x (ws.getD k noWn).a.toNat ((ws.getD k noWn).b - (ws.getD k noWn).a - 1).toNat)
    simp only [gw26]
    omega

theorem spG_bd {f : Nat → Int} {s : Int} {a N : Nat} (h0 : 0 ≤ s) (hf : ∀ k, k < N → 0 ≤ f k) : ∀ n, a + 1 + n ≤ N → 0 ≤ spG f s a n ∧ spG f s a n ≤ s
  | 0, _ => ⟨h0, Int.le_refl _⟩
  | n + 1, hk => by
    have := spG_bd (a := a) h0 hf n (by omega)
    have := hf (a + 1 + n) (by omega)
    simp only [spG]
    omega

set_option maxRecDepth 100000 in
set_option maxHeartbeats 8000000 in
theorem rgrow26_any (v : Value) (l : List SzD) (aa : Option Addr) (M ca : Nat) (f : Nat → Int) (u : Value) (ws : List WnD) (w : World) (h : SzL w v l) (ha : ArI w aa M f) (hw : WnL w u ws) (hN : l.length ≤ 65536) (hK : ws.length ≤ 1000000) (hcap : ∀ ao n c, v = .slice ao n c → n ≤ c) : Calls Try.prog 13 #[v, .slice aa M ca, u] w fun e w' => ∃ u', e = .returned u' ∧ SzL w' u' (growW l M f ws) ∧ Below w.heap.size w w' := by
  have CR := hide (rright26_any v l 0 w h (by omega))
  have CG := hide (fun W (hb : Below w.heap.size w W) => rgood24_any v l aa M ca f u ws 0 W (h.below hb) (ha.below hb) (hw.below hb) (by omega) hK)
  have HS := hide h
  have HV : Hid (growW l M f ws = if rgF l 0 = true ∧ good24 l M f ws 0 = true then gfL l (gw26 l f ws ws.length) l.length else l) := hide rfl
  generalize growW l M f ws = R at *
  generalize hG : rgF l 0 = G at *
  generalize hG4 : good24 l M f ws 0 = G4 at *
  have hcell : ∃ ao cap, v = .slice ao l.length cap := h.slice
  have hcell2 : ∃ ao cap, u = .slice ao ws.length cap := hw.slice
  cases G
  · have HV2 : Hid (R = l) := hide (by rw [HV.out, if_neg (fun hh => by have := hh.1; exact absurd this (by decide))])
    clear hG hG4 HV h ha CG
    go_enter Try.func13, Try.ntmps13
    go_wp2_with fail
    refine Calls.mono CR.out ?_
    rintro e w1 ⟨rfl, hb⟩
    have HB := hide hb
    clear hb
    go_wp2_with fail
    go_ret
    exact ⟨_, rfl, by rw [HV2.out]; exact (HS.out).below HB.out, HB.out⟩
  · cases G4
    · have HV2 : Hid (R = l) := hide (by rw [HV.out, if_neg (fun hh => by have := hh.2; exact absurd this (by decide))])
      clear hG hG4 HV h ha
      go_enter Try.func13, Try.ntmps13
      go_wp2_with fail
      refine Calls.mono CR.out ?_
      rintro e w1 ⟨rfl, hb⟩
      have HB := hide hb
      go_wp2_with fail
      refine Calls.mono ((CG.out) w1 hb) ?_
      rintro e w2 ⟨rfl, hb2⟩
      have HB2 := hide (hb.trans (hb2.mono hb.size))
      clear hb hb2 CG HB
      go_wp2_with fail
      go_ret
      exact ⟨_, rfl, by rw [HV2.out]; exact (HS.out).below HB2.out, HB2.out⟩
    · obtain ⟨-, hb, hf, -⟩ := rgF_facts hG
      have hh4 := hG4
      unfold good24 hd24 at hh4
      simp only [Bool.and_eq_true, decide_eq_true_eq] at hh4
      have hMN : M = l.length := hh4.1.1
      have HFA := hide (fun k (hk : k < l.length) => isSz_bd (tg24_at hh4.2.1 k hk).2)
      have HWG := hide (fun k (hk : k < ws.length) => goodW_bd (wg24_at hh4.2.2 k hk))
      have HGV := hide (gw26_bd (f := f) (ws := ws) hb)
      have HGS := hide (fun k => (show gw26 l f ws (k + 1) = max (gw26 l f ws k) (unV (subL l (ws.getD k noWn)) (spG f (ws.getD k noWn).x (ws.getD k noWn).a.toNat ((ws.getD k noWn).b - (ws.getD k noWn).a - 1).toNat)) from rfl))
      have HV1 : Hid (R = gfL l (gw26 l f ws ws.length) l.length) := hide (by rw [HV.out, if_pos ⟨by trivial, by trivial⟩])
      have HGB := hide (fun k hk => gu26_bd hb k hk)
      have HBB := hide hb
      have HFF := hide hf
      have HGU := hide (fun k => (show gu26 l (k + 1) = if flx l k then max (gu26 l k) (upV (l.getD k noSz).base 1000 (max (l.getD k noSz).fr 1000)) else gu26 l k from rfl))
      clear hh4 HV hG hG4 hb hf
      subst hMN
      obtain ⟨ao, cap, rfl⟩ := hcell
      obtain ⟨wo, cw, rfl⟩ := hcell2
      have hcp : l.length ≤ cap := hcap _ _ _ rfl
      clear hcap
      have CF := hide (fun a b c q e f g W => rflex26_any a b c e f g q W)
      have ST0 := hide (WgS.mk h ha hw (Below.refl _ w))
      obtain ⟨N, hN0⟩ : ∃ N, N = l.length := ⟨_, rfl⟩
      obtain ⟨K, hK0⟩ : ∃ K, K = ws.length := ⟨_, rfl⟩
      rw [← hN0, ← hK0] at ST0 CG
      rw [← hN0] at CR HFA HGB HBB HFF hN HS HWG hcp
      have HG0 : Hid (gw26 l f ws 0 = gu26 l N) := hide (by rw [hN0]; rfl)
      rw [← hK0] at HWG hK
      rw [← hN0, ← hK0]
      rw [← hN0, ← hK0] at HV1
      have HNL := hide hN0
      have HKL := hide hK0
      clear hN0 hK0 h ha hw
      go_enter Try.func13, Try.ntmps13
      go_wp2_with fail
      refine Calls.mono CR.out ?_
      rintro e w1 ⟨rfl, hb⟩
      go_wp2_with fail
      refine Calls.mono ((CG.out) w1 hb) ?_
      rintro e w2 ⟨rfl, hb2⟩
      have ST1 := hide ((ST0.out).next (hb.trans (hb2.mono hb.size)))
      clear hb hb2 CG CR ST0
      go_wp2_with fail
      go_loopw [7, 8] (fun s i wr => ∃ (k : Nat) (S : Int), k ≤ N ∧ i = .int .i64 (k : Int) ∧ s = .int .i64 S ∧ Hid (S = gu26 l k) ∧ Hid (WgS w wr (.slice ao N cap) l aa N f (.slice wo K cw) ws)) (fun _ i _ => N - (intOf i).toNat)
      case atStart => exact ⟨0, 0, Nat.zero_le _, by go_num, by go_num, hide rfl, ST1⟩
      case round =>
        clear ST1
        obtain ⟨k, S, hk, rfl, rfl, HSE, ST⟩ := hrel
        by_cases hkl : k < N
        · have hi : (k : Int) < (N : Int) := by omega
          have hn2 : ¬ (k : Int) < 0 := by omega
          have hkl2 : k < l.length := by rw [← HNL.out]; exact hkl
          obtain ⟨b, off, rfl, hlt, x0, x1, x2, x3, x4, x5, x6⟩ := (ST.out).l.at hkl2
          have HC := hide (fun W (hh : WgS w W (.slice (some ⟨b, off, none⟩) N cap) l aa N f (.slice wo K cw) ws) => (show W.cell? ⟨b, off + k * 7 + 5, none⟩ = some (.int .i64 (l.getD k noSz).base) ∧ W.cell? ⟨b, off + k * 7 + 2, none⟩ = some (.int .i64 (l.getD k noSz).fr) from by
            obtain ⟨b', off', e, _, _, _, z2, _, _, z5, _⟩ := hh.l.at hkl2
            obtain ⟨rfl, rfl⟩ : b = b' ∧ off = off' := by simpa using e
            exact ⟨z5, z2⟩))
          obtain ⟨hb0, hb1⟩ := (HBB.out) k hkl
          obtain ⟨hf0, hf1⟩ := (HFF.out) k hkl
          have hgu := (HGU.out) k
          rw [← HSE.out] at hgu
          have hfx : flx l k = ((l.getD k noSz).mx == 5) := rfl
          rw [hfx] at hgu
          have HG1 := hide hgu
          have hlow := mdV_low (a := (l.getD k noSz).base) (c := max (l.getD k noSz).fr 1000) hb0 (by omega) (by omega)
          have CU := hide (fun W => rup26_any (l.getD k noSz).base 1000 (max (l.getD k noSz).fr 1000) W hb0 (by omega) (by omega) (by omega) (by omega) (by omega) hlow.1)
          clear hgu hfx hlow HGU HBB HFF HGB HV1 HFA HWG HSE
          generalize l.getD k noSz = z at *
          obtain ⟨a1, a2, a3, q, a5, a6, a7⟩ := z
          simp only at x0 x1 x2 x3 x4 x5 x6 HC hb0 hb1 hf0 hf1 HG1 CU
          generalize upV a6 1000 (max a3 1000) = up at *
          go_wp2_with fail
          refine Calls.mono ((CF.out) a1 a2 a3 q a5 a6 a7 _) ?_
          rintro e w3 ⟨rfl, hb3⟩
          have ST3 := hide ((ST.out).next hb3)
          clear hb3 ST x0 x1 x2 x3 x4 x5 x6
          generalize (a2 == 5) = q1 at *
          cases q1
          · have HSN : Hid (S = gu26 l (k + 1)) := hide (by rw [HG1.out]; rfl)
            clear HG1
            go_wp2_with fail
            go_roundw
            case rel => exact ⟨k + 1, _, by omega, by go_num, by go_num, HSN, ST3⟩
            case measure => simp [intOf]; omega
          · have HSN : Hid (max S up = gu26 l (k + 1)) := hide (by rw [HG1.out]; rfl)
            clear HG1
            have ST4 := hide ((ST3.out).next (Below.refl _ w3).drew)
            clear ST3
            go_upto_region 8 with fail
            go_region_held3 (fun w' => w'.cell? ⟨b, off + k * 7 + 5, none⟩ = some (.int .i64 a6) ∧ w'.cell? ⟨b, off + k * 7 + 2, none⟩ = some (.int .i64 a3))
              (first | exact (HC.out) _ ST4.out | exact (HC.out) _ (by assumption : Hid (WgS w _ (.slice (some ⟨b, off, none⟩) N cap) l aa N f (.slice wo K cw) ws)).out | go_keep)
              (first | (go_at_call 25; refine Calls.mono ((CU.out) _) ?_; rintro e w5 ⟨rfl, hb5⟩; have ST5 := hide ((ST4.out).next hb5); clear hb5))
            all_goals (
              go_wp2_with fail
              go_roundw
              case rel => exact ⟨k + 1, _, by omega, by go_num, by go_num, HSN, ST5⟩
              case measure => simp [intOf]; omega)
        · have hi : ¬ (k : Int) < (N : Int) := by omega
          have hse := HSE.out
          rw [show k = N by omega, ← (HG0.out)] at hse
          have HS0 := hide hse
          clear hse HSE HG0 HGU HGB
          go_wp2_with fail
          go_loopw [7, 9] (fun s i wr => ∃ (j : Nat) (S : Int), j ≤ K ∧ i = .int .i64 (j : Int) ∧ s = .int .i64 S ∧ Hid (S = gw26 l f ws j) ∧ Hid (WgS w wr (.slice ao N cap) l aa N f (.slice wo K cw) ws)) (fun _ i _ => K - (intOf i).toNat)
          case atStart => exact ⟨0, S, Nat.zero_le _, by go_num, by go_num, HS0, ST⟩
          case round =>
            clear ST HS0 hi
            obtain ⟨j, S1, hj, rfl, rfl, HSE, ST⟩ := hrel
            by_cases hjk : j < K
            · have hi : (j : Int) < (K : Int) := by omega
              have hn2 : ¬ (j : Int) < 0 := by omega
              have hjk2 : j < ws.length := by rw [← HKL.out]; exact hjk
              obtain ⟨bw, ow, rfl, hlt, x0, x1, x2, x3, x4⟩ := (ST.out).ws.at hjk2
              obtain ⟨g0, g1, g2, g3, g4⟩ := (HWG.out) j hjk
              have hsn := (HGS.out) j
              rw [← HSE.out] at hsn
              have HSN := hide hsn.symm
              have h0l : 0 < l.length := by rw [← HNL.out]; omega
              obtain ⟨bl, ol, rfl, -⟩ := (ST.out).l.at h0l
              have hg2 : (ws.getD j noWn).b ≤ (l.length : Int) := by rw [← HNL.out]; exact g2
              have CUN := hide (fun (c : Nat) (sp : Int) W (hh : WgS w W (.slice (some ⟨bl, ol, none⟩) N cap) l aa N f (.slice (some ⟨bw, ow, none⟩) K cw) ws) => runit26_any _ (subL l (ws.getD j noWn)) sp W (hh.l.sub g0 g1 hg2 c) (by rw [subL_len g0 g1 hg2]; omega))
              clear hsn HSE HGS HWG HV1 HBB HFF hg2 HGV h0l
              generalize ws.getD j noWn = z at *
              obtain ⟨y0, y1, y2, y3, y4⟩ := z
              simp only at x0 x1 x2 x3 x4 HSN CUN g0 g1 g2 g3 g4
              obtain ⟨A, rfl⟩ := Int.eq_ofNat_of_zero_le g0
              obtain ⟨Bn, rfl⟩ := Int.eq_ofNat_of_zero_le (show 0 ≤ y1 by omega)
              have HUB := hide (fun n => spG_bd (f := f) (s := y4) (a := A) (N := N) g3 (fun k hk => ((HFA.out) k hk).1) n)
              rw [Int.toNat_natCast, show ((Bn : Int) - (A : Int) - 1).toNat = Bn - A - 1 by omega] at HSN
              rw [show ((Bn : Int) - (A : Int)).toNat = Bn - A by omega] at CUN
              generalize subL l ⟨(A : Int), (Bn : Int), y2, y3, y4⟩ = L2 at *
              have ST2 := hide ((ST.out).alloc (.cells #[.int .i64 (A : Int), .int .i64 (Bn : Int), .int .i64 y2, .int .i64 y3, .int .i64 y4] 35))
              have hr : WnR (wr.alloc (.cells #[.int .i64 (A : Int), .int .i64 (Bn : Int), .int .i64 y2, .int .i64 y3, .int .i64 y4] 35)) wr.heap.size ⟨(A : Int), (Bn : Int), y2, y3, y4⟩ := WnR.new wr ⟨(A : Int), (Bn : Int), y2, y3, y4⟩
              go_upto_region 13 with fail
              generalize wr.alloc (.cells #[.int .i64 (A : Int), .int .i64 (Bn : Int), .int .i64 y2, .int .i64 y3, .int .i64 y4] 35) = w7 at *
              generalize wr.heap.size = X at *
              obtain ⟨z0, z1, z2, z3, z4⟩ := hr.cells
              have HRW := hide hr
              clear hr ST x0 x1 x2 x3 x4
              go_upto_region 14 with fail
              go_wp2_with fail
              go_loop [11, 12] (fun s i => ∃ (p : Nat) (s0 : Int), A + 1 ≤ p ∧ p ≤ Bn ∧ i = .int .i64 (p : Int) ∧ s = .int .i64 s0 ∧ Hid (s0 = spG f y4 A (p - A - 1))) (fun _ i => Bn - (intOf i).toNat)
              case atStart => exact ⟨A + 1, y4, Nat.le_refl _, by omega, by go_num, by go_num, hide (by rw [show A + 1 - A - 1 = 0 by omega]; rfl)⟩
              case round =>
                obtain ⟨p, s0, hp1, hp2, rfl, rfl, HS0⟩ := hrel
                by_cases hpb : p < Bn
                · have hi2 : (p : Int) < (Bn : Int) := by omega
                  have hn3 : ¬ (p : Int) < 0 := by omega
                  have hpN : p < N := by omega
                  obtain ⟨b2, o2, rfl, hc⟩ := (ST2.out).a.at hpN
                  obtain ⟨f0, f1⟩ := (HFA.out) p hpN
                  have hub := (HUB.out) (p - A - 1) (by omega)
                  rw [← HS0.out] at hub
                  obtain ⟨s1, s2⟩ := hub
                  have HS1 : Hid (max 0 (s0 - f p) = spG f y4 A (p + 1 - A - 1)) := hide (by rw [show p + 1 - A - 1 = (p - A - 1) + 1 by omega, spG, ← HS0.out, show A + 1 + (p - A - 1) = p by omega])
                  clear HS0 HUB HFA HSN CUN
                  generalize f p = y at *
                  go_wp2_with fail
                  go_round
                  case rel => exact ⟨p + 1, _, by omega, by omega, by go_num, by go_num, HS1⟩
                  case measure => simp [intOf]; omega
                · have hi2 : ¬ (p : Int) < (Bn : Int) := by omega
                  have hs0 := HS0.out
                  rw [show p = Bn by omega] at hs0
                  rw [← hs0] at HSN
                  have hub := (HUB.out) (p - A - 1) (by omega)
                  rw [← HS0.out] at hub
                  clear hs0 HS0 HUB HFA
                  have hcA : ¬ cap = A := by omega
                  have CU := hide ((CUN.out) (cap - A) s0)
                  clear CUN
                  generalize unV L2 s0 = U at *
                  clear HRW
                  go_wp2_with (go_at_call 8; refine Calls.mono ((CU.out) _ ST2.out) ?_; rintro e w8 ⟨rfl, hb8⟩; have ST5 := hide ((ST2.out).next hb8); clear hb8)
                  go_roundw
                  case rel => exact ⟨j + 1, _, by omega, by go_num, by go_num, HSN, ST5⟩
                  case measure => simp [intOf]; omega
            · have hi : ¬ (j : Int) < (K : Int) := by omega
              have hse := HSE.out
              rw [show j = K by omega] at hse
              have hgv := (HGV.out) K
              rw [← hse] at HV1 hgv
              obtain ⟨u0, u1⟩ := hgv
              clear hse HSE HGS HGV HWG HFA
              generalize S1 = u at *
              obtain ⟨i1, hinf1, hw0, hw1, hw2⟩ := info_parts szT22
              have CRA := hide (fun a b c q e f g W => rraise22_any ⟨a, b, c, q, e, f, g⟩ W)
              unfold szC at CRA
              simp only at CRA
              have HB7 := hide (ST.out).bel
              have ST0 := hide (MxA.start (ST.out).l (Below.refl _ wr))
              clear ST
              generalize wr = w6 at *
              go_wp2_with fail
              go_loopw [13, 14] (fun o i wr => ∃ (j : Nat) (acc : List SzD), j ≤ N ∧ i = .int .i64 (j : Int) ∧ Hid (acc.length = j) ∧ Hid (acc = gfL l u j) ∧ Hid (MxA w6 wr (.slice ao N cap) l o acc)) (fun _ i _ => N - (intOf i).toNat)
              case atStart => exact ⟨0, [], Nat.zero_le _, by go_num, hide rfl, hide rfl, ST0⟩
              case round =>
                clear ST0
                obtain ⟨j, acc, hj, rfl, HAL, HAC, ST⟩ := hrel
                obtain ⟨ub, uc2, rfl⟩ := own_sl22 (ST.out).own
                by_cases hjk : j < N
                · have hi2 : (j : Int) < (N : Int) := by omega
                  have hn2 : ¬ (j : Int) < 0 := by omega
                  have hjL : j < l.length := by rw [← HNL.out]; exact hjk
                  obtain ⟨b, off, rfl, hlt, x0, x1, x2, x3, x4, x5, x6⟩ := (ST.out).l.at hjL
                  obtain ⟨hf0, hf1⟩ := (HFF.out) j hjk
                  have hsn : acc ++ [raiseV (if ((l.getD j noSz).mx == 5) then setB (l.getD j noSz) (max (l.getD j noSz).base (min (mdV u (l.getD j noSz).fr 1000).1 68719476736)) else l.getD j noSz)] = gfL l u (j + 1) := by rw [HAC.out]; rfl
                  have HSN := hide hsn
                  have CM2 := hide (fun W => rmuldiv_any u (l.getD j noSz).fr 1000 W (by omega) (by omega) (by omega) (by omega) (by omega) (by omega))
                  clear hsn HAC HV1 HFF HBB
                  generalize l.getD j noSz = z at *
                  obtain ⟨a1, a2, a3, q, a5, a6, a7⟩ := z
                  simp only at x0 x1 x2 x3 x4 x5 x6 HSN CM2 hf0 hf1
                  have hX : w6.heap.size ≤ wr.heap.size := (ST.out).bel.size
                  have HOWN := hide (fun g (hg : (Value.slice ub acc.length uc2).ownBlock = some g) => Nat.ne_of_lt (own_lt22 (ST.out).own g hg).2)
                  have ST2 := hide ((ST.out).alloc (.cells #[.int .i64 a1, .int .i64 a2, .int .i64 a3, .bool q, .int .i64 a5, .int .i64 a6, .int .i64 a7] 32))
                  have s6 : SzR (wr.alloc (.cells #[.int .i64 a1, .int .i64 a2, .int .i64 a3, .bool q, .int .i64 a5, .int .i64 a6, .int .i64 a7] 32)) wr.heap.size ⟨a1, a2, a3, q, a5, a6, a7⟩ := SzR.new wr ⟨a1, a2, a3, q, a5, a6, a7⟩
                  have HS6 := hide s6
                  clear s6
                  have hal : acc.length ≤ 1000000 := by rw [HAL.out]; omega
                  go_upto_region 24 with fail
                  generalize wr.alloc (.cells #[.int .i64 a1, .int .i64 a2, .int .i64 a3, .bool q, .int .i64 a5, .int .i64 a6, .int .i64 a7] 32) = w7 at *
                  generalize wr.heap.size = X at *
                  clear ST x0 x1 x2 x3 x4 x5 x6
                  obtain ⟨y0, y1, y2, y3, y4, y5, y6⟩ := (HS6.out).cells
                  go_wp2_with fail
                  refine Calls.mono ((CF.out) a1 a2 a3 q a5 a6 a7 _) ?_
                  rintro e w10 ⟨rfl, hb10⟩
                  have ST4 := hide ((ST2.out).next hb10)
                  have HS7 := hide ((HS6.out).below hb10 (HS6.out).lt)
                  clear ST2 HS6 hb10 y0 y1 y2 y3 y4 y5 y6
                  obtain ⟨y0, y1, y2, y3, y4, y5, y6⟩ := (HS7.out).cells
                  have yz := (HS7.out).z
                  generalize (a2 == 5) = q1 at *
                  cases q1
                  · have HSN2 : Hid (acc ++ [⟨a1, a2, a3, q, a5, a6, max a7 a6⟩] = gfL l u (j + 1)) := hide (by rw [← HSN.out]; rfl)
                    clear HSN CM2
                    have ST3 := ST4
                    clear ST4
                    go_wp2_with (first
                      | (go_at_call 36; refine ((CRA.out) a1 a2 a3 q a5 (a6) a7 _).mono ?_; rintro e w8 ⟨rfl, hb8⟩; have ST5 := hide ((ST3.out).next hb8); clear hb8)
                      | (at_builtin; refine wpList_append_own _ rfl _ _ 22 rfl w6.heap.size 32 i1 _ 7 56 Try.underlying22 hinf1 hw0 hw1 hw2 rfl (by decide) _ _ _ rfl ((ST5.out).alloc _).own ⟨w8.heap.size, 0, none⟩ 1 1 (szC ⟨a1, a2, a3, q, a5, a6, max a7 (a6)⟩).toList rfl rfl (cell_sev_new22 _ _ _ rfl _ _ _ _ _ _ _) (by simp [szC, Value.oneCell']) (by unfold maxLen; omega) (by (try simp); omega) (by (try simp); have := (ST5.out).bel.size; omega) ?_))
                    intro v' w9 hown' hgrow _
                    have ST7 := hide ((ST5.out).push (s := ⟨a1, a2, a3, q, a5, a6, max a7 (a6)⟩) hown' hgrow)
                    clear hown' hgrow ST3 ST5
                    go_wp2_with fail
                    go_roundw
                    case rel => exact ⟨j + 1, acc ++ [⟨a1, a2, a3, q, a5, a6, max a7 (a6)⟩], by omega, by go_num, hide (by rw [List.length_append, HAL.out]; rfl), HSN2, ST7⟩
                    case measure => simp [intOf]; omega
                  · have HSN3 : Hid (acc ++ [⟨a1, a2, a3, q, a5, max a6 (min (mdV u a3 1000).1 68719476736), max a7 (max a6 (min (mdV u a3 1000).1 68719476736))⟩] = gfL l u (j + 1)) := hide (by rw [← HSN.out]; rfl)
                    clear HSN
                    have HSN2 := HSN3
                    clear HSN3
                    generalize mdV u a3 1000 = mm at *
                    obtain ⟨m1, m2⟩ := mm
                    simp only at CM2 HSN2
                    go_upto_region 26 with (go_at_call 35; refine ((CM2.out) _).mono ?_; rintro e w11 ⟨rfl, hb11⟩; have ST11 := hide ((ST4.out).next hb11); have HS11 := hide ((HS7.out).below hb11 (HS7.out).lt); clear hb11)
                    clear ST4 HS7 y0 y1 y2 y3 y4 y5 y6 yz CM2
                    obtain ⟨y0, y1, y2, y3, y4, y5, y6⟩ := (HS11.out).cells
                    have yz := (HS11.out).z
                    have ST3 := hide ((ST11.out).put hX (HOWN.out) 5 (.int .i64 (max a6 (min m1 68719476736))))
                    have HS12 := hide ((HS11.out).base (max a6 (min m1 68719476736)))
                    go_upto_region 27 with fail
                    generalize World.setCell w11 _ _ = w12 at *
                    clear ST11 HS11 y0 y1 y2 y3 y4 y5 y6 yz
                    obtain ⟨y0, y1, y2, y3, y4, y5, y6⟩ := (HS12.out).cells
                    generalize max a6 (min m1 68719476736) = pt at *
                    go_wp2_with (first
                      | (go_at_call 36; refine ((CRA.out) a1 a2 a3 q a5 pt a7 _).mono ?_; rintro e w8 ⟨rfl, hb8⟩; have ST5 := hide ((ST3.out).next hb8); clear hb8)
                      | (at_builtin; refine wpList_append_own _ rfl _ _ 22 rfl w6.heap.size 32 i1 _ 7 56 Try.underlying22 hinf1 hw0 hw1 hw2 rfl (by decide) _ _ _ rfl ((ST5.out).alloc _).own ⟨w8.heap.size, 0, none⟩ 1 1 (szC ⟨a1, a2, a3, q, a5, pt, max a7 pt⟩).toList rfl rfl (cell_sev_new22 _ _ _ rfl _ _ _ _ _ _ _) (by simp [szC, Value.oneCell']) (by unfold maxLen; omega) (by (try simp); omega) (by (try simp); have := (ST5.out).bel.size; omega) ?_))
                    intro v' w9 hown' hgrow _
                    have ST7 := hide ((ST5.out).push (s := ⟨a1, a2, a3, q, a5, pt, max a7 pt⟩) hown' hgrow)
                    clear hown' hgrow ST3 ST5
                    go_wp2_with fail
                    go_roundw
                    case rel => exact ⟨j + 1, acc ++ [⟨a1, a2, a3, q, a5, pt, max a7 pt⟩], by omega, by go_num, hide (by rw [List.length_append, HAL.out]; rfl), HSN2, ST7⟩
                    case measure => simp [intOf]; omega
                · have hi2 : ¬ (j : Int) < (N : Int) := by omega
                  have hac := HAC.out
                  rw [show j = N by omega] at hac
                  have HV3 : Hid (R = acc) := hide (by rw [HV1.out, hac])
                  clear hac HAC HV1
                  go_wp2_with fail
                  go_ret
                  exact ⟨_, rfl, by rw [HV3.out]; exact szL_own (ST.out).own, (HB7.out).trans ((ST.out).bel.mono (HB7.out).size)⟩

end Go.Proofs.Ytaonlpjfbajlcaa

namespace Go.Proofs.Ytaonlpjfbajlcaa
open Go.RowKit

theorem uh_same {l : List SzD} {N : Nat} (hg : ∀ k, k < N → 0 ≤ (l.getD k noSz).base ∧ (l.getD k noSz).base ≤ 68719476736) : ∀ k, k ≤ N → gu26 l k = uhV l k
  | 0, _ => rfl
  | k + 1, hk => by
    have h1 := uh_same hg k (by omega)
    have h2 := hg k (by omega)
    have h3 := up_dv (a := (l.getD k noSz).base) (c := max (l.getD k noSz).fr 1000) h2.1 h2.2 (by omega)
    have h4 : flx l k = ((l.getD k noSz).mx == 5) := rfl
    simp only [gu26, uhV]
    rw [h1, h3, h4]

theorem dvU_ratio {x y c d : Int} (hc : 0 < c) (hd : 0 < d) (h : x * d ≤ y * c) : dvU x c ≤ dvU y d := by
  unfold dvU
  have h1 : y ≤ -((-y) / d) * d := by
    have := Int.ediv_mul_le (-y) (show d ≠ 0 by omega)
    rw [Int.neg_mul]
    omega
  have h2 : x * d ≤ -((-y) / d) * c * d := by
    have := Int.mul_le_mul_of_nonneg_right h1 (show 0 ≤ c by omega)
    rw [Int.mul_right_comm] at this
    omega
  have h3 : x ≤ -((-y) / d) * c := Int.le_of_mul_le_mul_right h2 hd
  have h4 : (-y) / d ≤ (-x) / c := by
    apply Int.le_ediv_of_mul_le hc
    rw [Int.neg_mul] at h3
    omega
  omega

theorem lf26_mono {l : List SzD} {B : Nat → Bool} {s s' : Int} {N : Nat} (h0 : 0 ≤ s) (h : s ≤ s') (hg : ∀ k, k < N → 0 ≤ (l.getD k noSz).base ∧ 0 ≤ (l.getD k noSz).fr) : lf26 l B s N ≤ lf26 l B s' N := by
  obtain ⟨a, -⟩ := lf26_sum (l := l) (st := B) h0 N (fun k hk => (hg k hk).1)
  obtain ⟨b, -⟩ := lf26_sum (l := l) (st := B) (show 0 ≤ s' by omega) N (fun k hk => (hg k hk).1)
  omega

theorem ratio_more {l : List SzD} {B : Nat → Bool} {s s' : Int} (h0 : 0 ≤ s) (h : s ≤ s') (hg : ∀ k, k < l.length → 0 ≤ (l.getD k noSz).base ∧ 0 ≤ (l.getD k noSz).fr) (hB : ∀ k, k < l.length → B k = true → unS l s k = true) :
    (xS l (unS l s) s l.length).left * rsP (xS l B s' l.length) ≤ (xS l B s' l.length).left * rsP (xS l (unS l s) s l.length) := by
  have h1 := ratio_end (A := B) (B := unS l s) h0 hg hB (fun j hj _ hb _ => (stF_self h0 hg (l.length + 1) j hj hb).2)
  have h2 := lf26_mono (B := B) h0 h hg
  have h3 : rsP (xS l B s l.length) = rsP (xS l B s' l.length) := rfl
  have h4 : (xS l B s l.length).left ≤ (xS l B s' l.length).left := h2
  have h5 : 0 ≤ rsP (xS l (unS l s) s l.length) := by unfold rsP; omega
  have h6 := Int.mul_le_mul_of_nonneg_right h4 h5
  rw [h3] at h1
  omega

/-- With more space fewer are stiff. -/
theorem stF_fewer {l : List SzD} {s s' : Int} (h0 : 0 ≤ s) (h : s ≤ s') (hg : ∀ k, k < l.length → 0 ≤ (l.getD k noSz).base ∧ 0 ≤ (l.getD k noSz).fr) : ∀ t k, k < l.length → stF l s' l.length t k = true → unS l s k = true
  | 0, k, _, hh => by exact absurd hh (by simp [stF])
  | t + 1, k, hk, hh => by
    rw [stF_succ, Bool.or_eq_true, Bool.and_eq_true] at hh
    rcases hh with hh | ⟨hf, hs⟩
    · exact stF_fewer h0 h hg t k hk hh
    · exact unS_closed k hk hf (stf_ratio (ratio_more h0 h hg (fun j hj hb => stF_fewer h0 h hg t j hj hb)) (hg k hk).2 hs)

theorem is26_fewer {l : List SzD} {A B : Nat → Bool} (N : Nat) (h : ∀ k, k < N → B k = true → A k = true) (ha : is26 l A N = true) : is26 l B N = true := by
  rw [is26_cnt, decide_eq_true_eq] at ha ⊢
  have := (cnt_more (A := fun k => flx l k && !A k) (B := fun k => flx l k && !B k) N (fun k hk hh => by
    simp only [Bool.and_eq_true, Bool.not_eq_true'] at hh ⊢
    refine ⟨hh.1, ?_⟩
    cases hb : B k
    · rfl
    · rw [h k hk hb] at hh; exact absurd hh.2 (by decide))).1
  omega

theorem unV_mono {l : List SzD} {s s' : Int} (h : s ≤ s') (hr : rgF l s' = true) : unV l s ≤ unV l s' := by
  obtain ⟨f1, f2, f3, -⟩ := rgF_facts hr
  have hg : ∀ k, k < l.length → 0 ≤ (l.getD k noSz).base ∧ 0 ≤ (l.getD k noSz).fr := fun k hk => ⟨(f2 k hk).1, (f3 k hk).1⟩
  have up : ∀ (S : Nat → Bool) (z : Int), 0 ≤ z → z ≤ 68719476736 → upV (lf26 l S z l.length) 1000 (max (sm26 l S l.length) 1000) = dvU (lf26 l S z l.length * 1000) (max (sm26 l S l.length) 1000) ∧ 0 ≤ upV (lf26 l S z l.length) 1000 (max (sm26 l S l.length) 1000) := fun S z h0 h1 => by
    obtain ⟨a, b⟩ := lf26_sum (l := l) (st := S) h0 l.length (fun k hk => (hg k hk).1)
    exact ⟨up_dv (by omega) (by omega) (by omega), (upV_bd (by omega) (by omega) (by omega)).1⟩
  have n0 : 0 ≤ unV l s' := by
    unfold unV
    split
    · exact (up _ _ f1.1 f1.2).2
    · exact Int.le_refl _
  by_cases hc : rgF l s = true ∧ is26 l (unS l s) l.length = true
  · obtain ⟨g1, -, -, -⟩ := rgF_facts hc.1
    have hB : ∀ k, k < l.length → unS l s' k = true → unS l s k = true := fun k hk hh => stF_fewer g1.1 h hg (l.length + 1) k hk hh
    have hi := is26_fewer l.length hB hc.2
    have e := ratio_more g1.1 h hg hB
    unfold unV
    rw [if_pos hc, if_pos ⟨hr, hi⟩, (up _ _ g1.1 g1.2).1, (up _ _ f1.1 f1.2).1]
    refine dvU_ratio (by omega) (by omega) ?_
    have e' : lf26 l (unS l s) s l.length * max (sm26 l (unS l s') l.length) 1000 ≤ lf26 l (unS l s') s' l.length * max (sm26 l (unS l s) l.length) 1000 := e
    rw [Int.mul_right_comm, Int.mul_right_comm (lf26 l (unS l s') s' l.length)]
    omega
  · have : unV l s = 0 := by unfold unV; rw [if_neg hc]
    omega

end Go.Proofs.Ytaonlpjfbajlcaa

namespace Go.Proofs.Ytaonlpjfbajlcaa
open Go.RowKit

theorem msV_le (l : List WnD) (a b : Int) : 0 ≤ msV l a b ∧ (∀ x ∈ l, x.a = a → x.b = b → x.x ≤ msV l a b) ∧ (msV l a b = 0 ∨ ∃ x ∈ l, x.a = a ∧ x.b = b ∧ x.x = msV l a b) := by
  have key : ∀ n (l : List WnD), l.length = n → 0 ≤ msV l a b ∧ (∀ x ∈ l, x.a = a → x.b = b → x.x ≤ msV l a b) ∧ (msV l a b = 0 ∨ ∃ x ∈ l, x.a = a ∧ x.b = b ∧ x.x = msV l a b) := by
    intro n
    induction n with
    | zero =>
      intro l hl
      have : l = [] := List.eq_nil_of_length_eq_zero hl
      subst this
      exact ⟨Int.le_refl _, fun x hx => (by cases hx), .inl rfl⟩
    | succ n ih =>
      intro l hl
      rcases List.eq_nil_or_concat l with rfl | ⟨m, y, rfl⟩
      · cases hl
      · rw [List.concat_eq_append] at hl ⊢
        obtain ⟨i1, i2, i3⟩ := ih m (by simpa using hl)
        rw [msV_snoc]
        by_cases e : y.a = a ∧ y.b = b
        · rw [if_pos e]
          refine ⟨by omega, fun x hx ha hb => ?_, ?_⟩
          · rcases List.mem_append.1 hx with hx | hx
            · have := i2 x hx ha hb; omega
            · rw [List.mem_singleton] at hx
              subst hx
              omega
          · by_cases hm : msV m a b ≤ y.x
            · exact .inr ⟨y, by simp, e.1, e.2, by omega⟩
            · rcases i3 with i3 | ⟨x, hx, h1, h2, h3⟩
              · exact .inl (by omega)
              · exact .inr ⟨x, by simp [hx], h1, h2, by omega⟩
        · rw [if_neg e]
          refine ⟨i1, fun x hx ha hb => ?_, ?_⟩
          · rcases List.mem_append.1 hx with hx | hx
            · exact i2 x hx ha hb
            · rw [List.mem_singleton] at hx
              subst hx
              exact (e ⟨ha, hb⟩).elim
          · rcases i3 with i3 | ⟨x, hx, h1, h2, h3⟩
            · exact .inl i3
            · exact .inr ⟨x, by simp [hx], h1, h2, h3⟩
  exact key _ l rfl

theorem spG_mono (f : Nat → Int) {n n' : Int} (h : n ≤ n') (a : Nat) : ∀ d, spG f n a d ≤ spG f n' a d
  | 0 => h
  | d + 1 => by
    have := spG_mono f h a d
    simp only [spG]
    omega

/-- What a span that gets so much comes to. -/
def wuV (l : List SzD) (f : Nat → Int) (a b n : Int) : Int := unV (subL l ⟨a, b, 0, 0, 0⟩) (spG f n a.toNat (b - a - 1).toNat)

/-- The greatest over what the map holds, whatever the order. -/
structure MxR (g : Int → Int → Int → Int) (ws : List WnD) (r : Int) : Prop where
  pos : 0 ≤ r
  all : ∀ x ∈ ws, g x.a x.b (msV ws x.a x.b) ≤ r
  one : r = 0 ∨ ∃ x ∈ ws, r = g x.a x.b (msV ws x.a x.b)

theorem gw26_up (l : List SzD) (f : Nat → Int) (ws : List WnD) : ∀ k, gu26 l l.length ≤ gw26 l f ws k ∧ ∀ j, j < k → wuV l f (ws.getD j noWn).a (ws.getD j noWn).b (ws.getD j noWn).x ≤ gw26 l f ws k
  | 0 => ⟨Int.le_refl _, fun j hj => absurd hj (Nat.not_lt_zero _)⟩
  | k + 1 => by
    obtain ⟨h1, h2⟩ := gw26_up l f ws k
    simp only [gw26]
    refine ⟨by omega, fun j hj => ?_⟩
    rcases Nat.lt_succ_iff_lt_or_eq.1 hj with hj | rfl
    · have := h2 j hj; omega
    · exact Int.le_max_right _ _

theorem gw26_least (l : List SzD) (f : Nat → Int) (ws : List WnD) (r : Int) (h0 : gu26 l l.length ≤ r) : ∀ k, (∀ j, j < k → wuV l f (ws.getD j noWn).a (ws.getD j noWn).b (ws.getD j noWn).x ≤ r) → gw26 l f ws k ≤ r
  | 0, _ => h0
  | k + 1, h => by
    have h1 := gw26_least l f ws r h0 k (fun j hj => h j (by omega))
    have h2 := h k (by omega)
    simp only [gw26]
    exact Int.max_le.2 ⟨h1, h2⟩

theorem gw26_map {l : List SzD} {f : Nat → Int} {ws : List WnD} {r : Int} (hu : 0 ≤ gu26 l l.length) (hx : ∀ x ∈ ws, 0 ≤ x.x ∧ x.x ≤ 68719476736)
    (hr : ∀ x ∈ ws, ∀ n, 0 ≤ n → n ≤ 68719476736 → rgF (subL l ⟨x.a, x.b, 0, 0, 0⟩) (spG f n x.a.toNat (x.b - x.a - 1).toNat) = true) (h : MxR (wuV l f) ws r) : gw26 l f ws ws.length = max (gu26 l l.length) r := by
  obtain ⟨u1, u2⟩ := gw26_up l f ws ws.length
  have hat : ∀ x ∈ ws, ∃ j, j < ws.length ∧ ws.getD j noWn = x := fun x hx => by
    obtain ⟨j, hj, e⟩ := List.getElem_of_mem hx
    exact ⟨j, hj, by rw [List.getD_eq_getElem?_getD, List.getElem?_eq_getElem hj]; exact e⟩
  have hbd : ∀ a b, msV ws a b ≤ 68719476736 := fun a b => by
    rcases (msV_le ws a b).2.2 with e | ⟨x, hx', -, -, e⟩
    · omega
    · have := (hx x hx').2; omega
  have hle : gw26 l f ws ws.length ≤ max (gu26 l l.length) r := by
    refine gw26_least l f ws _ (Int.le_max_left _ _) _ (fun j hj => ?_)
    have hm : ws.getD j noWn ∈ ws := by
      rw [List.getD_eq_getElem?_getD, List.getElem?_eq_getElem hj]
      exact List.getElem_mem hj
    generalize ws.getD j noWn = x at *
    obtain ⟨m0, m1, -⟩ := msV_le ws x.a x.b
    have h1 : wuV l f x.a x.b x.x ≤ wuV l f x.a x.b (msV ws x.a x.b) := unV_mono (spG_mono f (m1 x hm rfl rfl) _ _) (hr x hm _ m0 (hbd _ _))
    have h2 := h.all x hm
    omega
  have hge : r ≤ gw26 l f ws ws.length := by
    rcases h.one with e | ⟨x, hm, e⟩
    · omega
    · rcases (msV_le ws x.a x.b).2.2 with z | ⟨y, hy, ya, yb, yx⟩
      · obtain ⟨j, hj, ej⟩ := hat x hm
        have h1 := u2 j hj
        rw [ej] at h1
        have h2 : wuV l f x.a x.b (msV ws x.a x.b) ≤ wuV l f x.a x.b x.x := unV_mono (spG_mono f (by have := (hx x hm).1; omega) _ _) (hr x hm _ (hx x hm).1 (hx x hm).2)
        omega
      · obtain ⟨j, hj, ej⟩ := hat y hy
        have h1 := u2 j hj
        rw [ej, ya, yb, yx] at h1
        omega
  omega

end Go.Proofs.Ytaonlpjfbajlcaa

namespace Go.Proofs.Ytaonlpjfbajlcaa
open Go.RowKit

set_option maxRecDepth 100000 in
theorem spk_int {d : Nat} {cs : List Value} {L : List Lit} (h : Try.prog.keyLits (d + 1) 3 cs = some L) : ∃ n, cs = [.int .i64 n] ∧ I64 n ∧ L = [.int .i64 n] := by
  unfold Program.keyLits at h
  rw [Try.underlying3 ] at h
  split at h
  case h_2 q n q' m e1 =>
    simp only [Option.some.injEq, TypeDesc.int.injEq] at e1
    subst e1
    split at h
    · rename_i hh
      obtain ⟨rfl, hw⟩ := hh
      cases h
      exact ⟨_, rfl, hw, rfl⟩
    · cases h
  all_goals first | (cases h; done) | (simp at *; done)

set_option maxRecDepth 100000 in
theorem spk_inv {key : Value} {kl : Lit} (h : keyOf Try.prog 47 key = some kl) : ∃ x : Int × Int, key = spkV x.1 x.2 ∧ I64 x.1 ∧ I64 x.2 ∧ kl = spkL x.1 x.2 := by
  have hc : Try.prog.cellsOf 47 = 2 := by kernel_rfl
  have hi : Try.prog.cellsOf 3 = 1 := by kernel_rfl
  obtain ⟨d, hs⟩ : ∃ d, Try.prog.types.size + 1 = d + 2 := ⟨Try.prog.types.size - 1, by
    have : 0 < Try.prog.types.size := of_decide_eq_true (by kernel_rfl)
    omega⟩
  obtain ⟨xs, L, rfl, hl, rfl⟩ := keyOf_top spk_wide h
  rw [hs] at hl
  obtain ⟨ys⟩ := xs
  simp only at hl
  unfold Program.keyLits at hl
  rw [Try.underlying47 ] at hl
  simp only [hc] at hl
  split at hl
  rotate_left
  · cases hl
  rename_i hh
  obtain ⟨h2, -⟩ := hh
  obtain ⟨y0, y1, rfl⟩ : ∃ y0 y1, ys = [y0, y1] := by
    rcases ys with _ | ⟨y0, _ | ⟨y1, _ | ⟨y2, ys⟩⟩⟩ <;> simp at h2
    exact ⟨_, _, rfl⟩
  simp [hi] at hl
  cases e1 : Try.prog.keyLits (d + 1) 3 [y0] with
  | none => rw [e1] at hl; simp at hl
  | some L1 =>
    cases e2 : Try.prog.keyLits (d + 1) 3 [y1] with
    | none => rw [e1, e2] at hl; simp at hl
    | some L2 =>
      rw [e1, e2] at hl
      obtain ⟨n1, r1, w1, rfl⟩ := spk_int e1
      obtain ⟨n2, r2, w2, rfl⟩ := spk_int e2
      simp at r1 r2 hl
      subst r1 r2 hl
      exact ⟨(n1, n2), rfl, w1, w2, rfl⟩

end Go.Proofs.Ytaonlpjfbajlcaa

namespace Go.Proofs.Ytaonlpjfbajlcaa
open Go.RowKit

/-- The state of unitWanted's first loop. -/
structure UwS (w W : World) (u : Value) (ws : List WnD) (k : Nat) (D : DataW Unit) : Prop where
  own : W.ownsMap Try.prog 47 (plainElem (H := Unit) Try.prog 3) w.heap.size k D
  ms : MsI D (ws.take k)
  bel : Below w.heap.size w W

theorem own_below {W W' : World} {P : Program} {k : TypeId} {R : Value → Option (DataW Unit × List MemPlace)} {b n : Nat} {D : DataW Unit} (h : W.ownsMap P k R b n D) (hb : Below W.heap.size W W') : W'.ownsMap P k R b n D := by
  have hlt := h.lt
  obtain ⟨es, clock, h1, F, hs, rfl⟩ := h
  exact ⟨es, clock, (hb.block b hlt).trans h1, F, hs, rfl⟩

theorem rgs_below {W W' : World} {P : Program} {k : TypeId} {R : Value → Option (DataW Unit × List MemPlace)} {b r n : Nat} {D : DataW Unit} {left : Lit → Bool} {cnt : Nat} (h : W.ranges P k R b r n D left cnt) (hb : Below W.heap.size W W') : W'.ranges P k R b r n D left cnt := by
  have h1 := h.owns.lt
  have h2 := h.lt
  obtain ⟨es, clock, since, seen, c0, e1, e2, e3, e4, e5, e6⟩ := h
  exact ⟨es, clock, since, seen, c0, (hb.block b h1).trans e1, e2, e3, e4, (hb.block r h2).trans e5, e6⟩

/-- The state of unitWanted's second loop: w4 is the world ahead of the range, whose iterator is block R. -/
structure UrS (w w4 W : World) (R n : Nat) (D : DataW Unit) (left : Lit → Bool) (cnt : Nat) : Prop where
  rg : W.ranges Try.prog 47 (plainElem (H := Unit) Try.prog 3) w.heap.size R n D left cnt
  bel : Below R w4 W

theorem UrS.alloc {w w4 W : World} {R n : Nat} {D : DataW Unit} {left : Lit → Bool} {cnt : Nat} (h : UrS w w4 W R n D left cnt) (o : Obj) : UrS w w4 (W.alloc o) R n D left cnt :=
  ⟨h.rg.alloc o, h.bel.alloc (Nat.le_of_lt h.rg.lt) o⟩

theorem UrS.next {w w4 W W' : World} {R n : Nat} {D : DataW Unit} {left : Lit → Bool} {cnt : Nat} (h : UrS w w4 W R n D left cnt) (hb : Below W.heap.size W W') : UrS w w4 W' R n D left cnt :=
  ⟨rgs_below h.rg hb, h.bel.trans (hb.mono (Nat.le_of_lt h.rg.lt))⟩

/-- What a span that gets so much comes to, the program's way. -/
def gP (l : List SzD) (f : Nat → Int) (os : List Nat) (a b n : Int) : Int := unV26 (rstV l a.toNat b.toNat (lsV n (fun i => f (a.toNat + 1 + i)) (b.toNat - a.toNat - 1)) os)

/-- The greatest over those that have come. -/
structure MxP (g : Int → Int → Int → Int) (ws : List WnD) (left : Lit → Bool) (r : Int) : Prop where
  pos : 0 ≤ r
  all : ∀ x ∈ ws, left (spkL x.a x.b) = false → g x.a x.b (msV ws x.a x.b) ≤ r
  one : r = 0 ∨ ∃ x ∈ ws, r = g x.a x.b (msV ws x.a x.b)

theorem MxP.start {g : Int → Int → Int → Int} {ws : List WnD} {D : DataW Unit} (h : MsI D ws) : MxP g ws (Go.Maps.has D) 0 where
  pos := Int.le_refl _
  all x hx e := by
    rw [(h.has _).2 ⟨x, hx, rfl⟩] at e
    cases e
  one := .inl rfl

theorem MxP.more {g : Int → Int → Int → Int} {ws : List WnD} {left : Lit → Bool} {r : Int} (h : MxP g ws left r) (ha : ∀ x ∈ ws, I64 x.a ∧ I64 x.b) {z : WnD} (hz : z ∈ ws) :
    MxP g ws (fun y => left y && !y.sameKey (spkL z.a z.b)) (max r (g z.a z.b (msV ws z.a z.b))) where
  pos := by have := h.pos; omega
  all x hx e := by
    by_cases hk : spkL x.a x.b = spkL z.a z.b
    · obtain ⟨e1, e2⟩ := spk_inj (ha x hx).1 (ha x hx).2 (ha z hz).1 (ha z hz).2 hk
      rw [e1, e2]
      omega
    · have := h.all x hx (by
        cases hl : left (spkL x.a x.b)
        · rfl
        · rw [hl, Bool.true_and] at e
          simp only [Bool.not_eq_false'] at e
          exact absurd (WideAt.sameKey_eq e) hk)
      omega
  one := by
    by_cases hc : r ≤ g z.a z.b (msV ws z.a z.b)
    · exact .inr ⟨z, hz, Int.max_eq_right hc⟩
    · rw [Int.max_eq_left (by omega)]
      exact h.one

end Go.Proofs.Ytaonlpjfbajlcaa

namespace Go.Proofs.Ytaonlpjfbajlcaa
open Go.RowKit

theorem rgF_of {l : List SzD} {space : Int} (h0 : 0 ≤ space) (h1 : space ≤ 68719476736) (hs : ∀ k, k < l.length → goodS (l.getD k noSz) = true ∧ (l.getD k noSz).base ≤ 68719476736) : rgF l space = true := by
  have ht : ∀ N, N ≤ l.length → rt26 l N = true := by
    intro N
    induction N with
    | zero => intro _; rfl
    | succ n ih =>
      intro hn
      have g := hs n (by omega)
      have b := (good_base g.1).1
      simp only [rt26]
      rw [ih (by omega), g.1, Bool.true_and, Bool.true_and]
      unfold isLen
      simp only [decide_eq_true_eq]
      omega
  unfold rgF
  rw [ht _ (Nat.le_refl _), Bool.true_and]
  unfold isSz isLen
  simp only [Bool.and_eq_true, decide_eq_true_eq]
  omega

theorem spG_ls (f : Nat → Int) (n : Int) (a : Nat) : ∀ d, lsV n (fun i => f (a + 1 + i)) d = spG f n a d
  | 0 => rfl
  | d + 1 => by
    simp only [lsV, spG]
    rw [spG_ls f n a d, Int.max_comm]

/-- The places of a part, counted from its beginning. -/
def shL (A D : Nat) (os : List Nat) : List Nat := (os.filter (fun i => decide (A ≤ i ∧ i < A + D))).map (fun i => i - A)

theorem shL_in {A D i : Nat} {os : List Nat} (h : A ≤ i ∧ i < A + D) : shL A D (i :: os) = (i - A) :: shL A D os := by
  unfold shL
  rw [List.filter_cons_of_pos (by simpa using h)]
  rfl

theorem shL_out {A D i : Nat} {os : List Nat} (h : ¬ (A ≤ i ∧ i < A + D)) : shL A D (i :: os) = shL A D os := by
  unfold shL
  rw [List.filter_cons_of_neg (by simpa using h)]

theorem shL_app (A D : Nat) (os os' : List Nat) : shL A D (os ++ os') = shL A D os ++ shL A D os' := by
  unfold shL
  rw [List.filter_append, List.map_append]

theorem shL_perm {A D : Nat} {os os' : List Nat} (h : os.Perm os') : (shL A D os).Perm (shL A D os') := (h.filter _).map _

theorem grd_sub {l l' : List SzD} {A D : Nat} (hl : ∀ i, i < D → l'.getD i noSz = l.getD (A + i) noSz) : ∀ (os : List Nat) (x : RsD), grd l A (A + D) os x = grd l' 0 D (shL A D os) x
  | [], _ => rfl
  | i :: r, x => by
    by_cases h : A ≤ i ∧ i < A + D
    · have e : l'.getD (i - A) noSz = l.getD i noSz := by rw [hl _ (by omega)]; congr 1; omega
      rw [shL_in h]
      simp only [grd]
      have n1 : ¬ (i < A ∨ A + D ≤ i) := by omega
      have n2 : ¬ (i - A < 0 ∨ D ≤ i - A) := by omega
      rw [if_neg n1, if_neg n2, e]
      split
      · exact grd_sub hl r _
      · rfl
    · rw [shL_out h]
      simp only [grd]
      have n1 : i < A ∨ A + D ≤ i := by omega
      rw [if_pos n1]
      exact grd_sub hl r x

theorem rsA_sub {l l' : List SzD} {A D : Nat} (hl : ∀ i, i < D → l'.getD i noSz = l.getD (A + i) noSz) (space : Int) : ∀ d, d ≤ D → rsA l A space d = rsA l' 0 space d
  | 0, _ => rfl
  | d + 1, hd => by
    simp only [rsA]
    rw [rsA_sub hl space d (by omega), Nat.zero_add, hl d (by omega)]

theorem rstV_sub {l l' : List SzD} {A D : Nat} (hl : ∀ i, i < D → l'.getD i noSz = l.getD (A + i) noSz) (space : Int) (os : List Nat) : rstV l A (A + D) space os = rstV l' 0 D space (shL A D os) := by
  unfold rstV
  rw [grd_sub hl, show A + D - A = D by omega, Nat.sub_zero, rsA_sub hl space D (Nat.le_refl _)]

theorem orL_sub {l l' : List SzD} {A D : Nat} (hl : ∀ i, i < D → l'.getD i noSz = l.getD (A + i) noSz) : ∀ k, shL A D (orL l k) = orL l' (min D (k - A))
  | 0 => by rw [Nat.zero_sub, Nat.min_zero]; rfl
  | k + 1 => by
    rw [orL_succ, shL_app, orL_sub hl k]
    by_cases h : A ≤ k ∧ k < A + D
    · have e : isOr l' (k - A) = isOr l k := by
        unfold isOr
        rw [hl _ (by omega), show A + (k - A) = k by omega]
      rw [show min D (k + 1 - A) = min D (k - A) + 1 by omega, orL_succ, show min D (k - A) = k - A by omega, e]
      congr 1
      cases isOr l k
      · rfl
      · exact shL_in h
    · have e : shL A D (if isOr l k then [k] else []) = [] := by
        cases isOr l k
        · rfl
        · exact shL_out h
      rw [e, List.append_nil, show min D (k + 1 - A) = min D (k - A) by omega]

/-- The order of a part's. -/
def subI {l l' : List SzD} {A D : Nat} (hD : D = l'.length) (hl : ∀ i, i < D → l'.getD i noSz = l.getD (A + i) noSz) (y : ordI l) : Option (ordI l') :=
  if h : A ≤ y.val ∧ y.val < A + D then some ⟨y.val - A, by
    have e : l'.getD (y.val - A) noSz = l.getD y.val noSz := by rw [hl _ (by omega)]; congr 1; omega
    rw [e]
    exact ⟨by omega, y.property.2⟩⟩ else none

theorem subI_some {l l' : List SzD} {A D : Nat} (hD : D = l'.length) (hl : ∀ i, i < D → l'.getD i noSz = l.getD (A + i) noSz) {y : ordI l} (h : A ≤ y.val ∧ y.val < A + D) : ∃ z : ordI l', subI hD hl y = some z ∧ z.val = y.val - A := by
  unfold subI
  rw [dif_pos h]
  exact ⟨_, rfl, rfl⟩

theorem subI_val {l l' : List SzD} {A D : Nat} (hD : D = l'.length) (hl : ∀ i, i < D → l'.getD i noSz = l.getD (A + i) noSz) : ∀ ds : List (ordI l), (ds.filterMap (subI hD hl)).map (fun x => x.val) = shL A D (ds.map (fun x => x.val))
  | [] => rfl
  | y :: ds => by
    by_cases h : A ≤ y.val ∧ y.val < A + D
    · obtain ⟨z, e, hz⟩ := subI_some hD hl h
      rw [List.filterMap_cons_some e]
      simp only [List.map_cons]
      rw [shL_in h, subI_val hD hl ds, hz]
    · have e : subI hD hl y = none := by unfold subI; rw [dif_neg h]
      rw [List.filterMap_cons_none e]
      simp only [List.map_cons]
      rw [shL_out h, subI_val hD hl ds]

theorem subI_lt {l l' : List SzD} {A D : Nat} (hD : D = l'.length) (hl : ∀ i, i < D → l'.getD i noSz = l.getD (A + i) noSz) {y z : ordI l} {y' z' : ordI l'} (h1 : subI hD hl y = some y') (h2 : subI hD hl z = some z') : ltOf (cfI l') z' y' = ltOf (cfI l) z y := by
  have key : ∀ {y : ordI l} {y' : ordI l'}, subI hD hl y = some y' → l'.getD y'.val noSz = l.getD y.val noSz := by
    intro y y' h
    unfold subI at h
    split at h
    · rename_i hh
      injection h with h
      subst h
      show l'.getD (y.val - A) noSz = _
      rw [hl _ (by omega)]; congr 1; omega
    · exact absurd h (by simp)
  rw [ltI, ltI, key h1, key h2]

/-- One fr of a part, the program's way, is the document's. -/
theorem gP_same {l : List SzD} {f : Nat → Int} {ds : List (ordI l)} (hs : ∀ k, k < l.length → goodS (l.getD k noSz) = true ∧ (l.getD k noSz).base ≤ 68719476736) (hf : ∀ k, k < l.length → 0 ≤ f k)
    (hp : ds.Pairwise (fun x y => ltOf (cfI l) y x = false)) (hm : (ds.map (fun x => x.val)).Perm (orL l l.length)) {a b n : Int} (h0 : 0 ≤ a) (h1 : a < b) (h2 : b ≤ (l.length : Int)) (n0 : 0 ≤ n) (n1 : n ≤ 68719476736) :
    rgF (subL l ⟨a, b, 0, 0, 0⟩) (spG f n a.toNat (b - a - 1).toNat) = true ∧ gP l f (ds.map (fun x => x.val)) a b n = wuV l f a b n := by
  have hD : (b - a).toNat = (subL l ⟨a, b, 0, 0, 0⟩).length := (subL_len (x := ⟨a, b, 0, 0, 0⟩) h0 h1 h2).symm
  have hl : ∀ i, i < (b - a).toNat → (subL l ⟨a, b, 0, 0, 0⟩).getD i noSz = l.getD (a.toNat + i) noSz := fun i hi => subL_get (x := ⟨a, b, 0, 0, 0⟩) hi
  obtain ⟨s0, s1⟩ := spG_bd (f := f) (s := n) (a := a.toNat) (N := l.length) n0 hf (b - a - 1).toNat (by omega)
  have hr : rgF (subL l ⟨a, b, 0, 0, 0⟩) (spG f n a.toNat (b - a - 1).toNat) = true := rgF_of s0 (by omega) (fun k hk => by
    have hk2 : k < (b - a).toNat := by rw [hD]; exact hk
    rw [hl k hk2]
    exact hs _ (by omega))
  refine ⟨hr, ?_⟩
  unfold gP wuV
  have hAD : a.toNat + (b - a).toNat ≤ l.length := by omega
  rw [spG_ls, show b.toNat - a.toNat - 1 = (b - a - 1).toNat by omega, show b.toNat = a.toNat + (b - a).toNat by omega]
  generalize subL l ⟨a, b, 0, 0, 0⟩ = l' at *
  generalize spG f n a.toNat (b - a - 1).toNat = sp at *
  generalize a.toNat = A at *
  generalize (b - a).toNat = D at *
  subst hD
  rw [rstV_sub hl, ← subI_val rfl hl ds]
  have hu := unit_same (l := l') (space := sp) (ds := ds.filterMap (subI rfl hl)) (rgF_good0 hr)
    (hp.filterMap _ (fun y z hyz y' h1 z' h2 => by rw [subI_lt rfl hl h1 h2]; exact hyz))
    (by
      rw [subI_val rfl hl ds]
      refine (shL_perm hm).trans ?_
      rw [orL_sub hl, show min l'.length (l.length - A) = l'.length by omega])
  exact hu

end Go.Proofs.Ytaonlpjfbajlcaa

namespace Go.Proofs.Ytaonlpjfbajlcaa
open Go.RowKit

theorem rgF_good2 {l : List SzD} {M : Nat} {f : Nat → Int} {ws : List WnD} : (rgF l 0 = true ∧ good24 l M f ws 0 = true) ↔ good26 l M f ws 0 = true := by
  constructor
  · rintro ⟨h1, h2⟩
    unfold rgF at h1
    rw [Bool.and_eq_true] at h1
    unfold good26
    rw [h2, h1.2, Bool.true_and, Bool.true_and, List.all_eq_true]
    intro s hs
    obtain ⟨k, hk, rfl⟩ := List.mem_iff_getElem.1 hs
    have e : l[k] = l.getD k noSz := by rw [List.getD_eq_getElem?_getD, List.getElem?_eq_getElem hk]; rfl
    obtain ⟨g1, g2⟩ := rt26_at h1.1 k hk
    rw [e]
    unfold isSz
    rw [g2, decide_eq_true (good_base g1).1]
    rfl
  · intro h
    have h' := h
    unfold good26 at h
    rw [Bool.and_eq_true, Bool.and_eq_true] at h
    obtain ⟨-, hgs, -, -⟩ := good26_parts h'
    exact ⟨rgF_of (by omega) (by omega) (fun k hk => ⟨(hgs k hk).1, (hgs k hk).2.2⟩), h.1⟩

theorem good26_wants {l : List SzD} {M : Nat} {f : Nat → Int} {ws : List WnD} {size : Int} (h : good26 l M f ws size = true) : ∀ x ∈ ws, 0 ≤ x.a ∧ x.a < x.b ∧ x.b ≤ (l.length : Int) ∧ 0 ≤ x.x ∧ x.x ≤ 68719476736 := by
  unfold good26 at h
  rw [Bool.and_eq_true] at h
  have hh4 := h.1
  unfold good24 hd24 at hh4
  simp only [Bool.and_eq_true, decide_eq_true_eq] at hh4
  intro x hx
  obtain ⟨j, hj, e⟩ := List.getElem_of_mem hx
  have e2 : ws.getD j noWn = x := by rw [List.getD_eq_getElem?_getD, List.getElem?_eq_getElem hj]; exact e
  have := goodW_bd (wg24_at hh4.2.2 j hj)
  rwa [e2] at this

/-- One of the tracks while they grow. -/
def gwG (l : List SzD) (u : Int) (j i : Nat) : SzD := if i < j ∧ flx l i = true then grnV (l.getD i noSz) (min (mdV u (l.getD i noSz).fr 1000).1 68719476736) else l.getD i noSz

theorem gwG_zero (l : List SzD) (u : Int) (i : Nat) : gwG l u 0 i = l.getD i noSz := by
  unfold gwG
  rw [if_neg (fun h => Nat.not_lt_zero _ h.1)]

theorem gwG_at (l : List SzD) (u : Int) (j : Nat) : gwG l u j j = l.getD j noSz := by
  unfold gwG
  rw [if_neg (fun h => Nat.lt_irrefl _ h.1)]

theorem gwG_yes {l : List SzD} {u : Int} {j : Nat} (h : flx l j = true) (i : Nat) : (if i = j then grnV (l.getD j noSz) (min (mdV u (l.getD j noSz).fr 1000).1 68719476736) else gwG l u j i) = gwG l u (j + 1) i := by
  unfold gwG
  by_cases e : i = j
  · subst e
    rw [if_pos rfl, if_pos ⟨Nat.lt_succ_self _, h⟩]
  · rw [if_neg e]
    by_cases hc : i < j ∧ flx l i = true
    · rw [if_pos hc, if_pos ⟨by omega, hc.2⟩]
    · rw [if_neg hc, if_neg (fun hh => hc ⟨by omega, hh.2⟩)]

theorem gwG_no {l : List SzD} {u : Int} {j : Nat} (h : flx l j = false) (i : Nat) : gwG l u j i = gwG l u (j + 1) i := by
  unfold gwG
  by_cases hc : i < j ∧ flx l i = true
  · rw [if_pos hc, if_pos ⟨by omega, hc.2⟩]
  · rw [if_neg hc, if_neg (fun hh => hc ⟨by
      rcases Nat.lt_succ_iff_lt_or_eq.1 hh.1 with e | e
      · exact e
      · subst e; rw [h] at hh; exact absurd hh.2 (by decide), hh.2⟩)]

theorem gfL_map (l : List SzD) (u : Int) : ∀ k, gfL l u k = (List.range k).map (gfV l u)
  | 0 => rfl
  | k + 1 => by
    simp only [gfL]
    rw [gfL_map l u k, List.range_succ, List.map_append]
    rfl

theorem grow_list {l : List SzD} (u : Int) (hs : ∀ k, k < l.length → goodS (l.getD k noSz) = true) : (List.range l.length).map (gwG l u l.length) = gfL l u l.length := by
  rw [gfL_map]
  apply List.map_congr_left
  intro i hi
  have hi2 := List.mem_range.1 hi
  unfold gwG gfV
  cases hf : flx l i
  · rw [if_neg (fun h => absurd h.2 (by decide))]
    exact (raise_good26 (hs i hi2)).symm
  · rw [if_pos ⟨hi2, rfl⟩, if_pos rfl]
    rfl

theorem MxR.congr {g g' : Int → Int → Int → Int} {ws : List WnD} {r : Int} (h : MxR g ws r) (e : ∀ x ∈ ws, g x.a x.b (msV ws x.a x.b) = g' x.a x.b (msV ws x.a x.b)) : MxR g' ws r where
  pos := h.pos
  all x hx := by rw [← e x hx]; exact h.all x hx
  one := h.one.imp id (fun ⟨x, hx, hh⟩ => ⟨x, hx, by rw [← e x hx]; exact hh⟩)

theorem grow_unit {l : List SzD} {M : Nat} {f : Nat → Int} {ws : List WnD} {r : Int} {ds : List (ordI l)} (h : good26 l M f ws 0 = true) (hp : ds.Pairwise (fun x y => ltOf (cfI l) y x = false)) (hm : (ds.map (fun x => x.val)).Perm (orL l l.length))
    (hr : MxR (gP l f (ds.map (fun x => x.val))) ws r) : gw26 l f ws ws.length = max (uhV l l.length) r := by
  obtain ⟨-, hgs, -, -⟩ := good26_parts h
  have hw := good26_wants h
  have hb : ∀ k, k < l.length → 0 ≤ (l.getD k noSz).base ∧ (l.getD k noSz).base ≤ 68719476736 := fun k hk => ⟨(good_base (hgs k hk).1).1, (hgs k hk).2.2⟩
  have hs : ∀ k, k < l.length → goodS (l.getD k noSz) = true ∧ (l.getD k noSz).base ≤ 68719476736 := fun k hk => ⟨(hgs k hk).1, (hgs k hk).2.2⟩
  have hf : ∀ k, k < l.length → 0 ≤ f k := fun k hk => (isSz_bd (hgs k hk).2.1).1
  have hbd : ∀ a b, 0 ≤ msV ws a b ∧ msV ws a b ≤ 68719476736 := fun a b => by
    obtain ⟨m0, -, m2⟩ := msV_le ws a b
    refine ⟨m0, ?_⟩
    rcases m2 with e | ⟨x, hx', -, -, e⟩
    · omega
    · have := (hw x hx').2.2.2.2; omega
  rw [gw26_map (gu26_bd hb l.length (Nat.le_refl _)).1 (fun x hx => ⟨(hw x hx).2.2.2.1, (hw x hx).2.2.2.2⟩)
    (fun x hx n n0 n1 => (gP_same (f := f) hs hf hp hm (hw x hx).1 (hw x hx).2.1 (hw x hx).2.2.1 n0 n1).1)
    (hr.congr (fun x hx => (gP_same hs hf hp hm (hw x hx).1 (hw x hx).2.1 (hw x hx).2.2.1 (hbd _ _).1 (hbd _ _).2).2)),
    uh_same hb l.length (Nat.le_refl _)]

end Go.Proofs.Ytaonlpjfbajlcaa

namespace Go.Proofs.Ytaonlpjfbajlcaa
open Go.RowKit

set_option maxRecDepth 100000 in
set_option maxHeartbeats 8000000 in
theorem unitWanted26_any (v : Value) (l : List SzD) (aa : Option Addr) (M ca : Nat) (f : Nat → Int) (u : Value) (ws : List WnD) (w : World) (h : SzL w v l) (ha : ArI w aa M f) (hw : WnL w u ws) (hN : l.length ≤ 1000000) (hK : ws.length ≤ 1000000) (hg : ∀ x ∈ ws, I64 x.a ∧ I64 x.b ∧ I64 x.x) (hg2 : ∀ x ∈ ws, 0 ≤ x.a ∧ x.a < x.b ∧ x.b ≤ (l.length : Int) ∧ 0 ≤ x.x ∧ x.x ≤ 68719476736) (hM : M = l.length) (hMc : M ≤ ca) (hf : ∀ k, k < M → 0 ≤ f k ∧ f k ≤ 68719476736) (hs : ∀ k, k < l.length → goodS (l.getD k noSz) = true ∧ (l.getD k noSz).base ≤ 68719476736) :
    Calls Try.prog 38 #[v, .slice aa M ca, u] w fun e w' => (∃ (r : Int) (ds : List (ordI l)), e = .returned (.int .i64 r) ∧ ds.Pairwise (fun x y => ltOf (cfI l) y x = false) ∧ (ds.map (fun x => x.val)).Perm (orL l l.length) ∧ MxR (gP l f (ds.map (fun x => x.val))) ws r) ∧ Below w.heap.size w w' := by
  subst hM
  have HS := hide hw
  obtain ⟨ao, cap, rfl⟩ := h.slice
  obtain ⟨wo, cw, rfl⟩ := hw.slice
  obtain ⟨K, hK0⟩ : ∃ K, K = ws.length := ⟨_, rfl⟩
  have HKL := hide hK0
  rw [← hK0] at HS hK ⊢
  have HG := hide hg
  have HG2 := hide hg2
  have HF := hide hf
  have HSD := hide hs
  have CROW := hide (fun W (hb : Below w.heap.size w W) => rowOf_any (.slice ao l.length cap) l W (h.below hb) hN hs)
  have HSL := hide h
  have HAI := hide ha
  clear h ha hw hK0 hg hs hg2 hf
  have hmm := @run_makeMap Try.prog
  go_enter Try.func38, Try.ntmps38
  go_wp2_with fail
  go_loopw [19] (fun i wr => ∃ k : Nat, k ≤ K ∧ i = .int .i64 (k : Int) ∧ ∃ D, Hid (UwS w wr (.slice wo K cw) ws k D)) (fun i _ => K - (intOf i).toNat)
  case atStart => exact ⟨0, Nat.zero_le _, by go_num, .map [], hide ⟨World.ownsMap_made _ _ _ _, by rw [List.take_zero]; exact MsI.nil, (Below.refl _ _).alloc (Nat.le_refl _) _⟩⟩
  case round =>
    obtain ⟨k, hk, rfl, D, ST⟩ := hrel
    by_cases hkl : k < K
    · have hi : (k : Int) < (K : Int) := by omega
      have hn2 : ¬ (k : Int) < 0 := by omega
      have hkL : k < ws.length := by rw [← HKL.out]; exact hkl
      obtain ⟨b, off, hao, hlt, x0, x1, x2, x3, x4⟩ := ((HS.out).below (ST.out).bel).at hkL
      subst hao
      generalize hx : ws.getD k noWn = x at *
      obtain ⟨a, c, lo, mi, mx⟩ := x
      simp only at x0 x1 x2 x3 x4
      have hmm0 := hmm
      clear hmm
      go_upto_region 6 with fail
      have ST1 := hide (((ST.out).own.alloc (.cells #[.int .i64 a, .int .i64 c, .int .i64 lo, .int .i64 mi, .int .i64 mx] 35)).alloc (.cells #[.int .i64 a, .int .i64 c] 47))
      have B0 := ((ST.out).bel.alloc (ST.out).bel.size (.cells #[.int .i64 a, .int .i64 c, .int .i64 lo, .int .i64 mi, .int .i64 mx] 35))
      have B1 := hide (B0.alloc B0.size (.cells #[.int .i64 a, .int .i64 c] 47))
      have hW0 : WnR (wr.alloc (.cells #[.int .i64 a, .int .i64 c, .int .i64 lo, .int .i64 mi, .int .i64 mx] 35)) wr.heap.size ⟨a, c, lo, mi, mx⟩ := WnR.new wr ⟨a, c, lo, mi, mx⟩
      have hW1 := hW0.below ((Below.refl _ _).alloc (Nat.le_refl _) (.cells #[.int .i64 a, .int .i64 c] 47))
      have hY : ((wr.alloc (.cells #[.int .i64 a, .int .i64 c, .int .i64 lo, .int .i64 mi, .int .i64 mx] 35)).alloc (.cells #[.int .i64 a, .int .i64 c] 47)).heap[wr.heap.size + 1]? = some (.cells #[.int .i64 a, .int .i64 c] 47 (0, 0)) := by
        have := heap_alloc_new (wr.alloc (.cells #[.int .i64 a, .int .i64 c, .int .i64 lo, .int .i64 mi, .int .i64 mx] 35)) (.cells #[.int .i64 a, .int .i64 c] 47)
        rwa [World.size_alloc] at this
      generalize ((wr.alloc (.cells #[.int .i64 a, .int .i64 c, .int .i64 lo, .int .i64 mi, .int .i64 mx] 35)).alloc (.cells #[.int .i64 a, .int .i64 c] 47)) = w2 at *
      have y0 : w2.cell? ⟨wr.heap.size + 1, 0, none⟩ = some (.int .i64 a) := by rw [Lib.cell_of_heap hY]; rfl
      have y1 : w2.cell? ⟨wr.heap.size + 1, 1, none⟩ = some (.int .i64 c) := by rw [Lib.cell_of_heap hY]; rfl
      have z4 := hW1.cells.2.2.2.2
      have HMS := hide (ST.out).ms
      clear hY hW0 hW1 B0 ST x0 x1 x2 x3 x4
      generalize wr.heap.size = X at *
      obtain ⟨ga, gc, gx⟩ := (HG.out) ⟨a, c, lo, mi, mx⟩ (by rw [← hx, List.getD_eq_getElem?_getD, List.getElem?_eq_getElem hkL]; exact List.getElem_mem hkL)
      have hkey := spk_key ga gc
      have hm : Try.prog.follows .mixedOrders = true := by kernel_rfl
      refine wp_region_last (S := (fun Z => Z.cell? ⟨X + 1, 0, none⟩ = some (.int .i64 a) ∧ Z.cell? ⟨X + 1, 1, none⟩ = some (.int .i64 c) ∧ Z.cell? ⟨X, 4, none⟩ = some (.int .i64 mx))) (last := 8) hm ?_
      have hHeld : (fun Z : World => Z.cell? ⟨X + 1, 0, none⟩ = some (.int .i64 a) ∧ Z.cell? ⟨X + 1, 1, none⟩ = some (.int .i64 c) ∧ Z.cell? ⟨X, 4, none⟩ = some (.int .i64 mx)) w2.drew := ⟨y0, y1, z4⟩
      show wpAnyL _ _ _ _ _ _ _ _ _ w2.drew
      refine wpAnyL_take (i := 0) (v := .map (some w.heap.size)) rfl (by decide) (by kernel_rfl) (by kernel_rfl) (by kernel_rfl) (by kernel_rfl) (fun _ _ _ h => h) (Or.inl ⟨by rfl, ?hy0⟩) hHeld ?_
      case hy0 => (intro w hSw; (try dsimp only at hSw); go_simp)
      (try simp only [Act.put])
      refine wpAnyL_take (i := 1) (v := .agg #[.int .i64 a, .int .i64 c]) rfl (by decide) (by kernel_rfl) (by kernel_rfl) (by kernel_rfl) (by kernel_rfl) (fun _ _ _ h => h) (Or.inl ⟨by rfl, ?hy1⟩) hHeld ?_
      case hy1 => (intro w hSw; (try dsimp only at hSw); go_simp)
      (try simp only [Act.put])
      refine wpAnyL_take (i := 2) (v := .map (some w.heap.size)) rfl (by decide) (by kernel_rfl) (by kernel_rfl) (by kernel_rfl) (by kernel_rfl) (fun _ _ _ h => h) (Or.inl ⟨by rfl, ?hy2⟩) hHeld ?_
      case hy2 => (intro w hSw; (try dsimp only at hSw); go_simp)
      (try simp only [Act.put])
      refine wpAnyL_take (i := 3) (v := .agg #[.int .i64 a, .int .i64 c]) rfl (by decide) (by kernel_rfl) (by kernel_rfl) (by kernel_rfl) (by kernel_rfl) (fun _ _ _ h => h) (Or.inl ⟨by rfl, ?hy3⟩) hHeld ?_
      case hy3 => (intro w hSw; (try dsimp only at hSw); go_simp)
      (try simp only [Act.put])
      refine wpAnyL_take (i := 5) (v := .pointer (some ⟨X, 4, none⟩)) rfl (by decide) (by kernel_rfl) (by kernel_rfl) (by kernel_rfl) (by kernel_rfl) (fun _ _ _ h => h) (Or.inl ⟨by rfl, ?hy5⟩) hHeld ?_
      case hy5 => (intro w hSw; (try dsimp only at hSw); go_simp)
      (try simp only [Act.put])
      refine wpAnyL_take (i := 6) (v := .int .i64 mx) rfl (by decide) (by kernel_rfl) (by kernel_rfl) (by kernel_rfl) (by kernel_rfl) (fun _ _ _ h => h) (Or.inl ⟨by rfl, ?hy6⟩) hHeld ?_
      case hy6 => (intro w hSw; (try dsimp only at hSw); go_simp)
      (try simp only [Act.put])
      obtain ⟨cc, hrun, hat, hwc⟩ := ((ST1.out).drew).lookup_int spk_keyed Try.underlying84 Try.underlying3 (by kernel_rfl) hkey
      refine wpAnyL_alone (i := 4) rfl (by kernel_rfl) (by rfl) (fun K' hK' => ?_)
      unfold Oper.wp
      simp only [execOp, Act.eval]
      simp [hrun, Result.andThen]
      refine hK'.out _ _ (fun _ => hHeld) ?_
      clear hK' K'
      (try simp only [Act.put])
      refine wpAnyL_take (i := 7) (v := .int .i64 (max cc mx)) rfl (by decide) (by kernel_rfl) (by kernel_rfl) (by kernel_rfl) (by kernel_rfl) (fun _ _ _ h => h) (Or.inl ⟨by rfl, ?hy7⟩) hHeld ?_
      case hy7 => (intro w hSw; (try dsimp only at hSw); go_simp)
      (try simp only [Act.put])
      have hcc : cc = msV (ws.take k) a c := by
        have e := ((HMS.out).at_ a c ga gc).symm.trans hat
        injection e with e
        injection e with _ e
        exact e.symm
      have hmxw : (Lit.int .i64 (max cc mx)).wf = true := by
        rcases Int.le_total cc mx with e | e
        · rw [Int.max_eq_right e]; exact gx
        · rw [Int.max_eq_left e]; exact hwc
      obtain ⟨w3, hrun3, hown3, hgrow⟩ := ((ST1.out).drew).update spk_keyed Try.underlying84 (by unfold maxLen; omega) hkey (plainElem_int Try.underlying3 hmxw)
      refine wpAnyL_alone (i := 8) rfl (by kernel_rfl) (by rfl) (fun K' hK' => ?_)
      unfold Oper.wp
      simp only [execOp, Act.eval]
      simp [hrun3, Result.andThen]
      refine hK'.out _ _ (fun h => absurd rfl h) ?_
      clear hK' K'
      (try simp only [Act.put])
      refine wpAnyL_done (by kernel_rfl) ?_ _
      have B3 := hide (((B1.out).drew).grown hgrow (B1.out).drew.size (fun j hj => by cases hj; exact Nat.le_refl _))
      have HT : ws.take (k + 1) = ws.take k ++ [⟨a, c, lo, mi, mx⟩] := by
        rw [List.take_add_one, List.getElem?_eq_getElem hkL]
        have e : ws[k] = ⟨a, c, lo, mi, mx⟩ := by rw [← hx, List.getD_eq_getElem?_getD, List.getElem?_eq_getElem hkL]; rfl
        rw [e]; rfl
      have ST3 : Hid (UwS w w3 (.slice (some ⟨b, off, none⟩) K cw) ws (k + 1) (D.put (spkL a c) (.lit (.int .i64 (max cc mx))))) := hide ⟨hown3, by rw [HT, hcc]; exact (HMS.out).put ⟨a, c, lo, mi, mx⟩ ga gc, B3.out⟩
      clear hown3 hgrow hHeld y0 y1 z4 HMS ST1 B1 B3 hrun hrun3 hat hkey HT hx
      go_wp2_with fail
      go_roundw
      case rel => exact ⟨k + 1, by omega, by go_num, _, ST3⟩
      case measure => simp [intOf]; omega
    · have hki : ¬ (k : Int) < (K : Int) := by omega
      have hke : k = K := by omega
      subst hke
      go_upto_region 8 with fail
      go_wp2_with fail
      refine Calls.mono ((CROW.out) _ (ST.out).bel) ?_
      rintro e w2 ⟨u2, ds, rfl, hos, hpw, hpm, hb2⟩
      obtain ⟨uo, uc, rfl, -⟩ := hos.arI
      rw [List.length_map] at hos
      have OW := hide ((own_below (ST.out).own hb2).alloc (.cells #[.slice ao l.length cap, .slice uo ds.length uc] 43))
      have B2 := (ST.out).bel.trans (hb2.mono (ST.out).bel.size)
      go_upto_region 9 with fail
      generalize hW3 : w2.alloc (.cells #[.slice ao l.length cap, .slice uo ds.length uc] 43) = w4 at *
      go_wp2_with (at_range; go_loud (refine wpList_range_own _ rfl _ 84 rfl 47 3 spk_keyed Try.underlying84 _ w.heap.size k _ rfl OW.out ?_; intro w3 hrg3 hg3 hs3))
      go_frame
      have B4 : Below w.heap.size w w4 := by rw [← hW3]; exact B2.alloc B2.size _
      have hrow4 : w4.heap[w2.heap.size]? = some (.cells #[.slice ao l.length cap, .slice uo ds.length uc] 43 (0, 0)) := by rw [← hW3]; exact heap_alloc_new _ _
      have hos4 : Reads w4 (.slice uo ds.length uc) (ds.map (fun x => (x.val : Int))) := by rw [← hW3]; exact hos.below ((Below.refl _ _).alloc (Nat.le_refl _) _)
      have BB := (Below.refl w4.heap.size w4).grown hg3 (Nat.le_refl _) (fun j hj => by cases hj)
      have UR : Hid (UrS w w4 w3 w4.heap.size k D (Go.Maps.has D) (Go.Maps.size D)) := hide ⟨hrg3, BB⟩
      have HB4 := hide B4
      have HROW := hide hrow4
      have HOS := hide hos4
      have HRB : Hid (w2.heap.size < w4.heap.size) := hide (Array.getElem?_eq_some_iff.1 hrow4).1
      have HPW := hide hpw
      have HPM := hide hpm
      clear hpw hpm
      have HMS := hide (show MsI D ws by have e := (ST.out).ms; rwa [HKL.out, List.take_length] at e)
      clear ST OW B2 B4 BB hrow4 hos4 hos hrg3 hg3 hs3 hW3 hb2
      generalize w2.heap.size = RB at *
      obtain ⟨R, hR⟩ : ∃ R, R = w4.heap.size := ⟨_, rfl⟩
      have HRE := hide hR
      rw [← hR] at UR HRB ⊢
      clear hR
      go_loopw [11] (fun o wr => ∃ (r : Int) (left : Lit → Bool) (cnt : Nat), o = .int .i64 r ∧ Hid (UrS w w4 wr R k D left cnt) ∧ Hid (MxP (gP l f (ds.map (fun x => x.val))) ws left r)) (fun _ wr => wr.rangeLeft w.heap.size R)
      case atStart => exact ⟨0, _, _, rfl, UR, hide (MxP.start HMS.out)⟩
      case round =>
        obtain ⟨r, left, cnt, rfl, ST, HM⟩ := hrel
        have hrg := (ST.out).rg
        go_wp2_with (first
          | (at_next; go_loud (refine wpList_next_ranges _ rfl _ rfl 47 spk_keyed (plainElem (H := Unit) Try.prog 3) (fun x : Int × Int => spkV x.1 x.2) (fun n : Int => .int .i64 n) (fun key kl hk => by obtain ⟨x, e, -⟩ := spk_inv hk; exact ⟨x, e⟩) (fun v y hv => by obtain ⟨c, e, -⟩ := plainElem_int_inv Try.underlying3 hv; exact ⟨c, e⟩) w.heap.size R k _ _ _ rfl hrg ?_ ?_))
          | go_in)
        · intro hc0 hl0
          have HR : MxR (gP l f (ds.map (fun x => x.val))) ws r := ⟨(HM.out).pos, fun x hx => (HM.out).all x hx (hl0 _), (HM.out).one⟩
          have HR2 := hide HR
          have HB := hide ((HB4.out).trans ((ST.out).bel.mono (by rw [HRE.out]; exact (HB4.out).size)))
          clear HM hrg ST hl0 HR
          go_wp2_with fail
          go_ret
          exact ⟨⟨r, ds, rfl, HPW.out, HPM.out, HR2.out⟩, HB.out⟩
        · intro xa xb c kl y ps w1 cnt1 hkey hlk hy hat hrg1 hlt hg1 hs1 hen
          obtain ⟨c', ec, hy2, hwc⟩ := plainElem_int_inv Try.underlying3 hy
          cases ec
          cases hy2
          obtain ⟨x', ex, i1, i2, rfl⟩ := spk_inv hkey
          obtain ⟨xa', xb'⟩ := x'
          have ex2 : xa = xa' ∧ xb = xb' := by simpa [spkV] using ex
          obtain ⟨rfl, rfl⟩ := ex2
          simp only at i1 i2 hat hlk hrg1
          have hcv : c = msV ws xa xb := by
            have e := (hat (.lit (.int .i64 0))).symm.trans ((HMS.out).at_ xa xb i1 i2)
            injection e with e
            injection e with _ e
          obtain ⟨z, hz, ez⟩ := ((HMS.out).has _).1 (Go.Maps.has_true_of_atKey hat)
          obtain ⟨z1, z2, -⟩ := (HG.out) z hz
          obtain ⟨rfl, rfl⟩ := spk_inj i1 i2 z1 z2 ez
          obtain ⟨q0, q1, q2, -, -⟩ := (HG2.out) z hz
          have hc0 : 0 ≤ c ∧ c ≤ 68719476736 := by
            obtain ⟨m0, -, m2⟩ := msV_le ws z.a z.b
            rw [← hcv] at m0 m2
            refine ⟨m0, ?_⟩
            rcases m2 with e | ⟨p, hp, -, -, e⟩
            · omega
            · have := ((HG2.out) p hp).2.2.2.2; omega
          have HM2 := hide ((HM.out).more (fun x hx => ⟨((HG.out) x hx).1, ((HG.out) x hx).2.1⟩) hz)
          obtain ⟨A, hA⟩ : ∃ A : Nat, z.a = (A : Int) := ⟨z.a.toNat, by omega⟩
          obtain ⟨Bn, hBn⟩ : ∃ Bn : Nat, z.b = (Bn : Int) := ⟨z.b.toNat, by omega⟩
          have HGP : Hid (gP l f (ds.map (fun x => x.val)) z.a z.b (msV ws z.a z.b) = unV26 (rstV l A Bn (lsV c (fun i => f (A + 1 + i)) (Bn - A - 1)) (ds.map (fun x => x.val)))) := hide (by rw [← hcv, hA, hBn]; rfl)
          rw [HGP.out] at HM2
          clear HGP hkey hy ex hat ez HMS hcv
          rw [hA, hBn] at hen HM2 hrg1 hlk
          have hAB : A < Bn := by omega
          have hBN : Bn ≤ l.length := by omega
          clear hA hBn q0 q1 q2 i1 i2 z1 z2 hlk
          have ST1 : Hid (UrS w w4 w1 R k D (fun z_1 => left z_1 && !z_1.sameKey (spkL (A : Int) (Bn : Int))) cnt1) := hide ⟨hrg1, (ST.out).bel.grown hg1 (Nat.le_of_lt hrg.lt) (fun j hj => by cases hj; exact Nat.le_refl _)⟩
          have hlen : wr.rangeLeft w.heap.size R = cnt := hrg.left_eq
          have ST2 := hide ((ST1.out).alloc (.cells #[.int .i64 (A : Int), .int .i64 (Bn : Int)] 47))
          have hY : (w1.alloc (.cells #[.int .i64 (A : Int), .int .i64 (Bn : Int)] 47)).heap[wr.heap.size]? = some (.cells #[.int .i64 (A : Int), .int .i64 (Bn : Int)] 47 (0, 0)) := by
            have := heap_alloc_new w1 (.cells #[.int .i64 (A : Int), .int .i64 (Bn : Int)] 47)
            rwa [hs1] at this
          go_upto_region 12 with fail
          generalize w1.alloc (.cells #[.int .i64 (A : Int), .int .i64 (Bn : Int)] 47) = w5 at *
          have y0 : w5.cell? ⟨wr.heap.size, 0, none⟩ = some (.int .i64 (A : Int)) := by rw [Lib.cell_of_heap hY]; rfl
          have y1 : w5.cell? ⟨wr.heap.size, 1, none⟩ = some (.int .i64 (Bn : Int)) := by rw [Lib.cell_of_heap hY]; rfl
          have hylt : wr.heap.size < w5.heap.size := (Array.getElem?_eq_some_iff.1 hY).1
          have hbw : Below w.heap.size w w5 := (HB4.out).trans ((ST2.out).bel.mono (by rw [HRE.out]; exact (HB4.out).size))
          have HAF := hide ((HAI.out).below hbw)
          obtain ⟨ab, aoff, haa, hac⟩ := (HAF.out).at (show A < l.length by omega)
          subst haa
          have HAP : Hid (ArI w5 (some ⟨ab, aoff + (A + 1), none⟩) (Bn - A - 1) (fun i => f (A + 1 + i))) := hide (by
            rcases (HAF.out) with h | ⟨b', off', e, h1, h2⟩
            · omega
            · cases e
              exact .inr ⟨_, _, rfl, h1, fun i hi => by have := h2 (A + 1 + i) (by omega); rwa [← Nat.add_assoc] at this⟩)
          rw [show Bn - A - 1 = Bn - (A + 1) by omega] at HAP HM2
          have CL := hide (fun p ca' (hp : ArI w5 p (Bn - (A + 1)) (fun i => f (A + 1 + i))) => less26_any c p (Bn - (A + 1)) ca' (fun i => f (A + 1 + i)) w5 hp ⟨hc0.1, by omega⟩ (fun i hi => by have := (HF.out) (A + 1 + i) (by omega); omega) (by omega))
          obtain ⟨p0, p1⟩ := lsV_bd (n := c) (f := fun i => f (A + 1 + i)) hc0.1 (Bn - (A + 1)) (fun i hi => ((HF.out) (A + 1 + i) (by omega)).1)
          generalize hsp : lsV c (fun i => f (A + 1 + i)) (Bn - (A + 1)) = sp at *
          have hdl : ds.length ≤ 1000000 := by
            have e := (HPM.out).length_eq
            rw [List.length_map] at e
            have : (orL l l.length).length ≤ l.length := by unfold orL; exact Nat.le_trans (List.length_filter_le _ _) (by simp)
            omega
          have hgd : ∀ k, k < l.length → 0 ≤ (l.getD k noSz).base ∧ (l.getD k noSz).base ≤ 68719476736 ∧ 0 ≤ (l.getD k noSz).fr ∧ (l.getD k noSz).fr ≤ 1073741824 := fun k hk => by
            have h1 := (HSD.out) k hk
            have h2 := good_base h1.1
            have h3 := good_fr h1.1
            omega
          have hos5 := (HOS.out).below (by have := (ST2.out).bel; rwa [HRE.out] at this)
          have CR := hide (fun W (hb : Below w5.heap.size w5 W) => rest_any (.slice ao l.length cap) (.slice uo ds.length uc) l ds A Bn sp W ((HSL.out).below (hbw.trans (hb.mono hbw.size))) (hos5.below hb) hN hdl (by omega) hBN p0 (by omega) hgd)
          obtain ⟨l0, l1⟩ := rstV_left (l := l) (fun k hk => ⟨(hgd k hk).1, (hgd k hk).2.2.1, (hgd k hk).2.2.2⟩) (a := A) hBN p0 (ds.map (fun x => x.val))
          have CU := hide (fun W => unit26_any (rstV l A Bn sp (ds.map (fun x => x.val))) W l0 (by omega))
          generalize rstV l A Bn sp (ds.map (fun x => x.val)) = RS at *
          have hr5 := ((ST2.out).bel.block RB HRB.out).trans HROW.out
          have r0 : w5.cell? ⟨RB, 0, none⟩ = some (.slice ao l.length cap) := by rw [Lib.cell_of_heap hr5]; rfl
          have r1 : w5.cell? ⟨RB, 1, none⟩ = some (.slice uo ds.length uc) := by rw [Lib.cell_of_heap hr5]; rfl
          clear hac HAF hY hrg1 hg1 hs1 hen ST1 hrg hgd hos5 hr5 p0 p1 l0 l1 hdl hsp
          have hn1 : IntKind.i64.wrap ((A : Int) + 1) = (A : Int) + 1 := IntWalk.i64_in _ ⟨by omega, by omega⟩
          obtain ⟨ra, rb, rc⟩ := RS
          unfold rsC at CR CU
          simp only at CR CU
          by_cases hca : ca = A + 1
          all_goals (try subst hca)
          all_goals go_wp2_with fail
          all_goals
            refine Calls.mono ((CL.out) _ _ (by first | exact HAP.out | exact .inl (by omega))) ?_
            rintro e w6 ⟨rfl, hw6⟩
            subst w6
            go_wp2_with fail
            refine Calls.mono ((CR.out) _ (Below.refl _ _)) ?_
            rintro e w6 ⟨rfl, hb6⟩
            go_wp2_with fail
            refine Calls.mono ((CU.out) _) ?_
            rintro e w7 ⟨rfl, hb7⟩
            have ST7 := hide (((ST2.out).next hb6).next hb7)
            go_wp2_with fail
            go_roundw
            case rel => exact ⟨_, _, cnt1, rfl, ST7, HM2⟩
            case measure => rw [(ST7.out).rg.left_eq, hlen]; exact hlt

end Go.Proofs.Ytaonlpjfbajlcaa

namespace Go.Proofs.Ytaonlpjfbajlcaa
open Go.RowKit

theorem szsC_one : ∀ (l : List SzD) (u : Value), u ∈ szsC l → u.oneCell' = true
  | [], u, h => absurd h (by simp [szsC])
  | s :: r, u, h => by
    rw [szsC, List.mem_append] at h
    rcases h with h | h
    · simp [szC] at h
      rcases h with rfl | rfl | rfl | rfl | rfl | rfl | rfl <;> rfl
    · exact szsC_one r u h

theorem SzL.news {w : World} {b off N c : Nat} {l : List SzD} (h : SzL w (.slice (some ⟨b, off, none⟩) N c) l) : ∀ j u, (szsC l)[j]? = some u → w.cell? ⟨b, off + j, none⟩ = some u := by
  intro j u hu
  have hj : j < l.length * 7 := by
    have := (List.getElem?_eq_some_iff.1 hu).1
    rwa [szsC_len] at this
  rcases h with ⟨he, _⟩ | ⟨b', off', c', hv, _, hc⟩
  · rw [he] at hj; simp at hj
  · obtain ⟨⟨rfl, rfl⟩, -, -⟩ : (b = b' ∧ off = off') ∧ N = l.length ∧ c = c' := by simpa using hv
    have hk : j / 7 < l.length := by omega
    have hlt : j % 7 < 7 := by omega
    have e : j = j / 7 * 7 + j % 7 := by omega
    have h7 : (szC (l.getD (j / 7) noSz)).toList.length = 7 := rfl
    have e2 := szsC_at l (j / 7) hk (j % 7) _ (List.getElem?_eq_getElem (by rw [h7]; exact hlt))
    rw [← e, hu] at e2
    have e3 := hc (j / 7) hk (j % 7) _ (List.getElem?_eq_getElem (by rw [h7]; exact hlt))
    rw [Nat.add_assoc, ← e] at e3
    rw [e3, ← e2]

set_option maxHeartbeats 4000000 in
set_option maxRecDepth 100000 in
theorem clone_sz (v : Value) (l : List SzD) (w : World) (h : SzL w v l) (hN : l.length ≤ 1000000) : Calls Try.prog 27 #[v] w fun e w' => ∃ u, e = .returned u ∧ w'.ownsRow w.heap.size 32 7 u l.length (szsC l) ∧ Below w.heap.size w w' := by
  obtain ⟨ao, cap, rfl⟩ := h.slice
  obtain ⟨i0, hinf, hz0, hz1, hz2⟩ := info_parts szT22
  have q0 : ∀ (w : World) (a : Option Addr) (n c n' c' : Nat), (binOp .eql 22 (.slice a n c) (.slice none n' c')).run Try.prog w = .ok (.bool a.isNone) w := fun w a n c n' c' => Lib.run_eql_slice_nil w _ _ a n c n' c' Try.underlying22
  have u0 : ∀ w, Sem.run Try.prog (underlying 22) w = .ok (TypeDesc.slice 32) w := run_underlying Try.underlying22
  cases ao with
  | none =>
    have he : l = [] := by
      rcases h with ⟨he, _⟩ | ⟨b', off', c', hv, _, hc⟩
      · exact he
      · simp at hv
    subst he
    go_enter Try.func27, Try.ntmps27
    go_wp2_with fail
    go_ret
    exact ⟨_, rfl, World.ownsRow_nil _ _ _ _, Below.refl _ _⟩
  | some a =>
    have hnews : ∀ j u, (szsC l)[j]? = some u → w.cell? (a.add j) = some u := by
      intro j u hu
      by_cases h0 : l = []
      · subst h0; simp [szsC] at hu
      · rcases h with ⟨he, _⟩ | ⟨b', off', c', hv, hlt, hc⟩
        · exact absurd he h0
        · obtain ⟨rfl, -, -⟩ : a = ⟨b', off', none⟩ ∧ True ∧ cap = c' := by simpa using hv
          rw [Addr.add_lit]
          exact (SzL.news (N := l.length) (c := cap) (.inr ⟨b', off', _, rfl, hlt, hc⟩)) j u hu
    have HNW := hide hnews
    have HO := hide (szsC_one l)
    have hlen := szsC_len l
    generalize szsC l = S at *
    generalize l.length = N at *
    clear hnews h
    go_enter Try.func27, Try.ntmps27
    go_wp2_with (at_builtin; refine wpList_append_own _ rfl _ _ 22 rfl w.heap.size 32 i0 _ 7 56 Try.underlying22 hinf hz0 hz1 hz2 rfl (by decide) _ _ _ rfl (World.ownsRow_made w #[] 0 (Nat.le_refl _) (Nat.zero_le _) rfl) a N cap S rfl ?qc1 ?qc2 ?qc3 ?qc4 ?qc5 ?qc6 ?_)
    case qc1 => omega
    case qc2 =>
      intro j u hj
      exact Lib.cell?_alloc_some _ ((HNW.out) j u hj)
    case qc3 => exact HO.out
    case qc4 => unfold maxLen; omega
    case qc5 => omega
    case qc6 => simp
    intro v' w1 hown hgrow hnil
    have HW := hide hown
    have HG := hide hgrow
    clear hown hgrow hnil
    go_wp2
    go_ret
    refine ⟨v', rfl, by simpa using HW.out, ?_⟩
    exact ((Below.refl _ w).alloc (Nat.le_refl _) _).grown HG.out (by simp) (by intro k hk; simp [Value.ownBlock] at hk; omega)

/-- A row of tracks that are sized, each told by its place. -/
def CpR (W : World) (G N : Nat) (g : Nat → SzD) : Prop := ∃ cs : Array Value, W.heap[G]? = some (.cells cs 32 (0, 0)) ∧ N * 7 ≤ cs.size ∧ ∀ i, i < N → ∀ j u, (szC (g i)).toList[j]? = some u → cs[i * 7 + j]? = some u

theorem CpR.lt {W : World} {G N : Nat} {g : Nat → SzD} (h : CpR W G N g) : G < W.heap.size := by
  obtain ⟨cs, h1, _⟩ := h
  exact (Array.getElem?_eq_some_iff.1 h1).1

theorem CpR.of_block {W W' : World} {G N : Nat} {g : Nat → SzD} (h : CpR W G N g) (hb : W'.heap[G]? = W.heap[G]?) : CpR W' G N g := by
  obtain ⟨cs, h1, h2⟩ := h
  exact ⟨cs, hb.trans h1, h2⟩

theorem CpR.ext {W : World} {G N : Nat} {g g' : Nat → SzD} (h : CpR W G N g) (he : ∀ i, i < N → g i = g' i) : CpR W G N g' := by
  obtain ⟨cs, h1, h2, h3⟩ := h
  exact ⟨cs, h1, h2, fun i hi j u hu => h3 i hi j u (by rw [he i hi]; exact hu)⟩

theorem CpR.own {W : World} {base G N cap : Nat} {l : List SzD} (h : W.ownsRow base 32 7 (.slice (some ⟨G, 0, none⟩) N cap) N (szsC l)) (hl : l.length = N) : CpR W G N (fun i => l.getD i noSz) := by
  have h' := h
  rcases h.2 with ⟨hv, hn⟩ | ⟨g, cap', cur, hv, hb, hg, hnc, hcm, hcs, htake⟩
  · simp at hv
  · obtain ⟨rfl, -⟩ : G = g ∧ cap = cap' := by simpa using hv
    refine ⟨cur, hg, by rw [hcs]; exact Nat.mul_le_mul_right 7 hnc, fun i hi j u hu => ?_⟩
    have hj : j < 7 := (List.getElem?_eq_some_iff.1 hu).1
    have ha := szsC_at l i (by omega) j u hu
    rw [← htake, List.getElem?_take_of_lt (by omega)] at ha
    simpa using ha

theorem CpR.seven {W : World} {G N : Nat} {g : Nat → SzD} (h : CpR W G N g) {k : Nat} (hk : k < N) : (∀ m, W.frozen? ⟨G, m, none⟩ = false) ∧ W.cell? ⟨G, k * 7, none⟩ = some (.int .i64 (g k).mn) ∧ W.cell? ⟨G, k * 7 + 1, none⟩ = some (.int .i64 (g k).mx) ∧ W.cell? ⟨G, k * 7 + 2, none⟩ = some (.int .i64 (g k).fr) ∧ W.cell? ⟨G, k * 7 + 3, none⟩ = some (.bool (g k).fit) ∧ W.cell? ⟨G, k * 7 + 4, none⟩ = some (.int .i64 (g k).cap) ∧ W.cell? ⟨G, k * 7 + 5, none⟩ = some (.int .i64 (g k).base) ∧ W.cell? ⟨G, k * 7 + 6, none⟩ = some (.int .i64 (g k).limit) := by
  obtain ⟨cs, h1, h2, h3⟩ := h
  refine ⟨fun m => Lib.frozen_of_heap h1 m, ?_, ?_, ?_, ?_, ?_, ?_, ?_⟩ <;> rw [Lib.cell_of_heap h1]
  · exact h3 k hk 0 _ rfl
  · exact h3 k hk 1 _ rfl
  · exact h3 k hk 2 _ rfl
  · exact h3 k hk 3 _ rfl
  · exact h3 k hk 4 _ rfl
  · exact h3 k hk 5 _ rfl
  · exact h3 k hk 6 _ rfl

theorem CpR.put {W : World} {G N : Nat} {g : Nat → SzD} (h : CpR W G N g) {k : Nat} (hk : k < N) (s : SzD) : CpR (((((((W.setCell ⟨G, k * 7, none⟩ (.int .i64 s.mn)).setCell ⟨G, k * 7 + 1, none⟩ (.int .i64 s.mx)).setCell ⟨G, k * 7 + 2, none⟩ (.int .i64 s.fr)).setCell ⟨G, k * 7 + 3, none⟩ (.bool s.fit)).setCell ⟨G, k * 7 + 4, none⟩ (.int .i64 s.cap)).setCell ⟨G, k * 7 + 5, none⟩ (.int .i64 s.base)).setCell ⟨G, k * 7 + 6, none⟩ (.int .i64 s.limit)) G N (fun i => if i = k then s else g i) := by
  obtain ⟨cs, h1, h2, h3⟩ := h
  have st : ∀ (Z : World) (a : Array Value) (j : Nat) (v : Value), Z.heap[G]? = some (.cells a 32 (0, 0)) → (Z.setCell ⟨G, j, none⟩ v).heap[G]? = some (.cells (a.setIfInBounds j v) 32 (0, 0)) := fun Z a j v hZ => by
    simp [World.setCell, Array.getElem?_modify, hZ]
  have g6 := st _ _ (k * 7 + 6) (.int .i64 s.limit) (st _ _ (k * 7 + 5) (.int .i64 s.base) (st _ _ (k * 7 + 4) (.int .i64 s.cap) (st _ _ (k * 7 + 3) (.bool s.fit) (st _ _ (k * 7 + 2) (.int .i64 s.fr) (st _ _ (k * 7 + 1) (.int .i64 s.mx) (st _ _ (k * 7) (.int .i64 s.mn) h1))))))
  refine ⟨_, g6, by simpa using h2, fun i hi j u hu => ?_⟩
  have hj : j < 7 := (List.getElem?_eq_some_iff.1 hu).1
  by_cases hil : i = k
  · subst hil
    simp only [if_pos] at hu
    simp only [Array.getElem?_setIfInBounds, Array.size_setIfInBounds]
    obtain rfl | rfl | rfl | rfl | rfl | rfl | rfl : j = 0 ∨ j = 1 ∨ j = 2 ∨ j = 3 ∨ j = 4 ∨ j = 5 ∨ j = 6 := by omega
    all_goals (simp [szC] at hu; subst hu; simp; try omega)
  · simp only [if_neg hil] at hu
    have := h3 i hi j u hu
    simp only [Array.getElem?_setIfInBounds]
    rw [if_neg (by omega), if_neg (by omega), if_neg (by omega), if_neg (by omega), if_neg (by omega), if_neg (by omega), if_neg (by omega)]
    exact this

theorem CpR.putB {W : World} {G N : Nat} {g : Nat → SzD} (h : CpR W G N g) {k : Nat} (hk : k < N) (y : Int) : CpR (W.setCell ⟨G, k * 7 + 5, none⟩ (.int .i64 y)) G N (fun i => if i = k then ⟨(g k).mn, (g k).mx, (g k).fr, (g k).fit, (g k).cap, y, (g k).limit⟩ else g i) := by
  obtain ⟨cs, h1, h2, h3⟩ := h
  have st : ∀ (Z : World) (a : Array Value) (j : Nat) (v : Value), Z.heap[G]? = some (.cells a 32 (0, 0)) → (Z.setCell ⟨G, j, none⟩ v).heap[G]? = some (.cells (a.setIfInBounds j v) 32 (0, 0)) := fun Z a j v hZ => by
    simp [World.setCell, Array.getElem?_modify, hZ]
  refine ⟨_, st _ _ (k * 7 + 5) (.int .i64 y) h1, by simpa using h2, fun i hi j u hu => ?_⟩
  have hj : j < 7 := (List.getElem?_eq_some_iff.1 hu).1
  by_cases hil : i = k
  · subst hil
    simp only [if_pos] at hu
    simp only [Array.getElem?_setIfInBounds]
    by_cases h5 : j = 5
    · subst h5
      simp [szC] at hu
      subst hu
      simp
      omega
    · rw [if_neg (by omega)]
      refine h3 i hi j u ?_
      obtain rfl | rfl | rfl | rfl | rfl | rfl : j = 0 ∨ j = 1 ∨ j = 2 ∨ j = 3 ∨ j = 4 ∨ j = 6 := by omega
      all_goals exact hu
  · simp only [if_neg hil] at hu
    have := h3 i hi j u hu
    simp only [Array.getElem?_setIfInBounds]
    rw [if_neg (by omega)]
    exact this

theorem cpR_SzL {W : World} {G N cap : Nat} {g : Nat → SzD} (h : CpR W G N g) : SzL W (.slice (some ⟨G, 0, none⟩) N cap) ((List.range N).map g) := by
  obtain ⟨cs, h1, h2, h3⟩ := h
  refine .inr ⟨G, 0, cap, by simp, (Array.getElem?_eq_some_iff.1 h1).1, fun i hi j u hu => ?_⟩
  have hi' : i < N := by simpa using hi
  rw [List.getD, List.getElem?_map, List.getElem?_range hi'] at hu
  rw [Lib.cell_of_heap h1, Nat.zero_add]
  exact h3 i hi' j u hu

end Go.Proofs.Ytaonlpjfbajlcaa

namespace Go.Proofs.Ytaonlpjfbajlcaa
open Go.RowKit

/-- A number that is about to be appended. -/
def Nw (W : World) (b : Nat) (z : Int) : Prop := W.heap[b]? = some (.cells #[.int .i64 z] 3 (0, 0))

theorem Nw.new (W : World) (z : Int) : Nw (W.alloc (.cells #[.int .i64 z] 3)) W.heap.size z := heap_alloc_new W _

theorem Nw.lt {W : World} {b : Nat} {z : Int} (h : Nw W b z) : b < W.heap.size := (Array.getElem?_eq_some_iff.1 h).1

theorem Nw.alloc {W : World} {b : Nat} {z : Int} (h : Nw W b z) (o : Obj) : Nw (W.alloc o) b z := (((Below.refl _ W).alloc (Nat.le_refl _) o).block b h.lt).trans h

theorem Nw.grown {W W' : World} {b : Nat} {z : Int} {row : Option Nat} (h : Nw W b z) (hg : W.grownBy W' row) (hne : some b ≠ row) : Nw W' b z := (hg.block b h.lt hne).trans h

theorem Nw.news {W : World} {b : Nat} {z : Int} (h : Nw W b z) : ∀ j u, ([.int .i64 z] : List Value)[j]? = some u → W.cell? ((⟨b, 0, none⟩ : Addr).add j) = some u := World.news_of_block h

/-- Two rows that grow. -/
structure TwS (w W : World) (u v : Value) (zs : List (Int × Int)) : Prop where
  own1 : W.ownsRow w.heap.size 3 1 u zs.length (zs.map (fun x => Value.int .i64 x.1))
  own2 : W.ownsRow w.heap.size 3 1 v zs.length (zs.map (fun x => Value.int .i64 x.2))
  ne : ∀ q, u.ownBlock = some q → v.ownBlock ≠ some q
  bel : Below w.heap.size w W

theorem TwS.next {w W W' : World} {u v : Value} {zs : List (Int × Int)} (h : TwS w W u v zs) (hb : Below W.heap.size W W') : TwS w W' u v zs := by
  have hg : W.grownBy W' none := ⟨hb.os, hb.tape, hb.output, hb.size, fun i hi _ => hb.block i hi⟩
  refine ⟨h.own1.kept hg ?_, h.own2.kept hg ?_, h.ne, h.bel.trans (hb.mono h.bel.size)⟩
  · rcases Option.eq_none_or_eq_some u.ownBlock with e | ⟨q, e⟩
    · exact .inl e
    · exact .inr (by rw [e]; simp)
  · rcases Option.eq_none_or_eq_some v.ownBlock with e | ⟨q, e⟩
    · exact .inl e
    · exact .inr (by rw [e]; simp)

theorem map_snoc1 (zs : List (Int × Int)) (x : Int × Int) : (zs ++ [x]).map (fun x => Value.int .i64 x.1) = zs.map (fun x => Value.int .i64 x.1) ++ [.int .i64 x.1] := by simp

theorem map_snoc2 (zs : List (Int × Int)) (x : Int × Int) : (zs ++ [x]).map (fun x => Value.int .i64 x.2) = zs.map (fun x => Value.int .i64 x.2) ++ [.int .i64 x.2] := by simp

theorem Nw.new' (W : World) (z : Int) (b : Nat) (h : b = W.heap.size) : Nw (W.alloc (.cells #[.int .i64 z] 3)) b z := by subst h; exact Nw.new W z

/-- Two rows, one number more in each: the first first. -/
theorem twoA {w w2 Wa w1 Wb w3 : World} {u v : Value} {zs : List (Int × Int)} {k n : Int} {g1 c1 g2 c2 : Nat} (ST : TwS w w2 u v zs) (ha : Below w2.heap.size w2 Wa)
    (own1 : w1.ownsRow w.heap.size 3 1 (.slice (some ⟨g1, 0, none⟩) (zs.length + 1) c1) (zs.length + 1) (zs.map (fun x => Value.int .i64 x.1) ++ [.int .i64 k])) (gr1 : Wa.grownBy w1 u.ownBlock) (at1 : u.ownBlock = some g1 ∨ g1 = Wa.heap.size) (hb : Below w1.heap.size w1 Wb) (lt1 : g1 < w1.heap.size)
    (own2 : w3.ownsRow w.heap.size 3 1 (.slice (some ⟨g2, 0, none⟩) (zs.length + 1) c2) (zs.length + 1) (zs.map (fun x => Value.int .i64 x.2) ++ [.int .i64 n])) (gr2 : Wb.grownBy w3 v.ownBlock) (at2 : v.ownBlock = some g2 ∨ g2 = Wb.heap.size) :
    TwS w w3 (.slice (some ⟨g1, 0, none⟩) (zs.length + 1) c1) (.slice (some ⟨g2, 0, none⟩) (zs.length + 1) c2) (zs ++ [(k, n)]) := by
  have s1 := ha.size
  have s2 := gr1.size
  have s3 := hb.size
  have hv : ∀ q, v.ownBlock = some q → q < w2.heap.size ∧ w.heap.size ≤ q := fun q e => ⟨(ST.own2.lt q e).2, (ST.own2.lt q e).1⟩
  have hu : ∀ q, u.ownBlock = some q → q < w2.heap.size ∧ w.heap.size ≤ q := fun q e => ⟨(ST.own1.lt q e).2, (ST.own1.lt q e).1⟩
  have hne : some g1 ≠ v.ownBlock := fun e => by
    rcases at1 with h | h
    · exact ST.ne g1 h e.symm
    · have := (hv g1 e.symm).1; omega
  have hgb : w1.grownBy Wb none := ⟨hb.os, hb.tape, hb.output, hb.size, fun i hi _ => hb.block i hi⟩
  have o1 := ((own1.kept hgb (.inr (by simp [Value.ownBlock]))).kept gr2 (.inr hne))
  refine ⟨by rw [map_snoc1, List.length_append]; exact o1, by rw [map_snoc2, List.length_append]; exact own2, fun q e h => ?_, ?_⟩
  · simp [Value.ownBlock] at e h
    rcases at2 with h2 | h2
    · exact hne (by rw [h2]; simp; omega)
    · omega
  · have b1 : Below w.heap.size w Wa := ST.bel.trans (ha.mono ST.bel.size)
    have b2 : Below w.heap.size w w1 := b1.grown gr1 b1.size (fun q e => (hu q e).2)
    have b3 : Below w.heap.size w Wb := b2.trans (hb.mono b2.size)
    exact b3.grown gr2 b3.size (fun q e => (hv q e).2)

/-- The second first. -/
theorem twoB {w w2 Wa w1 Wb w3 : World} {u v : Value} {zs : List (Int × Int)} {k n : Int} {g1 c1 g2 c2 : Nat} (ST : TwS w w2 u v zs) (ha : Below w2.heap.size w2 Wa)
    (own2 : w1.ownsRow w.heap.size 3 1 (.slice (some ⟨g2, 0, none⟩) (zs.length + 1) c2) (zs.length + 1) (zs.map (fun x => Value.int .i64 x.2) ++ [.int .i64 n])) (gr2 : Wa.grownBy w1 v.ownBlock) (at2 : v.ownBlock = some g2 ∨ g2 = Wa.heap.size) (hb : Below w1.heap.size w1 Wb) (lt2 : g2 < w1.heap.size)
    (own1 : w3.ownsRow w.heap.size 3 1 (.slice (some ⟨g1, 0, none⟩) (zs.length + 1) c1) (zs.length + 1) (zs.map (fun x => Value.int .i64 x.1) ++ [.int .i64 k])) (gr1 : Wb.grownBy w3 u.ownBlock) (at1 : u.ownBlock = some g1 ∨ g1 = Wb.heap.size) :
    TwS w w3 (.slice (some ⟨g1, 0, none⟩) (zs.length + 1) c1) (.slice (some ⟨g2, 0, none⟩) (zs.length + 1) c2) (zs ++ [(k, n)]) := by
  have s1 := ha.size
  have s2 := gr2.size
  have s3 := hb.size
  have hv : ∀ q, v.ownBlock = some q → q < w2.heap.size ∧ w.heap.size ≤ q := fun q e => ⟨(ST.own2.lt q e).2, (ST.own2.lt q e).1⟩
  have hu : ∀ q, u.ownBlock = some q → q < w2.heap.size ∧ w.heap.size ≤ q := fun q e => ⟨(ST.own1.lt q e).2, (ST.own1.lt q e).1⟩
  have hne : some g2 ≠ u.ownBlock := fun e => by
    rcases at2 with h | h
    · exact ST.ne g2 e.symm h
    · have := (hu g2 e.symm).1; omega
  have hgb : w1.grownBy Wb none := ⟨hb.os, hb.tape, hb.output, hb.size, fun i hi _ => hb.block i hi⟩
  have o2 := ((own2.kept hgb (.inr (by simp [Value.ownBlock]))).kept gr1 (.inr hne))
  refine ⟨by rw [map_snoc1, List.length_append]; exact own1, by rw [map_snoc2, List.length_append]; exact o2, fun q e h => ?_, ?_⟩
  · simp [Value.ownBlock] at e h
    rcases at1 with h2 | h2
    · exact hne (by rw [h2]; simp; omega)
    · omega
  · have b1 : Below w.heap.size w Wa := ST.bel.trans (ha.mono ST.bel.size)
    have b2 : Below w.heap.size w w1 := b1.grown gr2 b1.size (fun q e => (hv q e).2)
    have b3 : Below w.heap.size w Wb := b2.trans (hb.mono b2.size)
    exact b3.grown gr1 b3.size (fun q e => (hu q e).2)

end Go.Proofs.Ytaonlpjfbajlcaa

namespace Go.Proofs.Ytaonlpjfbajlcaa
open Go.RowKit

/-- What stands while the places are found: the copied row, the box of what is left, two rows. -/
structure FfS (w W : World) (ua : Option Addr) (N B : Nat) (x : RsD) (g : Nat → SzD) : Prop where
  row : N = 0 ∨ ∃ G, ua = some ⟨G, 0, none⟩ ∧ w.heap.size ≤ G ∧ CpR W G N g
  bx : RsR W B x
  bel : Below w.heap.size w W

theorem FfS.next {w W W' : World} {ua : Option Addr} {N B : Nat} {x : RsD} {g : Nat → SzD} (h : FfS w W ua N B x g) (hb : Below W.heap.size W W') : FfS w W' ua N B x g := by
  refine ⟨?_, (hb.block _ (Array.getElem?_eq_some_iff.1 h.bx).1).trans h.bx, h.bel.trans (hb.mono h.bel.size)⟩
  rcases h.row with e | ⟨G, e, hG, hr⟩
  · exact .inl e
  · exact .inr ⟨G, e, hG, hr.of_block (hb.block _ hr.lt)⟩

theorem SzR.alloc2 {w : World} {b : Nat} {s : SzD} (h : SzR w b s) (o : Obj) : SzR (w.alloc o) b s := (((Below.refl _ w).alloc (Nat.le_refl _) o).block b h.lt).trans h

theorem SzR.grown2 {w w' : World} {b : Nat} {s : SzD} {row : Option Nat} (h : SzR w b s) (hg : w.grownBy w' row) (hne : some b ≠ row) : SzR w' b s := (hg.block b h.lt hne).trans h

theorem SzR.c2 {w : World} {b : Nat} {s : SzD} (h : SzR w b s) : w.cell? ⟨b, 2, none⟩ = some (.int .i64 s.fr) := h.cells.2.2.1

/-- What stands while each gets its own. -/
structure FzS (w W : World) (ua : Option Addr) (G N : Nat) (g : Nat → SzD) (pa : Option Addr) (C : Nat) (pl : Nat → Int) (ga : Option Addr) (L : Nat) (p : Nat → Int) : Prop where
  row : N = 0 ∨ (ua = some ⟨G, 0, none⟩ ∧ w.heap.size ≤ G ∧ CpR W G N g)
  pl : ArN W pa C pl G
  got : ArN W ga L p G
  bel : Below w.heap.size w W

theorem FzS.next {w W W' : World} {ua pa ga : Option Addr} {G N C L : Nat} {g : Nat → SzD} {pl p : Nat → Int} (h : FzS w W ua G N g pa C pl ga L p) (hb : Below W.heap.size W W') : FzS w W' ua G N g pa C pl ga L p :=
  ⟨h.row.imp id (fun r => ⟨r.1, r.2.1, r.2.2.of_block (hb.block _ r.2.2.lt)⟩), h.pl.next hb, h.got.next hb, h.bel.trans (hb.mono h.bel.size)⟩

theorem FzS.ext {w W : World} {ua pa ga : Option Addr} {G N C L : Nat} {g g' : Nat → SzD} {pl p : Nat → Int} (h : FzS w W ua G N g pa C pl ga L p) (e : ∀ k, k < N → g k = g' k) : FzS w W ua G N g' pa C pl ga L p :=
  ⟨h.row.imp id (fun r => ⟨r.1, r.2.1, r.2.2.ext e⟩), h.pl, h.got, h.bel⟩

theorem FzS.put {w W : World} {ua pa ga : Option Addr} {G N C L : Nat} {g : Nat → SzD} {pl p : Nat → Int} (h : FzS w W ua G N g pa C pl ga L p) {k : Nat} (hk : k < N) (s : SzD) : FzS w (((((((W.setCell ⟨G, k * 7, none⟩ (.int .i64 s.mn)).setCell ⟨G, k * 7 + 1, none⟩ (.int .i64 s.mx)).setCell ⟨G, k * 7 + 2, none⟩ (.int .i64 s.fr)).setCell ⟨G, k * 7 + 3, none⟩ (.bool s.fit)).setCell ⟨G, k * 7 + 4, none⟩ (.int .i64 s.cap)).setCell ⟨G, k * 7 + 5, none⟩ (.int .i64 s.base)).setCell ⟨G, k * 7 + 6, none⟩ (.int .i64 s.limit)) ua G N (fun i => if i = k then s else g i) pa C pl ga L p := by
  rcases h.row with e | ⟨e, hG, hr⟩
  · omega
  · exact ⟨.inr ⟨e, hG, hr.put hk s⟩, ((((((h.pl.put _ _).put _ _).put _ _).put _ _).put _ _).put _ _).put _ _, ((((((h.got.put _ _).put _ _).put _ _).put _ _).put _ _).put _ _).put _ _, ((((((h.bel.setCell (p := ⟨G, k * 7, none⟩) hG _).setCell (p := ⟨G, k * 7 + 1, none⟩) hG _).setCell (p := ⟨G, k * 7 + 2, none⟩) hG _).setCell (p := ⟨G, k * 7 + 3, none⟩) hG _).setCell (p := ⟨G, k * 7 + 4, none⟩) hG _).setCell (p := ⟨G, k * 7 + 5, none⟩) hG _).setCell (p := ⟨G, k * 7 + 6, none⟩) hG _⟩

set_option maxRecDepth 100000 in
set_option maxHeartbeats 16000000 in
theorem fill26_any (v : Value) (l : List SzD) (aa : Option Addr) (M ca : Nat) (f : Nat → Int) (size : Int) (w : World) (h : SzL w v l) (ha : ArI w aa M f) (hN : l.length ≤ 60000) :
    Calls Try.prog 10 #[v, .slice aa M ca, .int .i64 size] w fun e w' => ∃ u out, e = .returned u ∧ SzL w' u out ∧ Below w.heap.size w w' ∧ FillQ l M f size out := by
  have HS := hide h
  have HA := hide ha
  have CC := hide (clone_sz v l w h (by omega))
  have CG := hide (fun W (hb : Below w.heap.size w W) => isGood26_any v l aa M ca f (.slice none 0 0) [] size W (h.below hb) (ha.below hb) (.inl ⟨rfl, none, 0, rfl⟩) (by omega) (by simp))
  have HGP := hide (fun (hg : good26 l M f [] size = true) => good26_parts hg)
  have CO := hide (fun W (hb : Below w.heap.size w W) hg => rowOf_any v l W (h.below hb) (by omega) hg)
  have HQ : Hid (∀ out, FillQ l M f size out = ((good26 l M f [] size = false ∧ out = l) ∨ (good26 l M f [] size = true ∧ ∃ ds : List (ordI l), ds.Pairwise (fun x y => ltOf (cfI l) y x = false) ∧ (ds.map (fun x => x.val)).Perm (orL l l.length) ∧ out = fillO l (rstV l 0 l.length (lsV size f M) (ds.map (fun x => x.val)))))) := hide (fun out => rfl)
  obtain ⟨ao, cap, rfl⟩ := h.slice
  generalize FillQ l M f size = FQ at *
  generalize hGG : good26 l M f [] size = GD at *
  clear h ha hGG
  go_enter Try.func10, Try.ntmps10
  go_wp2_with fail
  refine Calls.mono CC.out ?_
  rintro e w1 ⟨u, rfl, hown, hbel⟩
  obtain ⟨ua, uc, rfl⟩ := own_sl22 hown
  have B1 := hide hbel
  have ROW : Hid (l.length = 0 ∨ ∃ G, ua = some ⟨G, 0, none⟩ ∧ w.heap.size ≤ G ∧ CpR w1 G l.length (fun i => l.getD i noSz)) := hide (by
    by_cases hN1 : l.length = 0
    · exact .inl hN1
    · rcases hown.2 with ⟨hv, hn⟩ | ⟨g, cap', cur, hv, hb, hrest⟩
      · exact absurd hn hN1
      · obtain ⟨h1, h2⟩ : ua = some ⟨g, 0, none⟩ ∧ uc = cap' := by simpa using hv
        subst h1 h2
        exact .inr ⟨g, rfl, hb, CpR.own hown rfl⟩)
  clear hbel hown CC
  cases GD
  · have HV := hide (((HQ.out) l).symm ▸ (Or.inl ⟨rfl, rfl⟩ : (false = false ∧ l = l) ∨ _))
    have C1 := hide ((CG.out) _ B1.out)
    have HL : Hid (SzL w1 (.slice ua l.length uc) l) := hide (by
      rcases ROW.out with e | ⟨G, e, hG, hr⟩
      · exact .inl ⟨List.length_eq_zero_iff.1 e, _, _, by rw [e]⟩
      · rw [e]
        have hx := cpR_SzL (cap := uc) hr
        have e2 : (List.range l.length).map (fun i => l.getD i noSz) = l := by
          apply List.ext_getElem (by simp)
          intro i h1 h2
          simp [List.getD_eq_getElem?_getD, List.getElem?_eq_getElem h2]
        rw [e2] at hx
        exact hx)
    clear CG HGP CO ROW HQ
    go_wp2_with fail
    refine Calls.mono C1.out ?_
    rintro e w2 ⟨rfl, hb⟩
    have B2 := hide ((B1.out).trans (hb.mono (B1.out).size))
    have HL2 := hide ((HL.out).below hb)
    clear hb
    go_wp2_with fail
    go_ret
    exact ⟨_, l, rfl, HL2.out, B2.out, HV.out⟩
  · obtain ⟨hMN, hgs, hz0, hz1⟩ := (HGP.out) (by trivial)
    have HMN := hide hMN
    have HGS := hide hgs
    have C1 := hide ((CG.out) _ B1.out)
    clear CG HGP hgs hMN
    go_wp2_with fail
    refine Calls.mono C1.out ?_
    rintro e w2 ⟨rfl, hb⟩
    have B2 := hide ((B1.out).trans (hb.mono (B1.out).size))
    have ROW2 : Hid (l.length = 0 ∨ ∃ G, ua = some ⟨G, 0, none⟩ ∧ w.heap.size ≤ G ∧ CpR w2 G l.length (fun i => l.getD i noSz)) := hide ((ROW.out).imp id (fun ⟨G, e, hG, hr⟩ => ⟨G, e, hG, hr.of_block (hb.block _ hr.lt)⟩))
    have C2 := hide ((CO.out) w2 B2.out (fun k hk => ⟨((HGS.out) k hk).1, ((HGS.out) k hk).2.2⟩))
    clear hb C1 CO B1 ROW
    go_wp2_with fail
    refine Calls.mono C2.out ?_
    rintro e w3 ⟨uo, ds, rfl, hrd, hpw, hpm, hb⟩
    have B3 := hide ((B2.out).trans (hb.mono (B2.out).size))
    have ROW3 : Hid (l.length = 0 ∨ ∃ G, ua = some ⟨G, 0, none⟩ ∧ w.heap.size ≤ G ∧ CpR w3 G l.length (fun i => l.getD i noSz)) := hide ((ROW2.out).imp id (fun ⟨G, e, hG, hr⟩ => ⟨G, e, hG, hr.of_block (hb.block _ hr.lt)⟩))
    have HG3 : Hid (∀ k, k < l.length → 0 ≤ (l.getD k noSz).base ∧ (l.getD k noSz).base ≤ 68719476736 ∧ 0 ≤ (l.getD k noSz).fr ∧ (l.getD k noSz).fr ≤ 1073741824) := hide (fun k hk => by
      have g := (HGS.out) k hk
      have g1 := good_base g.1
      have g2 := good_fr g.1
      exact ⟨g1.1, g.2.2, g2.1, g2.2⟩)
    have hfb : ∀ k, k < M → 0 ≤ f k ∧ f k ≤ 68719476736 := fun k hk => isSz_bd ((HGS.out) k (by have := HMN.out; omega)).2.1
    have CL := hide (less26_any size aa M ca f w3 ((HA.out).below B3.out) (by omega) (fun k hk => by have := hfb k hk; omega) (by have := HMN.out; omega))
    have hls := lsV_bd (n := size) (f := f) hz0 M (fun k hk => (hfb k hk).1)
    have hdl : ds.length ≤ l.length := by
      have e1 := hpm.length_eq
      rw [List.length_map] at e1
      rw [e1]
      unfold orL
      exact Nat.le_trans (List.length_filter_le _ _) (by simp)
    have CR : Hid (Calls Try.prog 20 #[.agg #[.slice ao l.length cap, uo], .agg #[.int .i64 0, .int .i64 (l.length : Int)], .int .i64 (lsV size f M)] w3 fun e w' => e = .returned (.agg (rsC (rstV l 0 l.length (lsV size f M) (ds.map (fun x => x.val))))) ∧ Below w3.heap.size w3 w') := hide (rest_any (.slice ao l.length cap) uo l ds 0 l.length (lsV size f M) w3 ((HS.out).below B3.out) hrd (by omega) (by omega) (Nat.zero_le _) (Nat.le_refl _) hls.1 (by omega) HG3.out)
    have HV : Hid (∀ out, out = fillO l (rstV l 0 l.length (lsV size f M) (ds.map (fun x => x.val))) → FQ out) := hide (fun out ho => by rw [HQ.out]; exact Or.inr ⟨by trivial, ds, hpw, hpm, ho⟩)
    have hXl := rstV_left (l := l) (a := 0) (b := l.length) (fun k hk => ⟨((HG3.out) k hk).1, ((HG3.out) k hk).2.2⟩) (Nat.le_refl _) hls.1 (ds.map (fun x => x.val))
    have hXf := rstV_fr (l := l) (a := 0) (b := l.length) (fun k hk => ⟨((HG3.out) k hk).1, ((HG3.out) k hk).2.2⟩) (Nat.le_refl _) hls.1 (ds.map (fun x => x.val))
    have hRF := (rest_facts (fun k hk => ⟨((HG3.out) k hk).1, ((HG3.out) k hk).2.2.1⟩) hls.1 hpw hpm).2
    have HFL : Hid (∀ k, k < l.length → fbB l (rstV l 0 l.length (lsV size f M) (ds.map (fun x => x.val))) k = true → (l.getD k noSz).fr ≤ (rstV l 0 l.length (lsV size f M) (ds.map (fun x => x.val))).fr) := hide (fun k hk hb => fr_le hRF (fun k hk => ((HG3.out) k hk).2.2.1) k hk hb)
    clear hRF
    generalize rstV l 0 l.length (lsV size f M) (ds.map (fun x => x.val)) = X at *
    generalize lsV size f M = sp at *
    obtain ⟨xa, xb, xc⟩ := X
    unfold rsC at CR
    simp only at CR hXl hXf
    clear hrd hpw hpm C2 hdl HQ B2 ROW2 HGS hfb
    go_wp2_with fail
    refine Calls.mono CL.out ?_
    rintro e w4 ⟨rfl, rfl⟩
    go_wp2_with fail
    refine Calls.mono CR.out ?_
    rintro e w5 ⟨rfl, hb5⟩
    have FF0 : Hid (FfS w (w5.alloc (.cells #[.int .i64 xa, .int .i64 xb, .int .i64 xc] 41)) ua l.length w5.heap.size ⟨xa, xb, xc⟩ (fun i => l.getD i noSz)) := hide (by
      have hb6 : Below w5.heap.size w5 (w5.alloc (.cells #[.int .i64 xa, .int .i64 xb, .int .i64 xc] 41)) := (Below.refl _ w5).alloc (Nat.le_refl _) _
      refine ⟨?_, RsR.new w5 ⟨xa, xb, xc⟩, ((B3.out).trans (hb5.mono (B3.out).size)).trans (hb6.mono (((B3.out).trans (hb5.mono (B3.out).size))).size)⟩
      rcases ROW3.out with e | ⟨G, e, hG, hr⟩
      · exact .inl e
      · have hr5 := hr.of_block (hb5.block _ hr.lt)
        exact .inr ⟨G, e, hG, hr5.of_block (hb6.block _ hr5.lt)⟩)
    clear hb hb5 CL CR B3 ROW3
    go_upto_region 5 with fail
    generalize w5.alloc (.cells #[.int .i64 xa, .int .i64 xb, .int .i64 xc] 41) = w6 at *
    generalize w5.heap.size = B8 at *
    obtain ⟨N, hN0⟩ : ∃ N, N = l.length := ⟨_, rfl⟩
    have HNL := hide hN0
    have HS6 := hide ((HS.out).below (FF0.out).bel)
    have HGN : Hid (∀ k, k < N → 0 ≤ (l.getD k noSz).base ∧ (l.getD k noSz).base ≤ 68719476736 ∧ 0 ≤ (l.getD k noSz).fr ∧ (l.getD k noSz).fr ≤ 1073741824) := hide (fun k hk => (HG3.out) k (by omega))
    rw [← hN0] at hN hXf FF0 HS6
    rw [← hN0]
    clear hN0 HG3 HS
    obtain ⟨i0, hinf, hz0', hz1', hz2'⟩ := info_parts info_intF
    go_wp2_with fail
    go_loopw [9, 10, 34] (fun u4 u5 i wr => ∃ k : Nat, k ≤ N ∧ i = .int .i64 (k : Int) ∧ Hid (TwS w6 wr u4 u5 (zsF l (fbB l ⟨xa, xb, xc⟩) k))) (fun _ _ i _ => N - (intOf i).toNat)
    case atStart => exact ⟨0, Nat.zero_le _, by go_num, hide ⟨World.ownsRow_nil _ _ _ _, World.ownsRow_nil _ _ _ _, fun q h => by simp [Value.ownBlock] at h, Below.refl _ _⟩⟩
    case round =>
      obtain ⟨k, hk, rfl, ST⟩ := hrel
      by_cases hkl : k < N
      · have hi : (k : Int) < (N : Int) := by omega
        have hn2 : ¬ (k : Int) < 0 := by omega
        have hkL : k < l.length := by rw [← HNL.out]; exact hkl
        obtain ⟨bb, off, hao, hlt, x0, x1, x2, x3, x4, x5, x6⟩ := ((HS6.out).below (ST.out).bel).at hkL
        have hgn := (HGN.out) k hkl
        have hbt : fbB l ⟨xa, xb, xc⟩ k = ((l.getD k noSz).mx == 5 && !stf ⟨xa, xb, xc⟩ (l.getD k noSz)) := rfl
        have CF := hide (fun W => isFlex26_any (l.getD k noSz) W)
        have CS := hide (fun W => isStiff26_any ⟨xa, xb, xc⟩ (l.getD k noSz) W (by simp only; omega) (by simp only; omega) (by omega) (by omega))
        subst hao
        have hse : (l.getD k noSz).fr = (l.getD k noSz).fr := rfl
        obtain ⟨sd, hsd⟩ : ∃ s, s = l.getD k noSz := ⟨_, rfl⟩
        rw [← hsd] at x0 x1 x2 x3 x4 x5 x6 hgn hbt CF CS
        obtain ⟨a1, a2, a3, q, a5, a6, a7⟩ := sd
        have HSE : Hid ((l.getD k noSz).fr = a3) := hide (by rw [← hsd])
        have HBT0 := hide hbt
        clear hse hsd hbt
        simp only at x0 x1 x2 x3 x4 x5 x6 hgn
        unfold szC rsC at CS
        unfold szC at CF
        simp only at CS CF
        have hL0 : SzR (wr.alloc (.cells #[.int .i64 a1, .int .i64 a2, .int .i64 a3, .bool q, .int .i64 a5, .int .i64 a6, .int .i64 a7] 32)) wr.heap.size ⟨a1, a2, a3, q, a5, a6, a7⟩ := SzR.new wr ⟨a1, a2, a3, q, a5, a6, a7⟩
        have STV := hide ((ST.out).next ((Below.refl _ wr).alloc (Nat.le_refl _) (.cells #[.int .i64 a1, .int .i64 a2, .int .i64 a3, .bool q, .int .i64 a5, .int .i64 a6, .int .i64 a7] 32)))
        have hfar10 : some wr.heap.size ≠ u9.ownBlock := fun e => by have := ((ST.out).own1.lt _ e.symm).2; omega
        have hfar20 : some wr.heap.size ≠ u10.ownBlock := fun e => by have := ((ST.out).own2.lt _ e.symm).2; omega
        clear ST
        go_upto_region 9 with fail
        generalize wr.alloc (.cells #[.int .i64 a1, .int .i64 a2, .int .i64 a3, .bool q, .int .i64 a5, .int .i64 a6, .int .i64 a7] 32) = w7 at *
        generalize wr.heap.size = V at *
        have HL0 := hide hL0
        obtain ⟨t0, t1, t2, t3, t4, t5, t6⟩ := hL0.cells
        obtain ⟨y0, y1, y2⟩ := ((FF0.out).next (STV.out).bel).bx.cells
        clear x0 x1 x2 x3 x4 x5 x6 hL0
        generalize hmx : (a2 == 5) = mx at *
        clear hmx
        cases mx
        · have HBT : Hid (fbB l ⟨xa, xb, xc⟩ k = false) := hide (by rw [HBT0.out]; rfl)
          have HZ1 := hide (zsF_succ_no (l := l) (b := fbB l ⟨xa, xb, xc⟩) (k := k) HBT.out)
          clear HBT0 CS
          go_wp2_with fail
          refine Calls.mono ((CF.out) _) ?_
          rintro e w8 ⟨rfl, hb8⟩
          have ST8 := hide ((STV.out).next hb8)
          clear hb8
          go_wp2_with fail
          go_roundw
          case rel => exact ⟨k + 1, by omega, by go_num, hide (by rw [HZ1.out]; exact ST8.out)⟩
          case measure => simp [intOf]; omega
        · generalize hst : stf ⟨xa, xb, xc⟩ ⟨a1, a2, a3, q, a5, a6, a7⟩ = sf at *
          clear hst
          go_wp2_with fail
          refine Calls.mono ((CF.out) _) ?_
          rintro e w8 ⟨rfl, hb8⟩
          have ST8 := hide ((STV.out).next hb8)
          have HL8 : Hid (SzR w8 V ⟨a1, a2, a3, q, a5, a6, a7⟩) := hide ((HL0.out).below hb8 (HL0.out).lt)
          clear t0 t1 t2 t3 t4 t5 t6 y0 y1 y2 hb8 CF
          obtain ⟨t0, t1, t2, t3, t4, t5, t6⟩ := (HL8.out).cells
          obtain ⟨y0, y1, y2⟩ := ((FF0.out).next (ST8.out).bel).bx.cells
          cases sf
          · have HBT : Hid (fbB l ⟨xa, xb, xc⟩ k = true) := hide (by rw [HBT0.out]; rfl)
            clear HBT0
            go_wp2_with fail
            refine Calls.mono ((CS.out) _) ?_
            rintro e w9 ⟨rfl, hb9⟩
            have STV := hide ((ST8.out).next hb9)
            have hL : SzR w9 V ⟨a1, a2, a3, q, a5, a6, a7⟩ := (HL8.out).below hb9 (HL8.out).lt
            have ST2 := STV
            clear t0 t1 t2 t3 t4 t5 t6 y0 y1 y2 hb9 CS
            obtain ⟨t0, t1, t2, t3, t4, t5, t6⟩ := hL.cells
            generalize w9 = W2 at *
            have hfar1 := hfar10
            have hfar2 := hfar20
            have HZY : Hid (zsF l (fbB l ⟨xa, xb, xc⟩) (k + 1) = zsF l (fbB l ⟨xa, xb, xc⟩) k ++ [((k : Int), a3)]) := hide (by rw [zsF_succ_yes HBT.out, HSE.out])
            have hcl : (zsF l (fbB l ⟨xa, xb, xc⟩) k).length ≤ k := by rw [zsF_len]; exact cnt_le _ _
            go_upto_region 10 with fail
            generalize zsF l (fbB l ⟨xa, xb, xc⟩) k = zs at *
            generalize hkz : (k : Int) = kz at *
            have HKZ := hide hkz
            clear hkz
            have hsz0 := (ST2.out).bel.size
            have NE1 : u9.ownBlock = none ∨ u9.ownBlock ≠ u10.ownBlock := by
              rcases Option.eq_none_or_eq_some u9.ownBlock with e | ⟨q, e⟩
              · exact .inl e
              · exact .inr (fun h => (ST2.out).ne q e (h.symm.trans e))
            have NE2 : u10.ownBlock = none ∨ u10.ownBlock ≠ u9.ownBlock := by
              rcases Option.eq_none_or_eq_some u10.ownBlock with e | ⟨q, e⟩
              · exact .inl e
              · exact .inr (fun h => (ST2.out).ne q (h.symm.trans e) e)
            have e0d : W2.drew.cell? ⟨V, 2, none⟩ = some (.int .i64 a3) := hL.c2
            have Q1 : SzR (W2.alloc (.cells #[.int .i64 kz] 3)).drew V ⟨a1, a2, a3, q, a5, a6, a7⟩ := hL.alloc2 _
            have Q2 : SzR (W2.alloc (.cells #[.int .i64 a3] 3)).drew V ⟨a1, a2, a3, q, a5, a6, a7⟩ := hL.alloc2 _
            have Q12 : SzR ((W2.alloc (.cells #[.int .i64 kz] 3)).alloc (.cells #[.int .i64 a3] 3)).drew V ⟨a1, a2, a3, q, a5, a6, a7⟩ := (hL.alloc2 _).alloc2 _
            have Q21 : SzR ((W2.alloc (.cells #[.int .i64 a3] 3)).alloc (.cells #[.int .i64 kz] 3)).drew V ⟨a1, a2, a3, q, a5, a6, a7⟩ := (hL.alloc2 _).alloc2 _
            have HU1 : World.ownsRow (W2.alloc (.cells #[.int .i64 kz] 3)).drew w6.heap.size 3 1 u9 zs.length (zs.map (fun x => Value.int .i64 x.1)) := (ST2.out).own1.alloc _
            have HU2 : World.ownsRow (W2.alloc (.cells #[.int .i64 a3] 3)).drew w6.heap.size 3 1 u9 zs.length (zs.map (fun x => Value.int .i64 x.1)) := (ST2.out).own1.alloc _
            have HU12 : World.ownsRow ((W2.alloc (.cells #[.int .i64 kz] 3)).alloc (.cells #[.int .i64 a3] 3)).drew w6.heap.size 3 1 u9 zs.length (zs.map (fun x => Value.int .i64 x.1)) := ((ST2.out).own1.alloc _).alloc _
            have HU21 : World.ownsRow ((W2.alloc (.cells #[.int .i64 a3] 3)).alloc (.cells #[.int .i64 kz] 3)).drew w6.heap.size 3 1 u9 zs.length (zs.map (fun x => Value.int .i64 x.1)) := ((ST2.out).own1.alloc _).alloc _
            have HV1 : World.ownsRow (W2.alloc (.cells #[.int .i64 kz] 3)).drew w6.heap.size 3 1 u10 zs.length (zs.map (fun x => Value.int .i64 x.2)) := (ST2.out).own2.alloc _
            have HV2 : World.ownsRow (W2.alloc (.cells #[.int .i64 a3] 3)).drew w6.heap.size 3 1 u10 zs.length (zs.map (fun x => Value.int .i64 x.2)) := (ST2.out).own2.alloc _
            have HV12 : World.ownsRow ((W2.alloc (.cells #[.int .i64 kz] 3)).alloc (.cells #[.int .i64 a3] 3)).drew w6.heap.size 3 1 u10 zs.length (zs.map (fun x => Value.int .i64 x.2)) := ((ST2.out).own2.alloc _).alloc _
            have HV21 : World.ownsRow ((W2.alloc (.cells #[.int .i64 a3] 3)).alloc (.cells #[.int .i64 kz] 3)).drew w6.heap.size 3 1 u10 zs.length (zs.map (fun x => Value.int .i64 x.2)) := ((ST2.out).own2.alloc _).alloc _
            have NB1 : Nw (W2.alloc (.cells #[.int .i64 kz] 3)).drew W2.heap.size kz := Nw.new W2 kz
            have NB1a : Nw ((W2.alloc (.cells #[.int .i64 kz] 3)).alloc (.cells #[.int .i64 a3] 3)).drew W2.heap.size kz := (Nw.new W2 kz).alloc _
            have NB2 : Nw (W2.alloc (.cells #[.int .i64 a3] 3)).drew W2.heap.size a3 := Nw.new W2 a3
            have NB2a : Nw ((W2.alloc (.cells #[.int .i64 a3] 3)).alloc (.cells #[.int .i64 kz] 3)).drew W2.heap.size a3 := (Nw.new W2 a3).alloc _
            have NB1b : Nw ((W2.alloc (.cells #[.int .i64 a3] 3)).alloc (.cells #[.int .i64 kz] 3)).drew (W2.heap.size + 1) kz := Nw.new' (W2.alloc (.cells #[.int .i64 a3] 3)) _ _ (by simp)
            have NB2b : Nw ((W2.alloc (.cells #[.int .i64 kz] 3)).alloc (.cells #[.int .i64 a3] 3)).drew (W2.heap.size + 1) a3 := Nw.new' (W2.alloc (.cells #[.int .i64 kz] 3)) _ _ (by simp)
            have F1a : some W2.heap.size ≠ u9.ownBlock := fun e => by have := ((ST2.out).own1.lt _ e.symm).2; omega
            have F1b : some (W2.heap.size + 1) ≠ u9.ownBlock := fun e => by have := ((ST2.out).own1.lt _ e.symm).2; omega
            have F2a : some W2.heap.size ≠ u10.ownBlock := fun e => by have := ((ST2.out).own2.lt _ e.symm).2; omega
            have F2b : some (W2.heap.size + 1) ≠ u10.ownBlock := fun e => by have := ((ST2.out).own2.lt _ e.symm).2; omega
            have BA1 : Below W2.heap.size W2 (W2.alloc (.cells #[.int .i64 kz] 3)).drew := ((Below.refl _ W2).alloc (Nat.le_refl _) _).drew
            have BA2 : Below W2.heap.size W2 (W2.alloc (.cells #[.int .i64 a3] 3)).drew := ((Below.refl _ W2).alloc (Nat.le_refl _) _).drew
            have BA12 : Below W2.heap.size W2 ((W2.alloc (.cells #[.int .i64 kz] 3)).alloc (.cells #[.int .i64 a3] 3)).drew := (((Below.refl _ W2).alloc (Nat.le_refl _) _).alloc (by simp) _).drew
            have BA21 : Below W2.heap.size W2 ((W2.alloc (.cells #[.int .i64 a3] 3)).alloc (.cells #[.int .i64 kz] 3)).drew := (((Below.refl _ W2).alloc (Nat.le_refl _) _).alloc (by simp) _).drew
            clear hL
            go_region_held3 (fun w' => w'.cell? ⟨V, 2, none⟩ = some (.int .i64 a3))
                (first | exact (by assumption) | exact Q1.c2 | exact Q2.c2 | exact Q12.c2 | exact Q21.c2 | exact (hq1.alloc2 _).c2 | exact (hq2.alloc2 _).c2)
                (first
                  | (refine step_append_lies _ rfl (.tmp 47) (.tmp 49) 23 rfl w6.heap.size 3 i0 _ 1 8 Try.underlying23 hinf hz0' hz1' hz2' rfl (by decide) u9 zs.length (zs.map (fun x => Value.int .i64 x.1)) (by rfl) ?_ _ 1 1 [.int .i64 kz] (by rfl) rfl ?_ (by simp [Value.oneCell']) (by omega) (by unfold maxLen; omega) (by omega) ?_ _ rfl ?_; (first | exact HU1 | exact HU12 | exact HU21 | exact HU12.kept gr2 NE1 | exact HU21.kept gr2 NE1 | exact (HU2.kept gr2 NE1).alloc _); (first | exact NB1.news | exact NB1a.news | exact NB1b.news | exact (NB1a.grown gr2 F2a).news | exact (NB1b.grown gr2 F2b).news | exact (Nw.new _ _).news); (first | (simp; omega) | (have hsz := gr2.size; simp at hsz ⊢; omega)); intro g1 cap1 w11 own1 gr1 at1 lt1; (have hq1 : SzR w11 V ⟨a1, a2, a3, q, a5, a6, a7⟩ := by first | exact Q1.grown2 gr1 hfar1 | exact Q2.grown2 gr1 hfar1 | exact Q12.grown2 gr1 hfar1 | exact Q21.grown2 gr1 hfar1 | exact hq2.grown2 gr1 hfar1 | exact (hq2.alloc2 _).grown2 gr1 hfar1); have hqa1 := hq1.c2)
                  | (refine step_append_lies _ rfl (.tmp 51) (.tmp 54) 23 rfl w6.heap.size 3 i0 _ 1 8 Try.underlying23 hinf hz0' hz1' hz2' rfl (by decide) u10 zs.length (zs.map (fun x => Value.int .i64 x.2)) (by rfl) ?_ _ 1 1 [.int .i64 a3] (by rfl) rfl ?_ (by simp [Value.oneCell']) (by omega) (by unfold maxLen; omega) (by omega) ?_ _ rfl ?_; (first | exact HV2 | exact HV12 | exact HV21 | exact HV12.kept gr1 NE2 | exact HV21.kept gr1 NE2 | exact (HV1.kept gr1 NE2).alloc _); (first | exact NB2.news | exact NB2a.news | exact NB2b.news | exact (NB2a.grown gr1 F1a).news | exact (NB2b.grown gr1 F1b).news | exact (Nw.new _ _).news); (first | (simp; omega) | (have hsz := gr1.size; simp at hsz ⊢; omega)); intro g2 cap2 w22 own2 gr2 at2 lt2; (have hq2 : SzR w22 V ⟨a1, a2, a3, q, a5, a6, a7⟩ := by first | exact Q1.grown2 gr2 hfar2 | exact Q2.grown2 gr2 hfar2 | exact Q12.grown2 gr2 hfar2 | exact Q21.grown2 gr2 hfar2 | exact hq1.grown2 gr2 hfar2 | exact (hq1.alloc2 _).grown2 gr2 hfar2); have hqa2 := hq2.c2))
            all_goals (go_wp2_with fail; go_roundw)
            all_goals first
              | (have hh := HKZ.out; simp [intOf]; omega)
              | (refine ⟨k + 1, by omega, by rw [← HKZ.out]; go_num, ?_⟩; rw [HZY.out]; first | exact hide (twoA ST2.out BA1 own1 gr1 at1 ((Below.refl _ _).alloc (Nat.le_refl _) _) lt1 own2 gr2 at2) | exact hide (twoA ST2.out BA12 own1 gr1 at1 (Below.refl _ _) lt1 own2 gr2 at2) | exact hide (twoA ST2.out BA21 own1 gr1 at1 (Below.refl _ _) lt1 own2 gr2 at2) | exact hide (twoB ST2.out BA2 own2 gr2 at2 ((Below.refl _ _).alloc (Nat.le_refl _) _) lt2 own1 gr1 at1) | exact hide (twoB ST2.out BA12 own2 gr2 at2 (Below.refl _ _) lt2 own1 gr1 at1) | exact hide (twoB ST2.out BA21 own2 gr2 at2 (Below.refl _ _) lt2 own1 gr1 at1))
          · have HBT : Hid (fbB l ⟨xa, xb, xc⟩ k = false) := hide (by rw [HBT0.out]; rfl)
            have HZ1 := hide (zsF_succ_no (l := l) (b := fbB l ⟨xa, xb, xc⟩) (k := k) HBT.out)
            clear HBT0
            go_wp2_with fail
            refine Calls.mono ((CS.out) _) ?_
            rintro e w9 ⟨rfl, hb9⟩
            have ST9 := hide ((ST8.out).next hb9)
            clear hb9
            go_wp2_with fail
            go_roundw
            case rel => exact ⟨k + 1, by omega, by go_num, hide (by rw [HZ1.out]; exact ST9.out)⟩
            case measure => simp [intOf]; omega
      · have hi : ¬ (k : Int) < (N : Int) := by omega
        have ST3 : Hid (TwS w6 wr u9 u10 (zsF l (fbB l ⟨xa, xb, xc⟩) N)) := hide (by rw [show N = k by omega]; exact ST.out)
        clear ST
        have RP := (ST3.out).own1
        have RQ := (ST3.out).own2
        have e1 : (zsF l (fbB l ⟨xa, xb, xc⟩) N).map (fun x => Value.int .i64 x.1) = (plL (fbB l ⟨xa, xb, xc⟩) N).map (Value.int .i64) := by rw [← zsF_fst, List.map_map]; rfl
        have e2 : (zsF l (fbB l ⟨xa, xb, xc⟩) N).map (fun x => Value.int .i64 x.2) = (frL l (fbB l ⟨xa, xb, xc⟩) N).map (Value.int .i64) := by rw [← zsF_snd, List.map_map]; rfl
        rw [e1] at RP
        rw [e2] at RQ
        have RP1 := readsF_owns RP
        have RQ1 := reads_owns RQ
        clear RP RQ e1 e2
        have hcnt := cnt_le (fbB l ⟨xa, xb, xc⟩) N
        have hfs : xc < 1000 → ∀ j, j < (frL l (fbB l ⟨xa, xb, xc⟩) N).length → 0 ≤ (frL l (fbB l ⟨xa, xb, xc⟩) N).getD j 0 ∧ (frL l (fbB l ⟨xa, xb, xc⟩) N).getD j 0 ≤ 1000 := fun hx j hj => by
          obtain ⟨q, hq, hb, -, e⟩ := frL_mem hj
          have h1 := (HFL.out) q (by rw [← HNL.out]; exact hq) hb
          have h2 := (HGN.out) q hq
          try simp only at h1
          omega
        have CS := hide (shared26_any ⟨xa, xb, xc⟩ u10 (frL l (fbB l ⟨xa, xb, xc⟩) N) wr RQ1 (by rw [frL_len]; omega) (by simp only; omega) (by simp only; omega) hfs)
        unfold rsC at CS
        simp only at CS
        obtain ⟨G, hGlt, hrow⟩ : ∃ G, G < w6.heap.size ∧ (N = 0 ∨ (ua = some ⟨G, 0, none⟩ ∧ w.heap.size ≤ G ∧ CpR wr G N (fun i => l.getD i noSz))) := by
          rcases ((FF0.out).next (ST3.out).bel).row with e | ⟨G, e, hG, hr⟩
          · exact ⟨0, by have := (Array.getElem?_eq_some_iff.1 (FF0.out).bx).1; omega, .inl e⟩
          · rcases (FF0.out).row with e' | ⟨G', e', hG', hr'⟩
            · exact ⟨0, by have := (Array.getElem?_eq_some_iff.1 (FF0.out).bx).1; omega, .inl e'⟩
            · have eg : G = G' := by rw [e] at e'; simpa using e'
              exact ⟨G, by rw [eg]; exact hr'.lt, .inr ⟨e, hG, hr⟩⟩
        obtain ⟨pa, pc, hpa, hpI⟩ := RP1.arN hGlt
        have hbr := ((FF0.out).next (ST3.out).bel).bel
        obtain ⟨y0, y1, y2⟩ := ((FF0.out).next (ST3.out).bel).bx.cells
        have hwsz := (ST3.out).bel.size
        have HPLO := hide (plL_of (fbB l ⟨xa, xb, xc⟩) N)
        have hpll := plL_len (fbB l ⟨xa, xb, xc⟩) N
        have hshl := shP_len ⟨xa, xb, xc⟩ (frL l (fbB l ⟨xa, xb, xc⟩) N)
        rw [frL_len] at hshl
        have HFO : Hid (fillO l ⟨xa, xb, xc⟩ = (List.range N).map (flG l (fbB l ⟨xa, xb, xc⟩) (shP ⟨xa, xb, xc⟩ (frL l (fbB l ⟨xa, xb, xc⟩) N)) (shP ⟨xa, xb, xc⟩ (frL l (fbB l ⟨xa, xb, xc⟩) N)).length)) := hide (by rw [HNL.out]; rfl)
        have HV2 := hide ((HV.out) _ rfl)
        rw [HFO.out] at HV2
        subst hpa
        clear RP1 RQ1 hfs HFL HV HFO ST3
        generalize shP ⟨xa, xb, xc⟩ (frL l (fbB l ⟨xa, xb, xc⟩) N) = P at *
        generalize fbB l ⟨xa, xb, xc⟩ = bF at *
        obtain ⟨PL, hPL⟩ : ∃ f : Nat → Int, f = fun k => (plL bF N).getD k 0 := ⟨_, rfl⟩
        have HPL2 : Hid (∀ i, i < cnt bF N → ∃ q, q < N ∧ bF q = true ∧ cnt bF q = i ∧ PL i = (q : Int)) := hide (by rw [hPL]; exact HPLO.out)
        rw [← hPL, hpll] at hpI
        rw [hpll]
        clear HPLO hpll hPL
        obtain ⟨C, hC⟩ : ∃ C, C = cnt bF N := ⟨_, rfl⟩
        rw [← hC] at hpI HPL2 hshl hcnt
        rw [← hC]
        clear hC
        go_wp2_with fail
        refine Calls.mono CS.out ?_
        rintro e w7 ⟨gu, rfl, hgu, hb7⟩
        obtain ⟨ga, gc, hga, hgI⟩ := hgu.arN (show G < wr.heap.size by omega)
        subst hga
        obtain ⟨p, hp⟩ : ∃ f : Nat → Int, f = fun k => P.getD k 0 := ⟨_, rfl⟩
        rw [← hp] at hgI
        obtain ⟨L, hL⟩ : ∃ L, L = P.length := ⟨_, rfl⟩
        rw [← hL] at hgI hshl HV2
        rw [← hL]
        have FZ0 : Hid (FzS w w7 ua G N (flG l bF P 0) pa C PL ga L p) := hide ⟨hrow.imp id (fun r => ⟨r.1, r.2.1, (r.2.2.of_block (hb7.block _ r.2.2.lt)).ext (fun i _ => (flG_zero l bF P i).symm)⟩), hpI.next hb7, hgI, hbr.trans (hb7.mono hbr.size)⟩
        have HPG : Hid (∀ i, P.getD i 0 = p i) := hide (fun i => by rw [hp])
        clear hb7 hpI hgI hrow hbr CS y0 y1 y2 hL hp hgu hGlt hwsz FF0
        go_wp2_with fail
        go_loopw [61] (fun i wr => ∃ j : Nat, j ≤ L ∧ i = .int .i64 (j : Int) ∧ Hid (FzS w wr ua G N (flG l bF P j) pa C PL ga L p)) (fun i _ => L - (intOf i).toNat)
        case atStart => exact ⟨0, Nat.zero_le _, by go_num, FZ0⟩
        case round =>
          clear FZ0
          obtain ⟨j, hj, rfl, ST⟩ := hrel
          by_cases hjl : j < L
          · have hij : (j : Int) < (L : Int) := by omega
            have hijC : (j : Int) < (C : Int) := by omega
            have hn2 : ¬ (j : Int) < 0 := by omega
            have hjC : j < C := by omega
            obtain ⟨q, hq, hbq, hcq, hpq⟩ := (HPL2.out) j hjC
            obtain ⟨hua, hGw, hrw⟩ : ua = some ⟨G, 0, none⟩ ∧ w.heap.size ≤ G ∧ CpR wr G N (flG l bF P j) := by
              rcases (ST.out).row with e | r
              · omega
              · exact r
            subst hua
            obtain ⟨b1, o1, hpa, hn1, e1⟩ := (ST.out).pl.at hjC
            obtain ⟨b2, o2, hga, hn3, e2⟩ := (ST.out).got.at hjl
            subst hpa hga
            rw [hpq] at e1
            have HC7 := hide (fun W (h : FzS w W (some ⟨G, 0, none⟩) G N (flG l bF P j) (some ⟨b1, o1, none⟩) C PL (some ⟨b2, o2, none⟩) L p) => (by
              rcases h.row with e | r
              · omega
              · exact r.2.2.seven hq : (∀ m, W.frozen? ⟨G, m, none⟩ = false) ∧ _))
            have HCP := hide (fun W (h : FzS w W (some ⟨G, 0, none⟩) G N (flG l bF P j) (some ⟨b1, o1, none⟩) C PL (some ⟨b2, o2, none⟩) L p) => (by
              obtain ⟨b', o', h1, -, h2⟩ := h.pl.at hjC
              obtain ⟨rfl, rfl⟩ : b1 = b' ∧ o1 = o' := by simpa using h1
              rw [hpq] at h2
              exact h2 : W.cell? ⟨b1, o1 + j, none⟩ = some (.int .i64 (q : Int))))
            rw [flG_at l bF P j q hcq] at HC7
            have CGr := hide (fun W => grown26_any (l.getD q noSz) (p j) W)
            have hsu := fun i => flG_succ l bF P j q i hbq hcq
            rw [HPG.out] at hsu
            have HSU := hide hsu
            have HPUT := hide (fun W (h : FzS w W (some ⟨G, 0, none⟩) G N (flG l bF P j) (some ⟨b1, o1, none⟩) C PL (some ⟨b2, o2, none⟩) L p) => (h.put hq (grnV (l.getD q noSz) (p j))).ext (fun i _ => hsu i))
            clear hsu hrw
            generalize grnV (l.getD q noSz) (p j) = z at *
            generalize l.getD q noSz = s at *
            generalize p j = n at *
            obtain ⟨z1, z2, z3, z4, z5, z6, z7⟩ := z
            obtain ⟨a1, a2, a3, a4, a5, a6, a7⟩ := s
            unfold szC at CGr
            simp only at CGr HC7 HPUT
            obtain ⟨fz, s0, s1, s2, s3, s4, s5, s6⟩ := (HC7.out) _ ST.out
            have hqN : (q : Int) < (N : Int) := by omega
            have hq0 : ¬ (q : Int) < 0 := by omega
            clear HPL2 HPG HSU hbq hcq hpq hn1 hn3
            go_upto_region 15 with fail
            have hm : Try.prog.follows .mixedOrders = true := by kernel_rfl
            refine wp_region_last (S := (fun X => X.cell? ⟨b1, o1 + j, none⟩ = some (.int .i64 (q : Int)) ∧ X.cell? ⟨G, q * 7, none⟩ = some (.int .i64 a1) ∧ X.cell? ⟨G, q * 7 + 1, none⟩ = some (.int .i64 a2) ∧ X.cell? ⟨G, q * 7 + 2, none⟩ = some (.int .i64 a3) ∧ X.cell? ⟨G, q * 7 + 3, none⟩ = some (.bool a4) ∧ X.cell? ⟨G, q * 7 + 4, none⟩ = some (.int .i64 a5) ∧ X.cell? ⟨G, q * 7 + 5, none⟩ = some (.int .i64 a6) ∧ X.cell? ⟨G, q * 7 + 6, none⟩ = some (.int .i64 a7))) (last := 15) hm ?_
            have hHeld : (fun X => X.cell? ⟨b1, o1 + j, none⟩ = some (.int .i64 (q : Int)) ∧ X.cell? ⟨G, q * 7, none⟩ = some (.int .i64 a1) ∧ X.cell? ⟨G, q * 7 + 1, none⟩ = some (.int .i64 a2) ∧ X.cell? ⟨G, q * 7 + 2, none⟩ = some (.int .i64 a3) ∧ X.cell? ⟨G, q * 7 + 3, none⟩ = some (.bool a4) ∧ X.cell? ⟨G, q * 7 + 4, none⟩ = some (.int .i64 a5) ∧ X.cell? ⟨G, q * 7 + 5, none⟩ = some (.int .i64 a6) ∧ X.cell? ⟨G, q * 7 + 6, none⟩ = some (.int .i64 a7)) wr.drew := ⟨e1, s0, s1, s2, s3, s4, s5, s6⟩
            show wpAnyL _ _ _ _ _ _ _ _ _ wr.drew
            refine wpAnyL_take (i := 0) (v := .slice (some ⟨G, 0, none⟩) N uc) rfl (by decide) (by kernel_rfl) (by kernel_rfl) (by kernel_rfl) (by kernel_rfl) (fun _ _ _ h => h) (Or.inl ⟨by rfl, ?hy0⟩) hHeld ?_
            case hy0 => (intro w hSw; (try dsimp only at hSw); go_simp)
            (try simp only [Act.put])
            refine wpAnyL_take (i := 1) (v := .slice (some ⟨b1, o1, none⟩) C pc) rfl (by decide) (by kernel_rfl) (by kernel_rfl) (by kernel_rfl) (by kernel_rfl) (fun _ _ _ h => h) (Or.inl ⟨by rfl, ?hy1⟩) hHeld ?_
            case hy1 => (intro w hSw; (try dsimp only at hSw); go_simp)
            (try simp only [Act.put])
            refine wpAnyL_take (i := 2) (v := .int .i64 (j : Int)) rfl (by decide) (by kernel_rfl) (by kernel_rfl) (by kernel_rfl) (by kernel_rfl) (fun _ _ _ h => h) (Or.inl ⟨by rfl, ?hy2⟩) hHeld ?_
            case hy2 => (intro w hSw; (try dsimp only at hSw); go_simp)
            (try simp only [Act.put])
            refine wpAnyL_take (i := 3) (v := .pointer (some ⟨b1, o1 + j, none⟩)) rfl (by decide) (by kernel_rfl) (by kernel_rfl) (by kernel_rfl) (by kernel_rfl) (fun _ _ _ h => h) (Or.inl ⟨by rfl, ?hy3⟩) hHeld ?_
            case hy3 => (intro w hSw; (try dsimp only at hSw); go_simp)
            (try simp only [Act.put])
            refine wpAnyL_take (i := 4) (v := .int .i64 (q : Int)) rfl (by decide) (by kernel_rfl) (by kernel_rfl) (by kernel_rfl) (by kernel_rfl) (fun _ _ _ h => h) (Or.inl ⟨by rfl, ?hy4⟩) hHeld ?_
            case hy4 => (intro w hSw; (try dsimp only at hSw); go_simp)
            (try simp only [Act.put])
            refine wpAnyL_take (i := 5) (v := .slice (some ⟨G, 0, none⟩) N uc) rfl (by decide) (by kernel_rfl) (by kernel_rfl) (by kernel_rfl) (by kernel_rfl) (fun _ _ _ h => h) (Or.inl ⟨by rfl, ?hy5⟩) hHeld ?_
            case hy5 => (intro w hSw; (try dsimp only at hSw); go_simp)
            (try simp only [Act.put])
            refine wpAnyL_take (i := 6) (v := .slice (some ⟨b1, o1, none⟩) C pc) rfl (by decide) (by kernel_rfl) (by kernel_rfl) (by kernel_rfl) (by kernel_rfl) (fun _ _ _ h => h) (Or.inl ⟨by rfl, ?hy6⟩) hHeld ?_
            case hy6 => (intro w hSw; (try dsimp only at hSw); go_simp)
            (try simp only [Act.put])
            refine wpAnyL_take (i := 7) (v := .int .i64 (j : Int)) rfl (by decide) (by kernel_rfl) (by kernel_rfl) (by kernel_rfl) (by kernel_rfl) (fun _ _ _ h => h) (Or.inl ⟨by rfl, ?hy7⟩) hHeld ?_
            case hy7 => (intro w hSw; (try dsimp only at hSw); go_simp)
            (try simp only [Act.put])
            refine wpAnyL_take (i := 8) (v := .pointer (some ⟨b1, o1 + j, none⟩)) rfl (by decide) (by kernel_rfl) (by kernel_rfl) (by kernel_rfl) (by kernel_rfl) (fun _ _ _ h => h) (Or.inl ⟨by rfl, ?hy8⟩) hHeld ?_
            case hy8 => (intro w hSw; (try dsimp only at hSw); go_simp)
            (try simp only [Act.put])
            refine wpAnyL_take (i := 9) (v := .int .i64 (q : Int)) rfl (by decide) (by kernel_rfl) (by kernel_rfl) (by kernel_rfl) (by kernel_rfl) (fun _ _ _ h => h) (Or.inl ⟨by rfl, ?hy9⟩) hHeld ?_
            case hy9 => (intro w hSw; (try dsimp only at hSw); go_simp)
            (try simp only [Act.put])
            refine wpAnyL_take (i := 10) (v := .pointer (some ⟨G, q * 7, none⟩)) rfl (by decide) (by kernel_rfl) (by kernel_rfl) (by kernel_rfl) (by kernel_rfl) (fun _ _ _ h => h) (Or.inl ⟨by rfl, ?hy10⟩) hHeld ?_
            case hy10 => (intro w hSw; (try dsimp only at hSw); go_simp)
            (try simp only [Act.put])
            refine wpAnyL_take (i := 11) (v := .agg #[.int .i64 a1, .int .i64 a2, .int .i64 a3, .bool a4, .int .i64 a5, .int .i64 a6, .int .i64 a7]) rfl (by decide) (by kernel_rfl) (by kernel_rfl) (by kernel_rfl) (by kernel_rfl) (fun _ _ _ h => h) (Or.inl ⟨by rfl, ?hy11⟩) hHeld ?_
            case hy11 => (intro w hSw; (try dsimp only at hSw); go_simp)
            (try simp only [Act.put])
            refine wpAnyL_take (i := 12) (v := .int .i64 n) rfl (by decide) (by kernel_rfl) (by kernel_rfl) (by kernel_rfl) (by kernel_rfl) (fun _ _ _ h => h) (Or.inl ⟨by rfl, ?hy12⟩) hHeld ?_
            case hy12 => (intro w hSw; (try dsimp only at hSw); go_simp)
            (try simp only [Act.put])
            refine wpAnyL_alone (i := 13) rfl (by kernel_rfl) (by rfl) (fun K hK => ?_)
            go_simp
            refine Calls.mono ((CGr.out) _) ?_
            rintro e8 w8 ⟨rfl, hb8⟩
            have ST8 := hide ((ST.out).next ((Below.refl _ wr).drew.trans hb8))
            obtain ⟨fz8, r0, r1, r2, r3, r4, r5, r6⟩ := (HC7.out) _ ST8.out
            have rp := (HCP.out) _ ST8.out
            have hHeldD : (fun X => X.cell? ⟨b1, o1 + j, none⟩ = some (.int .i64 (q : Int)) ∧ X.cell? ⟨G, q * 7, none⟩ = some (.int .i64 a1) ∧ X.cell? ⟨G, q * 7 + 1, none⟩ = some (.int .i64 a2) ∧ X.cell? ⟨G, q * 7 + 2, none⟩ = some (.int .i64 a3) ∧ X.cell? ⟨G, q * 7 + 3, none⟩ = some (.bool a4) ∧ X.cell? ⟨G, q * 7 + 4, none⟩ = some (.int .i64 a5) ∧ X.cell? ⟨G, q * 7 + 5, none⟩ = some (.int .i64 a6) ∧ X.cell? ⟨G, q * 7 + 6, none⟩ = some (.int .i64 a7)) w8 := ⟨rp, r0, r1, r2, r3, r4, r5, r6⟩
            refine hK.out _ _ (fun _ => hHeldD) ?_
            clear hK K
            (try simp only [Act.put])
            refine wpAnyL_take (i := 14) (v := .pointer (some ⟨G, q * 7, none⟩)) rfl (by decide) (by kernel_rfl) (by kernel_rfl) (by kernel_rfl) (by kernel_rfl) (fun _ _ _ h => h) (Or.inl ⟨by rfl, ?hy14⟩) hHeldD ?_
            case hy14 => (intro w hSw; (try dsimp only at hSw); go_simp)
            (try simp only [Act.put])
            refine wpAnyL_alone (i := 15) rfl (by kernel_rfl) (by rfl) (fun K hK => ?_)
            go_simp
            refine hK.out _ _ (fun h => absurd rfl h) ?_
            clear hK K
            (try simp only [Act.put])
            refine wpAnyL_done (by kernel_rfl) ?_ _
            have ST9 := hide ((HPUT.out) _ ST8.out)
            try simp only at ST9
            clear hHeld hHeldD fz fz8 r0 r1 r2 r3 r4 r5 r6 rp s0 s1 s2 s3 s4 s5 s6 e1 e2 HC7 HCP HPUT ST ST8
            generalize World.setCell (World.setCell (World.setCell (World.setCell (World.setCell (World.setCell (World.setCell w8 _ _) _ _) _ _) _ _) _ _) _ _) _ _ = w9 at *
            go_wp2_with fail
            go_roundw
            case rel => exact ⟨j + 1, by omega, by go_num, ST9⟩
            case measure => simp [intOf]; omega
          · have hij : ¬ (j : Int) < (L : Int) := by omega
            have HX : Hid (FzS w wr ua G N (flG l bF P L) pa C PL ga L p) := hide (by have h := ST.out; rw [show j = L by omega] at h; exact h)
            have HSZ : Hid (SzL wr (.slice ua N uc) ((List.range N).map (flG l bF P L))) := hide (by
              rcases (HX.out).row with e | ⟨e, -, hr⟩
              · rw [e]; exact .inl ⟨rfl, _, _, rfl⟩
              · rw [e]; exact cpR_SzL hr)
            clear ST
            go_wp2_with fail
            go_ret
            first
              | exact ⟨_, (List.range N).map (flG l bF P L), rfl, HSZ.out, (HX.out).bel, HV2.out⟩
              | exact ⟨_, rfl, _, HSZ.out, (HX.out).bel, HV2.out⟩

end Go.Proofs.Ytaonlpjfbajlcaa

namespace Go.Proofs.Ytaonlpjfbajlcaa
open Go.RowKit

/-- What stands while they grow: the copied row. -/
structure GrS (w W : World) (ua : Option Addr) (G N : Nat) (g : Nat → SzD) : Prop where
  row : N = 0 ∨ (ua = some ⟨G, 0, none⟩ ∧ w.heap.size ≤ G ∧ CpR W G N g)
  bel : Below w.heap.size w W

theorem GrS.next {w W W' : World} {ua : Option Addr} {G N : Nat} {g : Nat → SzD} (h : GrS w W ua G N g) (hb : Below W.heap.size W W') : GrS w W' ua G N g :=
  ⟨h.row.imp id (fun r => ⟨r.1, r.2.1, r.2.2.of_block (hb.block _ r.2.2.lt)⟩), h.bel.trans (hb.mono h.bel.size)⟩

theorem GrS.ext {w W : World} {ua : Option Addr} {G N : Nat} {g g' : Nat → SzD} (h : GrS w W ua G N g) (e : ∀ k, k < N → g k = g' k) : GrS w W ua G N g' :=
  ⟨h.row.imp id (fun r => ⟨r.1, r.2.1, r.2.2.ext e⟩), h.bel⟩

theorem GrS.put {w W : World} {ua : Option Addr} {G N : Nat} {g : Nat → SzD} (h : GrS w W ua G N g) {k : Nat} (hk : k < N) (s : SzD) : GrS w (((((((W.setCell ⟨G, k * 7, none⟩ (.int .i64 s.mn)).setCell ⟨G, k * 7 + 1, none⟩ (.int .i64 s.mx)).setCell ⟨G, k * 7 + 2, none⟩ (.int .i64 s.fr)).setCell ⟨G, k * 7 + 3, none⟩ (.bool s.fit)).setCell ⟨G, k * 7 + 4, none⟩ (.int .i64 s.cap)).setCell ⟨G, k * 7 + 5, none⟩ (.int .i64 s.base)).setCell ⟨G, k * 7 + 6, none⟩ (.int .i64 s.limit)) ua G N (fun i => if i = k then s else g i) := by
  rcases h.row with e | ⟨e, hG, hr⟩
  · omega
  · exact ⟨.inr ⟨e, hG, hr.put hk s⟩, ((((((h.bel.setCell (p := ⟨G, k * 7, none⟩) hG _).setCell (p := ⟨G, k * 7 + 1, none⟩) hG _).setCell (p := ⟨G, k * 7 + 2, none⟩) hG _).setCell (p := ⟨G, k * 7 + 3, none⟩) hG _).setCell (p := ⟨G, k * 7 + 4, none⟩) hG _).setCell (p := ⟨G, k * 7 + 5, none⟩) hG _).setCell (p := ⟨G, k * 7 + 6, none⟩) hG _⟩

theorem GrS.lst {w W : World} {ua : Option Addr} {G N cap : Nat} {g : Nat → SzD} (h : GrS w W ua G N g) : SzL W (.slice ua N cap) ((List.range N).map g) := by
  rcases h.row with e | ⟨e, -, hr⟩
  · rw [e]; exact .inl ⟨rfl, _, _, rfl⟩
  · rw [e]; exact cpR_SzL hr

theorem GrS.start {w w1 : World} {l : List SzD} {ua : Option Addr} {uc : Nat} (hown : w1.ownsRow w.heap.size 32 7 (.slice ua l.length uc) l.length (szsC l)) (hb : Below w.heap.size w w1) : ∃ G, GrS w w1 ua G l.length (fun i => l.getD i noSz) := by
  by_cases hN1 : l.length = 0
  · exact ⟨0, .inl hN1, hb⟩
  · rcases hown.2 with ⟨hv, hn⟩ | ⟨g, cap', cur, hv, hg, hrest⟩
    · exact absurd hn hN1
    · obtain ⟨h1, h2⟩ : ua = some ⟨g, 0, none⟩ ∧ uc = cap' := by simpa using hv
      subst h1 h2
      exact ⟨g, .inr ⟨rfl, hg, CpR.own hown rfl⟩, hb⟩

theorem range_get (l : List SzD) : (List.range l.length).map (fun i => l.getD i noSz) = l := by
  apply List.ext_getElem (by simp)
  intro i h1 h2
  simp [List.getD_eq_getElem?_getD, List.getElem?_eq_getElem h2]

set_option maxRecDepth 100000 in
set_option maxHeartbeats 16000000 in
theorem grow26_any (v : Value) (l : List SzD) (aa : Option Addr) (M ca : Nat) (f : Nat → Int) (u : Value) (ws : List WnD) (w : World) (h : SzL w v l) (ha : ArI w aa M f) (hw : WnL w u ws) (hN : l.length ≤ 60000) (hK : ws.length ≤ 1000000) (hMc : M ≤ ca) :
    Calls Try.prog 12 #[v, .slice aa M ca, u] w fun e w' => ∃ u', e = .returned u' ∧ SzL w' u' (growW l M f ws) ∧ Below w.heap.size w w' := by
  have HS := hide h
  have CC := hide (clone_sz v l w h (by omega))
  have CG := hide (fun W (hb : Below w.heap.size w W) => isGood26_any v l aa M ca f u ws 0 W (h.below hb) (ha.below hb) (hw.below hb) (by omega) hK)
  have HGP := hide (fun (hg : good26 l M f ws 0 = true) => good26_parts hg)
  have HGW := hide (fun (hg : good26 l M f ws 0 = true) => good26_wants hg)
  have HGU := hide (fun (hg : good26 l M f ws 0 = true) (r : Int) (ds : List (ordI l)) => grow_unit (r := r) (ds := ds) hg)
  have HRG := hide (@rgF_good2 l M f ws)
  have HQ : Hid (growW l M f ws = if rgF l 0 = true ∧ good24 l M f ws 0 = true then gfL l (gw26 l f ws ws.length) l.length else l) := hide rfl
  have CH := hide (fun W (hb : Below w.heap.size w W) hg => unitHad26_any v l W (h.below hb) (by omega) hg)
  have CW := hide (fun W (hb : Below w.heap.size w W) => unitWanted26_any v l aa M ca f u ws W (h.below hb) (ha.below hb) (hw.below hb) (by omega) hK)
  obtain ⟨ao, cap, rfl⟩ := h.slice
  obtain ⟨wo, cw, rfl⟩ := hw.slice
  generalize growW l M f ws = R at *
  generalize hGG : good26 l M f ws 0 = GD at *
  have HGG := hide hGG
  clear h ha hw hGG
  go_enter Try.func12, Try.ntmps12
  go_wp2_with fail
  refine Calls.mono CC.out ?_
  rintro e w1 ⟨uu, rfl, hown, hbel⟩
  obtain ⟨ua, uc, rfl⟩ := own_sl22 hown
  obtain ⟨G, hST⟩ := GrS.start hown hbel
  have ST1 := hide hST
  clear hbel hown CC hST
  cases GD
  · have HV := hide (show R = l by rw [HQ.out, if_neg (fun hh => absurd ((HRG.out).1 hh) (by decide))])
    have C1 := hide ((CG.out) _ (ST1.out).bel)
    clear CG HGP HGW HGU HRG HQ CH CW
    go_wp2_with fail
    refine Calls.mono C1.out ?_
    rintro e w2 ⟨rfl, hb⟩
    have ST2 := hide ((ST1.out).next hb)
    clear hb ST1
    go_wp2_with fail
    go_ret
    exact ⟨_, rfl, by rw [HV.out]; have e := (ST2.out).lst (cap := uc); rwa [range_get] at e, (ST2.out).bel⟩
  · obtain ⟨hMN, hgs, -, -⟩ := (HGP.out) (by trivial)
    have HMN := hide hMN
    have HGS := hide hgs
    have HWN := hide ((HGW.out) (by trivial))
    have HV0 := hide (show R = gfL l (gw26 l f ws ws.length) l.length by rw [HQ.out, if_pos ((HRG.out).2 (by trivial))])
    have HUN := hide ((HGU.out) (by trivial))
    have HGL := hide (fun U => grow_list (l := l) U (fun k hk => ((HGS.out) k hk).1))
    have C1 := hide ((CG.out) _ (ST1.out).bel)
    clear CG HGP HGW HGU HRG HQ hgs hMN
    go_wp2_with fail
    refine Calls.mono C1.out ?_
    rintro e w2 ⟨rfl, hb⟩
    have ST2 := hide ((ST1.out).next hb)
    have C2 := hide ((CH.out) w2 (ST2.out).bel (fun k hk => ⟨(good_base ((HGS.out) k hk).1).1, ((HGS.out) k hk).2.2⟩))
    clear hb ST1 C1 CH
    go_wp2_with fail
    refine Calls.mono C2.out ?_
    rintro e w3 ⟨rfl, hb⟩
    have ST3 := hide ((ST2.out).next hb)
    have hi64 : ∀ {n : Int}, 0 ≤ n → n ≤ 68719476736 → I64 n := fun h0 h1 => WalkArith.wf_i64 ⟨by omega, by omega⟩
    have C3 := hide ((CW.out) w3 (ST3.out).bel (fun x hx => by
        have q := (HWN.out) x hx
        exact ⟨hi64 q.1 (by omega), hi64 (by omega) (by omega), hi64 q.2.2.2.1 q.2.2.2.2⟩) HWN.out HMN.out hMc (fun k hk => isSz_bd ((HGS.out) k (by have := HMN.out; omega)).2.1) (fun k hk => ⟨((HGS.out) k hk).1, ((HGS.out) k hk).2.2⟩))
    clear hb ST2 C2 CW
    go_wp2_with fail
    refine Calls.mono C3.out ?_
    rintro e w4 ⟨⟨r, ds, rfl, hpw, hpm, hmx⟩, hb⟩
    have ST4 := hide ((ST3.out).next hb)
    have HU := hide ((HUN.out) r ds hpw hpm hmx)
    have hr0 := hmx.pos
    clear hb ST3 C3 HUN hpw hpm hmx
    have huh := uhV_bd (l := l) (N := l.length) (fun k hk => ⟨(good_base ((HGS.out) k hk).1).1, ((HGS.out) k hk).2.2⟩) l.length (Nat.le_refl _)
    obtain ⟨U, hU⟩ : ∃ U, U = gw26 l f ws ws.length := ⟨_, rfl⟩
    have hUB := gw26_bd (l := l) (f := f) (ws := ws) (fun k hk => ⟨(good_base ((HGS.out) k hk).1).1, ((HGS.out) k hk).2.2⟩) ws.length
    have HUE : Hid (U = max (uhV l l.length) r) := hide (hU.trans HU.out)
    have HV : Hid (R = (List.range l.length).map (gwG l U l.length)) := hide (by rw [HV0.out, ← hU, (HGL.out) U])
    rw [← hU] at hUB
    clear HU HV0 hU HGL HWN HMN
    obtain ⟨N, hN0⟩ : ∃ N, N = l.length := ⟨_, rfl⟩
    have HNL := hide hN0
    rw [← hN0] at HS HGS ST4 HV hN huh HUE ⊢
    clear hN0
    generalize uhV l N = X at *
    have HX : Hid (max X r = U) := hide (HUE.out).symm
    have ST5 : Hid (GrS w w4 ua G N (gwG l U 0)) := hide ((ST4.out).ext (fun k _ => (gwG_zero l U k).symm))
    clear ST4 HUE
    have CM := hide (fun a b w => muldiv_any a b 1000 w)
    go_upto_region 5 with fail
    rw [HX.out]
    go_wp2_with fail
    go_loopw [30] (fun i wr => ∃ j : Nat, j ≤ N ∧ i = .int .i64 (j : Int) ∧ Hid (GrS w wr ua G N (gwG l U j))) (fun i _ => N - (intOf i).toNat)
    case atStart => exact ⟨0, Nat.zero_le _, by go_num, ST5⟩
    case round =>
      clear ST5
      obtain ⟨j, hj, rfl, ST⟩ := hrel
      by_cases hjl : j < N
      · have hij : (j : Int) < (N : Int) := by omega
        have hn2 : ¬ (j : Int) < 0 := by omega
        have hjL : j < l.length := by rw [← HNL.out]; exact hjl
        obtain ⟨b, off, hao, hlt, x0, x1, x2, x3, x4, x5, x6⟩ := ((HS.out).below (ST.out).bel).at hjL
        obtain ⟨hua, hGw, hrw⟩ : ua = some ⟨G, 0, none⟩ ∧ w.heap.size ≤ G ∧ CpR wr G N (gwG l U j) := by
          rcases (ST.out).row with e | r
          · omega
          · exact r
        subst hua hao
        have hgf := good_fr ((HGS.out) j hjl).1
        have HC7 := hide (fun W (h : GrS w W (some ⟨G, 0, none⟩) G N (gwG l U j)) => (by
          rcases h.row with e | r
          · omega
          · exact r.2.2.seven hjl : (∀ m, W.frozen? ⟨G, m, none⟩ = false) ∧ _))
        rw [gwG_at l U j] at HC7
        have CF := hide (fun W => isFlex26_any (l.getD j noSz) W)
        have CGr := hide (fun W => grown26_any (l.getD j noSz) (min (mdV U (l.getD j noSz).fr 1000).1 68719476736) W)
        have hfx : flx l j = ((l.getD j noSz).mx == 5) := rfl
        have HY := hide (fun (h : ((l.getD j noSz).mx == 5) = true) i => gwG_yes (u := U) (hfx.trans h) i)
        have HNO := hide (fun (h : ((l.getD j noSz).mx == 5) = false) i => gwG_no (u := U) (hfx.trans h) i)
        have hmb := mdV_bd U (l.getD j noSz).fr 1000
        have CM1 := hide ((CM.out) U (l.getD j noSz).fr)
        clear hfx hrw
        generalize hz : grnV (l.getD j noSz) (min (mdV U (l.getD j noSz).fr 1000).1 68719476736) = z at *
        clear hz
        generalize mdV U (l.getD j noSz).fr 1000 = md at *
        generalize l.getD j noSz = s at *
        obtain ⟨z1, z2, z3, z4, z5, z6, z7⟩ := z
        obtain ⟨a1, a2, a3, q, a5, a6, a7⟩ := s
        obtain ⟨m1, m2⟩ := md
        unfold szC at CF CGr
        simp only at x0 x1 x2 x3 x4 x5 x6 hgf CF CGr HY HNO hmb CM1 HC7
        have hL : SzR (wr.alloc (.cells #[.int .i64 a1, .int .i64 a2, .int .i64 a3, .bool q, .int .i64 a5, .int .i64 a6, .int .i64 a7] 32)) wr.heap.size ⟨a1, a2, a3, q, a5, a6, a7⟩ := SzR.new wr ⟨a1, a2, a3, q, a5, a6, a7⟩
        have ST6 := hide ((ST.out).next ((Below.refl _ wr).alloc (Nat.le_refl _) (.cells #[.int .i64 a1, .int .i64 a2, .int .i64 a3, .bool q, .int .i64 a5, .int .i64 a6, .int .i64 a7] 32)))
        clear ST
        go_upto_region 8 with fail
        generalize wr.alloc (.cells #[.int .i64 a1, .int .i64 a2, .int .i64 a3, .bool q, .int .i64 a5, .int .i64 a6, .int .i64 a7] 32) = w5 at *
        have hVlt := hL.lt
        generalize wr.heap.size = V at *
        obtain ⟨t0, t1, t2, t3, t4, t5, t6⟩ := hL.cells
        have HL := hide hL
        clear x0 x1 x2 x3 x4 x5 x6 hL
        generalize hmx : (a2 == 5) = mx at *
        clear hmx
        cases mx
        · have HE := hide ((HNO.out) rfl)
          clear HY HNO CGr CM1
          go_wp2_with fail
          refine Calls.mono ((CF.out) _) ?_
          rintro e w6 ⟨rfl, hb6⟩
          have ST7 := hide (((ST6.out).next hb6).ext (fun i _ => (HE.out) i))
          clear hb6
          go_wp2_with fail
          go_roundw
          case rel => exact ⟨j + 1, by omega, by go_num, ST7⟩
          case measure => simp [intOf]; omega
        · have HE := hide ((HY.out) rfl)
          clear HY HNO
          go_wp2_with fail
          refine Calls.mono ((CF.out) _) ?_
          rintro e w6 ⟨rfl, hb6⟩
          have ST7 := hide ((ST6.out).next hb6)
          have HL3 : Hid (SzR w6 V ⟨a1, a2, a3, q, a5, a6, a7⟩) := hide ((hb6.block V hVlt).trans HL.out)
          clear hb6 t0 t1 t2 t3 t4 t5 t6 HL
          obtain ⟨t0, t1, t2, t3, t4, t5, t6⟩ := (HL3.out).cells
          have CM2 := hide ((CM1.out) w6 (by omega) (by omega) (by omega) (by omega) (by omega) (by omega))
          clear CM1
          go_wp2_with fail
          refine Calls.mono CM2.out ?_
          rintro e w7 ⟨rfl, hst⟩
          have hb7 := hst w6.heap.size
          have ST8 := hide ((ST7.out).next hb7)
          have HL4 : Hid (SzR w7 V ⟨a1, a2, a3, q, a5, a6, a7⟩) := hide ((hb7.block V (HL3.out).lt).trans HL3.out)
          clear hb7 hst t0 t1 t2 t3 t4 t5 t6 HL3 CM2 ST7
          obtain ⟨t0, t1, t2, t3, t4, t5, t6⟩ := (HL4.out).cells
          go_wp2_with fail
          refine Calls.mono ((CGr.out) _) ?_
          rintro e w8 ⟨rfl, hb8⟩
          have ST9 := hide ((ST8.out).next hb8)
          obtain ⟨fz, s0, s1, s2, s3, s4, s5, s6⟩ := (HC7.out) _ ST9.out
          have hjr : (j : Int) < (N : Int) := hij
          clear hb8 ST8
          go_wp2_with fail
          have STA := hide (((ST9.out).put hjl ⟨z1, z2, z3, z4, z5, z6, z7⟩).ext (fun i _ => (HE.out) i))
          simp only at STA
          clear ST9
          go_roundw
          case rel => exact ⟨j + 1, by omega, by go_num, STA⟩
          case measure => simp [intOf]; omega
      · have hij : ¬ (j : Int) < (N : Int) := by omega
        have HX2 : Hid (GrS w wr ua G N (gwG l U N)) := hide (by have h := ST.out; rw [show j = N by omega] at h; exact h)
        clear ST
        go_wp2_with fail
        go_ret
        exact ⟨_, rfl, by rw [HV.out]; exact (HX2.out).lst, (HX2.out).bel⟩

end Go.Proofs.Ytaonlpjfbajlcaa

namespace Go.Proofs.Ytaonlpjfbajlcaa
open Go.RowKit

theorem rowU {w wr w1 : World} {l : List Int} {x : Int} {k : Nat} {v v' : Value} (hB : Below w.heap.size w wr) (hown : wr.ownsRow w.heap.size 3 1 v k (l.map (Value.int .i64)))
    (hown' : w1.ownsRow w.heap.size 3 1 v' (k + 1) (l.map (Value.int .i64) ++ [.int .i64 x]))
    (hgrow : (wr.alloc (.cells #[.int .i64 x] 3)).grownBy w1 v.ownBlock) :
    w1.ownsRow w.heap.size 3 1 v' (k + 1) ((l ++ [x]).map (Value.int .i64)) ∧ Below w.heap.size w w1 := by
  refine ⟨by simpa using hown', ?_⟩
  refine (hB.alloc hB.size _).grown hgrow (by have := hB.size; simp; omega) ?_
  intro b hb
  exact (hown.lt b hb).1

/-- The bases of the first ones. -/
def bsN (l : List SzD) (k : Nat) : List Int := (List.range k).map fun i => (l.getD i noSz).base

theorem bsN_succ (l : List SzD) (k : Nat) : bsN l k ++ [(l.getD k noSz).base] = bsN l (k + 1) := by unfold bsN; rw [List.range_succ, List.map_append]; rfl

set_option maxRecDepth 100000 in
set_option maxHeartbeats 8000000 in
theorem bases26_any (v : Value) (l : List SzD) (w : World) (h : SzL w v l) (hN : l.length ≤ 1000000) : Calls Try.prog 17 #[v] w fun e w' => ∃ u, e = .returned u ∧ Reads w' u (bsN l l.length) ∧ Below w.heap.size w w' := by
  have HS := hide h
  obtain ⟨ao, cap, rfl⟩ := h.slice
  obtain ⟨N, hN0⟩ : ∃ N, N = l.length := ⟨_, rfl⟩
  have HNL := hide hN0
  rw [← hN0] at HS hN ⊢
  clear h hN0
  obtain ⟨i0, hinf, hz0, hz1, hz2⟩ := info_parts info_intF
  go_enter Try.func17, Try.ntmps17
  go_wp2_with fail
  go_loopw [3, 8] (fun o i wr => ∃ k : Nat, k ≤ N ∧ i = .int .i64 (k : Int) ∧ wr.ownsRow w.heap.size 3 1 o k ((bsN l k).map (Value.int .i64)) ∧ Below w.heap.size w wr) (fun _ i _ => N - (intOf i).toNat)
  case atStart => exact ⟨0, Nat.zero_le _, by go_num, World.ownsRow_nil _ _ _ _, Below.refl _ _⟩
  case round =>
    obtain ⟨k, hk, rfl, hown, hB⟩ := hrel
    by_cases hkl : k < N
    · have hi : (k : Int) < (N : Int) := by omega
      have hn2 : ¬ (k : Int) < 0 := by omega
      have hkL : k < l.length := by rw [← HNL.out]; exact hkl
      obtain ⟨b, off, hao, hlt, x0, x1, x2, x3, x4, x5, x6⟩ := ((HS.out).below hB).at hkL
      subst hao
      have HBS := hide (bsN_succ l k)
      generalize l.getD k noSz = s at *
      obtain ⟨a1, a2, a3, q, a5, a6, a7⟩ := s
      simp only at x0 x1 x2 x3 x4 x5 x6 HBS
      have hL : SzR (wr.alloc (.cells #[.int .i64 a1, .int .i64 a2, .int .i64 a3, .bool q, .int .i64 a5, .int .i64 a6, .int .i64 a7] 32)) wr.heap.size ⟨a1, a2, a3, q, a5, a6, a7⟩ := SzR.new wr ⟨a1, a2, a3, q, a5, a6, a7⟩
      have hB2 := hB.alloc hB.size (.cells #[.int .i64 a1, .int .i64 a2, .int .i64 a3, .bool q, .int .i64 a5, .int .i64 a6, .int .i64 a7] 32)
      have hown2 := hown.alloc (.cells #[.int .i64 a1, .int .i64 a2, .int .i64 a3, .bool q, .int .i64 a5, .int .i64 a6, .int .i64 a7] 32)
      clear hown hB
      go_upto_region 5 with fail
      generalize wr.alloc (.cells #[.int .i64 a1, .int .i64 a2, .int .i64 a3, .bool q, .int .i64 a5, .int .i64 a6, .int .i64 a7] 32) = w2 at *
      generalize wr.heap.size = V at *
      obtain ⟨t0, t1, t2, t3, t4, t5, t6⟩ := hL.cells
      go_wp2_with (at_builtin; refine wpList_append_own _ rfl _ _ 23 rfl w.heap.size 3 i0 (.int .i64 0) 1 8 Try.underlying23 hinf hz0 hz1 hz2 rfl (by decide) _ _ _ rfl (hown2.alloc _) ⟨w2.heap.size, 0, none⟩ 1 1 [.int .i64 a6] rfl rfl (cell_one_new _ _ _) (by simp [Value.oneCell']) (by unfold maxLen; omega) (by omega) (by have := hB2.size; simp; omega) ?_; intro v' w9 hown' hgrow _)
      have R := rowU hB2 hown2 hown' hgrow
      rw [HBS.out] at R
      clear hown' hgrow hown2 hB2
      go_wp2_with fail
      go_roundw
      case rel => exact ⟨k + 1, by omega, by go_num, R.1, R.2⟩
      case measure => simp [intOf]; omega
    · have hi : ¬ (k : Int) < (N : Int) := by omega
      have R := reads_owns hown
      rw [show k = N by omega] at R
      have HR := hide R
      clear R
      go_wp2_with fail
      go_ret
      exact ⟨_, rfl, HR.out, hB⟩

set_option maxRecDepth 100000 in
set_option maxHeartbeats 4000000 in
theorem fr26_any (n b : Int) (w : World) : Calls Try.prog 15 #[.int .i64 n, .int .i64 b] w fun e w' => e = .returned (.agg #[.int .i64 2, .int .i64 5, .int .i64 n, .bool false, .int .i64 0, .int .i64 b, .int .i64 1125899906842624]) ∧ Below w.heap.size w w' := by
  have hn : SzR (w.alloc (.cells #[.int .i64 0, .int .i64 0, .int .i64 0, .bool false, .int .i64 0, .int .i64 0, .int .i64 0] 32)) w.heap.size ⟨0, 0, 0, false, 0, 0, 0⟩ := SzR.new w ⟨0, 0, 0, false, 0, 0, 0⟩
  obtain ⟨z0, z1, z2, z3, z4, z5, z6⟩ := hn.cells
  have zz : ∀ m, (w.alloc (.cells #[.int .i64 0, .int .i64 0, .int .i64 0, .bool false, .int .i64 0, .int .i64 0, .int .i64 0] 32)).frozen? ⟨w.heap.size, m, none⟩ = false := fun m => Lib.frozen_of_heap hn m
  have HB := hide ((Below.refl _ w).alloc (Nat.le_refl _) (.cells #[.int .i64 0, .int .i64 0, .int .i64 0, .bool false, .int .i64 0, .int .i64 0, .int .i64 0] 32))
  clear hn
  go_enter Try.func15, Try.ntmps15
  go_upto_region 1 with fail
  generalize w.alloc (.cells #[.int .i64 0, .int .i64 0, .int .i64 0, .bool false, .int .i64 0, .int .i64 0, .int .i64 0] 32) = w1 at *
  go_wp2_with fail
  exact bodyPost_ret (v := .agg #[.int .i64 2, .int .i64 5, .int .i64 n, .bool false, .int .i64 0, .int .i64 b, .int .i64 1125899906842624]) (by simp [results, Try.results15, go_sem, z0, z1, z2, z3, z4, z5, z6]) rfl ⟨rfl, ((((((((HB.out).setCell (p := ⟨w.heap.size, 0, none⟩) (Nat.le_refl _) _).setCell (p := ⟨w.heap.size, 1, none⟩) (Nat.le_refl _) _).setCell (p := ⟨w.heap.size, 2, none⟩) (Nat.le_refl _) _).setCell (p := ⟨w.heap.size, 3, none⟩) (Nat.le_refl _) _).setCell (p := ⟨w.heap.size, 4, none⟩) (Nat.le_refl _) _).setCell (p := ⟨w.heap.size, 5, none⟩) (Nat.le_refl _) _).setCell (p := ⟨w.heap.size, 6, none⟩) (Nat.le_refl _) _)⟩

def lf1 : List SzD := [⟨1, 1, 0, false, 0, 10, 10⟩, ⟨2, 5, 1000, false, 0, 0, 1125899906842624⟩, ⟨2, 5, 3000, false, 0, 0, 1125899906842624⟩]
def lf2 : List SzD := [⟨2, 5, 1000, false, 0, 30, 1125899906842624⟩, ⟨2, 5, 1000, false, 0, 0, 1125899906842624⟩]

theorem fill_one {out : List SzD} (h : FillQ lf1 3 (fun k => [(0 : Int), 0, 0].getD k 0) 50 out) : out.length = 3 ∧ bsN out out.length = [10, 10, 30] := by
  rcases h with ⟨h, -⟩ | ⟨-, ds, -, hm, rfl⟩
  · exact absurd h (by rw [show good26 lf1 3 (fun k => [(0 : Int), 0, 0].getD k 0) [] 50 = true by kernel_rfl]; decide)
  · have e : orL lf1 lf1.length = [] := by kernel_rfl
    rw [e] at hm
    rw [List.perm_nil.1 hm]
    exact ⟨by kernel_rfl, by kernel_rfl⟩

theorem fill_two {out : List SzD} (h : FillQ lf2 2 (fun k => [(0 : Int), 0].getD k 0) 50 out) : out.length = 2 ∧ bsN out out.length = [30, 20] := by
  rcases h with ⟨h, -⟩ | ⟨-, ds, -, hm, rfl⟩
  · exact absurd h (by rw [show good26 lf2 2 (fun k => [(0 : Int), 0].getD k 0) [] 50 = true by kernel_rfl]; decide)
  · have e : orL lf2 lf2.length = [0] := by kernel_rfl
    rw [e] at hm
    rw [List.perm_singleton.1 hm]
    exact ⟨by kernel_rfl, by kernel_rfl⟩

end Go.Proofs.Ytaonlpjfbajlcaa

namespace Go.Proofs.Ytaonlpjfbajlcaa
open Go.RowKit

theorem al2_26 {w : World} (a b : Obj) : ((w.alloc a).alloc b).heap[w.heap.size]? = some a ∧ ((w.alloc a).alloc b).heap[w.heap.size + 1]? = some b := by
  have h := heap_alloc_new (w.alloc a) b
  rw [World.size_alloc] at h
  exact ⟨(Below.heap_alloc _ _ _ (by rw [World.size_alloc]; omega)).trans (heap_alloc_new w a), h⟩

theorem szl_lf1 {W : World} {b : Nat} (h : W.heap[b]? = some (.cells #[.int .i64 1, .int .i64 1, .int .i64 0, .bool false, .int .i64 0, .int .i64 10, .int .i64 10, .int .i64 2, .int .i64 5, .int .i64 1000, .bool false, .int .i64 0, .int .i64 0, .int .i64 1125899906842624, .int .i64 2, .int .i64 5, .int .i64 3000, .bool false, .int .i64 0, .int .i64 0, .int .i64 1125899906842624] 32 (0, 0))) : SzL W (.slice (some ⟨b, 0, none⟩) 3 3) lf1 := by
  refine .inr ⟨b, 0, 3, rfl, (Array.getElem?_eq_some_iff.1 h).1, fun i hi j u hu => ?_⟩
  rw [Lib.cell_of_heap h]
  have hi2 : i < 3 := hi
  have hj : j < 7 := by
    obtain rfl | rfl | rfl : i = 0 ∨ i = 1 ∨ i = 2 := by omega
    all_goals exact (List.getElem?_eq_some_iff.1 hu).1
  obtain rfl | rfl | rfl : i = 0 ∨ i = 1 ∨ i = 2 := by omega
  all_goals (obtain rfl | rfl | rfl | rfl | rfl | rfl | rfl : j = 0 ∨ j = 1 ∨ j = 2 ∨ j = 3 ∨ j = 4 ∨ j = 5 ∨ j = 6 := by omega)
  all_goals exact hu

theorem szl_lf2 {W : World} {b : Nat} (h : W.heap[b]? = some (.cells #[.int .i64 2, .int .i64 5, .int .i64 1000, .bool false, .int .i64 0, .int .i64 30, .int .i64 1125899906842624, .int .i64 2, .int .i64 5, .int .i64 1000, .bool false, .int .i64 0, .int .i64 0, .int .i64 1125899906842624] 32 (0, 0))) : SzL W (.slice (some ⟨b, 0, none⟩) 2 2) lf2 := by
  refine .inr ⟨b, 0, 2, rfl, (Array.getElem?_eq_some_iff.1 h).1, fun i hi j u hu => ?_⟩
  rw [Lib.cell_of_heap h]
  have hi2 : i < 2 := hi
  have hj : j < 7 := by
    obtain rfl | rfl : i = 0 ∨ i = 1 := by omega
    all_goals exact (List.getElem?_eq_some_iff.1 hu).1
  obtain rfl | rfl : i = 0 ∨ i = 1 := by omega
  all_goals (obtain rfl | rfl | rfl | rfl | rfl | rfl | rfl : j = 0 ∨ j = 1 ∨ j = 2 ∨ j = 3 ∨ j = 4 ∨ j = 5 ∨ j = 6 := by omega)
  all_goals exact hu

theorem in3_26 {W : World} {b : Nat} {x y z : Int} (h : W.heap[b]? = some (.cells #[.int .i64 x, .int .i64 y, .int .i64 z] 3 (0, 0))) : Reads W (.slice (some ⟨b, 0, none⟩) 3 3) [x, y, z] := by
  refine .inr ⟨b, 0, 3, rfl, (Array.getElem?_eq_some_iff.1 h).1, fun i hi => ?_⟩
  rw [Lib.cell_of_heap h]
  have hi2 : i < 3 := hi
  obtain rfl | rfl | rfl : i = 0 ∨ i = 1 ∨ i = 2 := by omega
  all_goals rfl

theorem in2_26 {W : World} {b : Nat} {x y : Int} (h : W.heap[b]? = some (.cells #[.int .i64 x, .int .i64 y] 3 (0, 0))) : Reads W (.slice (some ⟨b, 0, none⟩) 2 2) [x, y] := by
  refine .inr ⟨b, 0, 2, rfl, (Array.getElem?_eq_some_iff.1 h).1, fun i hi => ?_⟩
  rw [Lib.cell_of_heap h]
  have hi2 : i < 2 := hi
  obtain rfl | rfl : i = 0 ∨ i = 1 := by omega
  all_goals rfl

theorem Reads.arI26 {w : World} {ao : Option Addr} {n cap : Nat} {xs : List Int} (h : Reads w (.slice ao n cap) xs) : ArI w ao n (fun k => xs.getD k 0) := by
  obtain ⟨a', c', e, ha⟩ := h.arI
  obtain ⟨rfl, rfl, rfl⟩ : ao = a' ∧ n = xs.length ∧ cap = c' := by simpa using e
  exact ha

set_option maxRecDepth 100000 in
set_option maxHeartbeats 8000000 in
theorem lives26_any (w : World) : Calls Try.prog 6 #[] w fun e w' => e = .returned (.bool true) ∧ Below w.heap.size w w' := by
  go_enter Try.func6, Try.ntmps6
  go_wp2_with fail
  refine Calls.mono (fr26_any 1000 0 w) ?_
  rintro e w1 ⟨rfl, hb1⟩
  go_wp2_with fail
  refine Calls.mono (fr26_any 3000 0 w1) ?_
  rintro e w2 ⟨rfl, hb2⟩
  have B2 := hide (hb1.trans (hb2.mono hb1.size))
  clear hb1 hb2
  go_wp2_with fail
  refine Calls.mono (fill26_any _ lf1 _ 3 3 (fun k => [(0 : Int), 0, 0].getD k 0) 50 _ ?hs ?ha (by decide)) ?_
  case hs => exact szl_lf1 (al2_26 _ _).1
  case ha => exact (in3_26 (al2_26 _ _).2).arI26
  rintro e w3 ⟨u1, out1, rfl, hu1, hb3, hq1⟩
  obtain ⟨hl1, hbs1⟩ := fill_one hq1
  have B3 : Hid (Below w.heap.size w w3) := hide ((((B2.out).alloc (B2.out).size _).alloc (by have := (B2.out).size; rw [World.size_alloc]; omega) _).trans (hb3.mono (by have := (B2.out).size; simp only [World.size_alloc]; omega)))
  have HU1 := hide hu1
  have HL1 := hide hl1
  have HBS1 := hide hbs1
  clear hb3 hu1 hq1 hl1 hbs1 B2
  go_wp2_with fail
  refine Calls.mono (fr26_any 1000 30 w3) ?_
  rintro e w4 ⟨rfl, hb4⟩
  go_wp2_with fail
  refine Calls.mono (fr26_any 1000 0 w4) ?_
  rintro e w5 ⟨rfl, hb5⟩
  have B35 := hide (hb4.trans (hb5.mono hb4.size))
  clear hb4 hb5
  go_wp2_with fail
  refine Calls.mono (fill26_any _ lf2 _ 2 2 (fun k => [(0 : Int), 0].getD k 0) 50 _ ?hs ?ha (by decide)) ?_
  case hs => exact szl_lf2 (al2_26 _ _).1
  case ha => exact (in2_26 (al2_26 _ _).2).arI26
  rintro e w6 ⟨u2, out2, rfl, hu2, hb6, hq2⟩
  obtain ⟨hl2, hbs2⟩ := fill_two hq2
  have B36 : Hid (Below w3.heap.size w3 w6) := hide ((((B35.out).alloc (B35.out).size _).alloc (by have := (B35.out).size; rw [World.size_alloc]; omega) _).trans (hb6.mono (by have := (B35.out).size; simp only [World.size_alloc]; omega)))
  have HU2 := hide hu2
  have HL2 := hide hl2
  have HBS2 := hide hbs2
  clear hb6 hu2 hq2 hl2 hbs2 B35
  have C1 := hide (bases26_any u1 out1 w6 ((HU1.out).below (B36.out)) (by have := HL1.out; omega))
  rw [HBS1.out] at C1
  go_wp2_with fail
  refine Calls.mono C1.out ?_
  rintro e w7 ⟨r1, rfl, hr1, hb7⟩
  have B7 := hide hb7
  have I1 := hide (ints_any r1 _ [10, 10, 30] [10, 10, 30] (w7.alloc (.cells #[.int .i64 10, .int .i64 10, .int .i64 30] 3)) (hr1.below ((Below.refl _ w7).alloc (Nat.le_refl _) _)) (in3_26 (heap_alloc_new w7 _)) (by decide) (by decide))
  rw [decide_eq_true rfl] at I1
  clear hr1 hb7 C1
  go_wp2_with fail
  refine Calls.mono I1.out ?_
  rintro e w8 ⟨rfl, hst⟩
  have B68 : Hid (Below w6.heap.size w6 w8) := hide (((B7.out).alloc (B7.out).size _).trans (hst _))
  clear hst I1 B7
  have C2 := hide (bases26_any u2 out2 w8 ((HU2.out).below (B68.out)) (by have := HL2.out; omega))
  rw [HBS2.out] at C2
  go_wp2_with fail
  refine Calls.mono C2.out ?_
  rintro e w9 ⟨r2, rfl, hr2, hb9⟩
  have B9 := hide hb9
  have I2 := hide (ints_any r2 _ [30, 20] [30, 20] (w9.alloc (.cells #[.int .i64 30, .int .i64 20] 3)) (hr2.below ((Below.refl _ w9).alloc (Nat.le_refl _) _)) (in2_26 (heap_alloc_new w9 _)) (by decide) (by decide))
  rw [decide_eq_true rfl] at I2
  clear hr2 hb9 C2
  go_wp2_with fail
  refine Calls.mono I2.out ?_
  rintro e w10 ⟨rfl, hst⟩
  have BZ : Hid (Below w.heap.size w w10) := hide (by
    have s3 := (B3.out).size
    have s6 := (B36.out).size
    have s8 := (B68.out).size
    have s9 := (B9.out).size
    have b1 := (B3.out).trans ((B36.out).mono s3)
    have b2 := b1.trans ((B68.out).mono b1.size)
    have b3 := b2.trans ((B9.out).mono b2.size)
    exact (b3.alloc b3.size _).trans (hst _))
  clear hst I2 B9
  go_wp2_with fail
  go_ret
  exact ⟨rfl, BZ.out⟩

end Go.Proofs.Ytaonlpjfbajlcaa

namespace Go.Proofs.Ytaonlpjfbajlcaa
open Go.RowKit

theorem sA_le2 {f g : Nat → Int} : ∀ N, (∀ k, k < N → f k ≤ g k) → sA f N ≤ sA g N
  | 0, _ => Int.le_refl _
  | N + 1, h => by
    have h1 := sA_le2 N (fun k hk => h k (by omega))
    have h2 := h N (by omega)
    simp only [sA]
    omega

theorem sA_nn {f : Nat → Int} : ∀ N, (∀ k, k < N → 0 ≤ f k) → 0 ≤ sA f N
  | 0, _ => Int.le_refl _
  | N + 1, h => by
    have h1 := sA_nn N (fun k hk => h k (by omega))
    have h2 := h N (by omega)
    simp only [sA]
    omega

/-- A track of the answer. -/
def outV (l : List SzD) (x : RsD) (k : Nat) : SzD := flG l (fbB l x) (shP x (frL l (fbB l x) l.length)) (shP x (frL l (fbB l x) l.length)).length k

structure FillF (l : List SzD) (f : Nat → Int) (size : Int) (x : RsD) : Prop where
  same : ∀ k, k < l.length → (outV l x k).mx = (l.getD k noSz).mx ∧ (outV l x k).fr = (l.getD k noSz).fr ∧ (l.getD k noSz).base ≤ (outV l x k).base ∧ (outV l x k).base ≤ 68719476737 ∧ (¬ (l.getD k noSz).mx = 5 → (outV l x k).base = (l.getD k noSz).base)
  alike : ∀ i k, i < l.length → k < l.length → (l.getD i noSz).base < (outV l x i).base → (l.getD k noSz).base < (outV l x k).base → (l.getD k noSz).fr = (l.getD i noSz).fr → (outV l x k).base ≤ (outV l x i).base + 1
  all : sA (fun k => (outV l x k).base + f k) l.length ≤ max size (sA (fun k => (l.getD k noSz).base + f k) l.length)
  full : sA (fun k => if (l.getD k noSz).base < (outV l x k).base then (l.getD k noSz).fr else 0) l.length < 1000 ∨ sA (fun k => (outV l x k).base + f k) l.length = size

theorem fill_facts {l : List SzD} {f : Nat → Int} {size : Int} {ds : List (ordI l)} (hN : l.length ≤ 60) (hg : ∀ k, k < l.length → 0 ≤ (l.getD k noSz).base ∧ (l.getD k noSz).base ≤ 68719476736 ∧ 0 ≤ (l.getD k noSz).fr ∧ (l.getD k noSz).fr ≤ 1073741824)
    (hf : ∀ k, k < l.length → 0 ≤ f k ∧ f k ≤ 68719476736) (h0 : 0 ≤ size) (h1 : size ≤ 68719476736) (hp : ds.Pairwise (fun x y => ltOf (cfI l) y x = false)) (hm : (ds.map (fun x => x.val)).Perm (orL l l.length)) :
    FillF l f size (rstV l 0 l.length (lsV size f l.length) (ds.map (fun x => x.val))) := by
  obtain ⟨ls1, ls2⟩ := lsV_sum (f := f) h0 l.length (fun k hk => (hf k hk).1)
  obtain ⟨r1, r2⟩ := rest_facts (space := lsV size f l.length) (fun k hk => ⟨(hg k hk).1, (hg k hk).2.2.1⟩) (by omega) hp hm
  generalize rstV l 0 l.length (lsV size f l.length) (ds.map (fun x => x.val)) = X at *
  have hfr : X.fr = eS l (fbB l X) l.length := r2
  have hNB : 0 ≤ sA (fun k => if fbB l X k then 0 else (l.getD k noSz).base) l.length := sA_nn _ (fun k hk => by
    show 0 ≤ if fbB l X k = true then 0 else (l.getD k noSz).base
    split
    · exact Int.le_refl _
    · exact (hg k hk).1)
  have hl0 : 0 ≤ X.left := by rw [r1]; omega
  have hl1 : X.left ≤ 68719476736 := by rw [r1]; omega
  have hle : X.left = max (size - sA f l.length - sA (fun k => if fbB l X k then 0 else (l.getD k noSz).base) l.length) 0 := by rw [r1, ls1]; omega
  obtain ⟨pl, pg⟩ := shP_at (N := l.length) (by omega) hfr hl0 hl1 (fun k hk => (hg k hk).2.2)
  have hbase : ∀ k, k < l.length → (outV l X k).mx = (l.getD k noSz).mx ∧ (outV l X k).fr = (l.getD k noSz).fr ∧ (outV l X k).base = nbV l (fbB l X) X k := fun k hk => by
    unfold outV flG nbV
    cases hb : fbB l X k
    · simp
    · have hc : cnt (fbB l X) k < (shP X (frL l (fbB l X) l.length)).length := by rw [pl]; exact cnt_lt hk hb
      rw [if_pos (by simp [hc]), if_pos rfl, pg k hk hb]
      have h2 := (got_bd (l := l) (x := X) (k := k) hb).1
      refine ⟨rfl, rfl, ?_⟩
      show max (l.getD k noSz).base (gotV l (fbB l X) X k) = gotV l (fbB l X) X k
      omega
  obtain ⟨gs1, gs2⟩ := got_sum (b := fbB l X) (N := l.length) hfr hl0 (fun k hk => (hg k hk).2.2.1)
  have hgn : ∀ k, k < l.length → 0 ≤ (if fbB l X k then gotV l (fbB l X) X k else 0) := fun k hk => by
    split
    · rename_i hb
      have := (got_bd (l := l) (x := X) (k := k) hb).1
      have := (hg k hk).1
      omega
    · exact Int.le_refl _
  have hgl : ∀ k, k < l.length → fbB l X k = true → gotV l (fbB l X) X k ≤ X.left := fun k hk hb => by
    have h2 := sA_nonneg (x := fun k => if fbB l X k then gotV l (fbB l X) X k else 0) l.length hgn k hk
    simp only [hb, if_true] at h2
    omega
  have hnow : sA (fun k => (outV l X k).base + f k) l.length = sA (fun k => if fbB l X k then 0 else (l.getD k noSz).base) l.length + sA (fun k => if fbB l X k then gotV l (fbB l X) X k else 0) l.length + sA f l.length := by
    rw [sA_plus, sA_plus]
    refine sA_ext l.length (fun k hk => ?_)
    rw [(hbase k hk).2.2]
    unfold nbV
    split <;> omega
  have hwas : sA (fun k => if fbB l X k then 0 else (l.getD k noSz).base) l.length + sA f l.length ≤ sA (fun k => (l.getD k noSz).base + f k) l.length := by
    rw [sA_plus]
    refine sA_le2 l.length (fun k hk => ?_)
    have := (hg k hk).1
    show (if fbB l X k = true then 0 else (l.getD k noSz).base) + f k ≤ _
    split <;> omega
  have hgrow : ∀ k, k < l.length → (l.getD k noSz).base < (outV l X k).base → fbB l X k = true ∧ (outV l X k).base = gotV l (fbB l X) X k := fun k hk h => by
    have h2 := (hbase k hk).2.2
    unfold nbV at h2
    cases hb : fbB l X k
    · rw [hb] at h2
      simp at h2
      rw [List.getD_eq_getElem?_getD] at h
      omega
    · rw [hb] at h2
      simp only [if_true] at h2
      exact ⟨rfl, h2⟩
  refine ⟨fun k hk => ?_, fun i k hi hk gi gk e => ?_, ?_, ?_⟩
  · obtain ⟨b1, b2, b3⟩ := hbase k hk
    refine ⟨b1, b2, ?_, ?_, fun h5 => ?_⟩
    · rw [b3]
      unfold nbV
      split
      · rename_i hb
        exact (got_bd (l := l) (x := X) (k := k) hb).1
      · exact Int.le_refl _
    · rw [b3]
      unfold nbV
      split
      · rename_i hb
        have := hgl k hk hb
        omega
      · have := (hg k hk).2.1
        omega
    · rw [b3]
      unfold nbV fbB
      rw [show ((l.getD k noSz).mx == 5) = false by simpa using h5]
      rfl
  · obtain ⟨bi, ei⟩ := hgrow i hi gi
    obtain ⟨bk, ek⟩ := hgrow k hk gk
    have h2 := (got_bd (l := l) (x := X) (k := i) bi).2.1
    have h3 := (got_bd (l := l) (x := X) (k := k) bk).2.2
    rw [e] at h3
    rw [ei, ek]
    omega
  · rw [hnow]
    omega
  · by_cases hpa : sA (fun k => if (l.getD k noSz).base < (outV l X k).base then (l.getD k noSz).fr else 0) l.length < 1000
    · exact .inl hpa
    · refine .inr ?_
      have hpf : sA (fun k => if (l.getD k noSz).base < (outV l X k).base then (l.getD k noSz).fr else 0) l.length ≤ X.fr := by
        rw [hfr]
        refine sA_le2 l.length (fun k hk => ?_)
        have hk3 := (hg k hk).2.2.1
        show (if (l.getD k noSz).base < (outV l X k).base then (l.getD k noSz).fr else 0) ≤ (if fbB l X k = true then (l.getD k noSz).fr else 0)
        by_cases hgk : (l.getD k noSz).base < (outV l X k).base
        · rw [if_pos hgk, if_pos (hgrow k hk hgk).1]
          exact Int.le_refl _
        · rw [if_neg hgk]
          split
          · exact hk3
          · exact Int.le_refl _
      have hgs := gs2 (by omega)
      by_cases hl : X.left = 0
      · exfalso
        apply hpa
        have hz : sA (fun k => if (l.getD k noSz).base < (outV l X k).base then (l.getD k noSz).fr else 0) l.length ≤ 0 := by
          have h2 := sA_le2 (f := fun k => if (l.getD k noSz).base < (outV l X k).base then (l.getD k noSz).fr else 0) (g := fun _ => 0) l.length (fun k hk => by
            show (if (l.getD k noSz).base < (outV l X k).base then (l.getD k noSz).fr else 0) ≤ 0
            by_cases hgk : (l.getD k noSz).base < (outV l X k).base
            · obtain ⟨bk, ek⟩ := hgrow k hk hgk
              have h3 := hgl k hk bk
              have h4 := (hg k hk).1
              omega
            · rw [if_neg hgk]
              exact Int.le_refl _)
          rw [sA_zero l.length (fun _ => 0) (fun _ _ => rfl)] at h2
          exact h2
        omega
      · rw [hnow, hgs]
        omega

end Go.Proofs.Ytaonlpjfbajlcaa

namespace Go.Proofs.Ytaonlpjfbajlcaa
open Go.RowKit

theorem sA_mul (c : Int) (g : Nat → Int) : ∀ N, sA (fun k => c * g k) N = c * sA g N
  | 0 => by show (0 : Int) = c * 0; rw [Int.mul_zero]
  | N + 1 => by
    show sA (fun k => c * g k) N + c * g N = c * (sA g N + g N)
    rw [sA_mul c g N, Int.mul_add]

theorem sA_const (c : Int) : ∀ N : Nat, sA (fun _ => c) N = c * N
  | 0 => by show (0 : Int) = c * ((0 : Nat) : Int); simp
  | N + 1 => by
    show sA (fun _ => c) N + c = _
    rw [sA_const c N, Int.natCast_add, Int.mul_add]
    simp

theorem sm26_sQ (l : List SzD) (st : Nat → Bool) : ∀ N, sm26 l st N = sA (fun k => if (flx l k && !st k) = true then (l.getD k noSz).fr else 0) N
  | 0 => rfl
  | N + 1 => by
    show (if flx l N && !st N then sm26 l st N + (l.getD N noSz).fr else sm26 l st N) = sA (fun k => if (flx l k && !st k) = true then (l.getD k noSz).fr else 0) N + (if (flx l N && !st N) = true then (l.getD N noSz).fr else 0)
    rw [← sm26_sQ l st N]
    split <;> omega

theorem sA_up {f : Nat → Int} {N : Nat} (h : ∀ k, k < N → 0 ≤ f k) {k : Nat} (hk : k < N) : f k ≤ sA f N := by
  induction N with
  | zero => omega
  | succ n ih =>
    show f k ≤ sA f n + f n
    by_cases e : k = n
    · rw [e]
      have := sA_nn (f := f) n (fun j hj => h j (by omega))
      omega
    · have := ih (fun j hj => h j (by omega)) (by omega)
      have := h n (by omega)
      omega

/-- Those that are flexible and not among these, their bases. -/
def bT (l : List SzD) (st : Nat → Bool) (N : Nat) : Int := sA (fun k => if (flx l k && !st k) = true then (l.getD k noSz).base else 0) N

theorem uS_bT (l : List SzD) (st : Nat → Bool) (N : Nat) : uS l st N + bT l st N = sA (fun k => (l.getD k noSz).base) N := by
  unfold uS bT
  rw [sA_plus]
  refine sA_ext N (fun k _ => ?_)
  cases flx l k <;> cases st k <;> simp

/-- If all that are flexible become stiff, the tracks have the space. -/
theorem all_stiff {l : List SzD} {space : Int} {N : Nat} (h0 : 0 ≤ space) (hg : ∀ k, k < N → 0 ≤ (l.getD k noSz).base ∧ 0 ≤ (l.getD k noSz).fr) (hfr : ∀ k, k < N → flx l k = true → 1000 ≤ (l.getD k noSz).fr) {k0 : Nat} (hk0 : k0 < N) (hf0 : flx l k0 = true) :
    ∀ t, (∀ k, k < N → flx l k = true → stF l space N t k = true) → space ≤ sA (fun k => (l.getD k noSz).base) N
  | 0, hall => by exact absurd (hall k0 hk0 hf0) (by simp [stF])
  | t + 1, hall => by
    by_cases hc : ∀ k, k < N → flx l k = true → stF l space N t k = true
    · exact all_stiff h0 hg hfr hk0 hf0 t hc
    · obtain ⟨k1, hk1, hf1, hn1⟩ : ∃ k, k < N ∧ flx l k = true ∧ stF l space N t k = false := by
        apply Classical.byContradiction
        intro hcc
        refine hc (fun k hk hf => ?_)
        cases hs : stF l space N t k
        · exact absurd ⟨k, hk, hf, hs⟩ hcc
        · rfl
      obtain ⟨hl, hu⟩ := lf26_sum (l := l) (st := stF l space N t) h0 N (fun k hk => (hg k hk).1)
      have hF : 1000 ≤ sm26 l (stF l space N t) N := by
        rw [sm26_sQ]
        have h1 : (if (flx l k1 && !stF l space N t k1) = true then (l.getD k1 noSz).fr else 0) ≤ _ := sA_up (f := fun k => if (flx l k && !stF l space N t k) = true then (l.getD k noSz).fr else 0) (N := N) (fun k hk => by
          have := (hg k hk).2
          show 0 ≤ (if (flx l k && !stF l space N t k) = true then (l.getD k noSz).fr else 0)
          split <;> omega) hk1
        rw [if_pos (by rw [hf1, hn1]; rfl)] at h1
        have := hfr k1 hk1 hf1
        omega
      have hst : ∀ k, k < N → flx l k = true → stF l space N t k = false → lf26 l (stF l space N t) space N * (l.getD k noSz).fr ≤ (l.getD k noSz).base * sm26 l (stF l space N t) N := fun k hk hf hs => by
        have h1 := hall k hk hf
        rw [stF_succ, hs, hf, Bool.false_or, Bool.true_and] at h1
        have h2 : lf26 l (stF l space N t) space N * (l.getD k noSz).fr < (l.getD k noSz).base * max (sm26 l (stF l space N t) N) 1000 := of_decide_eq_true h1
        rw [Int.max_eq_left hF] at h2
        omega
      have hs := uS_bT l (stF l space N t) N
      generalize stF l space N t = A at *
      generalize lf26 l A space N = L at *
      have e1 : L * sm26 l A N = sA (fun k => if (flx l k && !A k) = true then L * (l.getD k noSz).fr else 0) N := by
        rw [sm26_sQ, ← sA_mul]
        refine sA_ext N (fun k _ => ?_)
        split <;> simp
      have e2 : sm26 l A N * bT l A N = sA (fun k => if (flx l k && !A k) = true then (l.getD k noSz).base * sm26 l A N else 0) N := by
        unfold bT
        rw [← sA_mul]
        refine sA_ext N (fun k _ => ?_)
        split
        · rw [Int.mul_comm]
        · simp
      have h3 : L * sm26 l A N ≤ sm26 l A N * bT l A N := by
        rw [e1, e2]
        refine sA_le2 N (fun k hk => ?_)
        cases hf : flx l k
        · simp
        · cases ha : A k
          · simp only [Bool.not_false, Bool.and_self, if_true]
            exact hst k hk hf ha
          · simp
      rw [Int.mul_comm L] at h3
      have h4 : L ≤ bT l A N := Int.le_of_mul_le_mul_left h3 (by omega)
      omega

theorem dvU_mul (a c : Int) (hc : 0 < c) : a ≤ dvU a c * c := by
  unfold dvU
  have := Int.ediv_mul_le (-a) (show c ≠ 0 by omega)
  rw [Int.neg_mul]
  omega

theorem unit_room {l : List SzD} {space u : Int} (hr : rgF l space = true) {k0 : Nat} (hk0 : k0 < l.length) (hf0 : flx l k0 = true) (hfr : ∀ k, k < l.length → flx l k = true → 1000 ≤ (l.getD k noSz).fr) (hu : unV l space ≤ u) {nb : Nat → Int}
    (hnb : ∀ k, k < l.length → (l.getD k noSz).base ≤ nb k) (hnf : ∀ k, k < l.length → flx l k = true → u * (l.getD k noSz).fr ≤ 1000 * nb k + 999) : space ≤ sA nb l.length + l.length := by
  obtain ⟨f1, f2, f3, -⟩ := rgF_facts hr
  have hg : ∀ k, k < l.length → 0 ≤ (l.getD k noSz).base ∧ 0 ≤ (l.getD k noSz).fr := fun k hk => ⟨(f2 k hk).1, (f3 k hk).1⟩
  by_cases hi : is26 l (unS l space) l.length = true
  · obtain ⟨hl, hu0⟩ := lf26_sum (l := l) (st := unS l space) f1.1 l.length (fun k hk => (hg k hk).1)
    have hF : 1000 ≤ sm26 l (unS l space) l.length := by
      rw [is26_cnt, decide_eq_true_eq] at hi
      obtain ⟨k1, hk1, hb1⟩ : ∃ k, k < l.length ∧ (flx l k && !unS l space k) = true := by
        apply Classical.byContradiction
        intro hcc
        have : cnt (fun k => flx l k && !unS l space k) l.length = cnt (fun _ => false) l.length := cnt_ext l.length (fun k hk => by
          cases hs : (flx l k && !unS l space k)
          · rfl
          · exact absurd ⟨k, hk, hs⟩ hcc)
        have h0 : ∀ N : Nat, cnt (fun _ => false) N = 0 := by
          intro N
          induction N with
          | zero => rfl
          | succ n ih =>
            have e2 : cnt (fun _ => false) (n + 1) = cnt (fun _ => false) n + if false = true then 1 else 0 := rfl
            rw [e2, ih]; simp
        rw [this, h0] at hi
        omega
      rw [sm26_sQ]
      have h1 : (if (flx l k1 && !unS l space k1) = true then (l.getD k1 noSz).fr else 0) ≤ _ := sA_up (f := fun k => if (flx l k && !unS l space k) = true then (l.getD k noSz).fr else 0) (N := l.length) (fun k hk => by
        have := (hg k hk).2
        show 0 ≤ (if (flx l k && !unS l space k) = true then (l.getD k noSz).fr else 0)
        split <;> omega) hk1
      rw [if_pos hb1] at h1
      rw [Bool.and_eq_true] at hb1
      have := hfr k1 hk1 hb1.1
      omega
    unfold unV at hu
    rw [if_pos ⟨hr, hi⟩, up_dv (by omega) (by omega) (by omega), Int.max_eq_left hF] at hu
    have hd := dvU_mul (lf26 l (unS l space) space l.length * 1000) (sm26 l (unS l space) l.length) (by omega)
    have hd2 : lf26 l (unS l space) space l.length * 1000 ≤ u * sm26 l (unS l space) l.length := by
      have := Int.mul_le_mul_of_nonneg_right hu (show 0 ≤ sm26 l (unS l space) l.length by omega)
      omega
    have hsum : u * sm26 l (unS l space) l.length + 1000 * uS l (unS l space) l.length ≤ 1000 * sA nb l.length + 999 * l.length := by
      have e1 : u * sm26 l (unS l space) l.length + 1000 * uS l (unS l space) l.length = sA (fun k => if (flx l k && !unS l space k) = true then u * (l.getD k noSz).fr else 1000 * (l.getD k noSz).base) l.length := by
        rw [sm26_sQ, ← sA_mul]
        unfold uS
        rw [← sA_mul, sA_plus]
        refine sA_ext _ (fun k _ => ?_)
        cases flx l k <;> cases unS l space k <;> simp
      have e2 : 1000 * sA nb l.length + 999 * l.length = sA (fun k => 1000 * nb k + 999) l.length := by
        rw [← sA_mul, ← sA_const, sA_plus]
      rw [e1, e2]
      refine sA_le2 _ (fun k hk => ?_)
      have h1 := hnb k hk
      cases hf : flx l k
      · simp only [Bool.false_and, Bool.false_eq_true, if_false]; omega
      · cases hs : unS l space k
        · simp only [Bool.not_false, Bool.and_self, if_true]
          exact hnf k hk hf
        · simp only [Bool.not_true, Bool.and_false, Bool.false_eq_true, if_false]; omega
    omega
  · have hall : ∀ k, k < l.length → flx l k = true → unS l space k = true := fun k hk hf => by
      cases hs : unS l space k
      · exfalso
        apply hi
        rw [is26_cnt, decide_eq_true_eq]
        have h1 : 0 < cnt (fun k => flx l k && !unS l space k) (k + 1) := by
          have e2 : cnt (fun k => flx l k && !unS l space k) (k + 1) = cnt (fun k => flx l k && !unS l space k) k + if (flx l k && !unS l space k) = true then 1 else 0 := rfl
          rw [e2, hf, hs]
          simp
        have h2 := cnt_up (fun k => flx l k && !unS l space k) (l.length - (k + 1)) (k + 1)
        rw [show k + 1 + (l.length - (k + 1)) = l.length by omega] at h2
        omega
      · rfl
    have h1 := all_stiff f1.1 hg hfr hk0 hf0 (l.length + 1) hall
    have h2 := sA_le2 (f := fun k => (l.getD k noSz).base) (g := nb) l.length hnb
    omega

end Go.Proofs.Ytaonlpjfbajlcaa

namespace Go.Proofs.Ytaonlpjfbajlcaa
open Go.RowKit

theorem dvU_less {a c : Int} (h0 : 0 ≤ a) (hc : 1000 ≤ c) : dvU (a * 1000) c ≤ a := by
  unfold dvU
  have h : -a ≤ (-(a * 1000)) / c := by
    apply Int.le_ediv_of_mul_le (by omega)
    have h2 : a * 1000 ≤ a * c := Int.mul_le_mul_of_nonneg_left hc h0
    rw [Int.neg_mul]
    omega
  omega

theorem upV_px {a c : Int} (h0 : 0 ≤ a) (h1 : a ≤ 68719476736) (hc : 1000 ≤ c) : upV a 1000 c ≤ a := by
  rw [up_dv h0 h1 (by omega)]
  exact dvU_less h0 hc

theorem gu26_px {l : List SzD} {N : Nat} (hb : ∀ k, k < N → 0 ≤ (l.getD k noSz).base ∧ (l.getD k noSz).base ≤ 68719476736) : ∀ k, k ≤ N → gu26 l k ≤ 68719476736
  | 0, _ => by simp [gu26]
  | k + 1, hk => by
    have h1 := gu26_px hb k (by omega)
    have h2 := hb k (by omega)
    have h3 := upV_px (c := max (l.getD k noSz).fr 1000) h2.1 h2.2 (by omega)
    simp only [gu26]
    split <;> omega

theorem unV_px (l : List SzD) (space : Int) : unV l space ≤ 68719476736 := by
  unfold unV
  split
  · rename_i h
    obtain ⟨⟨h0, h1⟩, hb, hf, -⟩ := rgF_facts h.1
    have hlb := lf26_bd (st := unS l space) h0 (fun k hk => (hb k hk).1) l.length (Nat.le_refl _)
    have h3 := upV_px (a := lf26 l (unS l space) space l.length) (c := max (sm26 l (unS l space) l.length) 1000) hlb.1 (by omega) (by omega)
    omega
  · omega

theorem gw26_px {l : List SzD} {f : Nat → Int} {ws : List WnD} (hb : ∀ k, k < l.length → 0 ≤ (l.getD k noSz).base ∧ (l.getD k noSz).base ≤ 68719476736) : ∀ k, gw26 l f ws k ≤ 68719476736
  | 0 => gu26_px hb l.length (Nat.le_refl _)
  | k + 1 => by
    have h1 := gw26_px (f := f) (ws := ws) hb k
    have h2 := unV_px (subL l (ws.getD k noWn)) (spG f (ws.getD k noWn).x (ws.getD k noWn).a.toNat ((ws.getD k noWn).b - (ws.getD k noWn).a - 1).toNat)
    simp only [gw26]
    omega

theorem mdV_fr {u r : Int} (h0 : 0 ≤ u) (h1 : u ≤ 68719476736) (f0 : 0 ≤ r) (f1 : r ≤ 1073741824) : (mdV u r 1000).1 = u * r / 1000 ∧ 0 ≤ u * r / 1000 := by
  have p0 : 0 ≤ u * r := Int.mul_nonneg h0 f0
  have p1 : u * r ≤ 68719476736 * 1073741824 := by
    have a1 : u * r ≤ 68719476736 * r := Int.mul_le_mul_of_nonneg_right h1 f0
    omega
  unfold mdV fitV
  rw [if_neg (by omega), Int.fdiv_eq_ediv_of_nonneg _ (by omega)]
  generalize u * r = p at *
  rw [if_pos (by omega)]
  exact ⟨rfl, by omega⟩

theorem gf_fields (l : List SzD) (u : Int) (k : Nat) : (gfV l u k).mx = (l.getD k noSz).mx ∧ (gfV l u k).fr = (l.getD k noSz).fr ∧ (l.getD k noSz).base ≤ (gfV l u k).base ∧ ((l.getD k noSz).mx ≠ 5 → (gfV l u k).base = (l.getD k noSz).base) ∧ (gfV l u k).base ≤ (gfV l u k).limit
    ∧ (flx l k = true → (gfV l u k).base = max (l.getD k noSz).base (min (mdV u (l.getD k noSz).fr 1000).1 68719476736)) := by
  have hf : flx l k = ((l.getD k noSz).mx == 5) := rfl
  have h1 := Int.le_max_left (l.getD k noSz).base (min (mdV u (l.getD k noSz).fr 1000).1 68719476736)
  have h2 := Int.le_max_right (l.getD k noSz).limit (max (l.getD k noSz).base (min (mdV u (l.getD k noSz).fr 1000).1 68719476736))
  have h3 := Int.le_max_right (l.getD k noSz).limit (l.getD k noSz).base
  unfold gfV raiseV setB
  cases h : flx l k
  · simp only [Bool.false_eq_true, if_false]
    exact ⟨trivial, trivial, Int.le_refl _, fun _ => trivial, h3, fun h => False.elim h⟩
  · simp only [if_true]
    refine ⟨trivial, trivial, h1, fun hn => ?_, h2, fun _ => trivial⟩
    exfalso
    rw [hf] at h
    exact hn (by simpa using h)

/-- The sum of a want's tracks and gaps, after so many of them. -/
def wsV (nb f : Nat → Int) (a : Nat) : Nat → Int
  | 0 => 0
  | d + 1 => wsV nb f a d + nb (a + d) + (if 0 < d then f (a + d) else 0)

theorem wsV_sum (nb f : Nat → Int) (a : Nat) : ∀ d, wsV nb f a (d + 1) = sA (fun i => nb (a + i)) (d + 1) + sA (fun i => f (a + 1 + i)) d
  | 0 => by
    show wsV nb f a 0 + nb (a + 0) + (if 0 < 0 then f (a + 0) else 0) = sA (fun i => nb (a + i)) 0 + nb (a + 0) + sA (fun i => f (a + 1 + i)) 0
    simp [wsV, sA]
  | d + 1 => by
    have ih := wsV_sum nb f a d
    show wsV nb f a (d + 1) + nb (a + (d + 1)) + (if 0 < d + 1 then f (a + (d + 1)) else 0) = sA (fun i => nb (a + i)) (d + 1) + nb (a + (d + 1)) + (sA (fun i => f (a + 1 + i)) d + f (a + 1 + d))
    rw [ih, if_pos (Nat.succ_pos _), show a + (d + 1) = a + 1 + d by omega]
    omega

/-- What is wanted of flexible tracks of one fr and more is there. -/
theorem want_room {l : List SzD} {M : Nat} {f : Nat → Int} {ws : List WnD} (h : good26 l M f ws 0 = true) {j : Nat} (hj : j < ws.length) {k0 : Nat} (hk0 : (ws.getD j noWn).a.toNat ≤ k0 ∧ k0 < (ws.getD j noWn).b.toNat) (hf0 : flx l k0 = true)
    (hfr : ∀ k, (ws.getD j noWn).a.toNat ≤ k → k < (ws.getD j noWn).b.toNat → flx l k = true → 1000 ≤ (l.getD k noSz).fr) :
    (ws.getD j noWn).x ≤ wsV (fun k => (gfV l (gw26 l f ws ws.length) k).base) f (ws.getD j noWn).a.toNat ((ws.getD j noWn).b - (ws.getD j noWn).a).toNat + ((ws.getD j noWn).b - (ws.getD j noWn).a) := by
  obtain ⟨-, hgs, -, -⟩ := good26_parts h
  have hm : ws.getD j noWn ∈ ws := by
    rw [List.getD_eq_getElem?_getD, List.getElem?_eq_getElem hj]
    exact List.getElem_mem hj
  obtain ⟨w0, w1, w2, w3, w4⟩ := good26_wants h _ hm
  have hb : ∀ k, k < l.length → 0 ≤ (l.getD k noSz).base ∧ (l.getD k noSz).base ≤ 68719476736 := fun k hk => ⟨(good_base (hgs k hk).1).1, (hgs k hk).2.2⟩
  have hf : ∀ k, k < l.length → 0 ≤ f k := fun k hk => (isSz_bd (hgs k hk).2.1).1
  have hu1 := gw26_px (l := l) (f := f) (ws := ws) hb ws.length
  have hu0 := (gw26_bd (l := l) (f := f) (ws := ws) hb ws.length).1
  have huu := (gw26_up l f ws ws.length).2 j hj
  have hfq : ∀ k, k < l.length → 0 ≤ (l.getD k noSz).fr ∧ (l.getD k noSz).fr ≤ 1073741824 := fun k hk => good_fr (hgs k hk).1
  generalize gw26 l f ws ws.length = u at *
  generalize ws.getD j noWn = x at *
  obtain ⟨a, b, lo, mi, mx⟩ := x
  simp only at *
  obtain ⟨A, hA⟩ : ∃ A : Nat, a = (A : Int) := ⟨a.toNat, by omega⟩
  obtain ⟨D, hD⟩ : ∃ D : Nat, b - a = ((D + 1 : Nat) : Int) := ⟨(b - a - 1).toNat, by omega⟩
  have hlen := subL_len (l := l) (x := ⟨a, b, 0, 0, 0⟩) w0 w1 w2
  have hget : ∀ i, i < D + 1 → (subL l ⟨a, b, 0, 0, 0⟩).getD i noSz = l.getD (A + i) noSz := fun i hi => by
    rw [subL_get (x := ⟨a, b, 0, 0, 0⟩) (by simp only; omega)]
    congr 1
    show a.toNat + i = A + i
    omega
  have eb : b.toNat = A + D + 1 := by omega
  have ea : a.toNat = A := by omega
  rw [show (b - a).toNat = D + 1 by omega] at hlen ⊢
  rw [ea, eb] at hk0 hfr
  rw [ea, wsV_sum]
  obtain ⟨g1, g2⟩ := lsV_sum (f := fun i => f (A + 1 + i)) (n := mx) w3 D (fun i hi => hf _ (by omega))
  unfold wuV at huu
  rw [ea, show (b - a - 1).toNat = D by omega, ← spG_ls f mx A D] at huu
  have nn : ∀ i, i < D + 1 → 0 ≤ (gfV l u (A + i)).base := fun i hi => by
    have q1 := (gf_fields l u (A + i)).2.2.1
    have q2 := (hb (A + i) (by omega)).1
    omega
  by_cases hc : ∃ i, i < D + 1 ∧ flx l (A + i) = true ∧ 68719476736 < (mdV u (l.getD (A + i) noSz).fr 1000).1
  · obtain ⟨i, hi, hfi, hbig⟩ := hc
    have q := (gf_fields l u (A + i)).2.2.2.2.2 hfi
    have q2 : (gfV l u (A + i)).base ≤ _ := sA_up (f := fun i => (gfV l u (A + i)).base) (N := D + 1) nn hi
    have q3 := g2
    omega
  · have hsp : rgF (subL l ⟨a, b, 0, 0, 0⟩) (lsV mx (fun i => f (A + 1 + i)) D) = true := rgF_of (by omega) (by omega) (fun k hk => by
      rw [hlen] at hk
      rw [hget k hk]
      have := hgs (A + k) (by omega)
      exact ⟨this.1, this.2.2⟩)
    have hfl : ∀ i, i < D + 1 → flx (subL l ⟨a, b, 0, 0, 0⟩) i = flx l (A + i) := fun i hi => by
      show (((subL l ⟨a, b, 0, 0, 0⟩).getD i noSz).mx == 5) = ((l.getD (A + i) noSz).mx == 5)
      rw [hget i hi]
    have hroom := unit_room (u := u) (nb := fun i => (gfV l u (A + i)).base) hsp (k0 := k0 - A) (by rw [hlen]; omega) (by rw [hfl _ (by omega), show A + (k0 - A) = k0 by omega]; exact hf0)
      (fun k hk hf => by
        rw [hlen] at hk
        rw [hfl k hk] at hf
        rw [hget k hk]
        exact hfr (A + k) (by omega) (by omega) hf) huu
      (fun k hk => by
        rw [hlen] at hk
        rw [hget k hk]
        exact (gf_fields l u (A + k)).2.2.1)
      (fun k hk hf => by
        rw [hlen] at hk
        rw [hfl k hk] at hf
        rw [hget k hk]
        have q := (gf_fields l u (A + k)).2.2.2.2.2 hf
        have hq := hfq (A + k) (by omega)
        obtain ⟨m1, m2⟩ := mdV_fr hu0 hu1 hq.1 hq.2
        have nb : ¬ 68719476736 < (mdV u (l.getD (A + k) noSz).fr 1000).1 := fun hb => hc ⟨k, hk, hf, hb⟩
        rw [m1] at q nb
        omega)
    rw [hlen] at hroom
    omega

end Go.Proofs.Ytaonlpjfbajlcaa

namespace Go.Proofs.Ytaonlpjfbajlcaa
open Go.RowKit

theorem belowR (W : World) (n : Nat) : Below W.heap.size W (World.drewN W n) := ⟨rfl, rfl, rfl, Nat.le_refl _, fun _ _ => rfl⟩

theorem SzL.at1 {w : World} {b off N cap : Nat} {l : List SzD} (h : SzL w (.slice (some ⟨b, off, none⟩) N cap) l) {k : Nat} (hk : k < l.length) :
    w.cell? ⟨b, off + k * 7, none⟩ = some (.int .i64 (l.getD k noSz).mn) ∧ w.cell? ⟨b, off + k * 7 + 1, none⟩ = some (.int .i64 (l.getD k noSz).mx) ∧ w.cell? ⟨b, off + k * 7 + 2, none⟩ = some (.int .i64 (l.getD k noSz).fr) ∧ w.cell? ⟨b, off + k * 7 + 3, none⟩ = some (.bool (l.getD k noSz).fit) ∧ w.cell? ⟨b, off + k * 7 + 4, none⟩ = some (.int .i64 (l.getD k noSz).cap) ∧ w.cell? ⟨b, off + k * 7 + 5, none⟩ = some (.int .i64 (l.getD k noSz).base) ∧ w.cell? ⟨b, off + k * 7 + 6, none⟩ = some (.int .i64 (l.getD k noSz).limit) := by
  obtain ⟨b', off', e, -, h0⟩ := h.at hk
  obtain ⟨rfl, rfl⟩ : b = b' ∧ off = off' := by simpa using e
  exact h0

theorem getD_map_rangeR (g : Nat → SzD) (N k : Nat) (hk : k < N) : ((List.range N).map g).getD k noSz = g k := by
  simp [List.getD_eq_getElem?_getD, hk]

/-- Is one of the first so many of a want's tracks flexible, and is one of them small? -/
def fxV (l : List SzD) (a : Nat) : Nat → Bool
  | 0 => false
  | d + 1 => fxV l a d || flx l (a + d)

def smV (l : List SzD) (a : Nat) : Nat → Bool
  | 0 => false
  | d + 1 => smV l a d || (flx l (a + d) && decide ((l.getD (a + d) noSz).fr < 1000))

theorem fxV_one {l : List SzD} {a : Nat} : ∀ d, fxV l a d = true → ∃ k, a ≤ k ∧ k < a + d ∧ flx l k = true
  | 0, h => by exact absurd h (by simp [fxV])
  | d + 1, h => by
    rw [fxV, Bool.or_eq_true] at h
    rcases h with h | h
    · obtain ⟨k, h1, h2, h3⟩ := fxV_one d h
      exact ⟨k, h1, by omega, h3⟩
    · exact ⟨a + d, by omega, by omega, h⟩

theorem smV_all {l : List SzD} {a : Nat} : ∀ d, smV l a d = false → ∀ k, a ≤ k → k < a + d → flx l k = true → 1000 ≤ (l.getD k noSz).fr
  | 0, _, k, h1, h2, _ => by omega
  | d + 1, h, k, h1, h2, h3 => by
    rw [smV, Bool.or_eq_false_iff] at h
    by_cases e : k = a + d
    · subst e
      have h4 := h.2
      rw [h3, Bool.true_and, decide_eq_false_iff_not] at h4
      omega
    · exact smV_all d h.1 k h1 (by omega) h3

theorem wsV_bd {nb f : Nat → Int} {a N : Nat} (hn : ∀ k, k < N → 0 ≤ nb k ∧ nb k ≤ 68719476736) (hf : ∀ k, k < N → 0 ≤ f k ∧ f k ≤ 68719476736) : ∀ d, a + d ≤ N → 0 ≤ wsV nb f a d ∧ wsV nb f a d ≤ d * 137438953472
  | 0, _ => by simp [wsV]
  | d + 1, hd => by
    have h1 := wsV_bd (a := a) hn hf d (by omega)
    have h2 := hn (a + d) (by omega)
    have h3 := hf (a + d) (by omega)
    show 0 ≤ wsV nb f a d + nb (a + d) + (if 0 < d then f (a + d) else 0) ∧ wsV nb f a d + nb (a + d) + (if 0 < d then f (a + d) else 0) ≤ _
    have e : ((d + 1 : Nat) : Int) * 137438953472 = d * 137438953472 + 137438953472 := by
      rw [Int.natCast_add, Int.add_mul]; rfl
    rw [e]
    split <;> omega

theorem good24_26 {l : List SzD} {M : Nat} {f : Nat → Int} {ws : List WnD} (hg : good24 l M f ws 0 = true) (hb : ∀ k, k < l.length → (l.getD k noSz).base ≤ 68719476736) : good26 l M f ws 0 = true := by
  have ht : ∀ k, k < l.length → goodS (l.getD k noSz) = true := fun k hk => by
    cases h2 : (goodS (l.getD k noSz) && isSz (f k))
    · unfold good24 at hg
      rw [tg24_not hk h2] at hg
      simp at hg
    · rw [Bool.and_eq_true] at h2
      exact h2.1
  exact rgF_good2.1 ⟨rgF_of (by omega) (by omega) (fun k hk => ⟨ht k hk, hb k hk⟩), hg⟩

/-- What the law asks of the grown tracks. -/
structure GrwF (l : List SzD) (f : Nat → Int) (ws : List WnD) (o : Nat → SzD) : Prop where
  same : ∀ k, k < l.length → (o k).mx = (l.getD k noSz).mx ∧ (o k).fr = (l.getD k noSz).fr ∧ (l.getD k noSz).base ≤ (o k).base ∧ ((l.getD k noSz).mx ≠ 5 → (o k).base = (l.getD k noSz).base) ∧ (o k).base ≤ (o k).limit
  bd : ∀ k, k < l.length → 0 ≤ (o k).base ∧ (o k).base ≤ 68719476736
  wb : ∀ j, j < ws.length → 0 ≤ (ws.getD j noWn).a ∧ (ws.getD j noWn).a < (ws.getD j noWn).b ∧ (ws.getD j noWn).b ≤ (l.length : Int) ∧ 0 ≤ (ws.getD j noWn).x ∧ (ws.getD j noWn).x ≤ 68719476736
  room : ∀ j, j < ws.length → fxV l (ws.getD j noWn).a.toNat ((ws.getD j noWn).b - (ws.getD j noWn).a).toNat = true → smV l (ws.getD j noWn).a.toNat ((ws.getD j noWn).b - (ws.getD j noWn).a).toNat = false →
    (ws.getD j noWn).x ≤ wsV (fun k => (o k).base) f (ws.getD j noWn).a.toNat ((ws.getD j noWn).b - (ws.getD j noWn).a).toNat + ((ws.getD j noWn).b - (ws.getD j noWn).a)

theorem grw_facts {l : List SzD} {M : Nat} {f : Nat → Int} {ws : List WnD} (hg : good24 l M f ws 0 = true) (hb : ∀ k, k < l.length → (l.getD k noSz).base ≤ 68719476736) :
    M = l.length ∧ (∀ k, k < l.length → 0 ≤ f k ∧ f k ≤ 68719476736) ∧ growW l M f ws = (List.range l.length).map (gfV l (gw26 l f ws ws.length)) ∧ GrwF l f ws (gfV l (gw26 l f ws ws.length)) := by
  have h26 := good24_26 hg hb
  obtain ⟨hM, hgs, -, -⟩ := good26_parts h26
  have hw := good26_wants h26
  have hmem : ∀ j, j < ws.length → ws.getD j noWn ∈ ws := fun j hj => by
    rw [List.getD_eq_getElem?_getD, List.getElem?_eq_getElem hj]
    exact List.getElem_mem hj
  refine ⟨hM, fun k hk => isSz_bd (hgs k hk).2.1, ?_, ?_, ?_, ?_, ?_⟩
  · unfold growW
    rw [if_pos (rgF_good2.2 h26), gfL_map]
  · intro k _
    have q := gf_fields l (gw26 l f ws ws.length) k
    exact ⟨q.1, q.2.1, q.2.2.1, q.2.2.2.1, q.2.2.2.2.1⟩
  · intro k hk
    have q := gf_fields l (gw26 l f ws ws.length) k
    have b0 := (good_base (hgs k hk).1).1
    have b1 := hb k hk
    refine ⟨by omega, ?_⟩
    cases hf : flx l k
    · have e : (l.getD k noSz).mx ≠ 5 := fun e => by
        have h2 : flx l k = ((l.getD k noSz).mx == 5) := rfl
        rw [h2, e] at hf
        exact absurd hf (by decide)
      rw [q.2.2.2.1 e]
      exact b1
    · rw [q.2.2.2.2.2 hf]
      omega
  · intro j hj
    exact hw _ (hmem j hj)
  · intro j hj h1 h2
    obtain ⟨k0, a1, a2, a3⟩ := fxV_one _ h1
    have hwj := hw _ (hmem j hj)
    refine want_room h26 hj (k0 := k0) ⟨a1, by omega⟩ a3 (fun k b1 b2 b3 => smV_all _ h2 k b1 (by omega) b3)

end Go.Proofs.Ytaonlpjfbajlcaa

namespace Go.Proofs.Ytaonlpjfbajlcaa
open Go.RowKit

set_option maxRecDepth 100000 in
set_option maxHeartbeats 16000000 in
theorem flexGrows_in (v : Value) (l : List SzD) (aa : Option Addr) (M ca : Nat) (f : Nat → Int) (u : Value) (ws : List WnD) (w : World) (h : SzL w v l) (ha : ArI w aa M f) (hw : WnL w u ws) (hMc : M ≤ ca) :
    Calls Try.prog 5 #[v, .slice aa M ca, u] w fun e w' => e = .returned (.bool true) ∧ Below w.heap.size w w' := by
  have HS := hide h
  have HA := hide ha
  have HW := hide hw
  have CG := hide (fun (hN : l.length ≤ 60) (hK : ws.length ≤ 60) => rgood24_any v l aa M ca f u ws 0 w h ha hw (by omega) (by omega))
  have CL := hide (fun W (hb : Below w.heap.size w W) => (lives26_any W).mono fun _ _ hh => And.intro hh.1 (hb.trans (hh.2.mono hb.size)))
  have CF := hide (fun W (hb : Below w.heap.size w W) (hN : l.length ≤ 60) (hK : ws.length ≤ 60) => grow26_any v l aa M ca f u ws W (h.below hb) (ha.below hb) (hw.below hb) (by omega) (by omega) hMc)
  have HFT := hide (fun hg hb => grw_facts (l := l) (M := M) (f := f) (ws := ws) hg hb)
  obtain ⟨ao, cap, rfl⟩ := h.slice
  obtain ⟨wo, cw, rfl⟩ := hw.slice
  generalize good24 l M f ws 0 = GD at *
  obtain ⟨N, hN0⟩ : ∃ N, N = l.length := ⟨_, rfl⟩
  obtain ⟨K, hK0⟩ : ∃ K, K = ws.length := ⟨_, rfl⟩
  have HNL := hide hN0
  have HKL := hide hK0
  rw [← hN0] at HS CG CF HFT
  rw [← hN0, ← hK0]
  rw [← hK0] at HW CG CF
  clear h ha hw hN0 hK0
  by_cases h1 : (60 : Int) < (N : Int)
  · go_enter Try.func5, Try.ntmps5
    go_wp2_with fail
    refine Calls.mono ((CL.out) w (Below.refl _ _)) ?_
    rintro e w9 ⟨rfl, hb9⟩
    have B9 := hide hb9
    clear hb9
    go_wp2_with fail
    go_ret
    exact ⟨rfl, B9.out⟩
  · by_cases h2 : (60 : Int) < (K : Int)
    · go_enter Try.func5, Try.ntmps5
      go_wp2_with fail
      refine Calls.mono ((CL.out) w (Below.refl _ _)) ?_
      rintro e w9 ⟨rfl, hb9⟩
      have B9 := hide hb9
      clear hb9
      go_wp2_with fail
      go_ret
      exact ⟨rfl, B9.out⟩
    · cases GD
      · go_enter Try.func5, Try.ntmps5
        go_wp2_with fail
        refine Calls.mono ((CG.out) (by omega) (by omega)) ?_
        rintro e w1 ⟨rfl, hb1⟩
        have B1 := hide hb1
        clear hb1 CG
        go_wp2_with fail
        refine Calls.mono ((CL.out) w1 (B1.out)) ?_
        rintro e w9 ⟨rfl, hb9⟩
        have B9 := hide hb9
        clear hb9
        go_wp2_with fail
        go_ret
        exact ⟨rfl, B9.out⟩
      · go_enter Try.func5, Try.ntmps5
        go_wp2_with fail
        refine Calls.mono ((CG.out) (by omega) (by omega)) ?_
        rintro e w1 ⟨rfl, hb1⟩
        have B1 := hide hb1
        clear hb1 CG
        go_wp2_with fail
        go_loopw [36] (fun i wr => ∃ k : Nat, k ≤ N ∧ i = .int .i64 (k : Int) ∧ Hid (∀ j, j < k → (l.getD j noSz).base ≤ 68719476736) ∧ Hid (Below w.heap.size w wr)) (fun i _ => N - (intOf i).toNat)
        case atStart => exact ⟨0, Nat.zero_le _, by go_num, hide (fun j hj => absurd hj (Nat.not_lt_zero _)), B1⟩
        case round =>
          clear B1
          obtain ⟨k, hk, rfl, HP, HB⟩ := hrel
          by_cases hkl : k < N
          · have hi : (k : Int) < (N : Int) := by omega
            have hn2 : ¬ (k : Int) < 0 := by omega
            have hkL : k < l.length := by rw [← HNL.out]; exact hkl
            obtain ⟨bs, os, hao, -, s0, s1, s2, s3, s4, s5, s6⟩ := ((HS.out).below (HB.out)).at hkL
            have HP2 : Hid ((l.getD k noSz).base ≤ 68719476736 → ∀ j, j < k + 1 → (l.getD j noSz).base ≤ 68719476736) := hide (fun hh j hj => by
              rcases Nat.lt_or_ge j k with h1 | h1
              · exact (HP.out) j h1
              · obtain rfl : j = k := by omega
                exact hh)
            subst hao
            clear HP hkL
            generalize l.getD k noSz = s at *
            obtain ⟨a1, a2, a3, a4, a5, a6, a7⟩ := s
            simp only at s0 s1 s2 s3 s4 s5 s6 HP2
            have hL : SzR (wr.alloc (.cells #[.int .i64 a1, .int .i64 a2, .int .i64 a3, .bool a4, .int .i64 a5, .int .i64 a6, .int .i64 a7] 32)) wr.heap.size ⟨a1, a2, a3, a4, a5, a6, a7⟩ := SzR.new wr ⟨a1, a2, a3, a4, a5, a6, a7⟩
            have HB2 := hide ((HB.out).alloc (HB.out).size (.cells #[.int .i64 a1, .int .i64 a2, .int .i64 a3, .bool a4, .int .i64 a5, .int .i64 a6, .int .i64 a7] 32))
            clear HB
            go_upto_region 6 with fail
            generalize wr.alloc (.cells #[.int .i64 a1, .int .i64 a2, .int .i64 a3, .bool a4, .int .i64 a5, .int .i64 a6, .int .i64 a7] 32) = w2 at *
            generalize wr.heap.size = V at *
            obtain ⟨t0, t1, t2, t3, t4, t5, t6⟩ := hL.cells
            by_cases hbig : 1073741824 < a6
            · go_wp2_with fail
              refine Calls.mono ((CL.out) w2 (HB2.out)) ?_
              rintro e w9 ⟨rfl, hb9⟩
              have B9 := hide hb9
              clear hb9
              go_wp2_with fail
              go_ret
              exact ⟨rfl, B9.out⟩
            · have HP3 := hide ((HP2.out) (by omega))
              clear HP2
              go_wp2_with fail
              go_roundw
              case rel => exact ⟨k + 1, by omega, by go_num, HP3, HB2⟩
              case measure => simp [intOf]; omega
          · have hi : ¬ (k : Int) < (N : Int) := by omega
            have hall : ∀ j, j < N → (l.getD j noSz).base ≤ 68719476736 := fun j hj => (HP.out) j (by omega)
            obtain ⟨hMN, hfb, hout, hX⟩ := (HFT.out) (by trivial) hall
            subst hMN
            have CF2 := hide ((CF.out) wr (HB.out) (by omega) (by omega))
            rw [hout] at CF2
            have hlen : ((List.range M).map (gfV l (gw26 l f ws ws.length))).length = M := by rw [List.length_map, List.length_range]
            obtain ⟨o, ho⟩ : ∃ o, o = gfV l (gw26 l f ws ws.length) := ⟨_, rfl⟩
            rw [← ho] at CF2 hX hlen
            have HX := hide hX
            have HFB := hide hfb
            have HLEN := hide hlen
            clear HP CF hall ho hout hX hfb HFT hlen
            go_wp2_with fail
            refine Calls.mono CF2.out ?_
            rintro e w2 ⟨u9, rfl, hu, hb2⟩
            obtain ⟨uo, uc, hvu⟩ := hu.slice
            rw [HLEN.out] at hvu
            subst hvu
            have HU := hide hu
            have B2 : Hid (Below w.heap.size w w2) := hide ((HB.out).trans (hb2.mono (HB.out).size))
            have HIN := hide (fun W (hb : Below w2.heap.size w2 W) => And.intro ((HU.out).below hb) (And.intro ((HS.out).below ((B2.out).trans (hb.mono (B2.out).size))) (And.intro ((HA.out).below ((B2.out).trans (hb.mono (B2.out).size))) ((HW.out).below ((B2.out).trans (hb.mono (B2.out).size))))))
            have CL2 := hide (fun W (hb : Below w2.heap.size w2 W) => (CL.out) W ((B2.out).trans (hb.mono (B2.out).size)))
            clear hu hb2 HU CF2 HB CL HS HA HW
            have hnn : ((M : Int) != (M : Int)) = false := by simp
            go_wp2_with fail
            go_loopw [56] (fun i wr => ∃ k : Nat, k ≤ M ∧ i = .int .i64 (k : Int) ∧ Hid (Below w2.heap.size w2 wr)) (fun i _ => M - (intOf i).toNat)
            case atStart => exact ⟨0, Nat.zero_le _, by go_num, hide (Below.refl _ _)⟩
            case round =>
              obtain ⟨k, hk, rfl, HBW⟩ := hrel
              by_cases hkl : k < M
              · have hi : (k : Int) < (M : Int) := by omega
                have hn2 : ¬ (k : Int) < 0 := by omega
                have hkL : k < l.length := by rw [← HNL.out]; exact hkl
                have hkO : k < ((List.range M).map o).length := by rw [HLEN.out]; exact hkl
                obtain ⟨bu, ou, huo, -, u0, u1, u2, u3, u4, u5, u6⟩ := ((HIN.out) wr (HBW.out)).1.at hkO
                obtain ⟨bs, os, hao, -, -⟩ := ((HIN.out) wr (HBW.out)).2.1.at hkL
                subst huo hao
                rw [getD_map_rangeR o M k hkl] at u0 u1 u2 u3 u4 u5 u6
                obtain ⟨m1, m2, m3, m4, m5⟩ := (HX.out).same k hkL
                have HKQ := hide hkL
                clear hkL hkO
                generalize o k = x at *
                obtain ⟨x1, x2, x3, x4, x5, x6, x7⟩ := x
                generalize hsk : l.getD k noSz = s at *
                have HSK := hide hsk
                clear hsk
                obtain ⟨a1, a2, a3, a4, a5, a6, a7⟩ := s
                simp only at u0 u1 u2 u3 u4 u5 u6 m1 m2 m3 m4 m5
                have HM1 : Hid (x2 = 5 ∨ x6 = a6) := hide (by
                  by_cases e : a2 = 5
                  · exact .inl (by rw [m1]; exact e)
                  · exact .inr (m4 e))
                clear m1 m2 m4
                have hX3 : SzR (wr.alloc (.cells #[.int .i64 x1, .int .i64 x2, .int .i64 x3, .bool x4, .int .i64 x5, .int .i64 x6, .int .i64 x7] 32)) wr.heap.size ⟨x1, x2, x3, x4, x5, x6, x7⟩ := SzR.new wr ⟨x1, x2, x3, x4, x5, x6, x7⟩
                have HX3 := hide hX3
                have HB3 := hide ((HBW.out).alloc (HBW.out).size (.cells #[.int .i64 x1, .int .i64 x2, .int .i64 x3, .bool x4, .int .i64 x5, .int .i64 x6, .int .i64 x7] 32))
                clear hX3 HBW
                go_upto_region 15 with fail
                generalize wr.alloc (.cells #[.int .i64 x1, .int .i64 x2, .int .i64 x3, .bool x4, .int .i64 x5, .int .i64 x6, .int .i64 x7] 32) = W3 at *
                generalize wr.heap.size = V at *
                clear u0 u1 u2 u3 u4 u5 u6
                obtain ⟨t0, t1, t2, t3, t4, t5, t6⟩ := (HX3.out).cells
                have hb5 := (((HIN.out) W3 (HB3.out)).2.1.at1 (HKQ.out)).2.2.2.2.2.1
                rw [HSK.out] at hb5
                have s5 : W3.cell? ⟨bs, os + k * 7 + 5, none⟩ = some (.int .i64 a6) := hb5
                clear hb5
                have q1 : decide (x6 < a6) = false := decide_eq_false (by omega)
                have q4 : decide (x7 < x6) = false := decide_eq_false (by omega)
                go_cut [90] (fun bb wx => bb = .bool false ∧ Hid (Below w2.heap.size w2 wx))
                case first =>
                  by_cases hm5 : x2 = 5
                  · have q2 : (x2 != 5) = false := by simp [hm5]
                    clear hm5
                    go_quiet (fail)
                    have HB4 : Hid (Below w2.heap.size w2 (World.drewN W3 nq)) := hide ((HB3.out).trans ((belowR W3 nq).mono (HB3.out).size))
                    generalize World.drewN W3 nq = W4 at *
                    go_wp2_with fail
                    go_meet
                    exact ⟨rfl, HB4⟩
                  · have q2 : (x2 != 5) = true := by simp [hm5]
                    have q3 : (x6 != a6) = false := by have h := (HM1.out).resolve_left hm5; simp [h]
                    clear hm5
                    go_quiet (fail)
                    have HB4 : Hid (Below w2.heap.size w2 (World.drewN W3 nq)) := hide ((HB3.out).trans ((belowR W3 nq).mono (HB3.out).size))
                    generalize World.drewN W3 nq = W4 at *
                    go_wp2_with fail
                    go_meet
                    exact ⟨rfl, HB4⟩
                case rest =>
                  obtain ⟨rfl, HB4⟩ := hcut
                  clear HB3 HX3 t0 t1 t2 t3 t4 t5 t6 s5 q1 q4 HM1 m3 m5
                  go_wp2_with fail
                  go_roundw
                  case rel => exact ⟨k + 1, by omega, by go_num, HB4⟩
                  case measure => simp [intOf]; omega
              · have hi : ¬ (k : Int) < (M : Int) := by omega
                have HK60 := hide h2
                go_wp2_with fail
                go_loopw [94] (fun i wr => ∃ j : Nat, j ≤ K ∧ i = .int .i64 (j : Int) ∧ Hid (Below w2.heap.size w2 wr)) (fun i _ => K - (intOf i).toNat)
                case atStart => exact ⟨0, Nat.zero_le _, by go_num, HBW⟩
                case round =>
                  clear HBW
                  obtain ⟨j, hj, rfl, HBW⟩ := hrel
                  by_cases hjl : j < K
                  · have hij : (j : Int) < (K : Int) := by omega
                    have hnj : ¬ (j : Int) < 0 := by omega
                    have hjL : j < ws.length := by rw [← HKL.out]; exact hjl
                    obtain ⟨bw, ow, hwo, -, v0, v1, v2, v3, v4⟩ := ((HIN.out) wr (HBW.out)).2.2.2.at hjL
                    subst hwo
                    obtain ⟨g0, g1, g2, g3, g4⟩ := (HX.out).wb j hjL
                    have hroom := (HX.out).room j hjL
                    clear hjL
                    generalize ws.getD j noWn = x at *
                    obtain ⟨xa, xb, xl, xm, xx⟩ := x
                    simp only at v0 v1 v2 v3 v4 g0 g1 g2 g3 g4 hroom
                    obtain ⟨A, hA⟩ : ∃ A : Nat, xa = (A : Int) := ⟨xa.toNat, by omega⟩
                    obtain ⟨B, hB⟩ : ∃ B : Nat, xb = (B : Int) := ⟨xb.toNat, by omega⟩
                    subst hA hB
                    rw [show (A : Int).toNat = A by omega, show ((B : Int) - (A : Int)).toNat = B - A by omega] at hroom
                    have hAB : A < B := by omega
                    have hBM : B ≤ M := by have := HNL.out; omega
                    have HROOM := hide hroom
                    have hR : WnR (wr.alloc (.cells #[.int .i64 (A : Int), .int .i64 (B : Int), .int .i64 xl, .int .i64 xm, .int .i64 xx] 35)) wr.heap.size ⟨(A : Int), (B : Int), xl, xm, xx⟩ := WnR.new wr ⟨(A : Int), (B : Int), xl, xm, xx⟩
                    have HR := hide hR
                    have HB3 := hide ((HBW.out).alloc (HBW.out).size (.cells #[.int .i64 (A : Int), .int .i64 (B : Int), .int .i64 xl, .int .i64 xm, .int .i64 xx] 35))
                    clear hR HBW hroom g0 g1 g2
                    go_upto_region 21 with fail
                    generalize wr.alloc (.cells #[.int .i64 (A : Int), .int .i64 (B : Int), .int .i64 xl, .int .i64 xm, .int .i64 xx] 35) = W3 at *
                    generalize wr.heap.size = V at *
                    clear v0 v1 v2 v3 v4
                    obtain ⟨z0, z1, z2, z3, z4⟩ := (HR.out).cells
                    go_wp2_with fail
                    go_loopw [14, 15, 16, 17] (fun sm fx ss i wr => ∃ c : Nat, A ≤ c ∧ c ≤ B ∧ i = .int .i64 (c : Int) ∧ sm = .int .i64 (wsV (fun k => (o k).base) f A (c - A)) ∧ fx = .bool (fxV l A (c - A)) ∧ ss = .bool (smV l A (c - A)) ∧ Hid (Below w2.heap.size w2 wr) ∧ Hid (WnR wr V ⟨(A : Int), (B : Int), xl, xm, xx⟩)) (fun _ _ _ i _ => B - (intOf i).toNat)
                    case atStart => exact ⟨A, Nat.le_refl _, by omega, by go_num, by rw [Nat.sub_self]; rfl, by rw [Nat.sub_self]; rfl, by rw [Nat.sub_self]; rfl, HB3, HR⟩
                    case round =>
                      clear HB3 HR z0 z1 z2 z3 z4
                      obtain ⟨c, hc0, hc1, rfl, rfl, rfl, rfl, HB, HR⟩ := hrel
                      obtain ⟨z0, z1, z2, z3, z4⟩ := (HR.out).cells
                      by_cases hcl : c < B
                      · have hic : (c : Int) < (B : Int) := by omega
                        have hnc : ¬ (c : Int) < 0 := by omega
                        have hcM : (c : Int) < (M : Int) := by omega
                        have hcm : c < M := by omega
                        have hcL : c < l.length := by rw [← HNL.out]; exact hcm
                        have hcO : c < ((List.range M).map o).length := by rw [HLEN.out]; exact hcm
                        obtain ⟨bu, ou, huo, -, u0, u1, u2, u3, u4, u5, u6⟩ := ((HIN.out) wr (HB.out)).1.at hcO
                        obtain ⟨ba, oa, haa, y0⟩ := ((HIN.out) wr (HB.out)).2.2.1.at hcm
                        subst huo haa
                        rw [getD_map_rangeR o M c hcm] at u0 u1 u2 u3 u4 u5 u6
                        obtain ⟨m1, m2, -, -, -⟩ := (HX.out).same c hcL
                        obtain ⟨n0, n1⟩ := (HX.out).bd c hcL
                        obtain ⟨f0, f1⟩ := (HFB.out) c hcm
                        have hwb := wsV_bd (nb := fun k => (o k).base) (f := f) (a := A) (N := M) (fun k hk => (HX.out).bd k (by rw [← HNL.out]; exact hk)) (fun k hk => (HFB.out) k hk) (c - A) (by omega)
                        have hws : wsV (fun k => (o k).base) f A (c + 1 - A) = wsV (fun k => (o k).base) f A (c - A) + (o c).base + (if 0 < c - A then f c else 0) := by
                          rw [show c + 1 - A = (c - A) + 1 by omega, wsV, show A + (c - A) = c by omega]
                        have hfx : fxV l A (c + 1 - A) = (fxV l A (c - A) || ((l.getD c noSz).mx == 5)) := by
                          rw [show c + 1 - A = (c - A) + 1 by omega, fxV, show A + (c - A) = c by omega]
                          rfl
                        have hss : smV l A (c + 1 - A) = (smV l A (c - A) || (((l.getD c noSz).mx == 5) && decide ((l.getD c noSz).fr < 1000))) := by
                          rw [show c + 1 - A = (c - A) + 1 by omega, smV, show A + (c - A) = c by omega]
                          rfl
                        rw [← m1] at hfx hss
                        rw [← m2] at hss
                        generalize hW' : wsV (fun k => (o k).base) f A (c + 1 - A) = W' at *
                        generalize wsV (fun k => (o k).base) f A (c - A) = Sm at *
                        generalize hF' : fxV l A (c + 1 - A) = F' at *
                        generalize fxV l A (c - A) = Fx at *
                        generalize hS' : smV l A (c + 1 - A) = S' at *
                        generalize smV l A (c - A) = Ss at *
                        have HW' := hide hW'
                        have HF' := hide hF'
                        have HS' := hide hS'
                        clear hW' hF' hS' hcL hcO m1 m2
                        generalize o c = x at *
                        generalize f c = fc at *
                        obtain ⟨x1, x2, x3, x4, x5, x6, x7⟩ := x
                        simp only at u0 u1 u2 u3 u4 u5 u6 n0 n1 hws hfx hss
                        have hsz : 0 ≤ Sm ∧ Sm ≤ 8246337208320 := by
                          refine ⟨hwb.1, ?_⟩
                          have := hwb.2
                          omega
                        obtain ⟨hsz0, hsz1⟩ := hsz
                        clear hwb
                        have HFX := hide hfx
                        have HSS := hide hss
                        have HWS := hide hws
                        clear hfx hss hws
                        by_cases hfirst : c = A
                        · subst hfirst
                          have hng : ¬ (c : Int) < (c : Int) := by omega
                          have HW2 : Hid (W' = Sm + x6) := hide (by rw [HWS.out, if_neg (by omega)]; omega)
                          clear HWS
                          cases hmx : (x2 == 5)
                          · rw [hmx] at HFX HSS
                            have HFV : Hid (F' = Fx) := hide (by rw [HFX.out, Bool.or_false])
                            have HSV : Hid (S' = Ss) := hide (by rw [HSS.out, Bool.false_and, Bool.or_false])
                            clear HFX HSS
                            have HBQ := HB
                            have HRQ := HR
                            go_wp2_with fail
                            go_roundw
                            case rel => exact ⟨c + 1, by omega, by omega, by go_num, by rw [HW'.out, HW2.out], by rw [HF'.out, HFV.out], by rw [HS'.out, HSV.out], HBQ, HRQ⟩
                            case measure => simp [intOf]; omega
                          · rw [hmx] at HFX HSS
                            have HFV : Hid (F' = true) := hide (by rw [HFX.out, Bool.or_true])
                            cases Ss
                            · by_cases hsmall : x3 < 1000
                              · have HSV : Hid (S' = true) := hide (by rw [HSS.out, decide_eq_true hsmall]; rfl)
                                clear HFX HSS
                                have qs : decide (x3 < 1000) = true := decide_eq_true hsmall
                                go_upto_region 29 with fail
                                go_quiet (fail)
                                have HBQ : Hid (Below w2.heap.size w2 (World.drewN wr nq)) := hide ((HB.out).trans ((belowR wr nq).mono (HB.out).size))
                                have HRQ : Hid (WnR (World.drewN wr nq) V ⟨(c : Int), (B : Int), xl, xm, xx⟩) := HR
                                generalize World.drewN wr nq = wq at *
                                go_wp2_with fail
                                go_roundw
                                case rel => exact ⟨c + 1, by omega, by omega, by go_num, by rw [HW'.out, HW2.out], by rw [HF'.out, HFV.out], by rw [HS'.out, HSV.out], HBQ, HRQ⟩
                                case measure => simp [intOf]; omega
                              · have HSV : Hid (S' = false) := hide (by rw [HSS.out, decide_eq_false hsmall]; rfl)
                                clear HFX HSS
                                have qs : decide (x3 < 1000) = false := decide_eq_false hsmall
                                go_upto_region 29 with fail
                                go_quiet (fail)
                                have HBQ : Hid (Below w2.heap.size w2 (World.drewN wr nq)) := hide ((HB.out).trans ((belowR wr nq).mono (HB.out).size))
                                have HRQ : Hid (WnR (World.drewN wr nq) V ⟨(c : Int), (B : Int), xl, xm, xx⟩) := HR
                                generalize World.drewN wr nq = wq at *
                                go_wp2_with fail
                                go_roundw
                                case rel => exact ⟨c + 1, by omega, by omega, by go_num, by rw [HW'.out, HW2.out], by rw [HF'.out, HFV.out], by rw [HS'.out, HSV.out], HBQ, HRQ⟩
                                case measure => simp [intOf]; omega
                            · have HSV : Hid (S' = true) := hide (by rw [HSS.out, Bool.true_or])
                              clear HFX HSS
                              go_upto_region 29 with fail
                              go_quiet (fail)
                              have HBQ : Hid (Below w2.heap.size w2 (World.drewN wr nq)) := hide ((HB.out).trans ((belowR wr nq).mono (HB.out).size))
                              have HRQ : Hid (WnR (World.drewN wr nq) V ⟨(c : Int), (B : Int), xl, xm, xx⟩) := HR
                              generalize World.drewN wr nq = wq at *
                              go_wp2_with fail
                              go_roundw
                              case rel => exact ⟨c + 1, by omega, by omega, by go_num, by rw [HW'.out, HW2.out], by rw [HF'.out, HFV.out], by rw [HS'.out, HSV.out], HBQ, HRQ⟩
                              case measure => simp [intOf]; omega
                        · have hng : (A : Int) < (c : Int) := by omega
                          have HW2 : Hid (W' = Sm + x6 + fc) := hide (by rw [HWS.out, if_pos (by omega)])
                          clear HWS hfirst
                          cases hmx : (x2 == 5)
                          · rw [hmx] at HFX HSS
                            have HFV : Hid (F' = Fx) := hide (by rw [HFX.out, Bool.or_false])
                            have HSV : Hid (S' = Ss) := hide (by rw [HSS.out, Bool.false_and, Bool.or_false])
                            clear HFX HSS
                            have HBQ := HB
                            have HRQ := HR
                            go_wp2_with fail
                            go_roundw
                            case rel => exact ⟨c + 1, by omega, by omega, by go_num, by rw [HW'.out, HW2.out], by rw [HF'.out, HFV.out], by rw [HS'.out, HSV.out], HBQ, HRQ⟩
                            case measure => simp [intOf]; omega
                          · rw [hmx] at HFX HSS
                            have HFV : Hid (F' = true) := hide (by rw [HFX.out, Bool.or_true])
                            cases Ss
                            · by_cases hsmall : x3 < 1000
                              · have HSV : Hid (S' = true) := hide (by rw [HSS.out, decide_eq_true hsmall]; rfl)
                                clear HFX HSS
                                have qs : decide (x3 < 1000) = true := decide_eq_true hsmall
                                go_upto_region 29 with fail
                                go_quiet (fail)
                                have HBQ : Hid (Below w2.heap.size w2 (World.drewN wr nq)) := hide ((HB.out).trans ((belowR wr nq).mono (HB.out).size))
                                have HRQ : Hid (WnR (World.drewN wr nq) V ⟨(A : Int), (B : Int), xl, xm, xx⟩) := HR
                                generalize World.drewN wr nq = wq at *
                                go_wp2_with fail
                                go_roundw
                                case rel => exact ⟨c + 1, by omega, by omega, by go_num, by rw [HW'.out, HW2.out], by rw [HF'.out, HFV.out], by rw [HS'.out, HSV.out], HBQ, HRQ⟩
                                case measure => simp [intOf]; omega
                              · have HSV : Hid (S' = false) := hide (by rw [HSS.out, decide_eq_false hsmall]; rfl)
                                clear HFX HSS
                                have qs : decide (x3 < 1000) = false := decide_eq_false hsmall
                                go_upto_region 29 with fail
                                go_quiet (fail)
                                have HBQ : Hid (Below w2.heap.size w2 (World.drewN wr nq)) := hide ((HB.out).trans ((belowR wr nq).mono (HB.out).size))
                                have HRQ : Hid (WnR (World.drewN wr nq) V ⟨(A : Int), (B : Int), xl, xm, xx⟩) := HR
                                generalize World.drewN wr nq = wq at *
                                go_wp2_with fail
                                go_roundw
                                case rel => exact ⟨c + 1, by omega, by omega, by go_num, by rw [HW'.out, HW2.out], by rw [HF'.out, HFV.out], by rw [HS'.out, HSV.out], HBQ, HRQ⟩
                                case measure => simp [intOf]; omega
                            · have HSV : Hid (S' = true) := hide (by rw [HSS.out, Bool.true_or])
                              clear HFX HSS
                              go_upto_region 29 with fail
                              go_quiet (fail)
                              have HBQ : Hid (Below w2.heap.size w2 (World.drewN wr nq)) := hide ((HB.out).trans ((belowR wr nq).mono (HB.out).size))
                              have HRQ : Hid (WnR (World.drewN wr nq) V ⟨(A : Int), (B : Int), xl, xm, xx⟩) := HR
                              generalize World.drewN wr nq = wq at *
                              go_wp2_with fail
                              go_roundw
                              case rel => exact ⟨c + 1, by omega, by omega, by go_num, by rw [HW'.out, HW2.out], by rw [HF'.out, HFV.out], by rw [HS'.out, HSV.out], HBQ, HRQ⟩
                              case measure => simp [intOf]; omega
                      · have hic : ¬ (c : Int) < (B : Int) := by omega
                        have hcB : c = B := by omega
                        subst hcB
                        have hwb := wsV_bd (nb := fun k => (o k).base) (f := f) (a := A) (N := M) (fun k hk => (HX.out).bd k (by rw [← HNL.out]; exact hk)) (fun k hk => (HFB.out) k hk) (c - A) (by omega)
                        have hrm := HROOM.out
                        generalize wsV (fun k => (o k).base) f A (c - A) = Sm at *
                        generalize fxV l A (c - A) = Fx at *
                        generalize smV l A (c - A) = Ss at *
                        have hsz : 0 ≤ Sm ∧ Sm ≤ 8246337208320 := by
                          refine ⟨hwb.1, ?_⟩
                          have := hwb.2
                          omega
                        obtain ⟨hsz0, hsz1⟩ := hsz
                        clear hwb HROOM
                        cases Fx
                        · clear hrm
                          go_wp2_with fail
                          go_roundw
                          case rel => exact ⟨j + 1, by omega, by go_num, HB⟩
                          case measure => simp [intOf]; omega
                        · cases Ss
                          · have hle := hrm rfl rfl
                            clear hrm
                            have hlt : ¬ Sm + ((c : Int) - (A : Int)) < xx := by omega
                            by_cases hxx : xx < 1073741824
                            · go_wp2_with fail
                              go_roundw
                              case rel => exact ⟨j + 1, by omega, by go_num, HB⟩
                              case measure => simp [intOf]; omega
                            · go_wp2_with fail
                              go_roundw
                              case rel => exact ⟨j + 1, by omega, by go_num, HB⟩
                              case measure => simp [intOf]; omega
                          · clear hrm
                            go_wp2_with fail
                            go_roundw
                            case rel => exact ⟨j + 1, by omega, by go_num, HB⟩
                            case measure => simp [intOf]; omega
                  · have hij : ¬ (j : Int) < (K : Int) := by omega
                    have C9 := hide ((CL2.out) wr (HBW.out))
                    go_wp2_with fail
                    refine Calls.mono C9.out ?_
                    rintro e w9 ⟨rfl, hb9⟩
                    have B9 := hide hb9
                    clear hb9
                    go_wp2_with fail
                    go_ret
                    exact ⟨rfl, B9.out⟩

theorem flexGrows_walk (v : Value) (l : List SzD) (va : Value) (zs : List Int) (u : Value) (ws : List WnD) (w : World) (h : SzL w v l) (hz : Reads w va zs) (hw : WnL w u ws) (_ : ∀ ao n c, v = .slice ao n c → n ≤ c) (hcap2 : ∀ ao n c, va = .slice ao n c → n ≤ c) :
    Calls Try.prog 5 #[v, va, u] w fun e w' => e = .returned (.bool true) ∧ Below w.heap.size w w' := by
  obtain ⟨aa, ca, rfl, ha⟩ := hz.arI
  exact flexGrows_in v l aa zs.length ca _ u ws w h ha hw (hcap2 _ _ _ rfl)

end Go.Proofs.Ytaonlpjfbajlcaa
