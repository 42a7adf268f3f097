/- Texts that this proof stands on, put together. -/
import Derived.Test.YtaonlpjfbajlcaaG5
import Derived.Maps.Own
import Derived.DeepKeys4
import Derived.ChangeKeys
import Derived.Maps.OwnOps
import Derived.Maps.Views
import Derived.Test.YtaonlpjfbajlcaaG3
import Derived.Test.YtaonlpjfbajlcaaG2
import Derived.Test.YtaonlpjfbajlcaaMxr1
import Derived.Lib.MinMax
import Derived.Test.YtaonlpjfbajlcaaG4
import Derived.DeepKeys2
import Derived.Maps.RangeWalk

namespace Go.Proofs.Ytaonlpjfbajlcaa
open Go.RowKit

set_option maxRecDepth 100000 in
theorem spk_laid : laidOutB Try.prog = true := by kernel_rfl

set_option maxRecDepth 100000 in
theorem spk_row : (47 : TypeId) < Try.prog.types.size := of_decide_eq_true (by kernel_rfl)

set_option maxRecDepth 100000 in
theorem spk_wide : (match Try.prog.underlying 47 with | some (.array _ _) | some (.struct _) => true | _ => false) = true := by kernel_rfl

set_option maxRecDepth 100000 in
theorem spk_law : WideMaps.KeyLaw Try.prog 47 := deep_law_laid spk_laid (m := 2) (by omega) spk_row (by kernel_rfl) spk_wide

theorem spk_keyed : Go.Maps.Keyed Try.prog 47 := Go.Maps.Keyed.of_law spk_law

abbrev spkV (a b : Int) : Value := .agg #[.int .i64 a, .int .i64 b]

abbrev spkL (a b : Int) : Lit := .string (keyBytes [.int .i64 a, .int .i64 b])

set_option maxRecDepth 100000 in
theorem spk_key {a b : Int} (ha : (Lit.int .i64 a).wf = true) (hb : (Lit.int .i64 b).wf = true) : keyOf Try.prog 47 (spkV a b) = some (spkL a b) := by
  have hk : Try.prog.keyType 47 = true := by kernel_rfl
  have hc : Try.prog.cellsOf 47 = 2 := by kernel_rfl
  have hi : Try.prog.cellsOf 3 = 1 := by kernel_rfl
  have hf : (spkV a b).formed Try.prog 47 = true := by
    simp [Value.formed, Try.underlying47, hc]
  have hl : ∀ d, Try.prog.keyLits (d + 2) 47 [.int .i64 a, .int .i64 b] = some [.int .i64 a, .int .i64 b] := by
    intro d
    unfold Program.keyLits
    rw [Try.underlying47 ]
    have k1 : ∀ n, (Lit.int .i64 n).wf = true → Try.prog.keyLits (d + 1) 3 [.int .i64 n] = some [.int .i64 n] := by
      intro n hn
      unfold Program.keyLits
      rw [Try.underlying3 ]
      simp [hn]
    simp [hc, hi, k1 a ha, k1 b hb]
  have hs : Try.prog.types.size + 1 = (Try.prog.types.size - 1) + 2 := by
    have : 0 < Try.prog.types.size := of_decide_eq_true (by kernel_rfl)
    omega
  have hl' : Try.prog.keyLits (Try.prog.types.size + 1) 47 (spkV a b).cells.toList = some [.int .i64 a, .int .i64 b] := by
    rw [hs]
    exact hl _
  unfold keyOf
  rw [Try.underlying47 ]
  simp only [hk, hf, hl', Bool.and_self, if_true, Option.map_some]

theorem spk_inj {a b c d : Int} (ha : (Lit.int .i64 a).wf = true) (hb : (Lit.int .i64 b).wf = true) (hc : (Lit.int .i64 c).wf = true) (hd : (Lit.int .i64 d).wf = true) (e : spkL a b = spkL c d) : a = c ∧ b = d := by
  have h1 : keyBytes [.int .i64 a, .int .i64 b] = keyBytes [.int .i64 c, .int .i64 d] := by
    injection e
  have h2 := keyBytes_inj (l := [.int .i64 a, .int .i64 b]) (l' := [.int .i64 c, .int .i64 d]) (by simp [Alike, Lit.sameKind]) (by intro x hx; simp only [List.mem_cons, List.not_mem_nil, or_false] at hx; rcases hx with rfl | rfl <;> simpa [Lit.keyWf] using by assumption) (by intro x hx; simp only [List.mem_cons, List.not_mem_nil, or_false] at hx; rcases hx with rfl | rfl <;> simpa [Lit.keyWf] using by assumption) h1
  injection h2 with e1 e2
  injection e2 with e3 e4
  injection e1 with _ e5
  injection e3 with _ e6
  exact ⟨e5, e6⟩

end Go.Proofs.Ytaonlpjfbajlcaa

namespace Go.Proofs.Ytaonlpjfbajlcaa
open Go.RowKit

/-- The greatest of those that want the same span. -/
def msV (l : List WnD) (a b : Int) : Int := l.foldl (fun m x => if x.a = a ∧ x.b = b then max m x.x else m) 0

theorem msV_snoc (l : List WnD) (x : WnD) (a b : Int) : msV (l ++ [x]) a b = if x.a = a ∧ x.b = b then max (msV l a b) x.x else msV l a b := by
  simp [msV, List.foldl_append]

abbrev I64 (n : Int) : Prop := (Lit.int .i64 n).wf = true

/-- The map as it stands when l's wants are in. -/
structure MsI {H : Type} (D : DataW H) (l : List WnD) : Prop where
  isMap : Go.Maps.IsMap D
  has : ∀ k, Go.Maps.has D k = true ↔ ∃ x ∈ l, k = spkL x.a x.b
  at_ : ∀ a b, I64 a → I64 b → D.atKey (spkL a b) (.lit (.int .i64 0)) = .lit (.int .i64 (msV l a b))

theorem MsI.nil {H : Type} : MsI (DataW.map [] : DataW H) [] where
  isMap := ⟨[], rfl⟩
  has k := by simp [Go.Maps.has]
  at_ a b _ _ := by
    rw [WideAt.atKey_none _ (by simp)]
    rfl

theorem MsI.put {H : Type} {D : DataW H} {l : List WnD} (h : MsI D l) (x : WnD) (ha : I64 x.a) (hb : I64 x.b) :
    MsI (D.put (spkL x.a x.b) (.lit (.int .i64 (max (msV l x.a x.b) x.x)))) (l ++ [x]) where
  isMap := by
    obtain ⟨es, rfl⟩ := h.isMap
    exact ⟨_, rfl⟩
  has k := by
    by_cases e : k = spkL x.a x.b
    · subst e
      rw [Go.Maps.has_put_same h.isMap (by trivial)]
      simp only [List.mem_append, List.mem_singleton, true_iff]
      exact ⟨x, .inr rfl, rfl⟩
    · rw [Go.Maps.has_put_other e, h.has]
      constructor
      · rintro ⟨y, hy, r⟩
        exact ⟨y, by simp [hy], r⟩
      · rintro ⟨y, hy, r⟩
        rcases List.mem_append.1 hy with hy | hy
        · exact ⟨y, hy, r⟩
        · rw [List.mem_singleton] at hy
          subst hy
          exact (e r).elim
  at_ a b ia ib := by
    rw [msV_snoc]
    by_cases e : x.a = a ∧ x.b = b
    · obtain ⟨rfl, rfl⟩ := e
      rw [Go.Maps.atKey_put_same h.isMap (by trivial), if_pos ⟨rfl, rfl⟩]
    · rw [Go.Maps.atKey_put_other, if_neg e, h.at_ a b ia ib]
      intro r
      obtain ⟨e1, e2⟩ := spk_inj ia ib ha hb r
      exact e ⟨e1.symm, e2.symm⟩

end Go.Proofs.Ytaonlpjfbajlcaa

namespace Go.Proofs.Ytaonlpjfbajlcaa
open Go.RowKit

/-- The greatest that a flexible one of the first so many had, in parts of an fr. -/
def uhV (l : List SzD) : Nat → Int
  | 0 => 0
  | k + 1 => if ((l.getD k noSz).mx == 5) = true then max (uhV l k) (dvU ((l.getD k noSz).base * 1000) (max (l.getD k noSz).fr 1000)) else uhV l k

theorem dvU_bd {a b : Int} (hb : 0 < b) (h0 : 0 ≤ a) (h1 : a ≤ 4611686018427387904) : 0 ≤ dvU a b ∧ dvU a b ≤ a := by
  obtain ⟨g0, g1, g2⟩ := gdiv_pos (a := -a) hb (by omega) (by omega)
  unfold dvU
  omega

theorem uhV_bd {l : List SzD} {N : Nat} (hg : ∀ k, k < N → 0 ≤ (l.getD k noSz).base ∧ (l.getD k noSz).base ≤ 68719476736) : ∀ k, k ≤ N → 0 ≤ uhV l k ∧ uhV l k ≤ 68719476736000
  | 0, _ => by simp only [uhV]; omega
  | k + 1, hk => by
    have h1 := uhV_bd hg k (by omega)
    have h2 := hg k (by omega)
    have h3 := dvU_bd (a := (l.getD k noSz).base * 1000) (b := max (l.getD k noSz).fr 1000) (by omega) (by omega) (by omega)
    simp only [uhV]
    split <;> omega

set_option maxRecDepth 100000 in
set_option maxHeartbeats 8000000 in
theorem unitHad26_any (v : Value) (l : List SzD) (w : World) (h : SzL w v l) (hN : l.length ≤ 1000000) (hg : ∀ k, k < l.length → 0 ≤ (l.getD k noSz).base ∧ (l.getD k noSz).base ≤ 68719476736) :
    Calls Try.prog 37 #[v] w fun e w' => e = .returned (.int .i64 (uhV l l.length)) ∧ Below w.heap.size w w' := by
  have HS := hide h
  obtain ⟨ao, cap, rfl⟩ := h.slice
  obtain ⟨N, hN0⟩ : ∃ N, N = l.length := ⟨_, rfl⟩
  have HNL := hide hN0
  rw [← hN0] at HS hN hg ⊢
  have HBD := hide (uhV_bd hg)
  have HG := hide hg
  have HSU : Hid (∀ k, uhV l (k + 1) = if ((l.getD k noSz).mx == 5) = true then max (uhV l k) (dvU ((l.getD k noSz).base * 1000) (max (l.getD k noSz).fr 1000)) else uhV l k) := hide (fun k => rfl)
  clear h hN0 hg
  go_enter Try.func37, Try.ntmps37
  go_wp2_with fail
  go_loopw [3, 8] (fun o i wr => ∃ k : Nat, k ≤ N ∧ i = .int .i64 (k : Int) ∧ o = .int .i64 (uhV l k) ∧ Hid (Below w.heap.size w wr)) (fun _ i _ => N - (intOf i).toNat)
  case atStart => exact ⟨0, Nat.zero_le _, by go_num, rfl, hide (Below.refl _ _)⟩
  case round =>
    obtain ⟨k, hk, rfl, rfl, HB⟩ := hrel
    by_cases hkl : k < N
    · have hi : (k : Int) < (N : Int) := by omega
      have hn2 : ¬ (k : Int) < 0 := by omega
      have hkL : k < l.length := by rw [← HNL.out]; exact hkl
      obtain ⟨b, off, hao, hlt, x0, x1, x2, x3, x4, x5, x6⟩ := ((HS.out).below (HB.out)).at hkL
      obtain ⟨g0, g1⟩ := (HG.out) k hkl
      obtain ⟨u0, u1⟩ := (HBD.out) k hk
      have hsu := (HSU.out) k
      have CF := hide (fun W => isFlex26_any (l.getD k noSz) W)
      have CD := hide (fun W hb h0 h1 => divUp26_any ((l.getD k noSz).base * 1000) (max (l.getD k noSz).fr 1000) W hb h0 h1)
      subst hao
      clear hkL HG HBD HSU
      generalize hu1 : uhV l (k + 1) = U1 at *
      have HUE := hide hu1
      clear hu1
      have HU1 := hide hsu
      clear hsu
      generalize uhV l k = U at *
      generalize l.getD k noSz = s at *
      obtain ⟨a1, a2, a3, q, a5, a6, a7⟩ := s
      unfold szC at CF
      simp only at x0 x1 x2 x3 x4 x5 x6 g0 g1 HU1 CF CD
      have hL : SzR (wr.alloc (.cells #[.int .i64 a1, .int .i64 a2, .int .i64 a3, .bool q, .int .i64 a5, .int .i64 a6, .int .i64 a7] 32)) wr.heap.size ⟨a1, a2, a3, q, a5, a6, a7⟩ := SzR.new wr ⟨a1, a2, a3, q, a5, a6, a7⟩
      have HB2 := hide ((HB.out).alloc (HB.out).size (.cells #[.int .i64 a1, .int .i64 a2, .int .i64 a3, .bool q, .int .i64 a5, .int .i64 a6, .int .i64 a7] 32))
      clear HB
      go_upto_region 5 with fail
      generalize wr.alloc (.cells #[.int .i64 a1, .int .i64 a2, .int .i64 a3, .bool q, .int .i64 a5, .int .i64 a6, .int .i64 a7] 32) = w2 at *
      have hVlt := hL.lt
      generalize wr.heap.size = V at *
      obtain ⟨t0, t1, t2, t3, t4, t5, t6⟩ := hL.cells
      have HL := hide hL
      clear x0 x1 x2 x3 x4 x5 x6 hL
      generalize hmx : (a2 == 5) = mx at *
      clear hmx
      cases mx
      · have HV : Hid (U1 = U) := hide (by rw [HU1.out]; rfl)
        clear HU1 CD
        go_wp2_with fail
        refine Calls.mono ((CF.out) _) ?_
        rintro e w3 ⟨rfl, hb3⟩
        have HB3 := hide ((HB2.out).trans (hb3.mono (HB2.out).size))
        clear hb3
        go_wp2_with fail
        go_roundw
        case rel => exact ⟨k + 1, by omega, by go_num, congrArg (Value.int .i64) ((HV.out).symm.trans (HUE.out).symm), HB3⟩
        case measure => simp [intOf]; omega
      · have HV : Hid (U1 = max U (dvU (a6 * 1000) (max a3 1000))) := hide (by rw [HU1.out]; rfl)
        have CD2 := hide (fun W => (CD.out) W (by omega) (by omega) (by omega))
        clear HU1 CD
        generalize dvU (a6 * 1000) (max a3 1000) = d at *
        go_wp2_with fail
        refine Calls.mono ((CF.out) _) ?_
        rintro e w3 ⟨rfl, hb3⟩
        have HB3 := hide ((HB2.out).trans (hb3.mono (HB2.out).size))
        have HL3 : Hid (SzR w3 V ⟨a1, a2, a3, q, a5, a6, a7⟩) := hide ((hb3.block V hVlt).trans HL.out)
        clear hb3 t0 t1 t2 t3 t4 t5 t6 HL
        obtain ⟨t0, t1, t2, t3, t4, t5, t6⟩ := (HL3.out).cells
        go_wp2_with fail
        refine Calls.mono ((CD2.out) _) ?_
        rintro e w4 ⟨rfl, rfl⟩
        go_wp2_with fail
        go_roundw
        case rel => exact ⟨k + 1, by omega, by go_num, congrArg (Value.int .i64) ((HV.out).symm.trans (HUE.out).symm), HB3⟩
        case measure => simp [intOf]; omega
    · have hi : ¬ (k : Int) < (N : Int) := by omega
      obtain rfl : k = N := by omega
      generalize hU : uhV l k = U at *
      have HU := hide hU
      clear hU HBD HSU HG
      go_wp2_with fail
      go_ret
      exact ⟨by rw [HU.out] <;> rfl, HB.out⟩

end Go.Proofs.Ytaonlpjfbajlcaa

namespace Go.Proofs.Ytaonlpjfbajlcaa
open Go.RowKit

theorem upV_bd {a c : Int} (h0 : 0 ≤ a) (h1 : a ≤ 1125899906842624) (hc : 1 ≤ c) : 0 ≤ upV a 1000 c ∧ upV a 1000 c ≤ a * 1000 := by
  obtain ⟨_, h2, h3⟩ := mdV_low h0 h1 hc
  unfold upV
  omega

/-- How much one fr is for the tracks as they are. -/
def gu26 (l : List SzD) : Nat → Int
  | 0 => 0
  | k + 1 => if flx l k then max (gu26 l k) (upV (l.getD k noSz).base 1000 (max (l.getD k noSz).fr 1000)) else gu26 l k

theorem gu26_bd {l : List SzD} {N : Nat} (hb : ∀ k, k < N → 0 ≤ (l.getD k noSz).base ∧ (l.getD k noSz).base ≤ 68719476736) : ∀ k, k ≤ N → 0 ≤ gu26 l k ∧ gu26 l k ≤ 68719476736000
  | 0, _ => by simp [gu26]
  | k + 1, hk => by
    have h1 := gu26_bd hb k (by omega)
    have h2 := hb k (by omega)
    have h3 := upV_bd (a := (l.getD k noSz).base) (c := max (l.getD k noSz).fr 1000) h2.1 (by omega) (by omega)
    simp only [gu26]
    split <;> omega

theorem unV_bd (l : List SzD) (space : Int) : 0 ≤ unV l space ∧ unV l space ≤ 68719476736000 := by
  unfold unV
  split
  · rename_i h
    obtain ⟨⟨h0, h1⟩, hb, hf, -⟩ := rgF_facts h.1
    have hlb := lf26_bd (st := unS l space) h0 (fun k hk => (hb k hk).1) l.length (Nat.le_refl _)
    have h3 := upV_bd (a := lf26 l (unS l space) space l.length) (c := max (sm26 l (unS l space) l.length) 1000) hlb.1 (by omega) (by omega)
    omega
  · omega

/-- The space of a want less the gaps within, after so many of them. -/
def spG (f : Nat → Int) (s : Int) (a : Nat) : Nat → Int
  | 0 => s
  | n + 1 => max 0 (spG f s a n - f (a + 1 + n))

/-- The tracks that a want spans. -/
def subL (l : List SzD) (x : WnD) : List SzD := (l.drop x.a.toNat).take (x.b - x.a).toNat

/-- How much one fr is for what is wanted besides. -/
def gw26 (l : List SzD) (f : Nat → Int) (ws : List WnD) : Nat → Int
  | 0 => gu26 l l.length
  | k + 1 => max (gw26 l f ws k) (unV (subL l (ws.getD k noWn)) (spG f (ws.getD k noWn).x (ws.getD k noWn).a.toNat ((ws.getD k noWn).b - (ws.getD k noWn).a - 1).toNat))

def gfV (l : List SzD) (u : Int) (k : Nat) : SzD := raiseV (if flx l k then setB (l.getD k noSz) (max (l.getD k noSz).base (min (mdV u (l.getD k noSz).fr 1000).1 68719476736)) else l.getD k noSz)

def gfL (l : List SzD) (u : Int) : Nat → List SzD
  | 0 => []
  | k + 1 => gfL l u k ++ [gfV l u k]

def growW (l : List SzD) (M : Nat) (f : Nat → Int) (ws : List WnD) : List SzD :=
  if rgF l 0 = true ∧ good24 l M f ws 0 = true then gfL l (gw26 l f ws ws.length) l.length else l

theorem subL_len {l : List SzD} {x : WnD} (h0 : 0 ≤ x.a) (h1 : x.a < x.b) (h2 : x.b ≤ (l.length : Int)) : (subL l x).length = (x.b - x.a).toNat := by
  unfold subL
  simp
  omega

theorem subL_get {l : List SzD} {x : WnD} {i : Nat} (hi : i < (x.b - x.a).toNat) : (subL l x).getD i noSz = l.getD (x.a.toNat + i) noSz := by
  unfold subL
  simp [List.getD, hi]

/-- A part of a slice of tracks. -/
theorem SzL.sub {w : World} {b off N cap : Nat} {l : List SzD} {x : WnD} (h : SzL w (.slice (some ⟨b, off, none⟩) N cap) l) (h0 : 0 ≤ x.a) (h1 : x.a < x.b) (h2 : x.b ≤ (l.length : Int)) (c : Nat) : SzL w (.slice (some ⟨b, off + x.a.toNat * 7, none⟩) (x.b - x.a).toNat c) (subL l x) := by
  rcases h with ⟨he, _⟩ | ⟨b', off', c1, hv, hlt, hc⟩
  · rw [he] at h2; simp at h2; omega
  · obtain ⟨⟨rfl, rfl⟩, -, -⟩ : (b = b' ∧ off = off') ∧ N = l.length ∧ cap = c1 := by simpa using hv
    refine .inr ⟨b, _, c, by rw [subL_len h0 h1 h2], hlt, fun i hi j u hu => ?_⟩
    rw [subL_len h0 h1 h2] at hi
    rw [subL_get hi] at hu
    have := hc (x.a.toNat + i) (by omega) j u hu
    rw [show off + x.a.toNat * 7 + i * 7 + j = off + (x.a.toNat + i) * 7 + j by omega]
    exact this

theorem goodW_bd {N : Nat} {x : WnD} (h : goodW N x = true) : 0 ≤ x.a ∧ x.a < x.b ∧ x.b ≤ (N : Int) ∧ 0 ≤ x.x ∧ x.x ≤ 68719476736 := by
  unfold goodW at h
  simp only [Bool.and_eq_true, decide_eq_true_eq] at h
  have := isSz_bd h.2.2.2.2.2
  exact ⟨h.1, h.2.1, h.2.2.1, this.1, this.2⟩

theorem gw26_bd {l : List SzD} {f : Nat → Int} {ws : List WnD} (hb : ∀ k, k < l.length → 0 ≤ (l.getD k noSz).base ∧ (l.getD k noSz).base ≤ 68719476736) : ∀ k, 0 ≤ gw26 l f ws k ∧ gw26 l f ws k ≤ 68719476736000
  | 0 => gu26_bd hb l.length (Nat.le_refl _)
  | k + 1 => by
    have h1 := gw26_bd (f := f) (ws := ws) hb k
    have h2 := unV_bd (subL l (ws.getD k noWn)) (spG f (ws.getD k noWn).x (ws.getD k noWn).a.toNat ((ws.getD k noWn).b - (ws.getD k noWn).a - 1).toNat)
    simp only [gw26]
    omega

theorem spG_bd {f : Nat → Int} {s : Int} {a N : Nat} (h0 : 0 ≤ s) (hf : ∀ k, k < N → 0 ≤ f k) : ∀ n, a + 1 + n ≤ N → 0 ≤ spG f s a n ∧ spG f s a n ≤ s
  | 0, _ => ⟨h0, Int.le_refl _⟩
  | n + 1, hk => by
    have := spG_bd (a := a) h0 hf n (by omega)
    have := hf (a + 1 + n) (by omega)
    simp only [spG]
    omega

set_option maxRecDepth 100000 in
set_option maxHeartbeats 8000000 in
theorem rgrow26_any (v : Value) (l : List SzD) (aa : Option Addr) (M ca : Nat) (f : Nat → Int) (u : Value) (ws : List WnD) (w : World) (h : SzL w v l) (ha : ArI w aa M f) (hw : WnL w u ws) (hN : l.length ≤ 65536) (hK : ws.length ≤ 1000000) (hcap : ∀ ao n c, v = .slice ao n c → n ≤ c) : Calls Try.prog 13 #[v, .slice aa M ca, u] w fun e w' => ∃ u', e = .returned u' ∧ SzL w' u' (growW l M f ws) ∧ Below w.heap.size w w' := by
  have CR := hide (rright26_any v l 0 w h (by omega))
  have CG := hide (fun W (hb : Below w.heap.size w W) => rgood24_any v l aa M ca f u ws 0 W (h.below hb) (ha.below hb) (hw.below hb) (by omega) hK)
  have HS := hide h
  have HV : Hid (growW l M f ws = if rgF l 0 = true ∧ good24 l M f ws 0 = true then gfL l (gw26 l f ws ws.length) l.length else l) := hide rfl
  generalize growW l M f ws = R at *
  generalize hG : rgF l 0 = G at *
  generalize hG4 : good24 l M f ws 0 = G4 at *
  have hcell : ∃ ao cap, v = .slice ao l.length cap := h.slice
  have hcell2 : ∃ ao cap, u = .slice ao ws.length cap := hw.slice
  cases G
  · have HV2 : Hid (R = l) := hide (by rw [HV.out, if_neg (fun hh => by have := hh.1; exact absurd this (by decide))])
    clear hG hG4 HV h ha CG
    go_enter Try.func13, Try.ntmps13
    go_wp2_with fail
    refine Calls.mono CR.out ?_
    rintro e w1 ⟨rfl, hb⟩
    have HB := hide hb
    clear hb
    go_wp2_with fail
    go_ret
    exact ⟨_, rfl, by rw [HV2.out]; exact (HS.out).below HB.out, HB.out⟩
  · cases G4
    · have HV2 : Hid (R = l) := hide (by rw [HV.out, if_neg (fun hh => by have := hh.2; exact absurd this (by decide))])
      clear hG hG4 HV h ha
      go_enter Try.func13, Try.ntmps13
      go_wp2_with fail
      refine Calls.mono CR.out ?_
      rintro e w1 ⟨rfl, hb⟩
      have HB := hide hb
      go_wp2_with fail
      refine Calls.mono ((CG.out) w1 hb) ?_
      rintro e w2 ⟨rfl, hb2⟩
      have HB2 := hide (hb.trans (hb2.mono hb.size))
      clear hb hb2 CG HB
      go_wp2_with fail
      go_ret
      exact ⟨_, rfl, by rw [HV2.out]; exact (HS.out).below HB2.out, HB2.out⟩
    · obtain ⟨-, hb, hf, -⟩ := rgF_facts hG
      have hh4 := hG4
      unfold good24 hd24 at hh4
      simp only [Bool.and_eq_true, decide_eq_true_eq] at hh4
      have hMN : M = l.length := hh4.1.1
      have HFA := hide (fun k (hk : k < l.length) => isSz_bd (tg24_at hh4.2.1 k hk).2)
      have HWG := hide (fun k (hk : k < ws.length) => goodW_bd (wg24_at hh4.2.2 k hk))
      have HGV := hide (gw26_bd (f := f) (ws := ws) hb)
      have HGS := hide (fun k => (show gw26 l f ws (k + 1) = max (gw26 l f ws k) (unV (subL l (ws.getD k noWn)) (spG f (ws.getD k noWn).x (ws.getD k noWn).a.toNat ((ws.getD k noWn).b - (ws.getD k noWn).a - 1).toNat)) from rfl))
      have HV1 : Hid (R = gfL l (gw26 l f ws ws.length) l.length) := hide (by rw [HV.out, if_pos ⟨by trivial, by trivial⟩])
      have HGB := hide (fun k hk => gu26_bd hb k hk)
      have HBB := hide hb
      have HFF := hide hf
      have HGU := hide (fun k => (show gu26 l (k + 1) = if flx l k then max (gu26 l k) (upV (l.getD k noSz).base 1000 (max (l.getD k noSz).fr 1000)) else gu26 l k from rfl))
      clear hh4 HV hG hG4 hb hf
      subst hMN
      obtain ⟨ao, cap, rfl⟩ := hcell
      obtain ⟨wo, cw, rfl⟩ := hcell2
      have hcp : l.length ≤ cap := hcap _ _ _ rfl
      clear hcap
      have CF := hide (fun a b c q e f g W => rflex26_any a b c e f g q W)
      have ST0 := hide (WgS.mk h ha hw (Below.refl _ w))
      obtain ⟨N, hN0⟩ : ∃ N, N = l.length := ⟨_, rfl⟩
      obtain ⟨K, hK0⟩ : ∃ K, K = ws.length := ⟨_, rfl⟩
      rw [← hN0, ← hK0] at ST0 CG
      rw [← hN0] at CR HFA HGB HBB HFF hN HS HWG hcp
      have HG0 : Hid (gw26 l f ws 0 = gu26 l N) := hide (by rw [hN0]; rfl)
      rw [← hK0] at HWG hK
      rw [← hN0, ← hK0]
      rw [← hN0, ← hK0] at HV1
      have HNL := hide hN0
      have HKL := hide hK0
      clear hN0 hK0 h ha hw
      go_enter Try.func13, Try.ntmps13
      go_wp2_with fail
      refine Calls.mono CR.out ?_
      rintro e w1 ⟨rfl, hb⟩
      go_wp2_with fail
      refine Calls.mono ((CG.out) w1 hb) ?_
      rintro e w2 ⟨rfl, hb2⟩
      have ST1 := hide ((ST0.out).next (hb.trans (hb2.mono hb.size)))
      clear hb hb2 CG CR ST0
      go_wp2_with fail
      go_loopw [7, 8] (fun s i wr => ∃ (k : Nat) (S : Int), k ≤ N ∧ i = .int .i64 (k : Int) ∧ s = .int .i64 S ∧ Hid (S = gu26 l k) ∧ Hid (WgS w wr (.slice ao N cap) l aa N f (.slice wo K cw) ws)) (fun _ i _ => N - (intOf i).toNat)
      case atStart => exact ⟨0, 0, Nat.zero_le _, by go_num, by go_num, hide rfl, ST1⟩
      case round =>
        clear ST1
        obtain ⟨k, S, hk, rfl, rfl, HSE, ST⟩ := hrel
        by_cases hkl : k < N
        · have hi : (k : Int) < (N : Int) := by omega
          have hn2 : ¬ (k : Int) < 0 := by omega
          have hkl2 : k < l.length := by rw [← HNL.out]; exact hkl
          obtain ⟨b, off, rfl, hlt, x0, x1, x2, x3, x4, x5, x6⟩ := (ST.out).l.at hkl2
          have HC := hide (fun W (hh : WgS w W (.slice (some ⟨b, off, none⟩) N cap) l aa N f (.slice wo K cw) ws) => (show W.cell? ⟨b, off + k * 7 + 5, none⟩ = some (.int .i64 (l.getD k noSz).base) ∧ W.cell? ⟨b, off + k * 7 + 2, none⟩ = some (.int .i64 (l.getD k noSz).fr) from by
            obtain ⟨b', off', e, _, _, _, z2, _, _, z5, _⟩ := hh.l.at hkl2
            obtain ⟨rfl, rfl⟩ : b = b' ∧ off = off' := by simpa using e
            exact ⟨z5, z2⟩))
          obtain ⟨hb0, hb1⟩ := (HBB.out) k hkl
          obtain ⟨hf0, hf1⟩ := (HFF.out) k hkl
          have hgu := (HGU.out) k
          rw [← HSE.out] at hgu
          have hfx : flx l k = ((l.getD k noSz).mx == 5) := rfl
          rw [hfx] at hgu
          have HG1 := hide hgu
          have hlow := mdV_low (a := (l.getD k noSz).base) (c := max (l.getD k noSz).fr 1000) hb0 (by omega) (by omega)
          have CU := hide (fun W => rup26_any (l.getD k noSz).base 1000 (max (l.getD k noSz).fr 1000) W hb0 (by omega) (by omega) (by omega) (by omega) (by omega) hlow.1)
          clear hgu hfx hlow HGU HBB HFF HGB HV1 HFA HWG HSE
          generalize l.getD k noSz = z at *
          obtain ⟨a1, a2, a3, q, a5, a6, a7⟩ := z
          simp only at x0 x1 x2 x3 x4 x5 x6 HC hb0 hb1 hf0 hf1 HG1 CU
          generalize upV a6 1000 (max a3 1000) = up at *
          go_wp2_with fail
          refine Calls.mono ((CF.out) a1 a2 a3 q a5 a6 a7 _) ?_
          rintro e w3 ⟨rfl, hb3⟩
          have ST3 := hide ((ST.out).next hb3)
          clear hb3 ST x0 x1 x2 x3 x4 x5 x6
          generalize (a2 == 5) = q1 at *
          cases q1
          · have HSN : Hid (S = gu26 l (k + 1)) := hide (by rw [HG1.out]; rfl)
            clear HG1
            go_wp2_with fail
            go_roundw
            case rel => exact ⟨k + 1, _, by omega, by go_num, by go_num, HSN, ST3⟩
            case measure => simp [intOf]; omega
          · have HSN : Hid (max S up = gu26 l (k + 1)) := hide (by rw [HG1.out]; rfl)
            clear HG1
            have ST4 := hide ((ST3.out).next (Below.refl _ w3).drew)
            clear ST3
            go_upto_region 8 with fail
            go_region_held3 (fun w' => w'.cell? ⟨b, off + k * 7 + 5, none⟩ = some (.int .i64 a6) ∧ w'.cell? ⟨b, off + k * 7 + 2, none⟩ = some (.int .i64 a3))
              (first | exact (HC.out) _ ST4.out | exact (HC.out) _ (by assumption : Hid (WgS w _ (.slice (some ⟨b, off, none⟩) N cap) l aa N f (.slice wo K cw) ws)).out | go_keep)
              (first | (go_at_call 25; refine Calls.mono ((CU.out) _) ?_; rintro e w5 ⟨rfl, hb5⟩; have ST5 := hide ((ST4.out).next hb5); clear hb5))
            all_goals (
              go_wp2_with fail
              go_roundw
              case rel => exact ⟨k + 1, _, by omega, by go_num, by go_num, HSN, ST5⟩
              case measure => simp [intOf]; omega)
        · have hi : ¬ (k : Int) < (N : Int) := by omega
          have hse := HSE.out
          rw [show k = N by omega, ← (HG0.out)] at hse
          have HS0 := hide hse
          clear hse HSE HG0 HGU HGB
          go_wp2_with fail
          go_loopw [7, 9] (fun s i wr => ∃ (j : Nat) (S : Int), j ≤ K ∧ i = .int .i64 (j : Int) ∧ s = .int .i64 S ∧ Hid (S = gw26 l f ws j) ∧ Hid (WgS w wr (.slice ao N cap) l aa N f (.slice wo K cw) ws)) (fun _ i _ => K - (intOf i).toNat)
          case atStart => exact ⟨0, S, Nat.zero_le _, by go_num, by go_num, HS0, ST⟩
          case round =>
            clear ST HS0 hi
            obtain ⟨j, S1, hj, rfl, rfl, HSE, ST⟩ := hrel
            by_cases hjk : j < K
            · have hi : (j : Int) < (K : Int) := by omega
              have hn2 : ¬ (j : Int) < 0 := by omega
              have hjk2 : j < ws.length := by rw [← HKL.out]; exact hjk
              obtain ⟨bw, ow, rfl, hlt, x0, x1, x2, x3, x4⟩ := (ST.out).ws.at hjk2
              obtain ⟨g0, g1, g2, g3, g4⟩ := (HWG.out) j hjk
              have hsn := (HGS.out) j
              rw [← HSE.out] at hsn
              have HSN := hide hsn.symm
              have h0l : 0 < l.length := by rw [← HNL.out]; omega
              obtain ⟨bl, ol, rfl, -⟩ := (ST.out).l.at h0l
              have hg2 : (ws.getD j noWn).b ≤ (l.length : Int) := by rw [← HNL.out]; exact g2
              have CUN := hide (fun (c : Nat) (sp : Int) W (hh : WgS w W (.slice (some ⟨bl, ol, none⟩) N cap) l aa N f (.slice (some ⟨bw, ow, none⟩) K cw) ws) => runit26_any _ (subL l (ws.getD j noWn)) sp W (hh.l.sub g0 g1 hg2 c) (by rw [subL_len g0 g1 hg2]; omega))
              clear hsn HSE HGS HWG HV1 HBB HFF hg2 HGV h0l
              generalize ws.getD j noWn = z at *
              obtain ⟨y0, y1, y2, y3, y4⟩ := z
              simp only at x0 x1 x2 x3 x4 HSN CUN g0 g1 g2 g3 g4
              obtain ⟨A, rfl⟩ := Int.eq_ofNat_of_zero_le g0
              obtain ⟨Bn, rfl⟩ := Int.eq_ofNat_of_zero_le (show 0 ≤ y1 by omega)
              have HUB := hide (fun n => spG_bd (f := f) (s := y4) (a := A) (N := N) g3 (fun k hk => ((HFA.out) k hk).1) n)
              rw [Int.toNat_natCast, show ((Bn : Int) - (A : Int) - 1).toNat = Bn - A - 1 by omega] at HSN
              rw [show ((Bn : Int) - (A : Int)).toNat = Bn - A by omega] at CUN
              generalize subL l ⟨(A : Int), (Bn : Int), y2, y3, y4⟩ = L2 at *
              have ST2 := hide ((ST.out).alloc (.cells #[.int .i64 (A : Int), .int .i64 (Bn : Int), .int .i64 y2, .int .i64 y3, .int .i64 y4] 35))
              have hr : WnR (wr.alloc (.cells #[.int .i64 (A : Int), .int .i64 (Bn : Int), .int .i64 y2, .int .i64 y3, .int .i64 y4] 35)) wr.heap.size ⟨(A : Int), (Bn : Int), y2, y3, y4⟩ := WnR.new wr ⟨(A : Int), (Bn : Int), y2, y3, y4⟩
              go_upto_region 13 with fail
              generalize wr.alloc (.cells #[.int .i64 (A : Int), .int .i64 (Bn : Int), .int .i64 y2, .int .i64 y3, .int .i64 y4] 35) = w7 at *
              generalize wr.heap.size = X at *
              obtain ⟨z0, z1, z2, z3, z4⟩ := hr.cells
              have HRW := hide hr
              clear hr ST x0 x1 x2 x3 x4
              go_upto_region 14 with fail
              go_wp2_with fail
              go_loop [11, 12] (fun s i => ∃ (p : Nat) (s0 : Int), A + 1 ≤ p ∧ p ≤ Bn ∧ i = .int .i64 (p : Int) ∧ s = .int .i64 s0 ∧ Hid (s0 = spG f y4 A (p - A - 1))) (fun _ i => Bn - (intOf i).toNat)
              case atStart => exact ⟨A + 1, y4, Nat.le_refl _, by omega, by go_num, by go_num, hide (by rw [show A + 1 - A - 1 = 0 by omega]; rfl)⟩
              case round =>
                obtain ⟨p, s0, hp1, hp2, rfl, rfl, HS0⟩ := hrel
                by_cases hpb : p < Bn
                · have hi2 : (p : Int) < (Bn : Int) := by omega
                  have hn3 : ¬ (p : Int) < 0 := by omega
                  have hpN : p < N := by omega
                  obtain ⟨b2, o2, rfl, hc⟩ := (ST2.out).a.at hpN
                  obtain ⟨f0, f1⟩ := (HFA.out) p hpN
                  have hub := (HUB.out) (p - A - 1) (by omega)
                  rw [← HS0.out] at hub
                  obtain ⟨s1, s2⟩ := hub
                  have HS1 : Hid (max 0 (s0 - f p) = spG f y4 A (p + 1 - A - 1)) := hide (by rw [show p + 1 - A - 1 = (p - A - 1) + 1 by omega, spG, ← HS0.out, show A + 1 + (p - A - 1) = p by omega])
                  clear HS0 HUB HFA HSN CUN
                  generalize f p = y at *
                  go_wp2_with fail
                  go_round
                  case rel => exact ⟨p + 1, _, by omega, by omega, by go_num, by go_num, HS1⟩
                  case measure => simp [intOf]; omega
                · have hi2 : ¬ (p : Int) < (Bn : Int) := by omega
                  have hs0 := HS0.out
                  rw [show p = Bn by omega] at hs0
                  rw [← hs0] at HSN
                  have hub := (HUB.out) (p - A - 1) (by omega)
                  rw [← HS0.out] at hub
                  clear hs0 HS0 HUB HFA
                  have hcA : ¬ cap = A := by omega
                  have CU := hide ((CUN.out) (cap - A) s0)
                  clear CUN
                  generalize unV L2 s0 = U at *
                  clear HRW
                  go_wp2_with (go_at_call 8; refine Calls.mono ((CU.out) _ ST2.out) ?_; rintro e w8 ⟨rfl, hb8⟩; have ST5 := hide ((ST2.out).next hb8); clear hb8)
                  go_roundw
                  case rel => exact ⟨j + 1, _, by omega, by go_num, by go_num, HSN, ST5⟩
                  case measure => simp [intOf]; omega
            · have hi : ¬ (j : Int) < (K : Int) := by omega
              have hse := HSE.out
              rw [show j = K by omega] at hse
              have hgv := (HGV.out) K
              rw [← hse] at HV1 hgv
              obtain ⟨u0, u1⟩ := hgv
              clear hse HSE HGS HGV HWG HFA
              generalize S1 = u at *
              obtain ⟨i1, hinf1, hw0, hw1, hw2⟩ := info_parts szT22
              have CRA := hide (fun a b c q e f g W => rraise22_any ⟨a, b, c, q, e, f, g⟩ W)
              unfold szC at CRA
              simp only at CRA
              have HB7 := hide (ST.out).bel
              have ST0 := hide (MxA.start (ST.out).l (Below.refl _ wr))
              clear ST
              generalize wr = w6 at *
              go_wp2_with fail
              go_loopw [13, 14] (fun o i wr => ∃ (j : Nat) (acc : List SzD), j ≤ N ∧ i = .int .i64 (j : Int) ∧ Hid (acc.length = j) ∧ Hid (acc = gfL l u j) ∧ Hid (MxA w6 wr (.slice ao N cap) l o acc)) (fun _ i _ => N - (intOf i).toNat)
              case atStart => exact ⟨0, [], Nat.zero_le _, by go_num, hide rfl, hide rfl, ST0⟩
              case round =>
                clear ST0
                obtain ⟨j, acc, hj, rfl, HAL, HAC, ST⟩ := hrel
                obtain ⟨ub, uc2, rfl⟩ := own_sl22 (ST.out).own
                by_cases hjk : j < N
                · have hi2 : (j : Int) < (N : Int) := by omega
                  have hn2 : ¬ (j : Int) < 0 := by omega
                  have hjL : j < l.length := by rw [← HNL.out]; exact hjk
                  obtain ⟨b, off, rfl, hlt, x0, x1, x2, x3, x4, x5, x6⟩ := (ST.out).l.at hjL
                  obtain ⟨hf0, hf1⟩ := (HFF.out) j hjk
                  have hsn : acc ++ [raiseV (if ((l.getD j noSz).mx == 5) then setB (l.getD j noSz) (max (l.getD j noSz).base (min (mdV u (l.getD j noSz).fr 1000).1 68719476736)) else l.getD j noSz)] = gfL l u (j + 1) := by rw [HAC.out]; rfl
                  have HSN := hide hsn
                  have CM2 := hide (fun W => rmuldiv_any u (l.getD j noSz).fr 1000 W (by omega) (by omega) (by omega) (by omega) (by omega) (by omega))
                  clear hsn HAC HV1 HFF HBB
                  generalize l.getD j noSz = z at *
                  obtain ⟨a1, a2, a3, q, a5, a6, a7⟩ := z
                  simp only at x0 x1 x2 x3 x4 x5 x6 HSN CM2 hf0 hf1
                  have hX : w6.heap.size ≤ wr.heap.size := (ST.out).bel.size
                  have HOWN := hide (fun g (hg : (Value.slice ub acc.length uc2).ownBlock = some g) => Nat.ne_of_lt (own_lt22 (ST.out).own g hg).2)
                  have ST2 := hide ((ST.out).alloc (.cells #[.int .i64 a1, .int .i64 a2, .int .i64 a3, .bool q, .int .i64 a5, .int .i64 a6, .int .i64 a7] 32))
                  have s6 : SzR (wr.alloc (.cells #[.int .i64 a1, .int .i64 a2, .int .i64 a3, .bool q, .int .i64 a5, .int .i64 a6, .int .i64 a7] 32)) wr.heap.size ⟨a1, a2, a3, q, a5, a6, a7⟩ := SzR.new wr ⟨a1, a2, a3, q, a5, a6, a7⟩
                  have HS6 := hide s6
                  clear s6
                  have hal : acc.length ≤ 1000000 := by rw [HAL.out]; omega
                  go_upto_region 24 with fail
                  generalize wr.alloc (.cells #[.int .i64 a1, .int .i64 a2, .int .i64 a3, .bool q, .int .i64 a5, .int .i64 a6, .int .i64 a7] 32) = w7 at *
                  generalize wr.heap.size = X at *
                  clear ST x0 x1 x2 x3 x4 x5 x6
                  obtain ⟨y0, y1, y2, y3, y4, y5, y6⟩ := (HS6.out).cells
                  go_wp2_with fail
                  refine Calls.mono ((CF.out) a1 a2 a3 q a5 a6 a7 _) ?_
                  rintro e w10 ⟨rfl, hb10⟩
                  have ST4 := hide ((ST2.out).next hb10)
                  have HS7 := hide ((HS6.out).below hb10 (HS6.out).lt)
                  clear ST2 HS6 hb10 y0 y1 y2 y3 y4 y5 y6
                  obtain ⟨y0, y1, y2, y3, y4, y5, y6⟩ := (HS7.out).cells
                  have yz := (HS7.out).z
                  generalize (a2 == 5) = q1 at *
                  cases q1
                  · have HSN2 : Hid (acc ++ [⟨a1, a2, a3, q, a5, a6, max a7 a6⟩] = gfL l u (j + 1)) := hide (by rw [← HSN.out]; rfl)
                    clear HSN CM2
                    have ST3 := ST4
                    clear ST4
                    go_wp2_with (first
                      | (go_at_call 36; refine ((CRA.out) a1 a2 a3 q a5 (a6) a7 _).mono ?_; rintro e w8 ⟨rfl, hb8⟩; have ST5 := hide ((ST3.out).next hb8); clear hb8)
                      | (at_builtin; refine wpList_append_own _ rfl _ _ 22 rfl w6.heap.size 32 i1 _ 7 56 Try.underlying22 hinf1 hw0 hw1 hw2 rfl (by decide) _ _ _ rfl ((ST5.out).alloc _).own ⟨w8.heap.size, 0, none⟩ 1 1 (szC ⟨a1, a2, a3, q, a5, a6, max a7 (a6)⟩).toList rfl rfl (cell_sev_new22 _ _ _ rfl _ _ _ _ _ _ _) (by simp [szC, Value.oneCell']) (by unfold maxLen; omega) (by (try simp); omega) (by (try simp); have := (ST5.out).bel.size; omega) ?_))
                    intro v' w9 hown' hgrow _
                    have ST7 := hide ((ST5.out).push (s := ⟨a1, a2, a3, q, a5, a6, max a7 (a6)⟩) hown' hgrow)
                    clear hown' hgrow ST3 ST5
                    go_wp2_with fail
                    go_roundw
                    case rel => exact ⟨j + 1, acc ++ [⟨a1, a2, a3, q, a5, a6, max a7 (a6)⟩], by omega, by go_num, hide (by rw [List.length_append, HAL.out]; rfl), HSN2, ST7⟩
                    case measure => simp [intOf]; omega
                  · have HSN3 : Hid (acc ++ [⟨a1, a2, a3, q, a5, max a6 (min (mdV u a3 1000).1 68719476736), max a7 (max a6 (min (mdV u a3 1000).1 68719476736))⟩] = gfL l u (j + 1)) := hide (by rw [← HSN.out]; rfl)
                    clear HSN
                    have HSN2 := HSN3
                    clear HSN3
                    generalize mdV u a3 1000 = mm at *
                    obtain ⟨m1, m2⟩ := mm
                    simp only at CM2 HSN2
                    go_upto_region 26 with (go_at_call 35; refine ((CM2.out) _).mono ?_; rintro e w11 ⟨rfl, hb11⟩; have ST11 := hide ((ST4.out).next hb11); have HS11 := hide ((HS7.out).below hb11 (HS7.out).lt); clear hb11)
                    clear ST4 HS7 y0 y1 y2 y3 y4 y5 y6 yz CM2
                    obtain ⟨y0, y1, y2, y3, y4, y5, y6⟩ := (HS11.out).cells
                    have yz := (HS11.out).z
                    have ST3 := hide ((ST11.out).put hX (HOWN.out) 5 (.int .i64 (max a6 (min m1 68719476736))))
                    have HS12 := hide ((HS11.out).base (max a6 (min m1 68719476736)))
                    go_upto_region 27 with fail
                    generalize World.setCell w11 _ _ = w12 at *
                    clear ST11 HS11 y0 y1 y2 y3 y4 y5 y6 yz
                    obtain ⟨y0, y1, y2, y3, y4, y5, y6⟩ := (HS12.out).cells
                    generalize max a6 (min m1 68719476736) = pt at *
                    go_wp2_with (first
                      | (go_at_call 36; refine ((CRA.out) a1 a2 a3 q a5 pt a7 _).mono ?_; rintro e w8 ⟨rfl, hb8⟩; have ST5 := hide ((ST3.out).next hb8); clear hb8)
                      | (at_builtin; refine wpList_append_own _ rfl _ _ 22 rfl w6.heap.size 32 i1 _ 7 56 Try.underlying22 hinf1 hw0 hw1 hw2 rfl (by decide) _ _ _ rfl ((ST5.out).alloc _).own ⟨w8.heap.size, 0, none⟩ 1 1 (szC ⟨a1, a2, a3, q, a5, pt, max a7 pt⟩).toList rfl rfl (cell_sev_new22 _ _ _ rfl _ _ _ _ _ _ _) (by simp [szC, Value.oneCell']) (by unfold maxLen; omega) (by (try simp); omega) (by (try simp); have := (ST5.out).bel.size; omega) ?_))
                    intro v' w9 hown' hgrow _
                    have ST7 := hide ((ST5.out).push (s := ⟨a1, a2, a3, q, a5, pt, max a7 pt⟩) hown' hgrow)
                    clear hown' hgrow ST3 ST5
                    go_wp2_with fail
                    go_roundw
                    case rel => exact ⟨j + 1, acc ++ [⟨a1, a2, a3, q, a5, pt, max a7 pt⟩], by omega, by go_num, hide (by rw [List.length_append, HAL.out]; rfl), HSN2, ST7⟩
                    case measure => simp [intOf]; omega
                · have hi2 : ¬ (j : Int) < (N : Int) := by omega
                  have hac := HAC.out
                  rw [show j = N by omega] at hac
                  have HV3 : Hid (R = acc) := hide (by rw [HV1.out, hac])
                  clear hac HAC HV1
                  go_wp2_with fail
                  go_ret
                  exact ⟨_, rfl, by rw [HV3.out]; exact szL_own (ST.out).own, (HB7.out).trans ((ST.out).bel.mono (HB7.out).size)⟩

end Go.Proofs.Ytaonlpjfbajlcaa

namespace Go.Proofs.Ytaonlpjfbajlcaa
open Go.RowKit

theorem uh_same {l : List SzD} {N : Nat} (hg : ∀ k, k < N → 0 ≤ (l.getD k noSz).base ∧ (l.getD k noSz).base ≤ 68719476736) : ∀ k, k ≤ N → gu26 l k = uhV l k
  | 0, _ => rfl
  | k + 1, hk => by
    have h1 := uh_same hg k (by omega)
    have h2 := hg k (by omega)
    have h3 := up_dv (a := (l.getD k noSz).base) (c := max (l.getD k noSz).fr 1000) h2.1 h2.2 (by omega)
    have h4 : flx l k = ((l.getD k noSz).mx == 5) := rfl
    simp only [gu26, uhV]
    rw [h1, h3, h4]

theorem dvU_ratio {x y c d : Int} (hc : 0 < c) (hd : 0 < d) (h : x * d ≤ y * c) : dvU x c ≤ dvU y d := by
  unfold dvU
  have h1 : y ≤ -((-y) / d) * d := by
    have := Int.ediv_mul_le (-y) (show d ≠ 0 by omega)
    rw [Int.neg_mul]
    omega
  have h2 : x * d ≤ -((-y) / d) * c * d := by
    have := Int.mul_le_mul_of_nonneg_right h1 (show 0 ≤ c by omega)
    rw [Int.mul_right_comm] at this
    omega
  have h3 : x ≤ -((-y) / d) * c := Int.le_of_mul_le_mul_right h2 hd
  have h4 : (-y) / d ≤ (-x) / c := by
    apply Int.le_ediv_of_mul_le hc
    rw [Int.neg_mul] at h3
    omega
  omega

theorem lf26_mono {l : List SzD} {B : Nat → Bool} {s s' : Int} {N : Nat} (h0 : 0 ≤ s) (h : s ≤ s') (hg : ∀ k, k < N → 0 ≤ (l.getD k noSz).base ∧ 0 ≤ (l.getD k noSz).fr) : lf26 l B s N ≤ lf26 l B s' N := by
  obtain ⟨a, -⟩ := lf26_sum (l := l) (st := B) h0 N (fun k hk => (hg k hk).1)
  obtain ⟨b, -⟩ := lf26_sum (l := l) (st := B) (show 0 ≤ s' by omega) N (fun k hk => (hg k hk).1)
  omega

theorem ratio_more {l : List SzD} {B : Nat → Bool} {s s' : Int} (h0 : 0 ≤ s) (h : s ≤ s') (hg : ∀ k, k < l.length → 0 ≤ (l.getD k noSz).base ∧ 0 ≤ (l.getD k noSz).fr) (hB : ∀ k, k < l.length → B k = true → unS l s k = true) :
    (xS l (unS l s) s l.length).left * rsP (xS l B s' l.length) ≤ (xS l B s' l.length).left * rsP (xS l (unS l s) s l.length) := by
  have h1 := ratio_end (A := B) (B := unS l s) h0 hg hB (fun j hj _ hb _ => (stF_self h0 hg (l.length + 1) j hj hb).2)
  have h2 := lf26_mono (B := B) h0 h hg
  have h3 : rsP (xS l B s l.length) = rsP (xS l B s' l.length) := rfl
  have h4 : (xS l B s l.length).left ≤ (xS l B s' l.length).left := h2
  have h5 : 0 ≤ rsP (xS l (unS l s) s l.length) := by unfold rsP; omega
  have h6 := Int.mul_le_mul_of_nonneg_right h4 h5
  rw [h3] at h1
  omega

/-- With more space fewer are stiff. -/
theorem stF_fewer {l : List SzD} {s s' : Int} (h0 : 0 ≤ s) (h : s ≤ s') (hg : ∀ k, k < l.length → 0 ≤ (l.getD k noSz).base ∧ 0 ≤ (l.getD k noSz).fr) : ∀ t k, k < l.length → stF l s' l.length t k = true → unS l s k = true
  | 0, k, _, hh => by exact absurd hh (by simp [stF])
  | t + 1, k, hk, hh => by
    rw [stF_succ, Bool.or_eq_true, Bool.and_eq_true] at hh
    rcases hh with hh | ⟨hf, hs⟩
    · exact stF_fewer h0 h hg t k hk hh
    · exact unS_closed k hk hf (stf_ratio (ratio_more h0 h hg (fun j hj hb => stF_fewer h0 h hg t j hj hb)) (hg k hk).2 hs)

theorem is26_fewer {l : List SzD} {A B : Nat → Bool} (N : Nat) (h : ∀ k, k < N → B k = true → A k = true) (ha : is26 l A N = true) : is26 l B N = true := by
  rw [is26_cnt, decide_eq_true_eq] at ha ⊢
  have := (cnt_more (A := fun k => flx l k && !A k) (B := fun k => flx l k && !B k) N (fun k hk hh => by
    simp only [Bool.and_eq_true, Bool.not_eq_true'] at hh ⊢
    refine ⟨hh.1, ?_⟩
    cases hb : B k
    · rfl
    · rw [h k hk hb] at hh; exact absurd hh.2 (by decide))).1
  omega

theorem unV_mono {l : List SzD} {s s' : Int} (h : s ≤ s') (hr : rgF l s' = true) : unV l s ≤ unV l s' := by
  obtain ⟨f1, f2, f3, -⟩ := rgF_facts hr
  have hg : ∀ k, k < l.length → 0 ≤ (l.getD k noSz).base ∧ 0 ≤ (l.getD k noSz).fr := fun k hk => ⟨(f2 k hk).1, (f3 k hk).1⟩
  have up : ∀ (S : Nat → Bool) (z : Int), 0 ≤ z → z ≤ 68719476736 → upV (lf26 l S z l.length) 1000 (max (sm26 l S l.length) 1000) = dvU (lf26 l S z l.length * 1000) (max (sm26 l S l.length) 1000) ∧ 0 ≤ upV (lf26 l S z l.length) 1000 (max (sm26 l S l.length) 1000) := fun S z h0 h1 => by
    obtain ⟨a, b⟩ := lf26_sum (l := l) (st := S) h0 l.length (fun k hk => (hg k hk).1)
    exact ⟨up_dv (by omega) (by omega) (by omega), (upV_bd (by omega) (by omega) (by omega)).1⟩
  have n0 : 0 ≤ unV l s' := by
    unfold unV
    split
    · exact (up _ _ f1.1 f1.2).2
    · exact Int.le_refl _
  by_cases hc : rgF l s = true ∧ is26 l (unS l s) l.length = true
  · obtain ⟨g1, -, -, -⟩ := rgF_facts hc.1
    have hB : ∀ k, k < l.length → unS l s' k = true → unS l s k = true := fun k hk hh => stF_fewer g1.1 h hg (l.length + 1) k hk hh
    have hi := is26_fewer l.length hB hc.2
    have e := ratio_more g1.1 h hg hB
    unfold unV
    rw [if_pos hc, if_pos ⟨hr, hi⟩, (up _ _ g1.1 g1.2).1, (up _ _ f1.1 f1.2).1]
    refine dvU_ratio (by omega) (by omega) ?_
    have e' : lf26 l (unS l s) s l.length * max (sm26 l (unS l s') l.length) 1000 ≤ lf26 l (unS l s') s' l.length * max (sm26 l (unS l s) l.length) 1000 := e
    rw [Int.mul_right_comm, Int.mul_right_comm (lf26 l (unS l s') s' l.length)]
    omega
  · have : unV l s = 0 := by unfold unV; rw [if_neg hc]
    omega

end Go.Proofs.Ytaonlpjfbajlcaa

namespace Go.Proofs.Ytaonlpjfbajlcaa
open Go.RowKit

theorem msV_le (l : List WnD) (a b : Int) : 0 ≤ msV l a b ∧ (∀ x ∈ l, x.a = a → x.b = b → x.x ≤ msV l a b) ∧ (msV l a b = 0 ∨ ∃ x ∈ l, x.a = a ∧ x.b = b ∧ x.x = msV l a b) := by
  have key : ∀ n (l : List WnD), l.length = n → 0 ≤ msV l a b ∧ (∀ x ∈ l, x.a = a → x.b = b → x.x ≤ msV l a b) ∧ (msV l a b = 0 ∨ ∃ x ∈ l, x.a = a ∧ x.b = b ∧ x.x = msV l a b) := by
    intro n
    induction n with
    | zero =>
      intro l hl
      have : l = [] := List.eq_nil_of_length_eq_zero hl
      subst this
      exact ⟨Int.le_refl _, fun x hx => (by cases hx), .inl rfl⟩
    | succ n ih =>
      intro l hl
      rcases List.eq_nil_or_concat l with rfl | ⟨m, y, rfl⟩
      · cases hl
      · rw [List.concat_eq_append] at hl ⊢
        obtain ⟨i1, i2, i3⟩ := ih m (by simpa using hl)
        rw [msV_snoc]
        by_cases e : y.a = a ∧ y.b = b
        · rw [if_pos e]
          refine ⟨by omega, fun x hx ha hb => ?_, ?_⟩
          · rcases List.mem_append.1 hx with hx | hx
            · have := i2 x hx ha hb; omega
            · rw [List.mem_singleton] at hx
              subst hx
              omega
          · by_cases hm : msV m a b ≤ y.x
            · exact .inr ⟨y, by simp, e.1, e.2, by omega⟩
            · rcases i3 with i3 | ⟨x, hx, h1, h2, h3⟩
              · exact .inl (by omega)
              · exact .inr ⟨x, by simp [hx], h1, h2, by omega⟩
        · rw [if_neg e]
          refine ⟨i1, fun x hx ha hb => ?_, ?_⟩
          · rcases List.mem_append.1 hx with hx | hx
            · exact i2 x hx ha hb
            · rw [List.mem_singleton] at hx
              subst hx
              exact (e ⟨ha, hb⟩).elim
          · rcases i3 with i3 | ⟨x, hx, h1, h2, h3⟩
            · exact .inl i3
            · exact .inr ⟨x, by simp [hx], h1, h2, h3⟩
  exact key _ l rfl

theorem spG_mono (f : Nat → Int) {n n' : Int} (h : n ≤ n') (a : Nat) : ∀ d, spG f n a d ≤ spG f n' a d
  | 0 => h
  | d + 1 => by
    have := spG_mono f h a d
    simp only [spG]
    omega

/-- What a span that gets so much comes to. -/
def wuV (l : List SzD) (f : Nat → Int) (a b n : Int) : Int := unV (subL l ⟨a, b, 0, 0, 0⟩) (spG f n a.toNat (b - a - 1).toNat)

/-- The greatest over what the map holds, whatever the order. -/
structure MxR (g : Int → Int → Int → Int) (ws : List WnD) (r : Int) : Prop where
  pos : 0 ≤ r
  all : ∀ x ∈ ws, g x.a x.b (msV ws x.a x.b) ≤ r
  one : r = 0 ∨ ∃ x ∈ ws, r = g x.a x.b (msV ws x.a x.b)

theorem gw26_up (l : List SzD) (f : Nat → Int) (ws : List WnD) : ∀ k, gu26 l l.length ≤ gw26 l f ws k ∧ ∀ j, j < k → wuV l f (ws.getD j noWn).a (ws.getD j noWn).b (ws.getD j noWn).x ≤ gw26 l f ws k
  | 0 => ⟨Int.le_refl _, fun j hj => absurd hj (Nat.not_lt_zero _)⟩
  | k + 1 => by
    obtain ⟨h1, h2⟩ := gw26_up l f ws k
    simp only [gw26]
    refine ⟨by omega, fun j hj => ?_⟩
    rcases Nat.lt_succ_iff_lt_or_eq.1 hj with hj | rfl
    · have := h2 j hj; omega
    · exact Int.le_max_right _ _

theorem gw26_least (l : List SzD) (f : Nat → Int) (ws : List WnD) (r : Int) (h0 : gu26 l l.length ≤ r) : ∀ k, (∀ j, j < k → wuV l f (ws.getD j noWn).a (ws.getD j noWn).b (ws.getD j noWn).x ≤ r) → gw26 l f ws k ≤ r
  | 0, _ => h0
  | k + 1, h => by
    have h1 := gw26_least l f ws r h0 k (fun j hj => h j (by omega))
    have h2 := h k (by omega)
    simp only [gw26]
    exact Int.max_le.2 ⟨h1, h2⟩

theorem gw26_map {l : List SzD} {f : Nat → Int} {ws : List WnD} {r : Int} (hu : 0 ≤ gu26 l l.length) (hx : ∀ x ∈ ws, 0 ≤ x.x ∧ x.x ≤ 68719476736)
    (hr : ∀ x ∈ ws, ∀ n, 0 ≤ n → n ≤ 68719476736 → rgF (subL l ⟨x.a, x.b, 0, 0, 0⟩) (spG f n x.a.toNat (x.b - x.a - 1).toNat) = true) (h : MxR (wuV l f) ws r) : gw26 l f ws ws.length = max (gu26 l l.length) r := by
  obtain ⟨u1, u2⟩ := gw26_up l f ws ws.length
  have hat : ∀ x ∈ ws, ∃ j, j < ws.length ∧ ws.getD j noWn = x := fun x hx => by
    obtain ⟨j, hj, e⟩ := List.getElem_of_mem hx
    exact ⟨j, hj, by rw [List.getD_eq_getElem?_getD, List.getElem?_eq_getElem hj]; exact e⟩
  have hbd : ∀ a b, msV ws a b ≤ 68719476736 := fun a b => by
    rcases (msV_le ws a b).2.2 with e | ⟨x, hx', -, -, e⟩
    · omega
    · have := (hx x hx').2; omega
  have hle : gw26 l f ws ws.length ≤ max (gu26 l l.length) r := by
    refine gw26_least l f ws _ (Int.le_max_left _ _) _ (fun j hj => ?_)
    have hm : ws.getD j noWn ∈ ws := by
      rw [List.getD_eq_getElem?_getD, List.getElem?_eq_getElem hj]
      exact List.getElem_mem hj
    generalize ws.getD j noWn = x at *
    obtain ⟨m0, m1, -⟩ := msV_le ws x.a x.b
    have h1 : wuV l f x.a x.b x.x ≤ wuV l f x.a x.b (msV ws x.a x.b) := unV_mono (spG_mono f (m1 x hm rfl rfl) _ _) (hr x hm _ m0 (hbd _ _))
    have h2 := h.all x hm
    omega
  have hge : r ≤ gw26 l f ws ws.length := by
    rcases h.one with e | ⟨x, hm, e⟩
    · omega
    · rcases (msV_le ws x.a x.b).2.2 with z | ⟨y, hy, ya, yb, yx⟩
      · obtain ⟨j, hj, ej⟩ := hat x hm
        have h1 := u2 j hj
        rw [ej] at h1
        have h2 : wuV l f x.a x.b (msV ws x.a x.b) ≤ wuV l f x.a x.b x.x := unV_mono (spG_mono f (by have := (hx x hm).1; omega) _ _) (hr x hm _ (hx x hm).1 (hx x hm).2)
        omega
      · obtain ⟨j, hj, ej⟩ := hat y hy
        have h1 := u2 j hj
        rw [ej, ya, yb, yx] at h1
        omega
  omega

end Go.Proofs.Ytaonlpjfbajlcaa

namespace Go.Proofs.Ytaonlpjfbajlcaa
open Go.RowKit

set_option maxRecDepth 100000 in
theorem spk_int {d : Nat} {cs : List Value} {L : List Lit} (h : Try.prog.keyLits (d + 1) 3 cs = some L) : ∃ n, cs = [.int .i64 n] ∧ I64 n ∧ L = [.int .i64 n] := by
  unfold Program.keyLits at h
  rw [Try.underlying3 ] at h
  split at h
  case h_2 q n q' m e1 =>
    simp only [Option.some.injEq, TypeDesc.int.injEq] at e1
    subst e1
    split at h
    · rename_i hh
      obtain ⟨rfl, hw⟩ := hh
      cases h
      exact ⟨_, rfl, hw, rfl⟩
    · cases h
  all_goals first | (cases h; done) | (simp at *; done)

set_option maxRecDepth 100000 in
theorem spk_inv {key : Value} {kl : Lit} (h : keyOf Try.prog 47 key = some kl) : ∃ x : Int × Int, key = spkV x.1 x.2 ∧ I64 x.1 ∧ I64 x.2 ∧ kl = spkL x.1 x.2 := by
  have hc : Try.prog.cellsOf 47 = 2 := by kernel_rfl
  have hi : Try.prog.cellsOf 3 = 1 := by kernel_rfl
  obtain ⟨d, hs⟩ : ∃ d, Try.prog.types.size + 1 = d + 2 := ⟨Try.prog.types.size - 1, by
    have : 0 < Try.prog.types.size := of_decide_eq_true (by kernel_rfl)
    omega⟩
  obtain ⟨xs, L, rfl, hl, rfl⟩ := keyOf_top spk_wide h
  rw [hs] at hl
  obtain ⟨ys⟩ := xs
  simp only at hl
  unfold Program.keyLits at hl
  rw [Try.underlying47 ] at hl
  simp only [hc] at hl
  split at hl
  rotate_left
  · cases hl
  rename_i hh
  obtain ⟨h2, -⟩ := hh
  obtain ⟨y0, y1, rfl⟩ : ∃ y0 y1, ys = [y0, y1] := by
    rcases ys with _ | ⟨y0, _ | ⟨y1, _ | ⟨y2, ys⟩⟩⟩ <;> simp at h2
    exact ⟨_, _, rfl⟩
  simp [hi] at hl
  cases e1 : Try.prog.keyLits (d + 1) 3 [y0] with
  | none => rw [e1] at hl; simp at hl
  | some L1 =>
    cases e2 : Try.prog.keyLits (d + 1) 3 [y1] with
    | none => rw [e1, e2] at hl; simp at hl
    | some L2 =>
      rw [e1, e2] at hl
      obtain ⟨n1, r1, w1, rfl⟩ := spk_int e1
      obtain ⟨n2, r2, w2, rfl⟩ := spk_int e2
      simp at r1 r2 hl
      subst r1 r2 hl
      exact ⟨(n1, n2), rfl, w1, w2, rfl⟩

end Go.Proofs.Ytaonlpjfbajlcaa

namespace Go.Proofs.Ytaonlpjfbajlcaa
open Go.RowKit

/-- The state of unitWanted's first loop. -/
structure UwS (w W : World) (u : Value) (ws : List WnD) (k : Nat) (D : DataW Unit) : Prop where
  own : W.ownsMap Try.prog 47 (plainElem (H := Unit) Try.prog 3) w.heap.size k D
  ms : MsI D (ws.take k)
  bel : Below w.heap.size w W

theorem own_below {W W' : World} {P : Program} {k : TypeId} {R : Value → Option (DataW Unit × List MemPlace)} {b n : Nat} {D : DataW Unit} (h : W.ownsMap P k R b n D) (hb : Below W.heap.size W W') : W'.ownsMap P k R b n D := by
  have hlt := h.lt
  obtain ⟨es, clock, h1, F, hs, rfl⟩ := h
  exact ⟨es, clock, (hb.block b hlt).trans h1, F, hs, rfl⟩

theorem rgs_below {W W' : World} {P : Program} {k : TypeId} {R : Value → Option (DataW Unit × List MemPlace)} {b r n : Nat} {D : DataW Unit} {left : Lit → Bool} {cnt : Nat} (h : W.ranges P k R b r n D left cnt) (hb : Below W.heap.size W W') : W'.ranges P k R b r n D left cnt := by
  have h1 := h.owns.lt
  have h2 := h.lt
  obtain ⟨es, clock, since, seen, c0, e1, e2, e3, e4, e5, e6⟩ := h
  exact ⟨es, clock, since, seen, c0, (hb.block b h1).trans e1, e2, e3, e4, (hb.block r h2).trans e5, e6⟩

/-- The state of unitWanted's second loop: w4 is the world ahead of the range, whose iterator is block R. -/
structure UrS (w w4 W : World) (R n : Nat) (D : DataW Unit) (left : Lit → Bool) (cnt : Nat) : Prop where
  rg : W.ranges Try.prog 47 (plainElem (H := Unit) Try.prog 3) w.heap.size R n D left cnt
  bel : Below R w4 W

theorem UrS.alloc {w w4 W : World} {R n : Nat} {D : DataW Unit} {left : Lit → Bool} {cnt : Nat} (h : UrS w w4 W R n D left cnt) (o : Obj) : UrS w w4 (W.alloc o) R n D left cnt :=
  ⟨h.rg.alloc o, h.bel.alloc (Nat.le_of_lt h.rg.lt) o⟩

theorem UrS.next {w w4 W W' : World} {R n : Nat} {D : DataW Unit} {left : Lit → Bool} {cnt : Nat} (h : UrS w w4 W R n D left cnt) (hb : Below W.heap.size W W') : UrS w w4 W' R n D left cnt :=
  ⟨rgs_below h.rg hb, h.bel.trans (hb.mono (Nat.le_of_lt h.rg.lt))⟩

/-- What a span that gets so much comes to, the program's way. -/
def gP (l : List SzD) (f : Nat → Int) (os : List Nat) (a b n : Int) : Int := unV26 (rstV l a.toNat b.toNat (lsV n (fun i => f (a.toNat + 1 + i)) (b.toNat - a.toNat - 1)) os)

/-- The greatest over those that have come. -/
structure MxP (g : Int → Int → Int → Int) (ws : List WnD) (left : Lit → Bool) (r : Int) : Prop where
  pos : 0 ≤ r
  all : ∀ x ∈ ws, left (spkL x.a x.b) = false → g x.a x.b (msV ws x.a x.b) ≤ r
  one : r = 0 ∨ ∃ x ∈ ws, r = g x.a x.b (msV ws x.a x.b)

theorem MxP.start {g : Int → Int → Int → Int} {ws : List WnD} {D : DataW Unit} (h : MsI D ws) : MxP g ws (Go.Maps.has D) 0 where
  pos := Int.le_refl _
  all x hx e := by
    rw [(h.has _).2 ⟨x, hx, rfl⟩] at e
    cases e
  one := .inl rfl

theorem MxP.more {g : Int → Int → Int → Int} {ws : List WnD} {left : Lit → Bool} {r : Int} (h : MxP g ws left r) (ha : ∀ x ∈ ws, I64 x.a ∧ I64 x.b) {z : WnD} (hz : z ∈ ws) :
    MxP g ws (fun y => left y && !y.sameKey (spkL z.a z.b)) (max r (g z.a z.b (msV ws z.a z.b))) where
  pos := by have := h.pos; omega
  all x hx e := by
    by_cases hk : spkL x.a x.b = spkL z.a z.b
    · obtain ⟨e1, e2⟩ := spk_inj (ha x hx).1 (ha x hx).2 (ha z hz).1 (ha z hz).2 hk
      rw [e1, e2]
      omega
    · have := h.all x hx (by
        cases hl : left (spkL x.a x.b)
        · rfl
        · rw [hl, Bool.true_and] at e
          simp only [Bool.not_eq_false'] at e
          exact absurd (WideAt.sameKey_eq e) hk)
      omega
  one := by
    by_cases hc : r ≤ g z.a z.b (msV ws z.a z.b)
    · exact .inr ⟨z, hz, Int.max_eq_right hc⟩
    · rw [Int.max_eq_left (by omega)]
      exact h.one

end Go.Proofs.Ytaonlpjfbajlcaa

namespace Go.Proofs.Ytaonlpjfbajlcaa
open Go.RowKit

theorem rgF_of {l : List SzD} {space : Int} (h0 : 0 ≤ space) (h1 : space ≤ 68719476736) (hs : ∀ k, k < l.length → goodS (l.getD k noSz) = true ∧ (l.getD k noSz).base ≤ 68719476736) : rgF l space = true := by
  have ht : ∀ N, N ≤ l.length → rt26 l N = true := by
    intro N
    induction N with
    | zero => intro _; rfl
    | succ n ih =>
      intro hn
      have g := hs n (by omega)
      have b := (good_base g.1).1
      simp only [rt26]
      rw [ih (by omega), g.1, Bool.true_and, Bool.true_and]
      unfold isLen
      simp only [decide_eq_true_eq]
      omega
  unfold rgF
  rw [ht _ (Nat.le_refl _), Bool.true_and]
  unfold isSz isLen
  simp only [Bool.and_eq_true, decide_eq_true_eq]
  omega

theorem spG_ls (f : Nat → Int) (n : Int) (a : Nat) : ∀ d, lsV n (fun i => f (a + 1 + i)) d = spG f n a d
  | 0 => rfl
  | d + 1 => by
    simp only [lsV, spG]
    rw [spG_ls f n a d, Int.max_comm]

/-- The places of a part, counted from its beginning. -/
def shL (A D : Nat) (os : List Nat) : List Nat := (os.filter (fun i => decide (A ≤ i ∧ i < A + D))).map (fun i => i - A)

theorem shL_in {A D i : Nat} {os : List Nat} (h : A ≤ i ∧ i < A + D) : shL A D (i :: os) = (i - A) :: shL A D os := by
  unfold shL
  rw [List.filter_cons_of_pos (by simpa using h)]
  rfl

theorem shL_out {A D i : Nat} {os : List Nat} (h : ¬ (A ≤ i ∧ i < A + D)) : shL A D (i :: os) = shL A D os := by
  unfold shL
  rw [List.filter_cons_of_neg (by simpa using h)]

theorem shL_app (A D : Nat) (os os' : List Nat) : shL A D (os ++ os') = shL A D os ++ shL A D os' := by
  unfold shL
  rw [List.filter_append, List.map_append]

theorem shL_perm {A D : Nat} {os os' : List Nat} (h : os.Perm os') : (shL A D os).Perm (shL A D os') := (h.filter _).map _

theorem grd_sub {l l' : List SzD} {A D : Nat} (hl : ∀ i, i < D → l'.getD i noSz = l.getD (A + i) noSz) : ∀ (os : List Nat) (x : RsD), grd l A (A + D) os x = grd l' 0 D (shL A D os) x
  | [], _ => rfl
  | i :: r, x => by
    by_cases h : A ≤ i ∧ i < A + D
    · have e : l'.getD (i - A) noSz = l.getD i noSz := by rw [hl _ (by omega)]; congr 1; omega
      rw [shL_in h]
      simp only [grd]
      have n1 : ¬ (i < A ∨ A + D ≤ i) := by omega
      have n2 : ¬ (i - A < 0 ∨ D ≤ i - A) := by omega
      rw [if_neg n1, if_neg n2, e]
      split
      · exact grd_sub hl r _
      · rfl
    · rw [shL_out h]
      simp only [grd]
      have n1 : i < A ∨ A + D ≤ i := by omega
      rw [if_pos n1]
      exact grd_sub hl r x

theorem rsA_sub {l l' : List SzD} {A D : Nat} (hl : ∀ i, i < D → l'.getD i noSz = l.getD (A + i) noSz) (space : Int) : ∀ d, d ≤ D → rsA l A space d = rsA l' 0 space d
  | 0, _ => rfl
  | d + 1, hd => by
    simp only [rsA]
    rw [rsA_sub hl space d (by omega), Nat.zero_add, hl d (by omega)]

theorem rstV_sub {l l' : List SzD} {A D : Nat} (hl : ∀ i, i < D → l'.getD i noSz = l.getD (A + i) noSz) (space : Int) (os : List Nat) : rstV l A (A + D) space os = rstV l' 0 D space (shL A D os) := by
  unfold rstV
  rw [grd_sub hl, show A + D - A = D by omega, Nat.sub_zero, rsA_sub hl space D (Nat.le_refl _)]

theorem orL_sub {l l' : List SzD} {A D : Nat} (hl : ∀ i, i < D → l'.getD i noSz = l.getD (A + i) noSz) : ∀ k, shL A D (orL l k) = orL l' (min D (k - A))
  | 0 => by rw [Nat.zero_sub, Nat.min_zero]; rfl
  | k + 1 => by
    rw [orL_succ, shL_app, orL_sub hl k]
    by_cases h : A ≤ k ∧ k < A + D
    · have e : isOr l' (k - A) = isOr l k := by
        unfold isOr
        rw [hl _ (by omega), show A + (k - A) = k by omega]
      rw [show min D (k + 1 - A) = min D (k - A) + 1 by omega, orL_succ, show min D (k - A) = k - A by omega, e]
      congr 1
      cases isOr l k
      · rfl
      · exact shL_in h
    · have e : shL A D (if isOr l k then [k] else []) = [] := by
        cases isOr l k
        · rfl
        · exact shL_out h
      rw [e, List.append_nil, show min D (k + 1 - A) = min D (k - A) by omega]

/-- The order of a part's. -/
def subI {l l' : List SzD} {A D : Nat} (hD : D = l'.length) (hl : ∀ i, i < D → l'.getD i noSz = l.getD (A + i) noSz) (y : ordI l) : Option (ordI l') :=
  if h : A ≤ y.val ∧ y.val < A + D then some ⟨y.val - A, by
    have e : l'.getD (y.val - A) noSz = l.getD y.val noSz := by rw [hl _ (by omega)]; congr 1; omega
    rw [e]
    exact ⟨by omega, y.property.2⟩⟩ else none

theorem subI_some {l l' : List SzD} {A D : Nat} (hD : D = l'.length) (hl : ∀ i, i < D → l'.getD i noSz = l.getD (A + i) noSz) {y : ordI l} (h : A ≤ y.val ∧ y.val < A + D) : ∃ z : ordI l', subI hD hl y = some z ∧ z.val = y.val - A := by
  unfold subI
  rw [dif_pos h]
  exact ⟨_, rfl, rfl⟩

theorem subI_val {l l' : List SzD} {A D : Nat} (hD : D = l'.length) (hl : ∀ i, i < D → l'.getD i noSz = l.getD (A + i) noSz) : ∀ ds : List (ordI l), (ds.filterMap (subI hD hl)).map (fun x => x.val) = shL A D (ds.map (fun x => x.val))
  | [] => rfl
  | y :: ds => by
    by_cases h : A ≤ y.val ∧ y.val < A + D
    · obtain ⟨z, e, hz⟩ := subI_some hD hl h
      rw [List.filterMap_cons_some e]
      simp only [List.map_cons]
      rw [shL_in h, subI_val hD hl ds, hz]
    · have e : subI hD hl y = none := by unfold subI; rw [dif_neg h]
      rw [List.filterMap_cons_none e]
      simp only [List.map_cons]
      rw [shL_out h, subI_val hD hl ds]

theorem subI_lt {l l' : List SzD} {A D : Nat} (hD : D = l'.length) (hl : ∀ i, i < D → l'.getD i noSz = l.getD (A + i) noSz) {y z : ordI l} {y' z' : ordI l'} (h1 : subI hD hl y = some y') (h2 : subI hD hl z = some z') : ltOf (cfI l') z' y' = ltOf (cfI l) z y := by
  have key : ∀ {y : ordI l} {y' : ordI l'}, subI hD hl y = some y' → l'.getD y'.val noSz = l.getD y.val noSz := by
    intro y y' h
    unfold subI at h
    split at h
    · rename_i hh
      injection h with h
      subst h
      show l'.getD (y.val - A) noSz = _
      rw [hl _ (by omega)]; congr 1; omega
    · exact absurd h (by simp)
  rw [ltI, ltI, key h1, key h2]

/-- One fr of a part, the program's way, is the document's. -/
theorem gP_same {l : List SzD} {f : Nat → Int} {ds : List (ordI l)} (hs : ∀ k, k < l.length → goodS (l.getD k noSz) = true ∧ (l.getD k noSz).base ≤ 68719476736) (hf : ∀ k, k < l.length → 0 ≤ f k)
    (hp : ds.Pairwise (fun x y => ltOf (cfI l) y x = false)) (hm : (ds.map (fun x => x.val)).Perm (orL l l.length)) {a b n : Int} (h0 : 0 ≤ a) (h1 : a < b) (h2 : b ≤ (l.length : Int)) (n0 : 0 ≤ n) (n1 : n ≤ 68719476736) :
    rgF (subL l ⟨a, b, 0, 0, 0⟩) (spG f n a.toNat (b - a - 1).toNat) = true ∧ gP l f (ds.map (fun x => x.val)) a b n = wuV l f a b n := by
  have hD : (b - a).toNat = (subL l ⟨a, b, 0, 0, 0⟩).length := (subL_len (x := ⟨a, b, 0, 0, 0⟩) h0 h1 h2).symm
  have hl : ∀ i, i < (b - a).toNat → (subL l ⟨a, b, 0, 0, 0⟩).getD i noSz = l.getD (a.toNat + i) noSz := fun i hi => subL_get (x := ⟨a, b, 0, 0, 0⟩) hi
  obtain ⟨s0, s1⟩ := spG_bd (f := f) (s := n) (a := a.toNat) (N := l.length) n0 hf (b - a - 1).toNat (by omega)
  have hr : rgF (subL l ⟨a, b, 0, 0, 0⟩) (spG f n a.toNat (b - a - 1).toNat) = true := rgF_of s0 (by omega) (fun k hk => by
    have hk2 : k < (b - a).toNat := by rw [hD]; exact hk
    rw [hl k hk2]
    exact hs _ (by omega))
  refine ⟨hr, ?_⟩
  unfold gP wuV
  have hAD : a.toNat + (b - a).toNat ≤ l.length := by omega
  rw [spG_ls, show b.toNat - a.toNat - 1 = (b - a - 1).toNat by omega, show b.toNat = a.toNat + (b - a).toNat by omega]
  generalize subL l ⟨a, b, 0, 0, 0⟩ = l' at *
  generalize spG f n a.toNat (b - a - 1).toNat = sp at *
  generalize a.toNat = A at *
  generalize (b - a).toNat = D at *
  subst hD
  rw [rstV_sub hl, ← subI_val rfl hl ds]
  have hu := unit_same (l := l') (space := sp) (ds := ds.filterMap (subI rfl hl)) (rgF_good0 hr)
    (hp.filterMap _ (fun y z hyz y' h1 z' h2 => by rw [subI_lt rfl hl h1 h2]; exact hyz))
    (by
      rw [subI_val rfl hl ds]
      refine (shL_perm hm).trans ?_
      rw [orL_sub hl, show min l'.length (l.length - A) = l'.length by omega])
  exact hu

end Go.Proofs.Ytaonlpjfbajlcaa

namespace Go.Proofs.Ytaonlpjfbajlcaa
open Go.RowKit

theorem rgF_good2 {l : List SzD} {M : Nat} {f : Nat → Int} {ws : List WnD} : (rgF l 0 = true ∧ good24 l M f ws 0 = true) ↔ good26 l M f ws 0 = true := by
  constructor
  · rintro ⟨h1, h2⟩
    unfold rgF at h1
    rw [Bool.and_eq_true] at h1
    unfold good26
    rw [h2, h1.2, Bool.true_and, Bool.true_and, List.all_eq_true]
    intro s hs
    obtain ⟨k, hk, rfl⟩ := List.mem_iff_getElem.1 hs
    have e : l[k] = l.getD k noSz := by rw [List.getD_eq_getElem?_getD, List.getElem?_eq_getElem hk]; rfl
    obtain ⟨g1, g2⟩ := rt26_at h1.1 k hk
    rw [e]
    unfold isSz
    rw [g2, decide_eq_true (good_base g1).1]
    rfl
  · intro h
    have h' := h
    unfold good26 at h
    rw [Bool.and_eq_true, Bool.and_eq_true] at h
    obtain ⟨-, hgs, -, -⟩ := good26_parts h'
    exact ⟨rgF_of (by omega) (by omega) (fun k hk => ⟨(hgs k hk).1, (hgs k hk).2.2⟩), h.1⟩

theorem good26_wants {l : List SzD} {M : Nat} {f : Nat → Int} {ws : List WnD} {size : Int} (h : good26 l M f ws size = true) : ∀ x ∈ ws, 0 ≤ x.a ∧ x.a < x.b ∧ x.b ≤ (l.length : Int) ∧ 0 ≤ x.x ∧ x.x ≤ 68719476736 := by
  unfold good26 at h
  rw [Bool.and_eq_true] at h
  have hh4 := h.1
  unfold good24 hd24 at hh4
  simp only [Bool.and_eq_true, decide_eq_true_eq] at hh4
  intro x hx
  obtain ⟨j, hj, e⟩ := List.getElem_of_mem hx
  have e2 : ws.getD j noWn = x := by rw [List.getD_eq_getElem?_getD, List.getElem?_eq_getElem hj]; exact e
  have := goodW_bd (wg24_at hh4.2.2 j hj)
  rwa [e2] at this

/-- One of the tracks while they grow. -/
def gwG (l : List SzD) (u : Int) (j i : Nat) : SzD := if i < j ∧ flx l i = true then grnV (l.getD i noSz) (min (mdV u (l.getD i noSz).fr 1000).1 68719476736) else l.getD i noSz

theorem gwG_zero (l : List SzD) (u : Int) (i : Nat) : gwG l u 0 i = l.getD i noSz := by
  unfold gwG
  rw [if_neg (fun h => Nat.not_lt_zero _ h.1)]

theorem gwG_at (l : List SzD) (u : Int) (j : Nat) : gwG l u j j = l.getD j noSz := by
  unfold gwG
  rw [if_neg (fun h => Nat.lt_irrefl _ h.1)]

theorem gwG_yes {l : List SzD} {u : Int} {j : Nat} (h : flx l j = true) (i : Nat) : (if i = j then grnV (l.getD j noSz) (min (mdV u (l.getD j noSz).fr 1000).1 68719476736) else gwG l u j i) = gwG l u (j + 1) i := by
  unfold gwG
  by_cases e : i = j
  · subst e
    rw [if_pos rfl, if_pos ⟨Nat.lt_succ_self _, h⟩]
  · rw [if_neg e]
    by_cases hc : i < j ∧ flx l i = true
    · rw [if_pos hc, if_pos ⟨by omega, hc.2⟩]
    · rw [if_neg hc, if_neg (fun hh => hc ⟨by omega, hh.2⟩)]

theorem gwG_no {l : List SzD} {u : Int} {j : Nat} (h : flx l j = false) (i : Nat) : gwG l u j i = gwG l u (j + 1) i := by
  unfold gwG
  by_cases hc : i < j ∧ flx l i = true
  · rw [if_pos hc, if_pos ⟨by omega, hc.2⟩]
  · rw [if_neg hc, if_neg (fun hh => hc ⟨by
      rcases Nat.lt_succ_iff_lt_or_eq.1 hh.1 with e | e
      · exact e
      · subst e; rw [h] at hh; exact absurd hh.2 (by decide), hh.2⟩)]

theorem gfL_map (l : List SzD) (u : Int) : ∀ k, gfL l u k = (List.range k).map (gfV l u)
  | 0 => rfl
  | k + 1 => by
    simp only [gfL]
    rw [gfL_map l u k, List.range_succ, List.map_append]
    rfl

theorem grow_list {l : List SzD} (u : Int) (hs : ∀ k, k < l.length → goodS (l.getD k noSz) = true) : (List.range l.length).map (gwG l u l.length) = gfL l u l.length := by
  rw [gfL_map]
  apply List.map_congr_left
  intro i hi
  have hi2 := List.mem_range.1 hi
  unfold gwG gfV
  cases hf : flx l i
  · rw [if_neg (fun h => absurd h.2 (by decide))]
    exact (raise_good26 (hs i hi2)).symm
  · rw [if_pos ⟨hi2, rfl⟩, if_pos rfl]
    rfl

theorem MxR.congr {g g' : Int → Int → Int → Int} {ws : List WnD} {r : Int} (h : MxR g ws r) (e : ∀ x ∈ ws, g x.a x.b (msV ws x.a x.b) = g' x.a x.b (msV ws x.a x.b)) : MxR g' ws r where
  pos := h.pos
  all x hx := by rw [← e x hx]; exact h.all x hx
  one := h.one.imp id (fun ⟨x, hx, hh⟩ => ⟨x, hx, by rw [← e x hx]; exact hh⟩)

theorem grow_unit {l : List SzD} {M : Nat} {f : Nat → Int} {ws : List WnD} {r : Int} {ds : List (ordI l)} (h : good26 l M f ws 0 = true) (hp : ds.Pairwise (fun x y => ltOf (cfI l) y x = false)) (hm : (ds.map (fun x => x.val)).Perm (orL l l.length))
    (hr : MxR (gP l f (ds.map (fun x => x.val))) ws r) : gw26 l f ws ws.length = max (uhV l l.length) r := by
  obtain ⟨-, hgs, -, -⟩ := good26_parts h
  have hw := good26_wants h
  have hb : ∀ k, k < l.length → 0 ≤ (l.getD k noSz).base ∧ (l.getD k noSz).base ≤ 68719476736 := fun k hk => ⟨(good_base (hgs k hk).1).1, (hgs k hk).2.2⟩
  have hs : ∀ k, k < l.length → goodS (l.getD k noSz) = true ∧ (l.getD k noSz).base ≤ 68719476736 := fun k hk => ⟨(hgs k hk).1, (hgs k hk).2.2⟩
  have hf : ∀ k, k < l.length → 0 ≤ f k := fun k hk => (isSz_bd (hgs k hk).2.1).1
  have hbd : ∀ a b, 0 ≤ msV ws a b ∧ msV ws a b ≤ 68719476736 := fun a b => by
    obtain ⟨m0, -, m2⟩ := msV_le ws a b
    refine ⟨m0, ?_⟩
    rcases m2 with e | ⟨x, hx', -, -, e⟩
    · omega
    · have := (hw x hx').2.2.2.2; omega
  rw [gw26_map (gu26_bd hb l.length (Nat.le_refl _)).1 (fun x hx => ⟨(hw x hx).2.2.2.1, (hw x hx).2.2.2.2⟩)
    (fun x hx n n0 n1 => (gP_same (f := f) hs hf hp hm (hw x hx).1 (hw x hx).2.1 (hw x hx).2.2.1 n0 n1).1)
    (hr.congr (fun x hx => (gP_same hs hf hp hm (hw x hx).1 (hw x hx).2.1 (hw x hx).2.2.1 (hbd _ _).1 (hbd _ _).2).2)),
    uh_same hb l.length (Nat.le_refl _)]

end Go.Proofs.Ytaonlpjfbajlcaa

namespace Go.Proofs.Ytaonlpjfbajlcaa
open Go.RowKit

set_option maxRecDepth 100000 in
set_option maxHeartbeats 8000000 in
theorem unitWanted26_any (v : Value) (l : List SzD) (aa : Option Addr) (M ca : Nat) (f : Nat → Int) (u : Value) (ws : List WnD) (w : World) (h : SzL w v l) (ha : ArI w aa M f) (hw : WnL w u ws) (hN : l.length ≤ 1000000) (hK : ws.length ≤ 1000000) (hg : ∀ x ∈ ws, I64 x.a ∧ I64 x.b ∧ I64 x.x) (hg2 : ∀ x ∈ ws, 0 ≤ x.a ∧ x.a < x.b ∧ x.b ≤ (l.length : Int) ∧ 0 ≤ x.x ∧ x.x ≤ 68719476736) (hM : M = l.length) (hMc : M ≤ ca) (hf : ∀ k, k < M → 0 ≤ f k ∧ f k ≤ 68719476736) (hs : ∀ k, k < l.length → goodS (l.getD k noSz) = true ∧ (l.getD k noSz).base ≤ 68719476736) :
    Calls Try.prog 38 #[v, .slice aa M ca, u] w fun e w' => (∃ (r : Int) (ds : List (ordI l)), e = .returned (.int .i64 r) ∧ ds.Pairwise (fun x y => ltOf (cfI l) y x = false) ∧ (ds.map (fun x => x.val)).Perm (orL l l.length) ∧ MxR (gP l f (ds.map (fun x => x.val))) ws r) ∧ Below w.heap.size w w' := by
  subst hM
  have HS := hide hw
  obtain ⟨ao, cap, rfl⟩ := h.slice
  obtain ⟨wo, cw, rfl⟩ := hw.slice
  obtain ⟨K, hK0⟩ : ∃ K, K = ws.length := ⟨_, rfl⟩
  have HKL := hide hK0
  rw [← hK0] at HS hK ⊢
  have HG := hide hg
  have HG2 := hide hg2
  have HF := hide hf
  have HSD := hide hs
  have CROW := hide (fun W (hb : Below w.heap.size w W) => rowOf_any (.slice ao l.length cap) l W (h.below hb) hN hs)
  have HSL := hide h
  have HAI := hide ha
  clear h ha hw hK0 hg hs hg2 hf
  have hmm := @run_makeMap Try.prog
  go_enter Try.func38, Try.ntmps38
  go_wp2_with fail
  go_loopw [19] (fun i wr => ∃ k : Nat, k ≤ K ∧ i = .int .i64 (k : Int) ∧ ∃ D, Hid (UwS w wr (.slice wo K cw) ws k D)) (fun i _ => K - (intOf i).toNat)
  case atStart => exact ⟨0, Nat.zero_le _, by go_num, .map [], hide ⟨World.ownsMap_made _ _ _ _, by rw [List.take_zero]; exact MsI.nil, (Below.refl _ _).alloc (Nat.le_refl _) _⟩⟩
  case round =>
    obtain ⟨k, hk, rfl, D, ST⟩ := hrel
    by_cases hkl : k < K
    · have hi : (k : Int) < (K : Int) := by omega
      have hn2 : ¬ (k : Int) < 0 := by omega
      have hkL : k < ws.length := by rw [← HKL.out]; exact hkl
      obtain ⟨b, off, hao, hlt, x0, x1, x2, x3, x4⟩ := ((HS.out).below (ST.out).bel).at hkL
      subst hao
      generalize hx : ws.getD k noWn = x at *
      obtain ⟨a, c, lo, mi, mx⟩ := x
      simp only at x0 x1 x2 x3 x4
      have hmm0 := hmm
      clear hmm
      go_upto_region 6 with fail
      have ST1 := hide (((ST.out).own.alloc (.cells #[.int .i64 a, .int .i64 c, .int .i64 lo, .int .i64 mi, .int .i64 mx] 35)).alloc (.cells #[.int .i64 a, .int .i64 c] 47))
      have B0 := ((ST.out).bel.alloc (ST.out).bel.size (.cells #[.int .i64 a, .int .i64 c, .int .i64 lo, .int .i64 mi, .int .i64 mx] 35))
      have B1 := hide (B0.alloc B0.size (.cells #[.int .i64 a, .int .i64 c] 47))
      have hW0 : WnR (wr.alloc (.cells #[.int .i64 a, .int .i64 c, .int .i64 lo, .int .i64 mi, .int .i64 mx] 35)) wr.heap.size ⟨a, c, lo, mi, mx⟩ := WnR.new wr ⟨a, c, lo, mi, mx⟩
      have hW1 := hW0.below ((Below.refl _ _).alloc (Nat.le_refl _) (.cells #[.int .i64 a, .int .i64 c] 47))
      have hY : ((wr.alloc (.cells #[.int .i64 a, .int .i64 c, .int .i64 lo, .int .i64 mi, .int .i64 mx] 35)).alloc (.cells #[.int .i64 a, .int .i64 c] 47)).heap[wr.heap.size + 1]? = some (.cells #[.int .i64 a, .int .i64 c] 47 (0, 0)) := by
        have := heap_alloc_new (wr.alloc (.cells #[.int .i64 a, .int .i64 c, .int .i64 lo, .int .i64 mi, .int .i64 mx] 35)) (.cells #[.int .i64 a, .int .i64 c] 47)
        rwa [World.size_alloc] at this
      generalize ((wr.alloc (.cells #[.int .i64 a, .int .i64 c, .int .i64 lo, .int .i64 mi, .int .i64 mx] 35)).alloc (.cells #[.int .i64 a, .int .i64 c] 47)) = w2 at *
      have y0 : w2.cell? ⟨wr.heap.size + 1, 0, none⟩ = some (.int .i64 a) := by rw [Lib.cell_of_heap hY]; rfl
      have y1 : w2.cell? ⟨wr.heap.size + 1, 1, none⟩ = some (.int .i64 c) := by rw [Lib.cell_of_heap hY]; rfl
      have z4 := hW1.cells.2.2.2.2
      have HMS := hide (ST.out).ms
      clear hY hW0 hW1 B0 ST x0 x1 x2 x3 x4
      generalize wr.heap.size = X at *
      obtain ⟨ga, gc, gx⟩ := (HG.out) ⟨a, c, lo, mi, mx⟩ (by rw [← hx, List.getD_eq_getElem?_getD, List.getElem?_eq_getElem hkL]; exact List.getElem_mem hkL)
      have hkey := spk_key ga gc
      have hm : Try.prog.follows .mixedOrders = true := by kernel_rfl
      refine wp_region_last (S := (fun Z => Z.cell? ⟨X + 1, 0, none⟩ = some (.int .i64 a) ∧ Z.cell? ⟨X + 1, 1, none⟩ = some (.int .i64 c) ∧ Z.cell? ⟨X, 4, none⟩ = some (.int .i64 mx))) (last := 8) hm ?_
      have hHeld : (fun Z : World => Z.cell? ⟨X + 1, 0, none⟩ = some (.int .i64 a) ∧ Z.cell? ⟨X + 1, 1, none⟩ = some (.int .i64 c) ∧ Z.cell? ⟨X, 4, none⟩ = some (.int .i64 mx)) w2.drew := ⟨y0, y1, z4⟩
      show wpAnyL _ _ _ _ _ _ _ _ _ w2.drew
      refine wpAnyL_take (i := 0) (v := .map (some w.heap.size)) rfl (by decide) (by kernel_rfl) (by kernel_rfl) (by kernel_rfl) (by kernel_rfl) (fun _ _ _ h => h) (Or.inl ⟨by rfl, ?hy0⟩) hHeld ?_
      case hy0 => (intro w hSw; (try dsimp only at hSw); go_simp)
      (try simp only [Act.put])
      refine wpAnyL_take (i := 1) (v := .agg #[.int .i64 a, .int .i64 c]) rfl (by decide) (by kernel_rfl) (by kernel_rfl) (by kernel_rfl) (by kernel_rfl) (fun _ _ _ h => h) (Or.inl ⟨by rfl, ?hy1⟩) hHeld ?_
      case hy1 => (intro w hSw; (try dsimp only at hSw); go_simp)
      (try simp only [Act.put])
      refine wpAnyL_take (i := 2) (v := .map (some w.heap.size)) rfl (by decide) (by kernel_rfl) (by kernel_rfl) (by kernel_rfl) (by kernel_rfl) (fun _ _ _ h => h) (Or.inl ⟨by rfl, ?hy2⟩) hHeld ?_
      case hy2 => (intro w hSw; (try dsimp only at hSw); go_simp)
      (try simp only [Act.put])
      refine wpAnyL_take (i := 3) (v := .agg #[.int .i64 a, .int .i64 c]) rfl (by decide) (by kernel_rfl) (by kernel_rfl) (by kernel_rfl) (by kernel_rfl) (fun _ _ _ h => h) (Or.inl ⟨by rfl, ?hy3⟩) hHeld ?_
      case hy3 => (intro w hSw; (try dsimp only at hSw); go_simp)
      (try simp only [Act.put])
      refine wpAnyL_take (i := 5) (v := .pointer (some ⟨X, 4, none⟩)) rfl (by decide) (by kernel_rfl) (by kernel_rfl) (by kernel_rfl) (by kernel_rfl) (fun _ _ _ h => h) (Or.inl ⟨by rfl, ?hy5⟩) hHeld ?_
      case hy5 => (intro w hSw; (try dsimp only at hSw); go_simp)
      (try simp only [Act.put])
      refine wpAnyL_take (i := 6) (v := .int .i64 mx) rfl (by decide) (by kernel_rfl) (by kernel_rfl) (by kernel_rfl) (by kernel_rfl) (fun _ _ _ h => h) (Or.inl ⟨by rfl, ?hy6⟩) hHeld ?_
      case hy6 => (intro w hSw; (try dsimp only at hSw); go_simp)
      (try simp only [Act.put])
      obtain ⟨cc, hrun, hat, hwc⟩ := ((ST1.out).drew).lookup_int spk_keyed Try.underlying84 Try.underlying3 (by kernel_rfl) hkey
      refine wpAnyL_alone (i := 4) rfl (by kernel_rfl) (by rfl) (fun K' hK' => ?_)
      unfold Oper.wp
      simp only [execOp, Act.eval]
      simp [hrun, Result.andThen]
      refine hK'.out _ _ (fun _ => hHeld) ?_
      clear hK' K'
      (try simp only [Act.put])
      refine wpAnyL_take (i := 7) (v := .int .i64 (max cc mx)) rfl (by decide) (by kernel_rfl) (by kernel_rfl) (by kernel_rfl) (by kernel_rfl) (fun _ _ _ h => h) (Or.inl ⟨by rfl, ?hy7⟩) hHeld ?_
      case hy7 => (intro w hSw; (try dsimp only at hSw); go_simp)
      (try simp only [Act.put])
      have hcc : cc = msV (ws.take k) a c := by
        have e := ((HMS.out).at_ a c ga gc).symm.trans hat
        injection e with e
        injection e with _ e
        exact e.symm
      have hmxw : (Lit.int .i64 (max cc mx)).wf = true := by
        rcases Int.le_total cc mx with e | e
        · rw [Int.max_eq_right e]; exact gx
        · rw [Int.max_eq_left e]; exact hwc
      obtain ⟨w3, hrun3, hown3, hgrow⟩ := ((ST1.out).drew).update spk_keyed Try.underlying84 (by unfold maxLen; omega) hkey (plainElem_int Try.underlying3 hmxw)
      refine wpAnyL_alone (i := 8) rfl (by kernel_rfl) (by rfl) (fun K' hK' => ?_)
      unfold Oper.wp
      simp only [execOp, Act.eval]
      simp [hrun3, Result.andThen]
      refine hK'.out _ _ (fun h => absurd rfl h) ?_
      clear hK' K'
      (try simp only [Act.put])
      refine wpAnyL_done (by kernel_rfl) ?_ _
      have B3 := hide (((B1.out).drew).grown hgrow (B1.out).drew.size (fun j hj => by cases hj; exact Nat.le_refl _))
      have HT : ws.take (k + 1) = ws.take k ++ [⟨a, c, lo, mi, mx⟩] := by
        rw [List.take_add_one, List.getElem?_eq_getElem hkL]
        have e : ws[k] = ⟨a, c, lo, mi, mx⟩ := by rw [← hx, List.getD_eq_getElem?_getD, List.getElem?_eq_getElem hkL]; rfl
        rw [e]; rfl
      have ST3 : Hid (UwS w w3 (.slice (some ⟨b, off, none⟩) K cw) ws (k + 1) (D.put (spkL a c) (.lit (.int .i64 (max cc mx))))) := hide ⟨hown3, by rw [HT, hcc]; exact (HMS.out).put ⟨a, c, lo, mi, mx⟩ ga gc, B3.out⟩
      clear hown3 hgrow hHeld y0 y1 z4 HMS ST1 B1 B3 hrun hrun3 hat hkey HT hx
      go_wp2_with fail
      go_roundw
      case rel => exact ⟨k + 1, by omega, by go_num, _, ST3⟩
      case measure => simp [intOf]; omega
    · have hki : ¬ (k : Int) < (K : Int) := by omega
      have hke : k = K := by omega
      subst hke
      go_upto_region 8 with fail
      go_wp2_with fail
      refine Calls.mono ((CROW.out) _ (ST.out).bel) ?_
      rintro e w2 ⟨u2, ds, rfl, hos, hpw, hpm, hb2⟩
      obtain ⟨uo, uc, rfl, -⟩ := hos.arI
      rw [List.length_map] at hos
      have OW := hide ((own_below (ST.out).own hb2).alloc (.cells #[.slice ao l.length cap, .slice uo ds.length uc] 43))
      have B2 := (ST.out).bel.trans (hb2.mono (ST.out).bel.size)
      go_upto_region 9 with fail
      generalize hW3 : w2.alloc (.cells #[.slice ao l.length cap, .slice uo ds.length uc] 43) = w4 at *
      go_wp2_with (at_range; go_loud (refine wpList_range_own _ rfl _ 84 rfl 47 3 spk_keyed Try.underlying84 _ w.heap.size k _ rfl OW.out ?_; intro w3 hrg3 hg3 hs3))
      go_frame
      have B4 : Below w.heap.size w w4 := by rw [← hW3]; exact B2.alloc B2.size _
      have hrow4 : w4.heap[w2.heap.size]? = some (.cells #[.slice ao l.length cap, .slice uo ds.length uc] 43 (0, 0)) := by rw [← hW3]; exact heap_alloc_new _ _
      have hos4 : Reads w4 (.slice uo ds.length uc) (ds.map (fun x => (x.val : Int))) := by rw [← hW3]; exact hos.below ((Below.refl _ _).alloc (Nat.le_refl _) _)
      have BB := (Below.refl w4.heap.size w4).grown hg3 (Nat.le_refl _) (fun j hj => by cases hj)
      have UR : Hid (UrS w w4 w3 w4.heap.size k D (Go.Maps.has D) (Go.Maps.size D)) := hide ⟨hrg3, BB⟩
      have HB4 := hide B4
      have HROW := hide hrow4
      have HOS := hide hos4
      have HRB : Hid (w2.heap.size < w4.heap.size) := hide (Array.getElem?_eq_some_iff.1 hrow4).1
      have HPW := hide hpw
      have HPM := hide hpm
      clear hpw hpm
      have HMS := hide (show MsI D ws by have e := (ST.out).ms; rwa [HKL.out, List.take_length] at e)
      clear ST OW B2 B4 BB hrow4 hos4 hos hrg3 hg3 hs3 hW3 hb2
      generalize w2.heap.size = RB at *
      obtain ⟨R, hR⟩ : ∃ R, R = w4.heap.size := ⟨_, rfl⟩
      have HRE := hide hR
      rw [← hR] at UR HRB ⊢
      clear hR
      go_loopw [11] (fun o wr => ∃ (r : Int) (left : Lit → Bool) (cnt : Nat), o = .int .i64 r ∧ Hid (UrS w w4 wr R k D left cnt) ∧ Hid (MxP (gP l f (ds.map (fun x => x.val))) ws left r)) (fun _ wr => wr.rangeLeft w.heap.size R)
      case atStart => exact ⟨0, _, _, rfl, UR, hide (MxP.start HMS.out)⟩
      case round =>
        obtain ⟨r, left, cnt, rfl, ST, HM⟩ := hrel
        have hrg := (ST.out).rg
        go_wp2_with (first
          | (at_next; go_loud (refine wpList_next_ranges _ rfl _ rfl 47 spk_keyed (plainElem (H := Unit) Try.prog 3) (fun x : Int × Int => spkV x.1 x.2) (fun n : Int => .int .i64 n) (fun key kl hk => by obtain ⟨x, e, -⟩ := spk_inv hk; exact ⟨x, e⟩) (fun v y hv => by obtain ⟨c, e, -⟩ := plainElem_int_inv Try.underlying3 hv; exact ⟨c, e⟩) w.heap.size R k _ _ _ rfl hrg ?_ ?_))
          | go_in)
        · intro hc0 hl0
          have HR : MxR (gP l f (ds.map (fun x => x.val))) ws r := ⟨(HM.out).pos, fun x hx => (HM.out).all x hx (hl0 _), (HM.out).one⟩
          have HR2 := hide HR
          have HB := hide ((HB4.out).trans ((ST.out).bel.mono (by rw [HRE.out]; exact (HB4.out).size)))
          clear HM hrg ST hl0 HR
          go_wp2_with fail
          go_ret
          exact ⟨⟨r, ds, rfl, HPW.out, HPM.out, HR2.out⟩, HB.out⟩
        · intro xa xb c kl y ps w1 cnt1 hkey hlk hy hat hrg1 hlt hg1 hs1 hen
          obtain ⟨c', ec, hy2, hwc⟩ := plainElem_int_inv Try.underlying3 hy
          cases ec
          cases hy2
          obtain ⟨x', ex, i1, i2, rfl⟩ := spk_inv hkey
          obtain ⟨xa', xb'⟩ := x'
          have ex2 : xa = xa' ∧ xb = xb' := by simpa [spkV] using ex
          obtain ⟨rfl, rfl⟩ := ex2
          simp only at i1 i2 hat hlk hrg1
          have hcv : c = msV ws xa xb := by
            have e := (hat (.lit (.int .i64 0))).symm.trans ((HMS.out).at_ xa xb i1 i2)
            injection e with e
            injection e with _ e
          obtain ⟨z, hz, ez⟩ := ((HMS.out).has _).1 (Go.Maps.has_true_of_atKey hat)
          obtain ⟨z1, z2, -⟩ := (HG.out) z hz
          obtain ⟨rfl, rfl⟩ := spk_inj i1 i2 z1 z2 ez
          obtain ⟨q0, q1, q2, -, -⟩ := (HG2.out) z hz
          have hc0 : 0 ≤ c ∧ c ≤ 68719476736 := by
            obtain ⟨m0, -, m2⟩ := msV_le ws z.a z.b
            rw [← hcv] at m0 m2
            refine ⟨m0, ?_⟩
            rcases m2 with e | ⟨p, hp, -, -, e⟩
            · omega
            · have := ((HG2.out) p hp).2.2.2.2; omega
          have HM2 := hide ((HM.out).more (fun x hx => ⟨((HG.out) x hx).1, ((HG.out) x hx).2.1⟩) hz)
          obtain ⟨A, hA⟩ : ∃ A : Nat, z.a = (A : Int) := ⟨z.a.toNat, by omega⟩
          obtain ⟨Bn, hBn⟩ : ∃ Bn : Nat, z.b = (Bn : Int) := ⟨z.b.toNat, by omega⟩
          have HGP : Hid (gP l f (ds.map (fun x => x.val)) z.a z.b (msV ws z.a z.b) = unV26 (rstV l A Bn (lsV c (fun i => f (A + 1 + i)) (Bn - A - 1)) (ds.map (fun x => x.val)))) := hide (by rw [← hcv, hA, hBn]; rfl)
          rw [HGP.out] at HM2
          clear HGP hkey hy ex hat ez HMS hcv
          rw [hA, hBn] at hen HM2 hrg1 hlk
          have hAB : A < Bn := by omega
          have hBN : Bn ≤ l.length := by omega
          clear hA hBn q0 q1 q2 i1 i2 z1 z2 hlk
          have ST1 : Hid (UrS w w4 w1 R k D (fun z_1 => left z_1 && !z_1.sameKey (spkL (A : Int) (Bn : Int))) cnt1) := hide ⟨hrg1, (ST.out).bel.grown hg1 (Nat.le_of_lt hrg.lt) (fun j hj => by cases hj; exact Nat.le_refl _)⟩
          have hlen : wr.rangeLeft w.heap.size R = cnt := hrg.left_eq
          have ST2 := hide ((ST1.out).alloc (.cells #[.int .i64 (A : Int), .int .i64 (Bn : Int)] 47))
          have hY : (w1.alloc (.cells #[.int .i64 (A : Int), .int .i64 (Bn : Int)] 47)).heap[wr.heap.size]? = some (.cells #[.int .i64 (A : Int), .int .i64 (Bn : Int)] 47 (0, 0)) := by
            have := heap_alloc_new w1 (.cells #[.int .i64 (A : Int), .int .i64 (Bn : Int)] 47)
            rwa [hs1] at this
          go_upto_region 12 with fail
          generalize w1.alloc (.cells #[.int .i64 (A : Int), .int .i64 (Bn : Int)] 47) = w5 at *
          have y0 : w5.cell? ⟨wr.heap.size, 0, none⟩ = some (.int .i64 (A : Int)) := by rw [Lib.cell_of_heap hY]; rfl
          have y1 : w5.cell? ⟨wr.heap.size, 1, none⟩ = some (.int .i64 (Bn : Int)) := by rw [Lib.cell_of_heap hY]; rfl
          have hylt : wr.heap.size < w5.heap.size := (Array.getElem?_eq_some_iff.1 hY).1
          have hbw : Below w.heap.size w w5 := (HB4.out).trans ((ST2.out).bel.mono (by rw [HRE.out]; exact (HB4.out).size))
          have HAF := hide ((HAI.out).below hbw)
          obtain ⟨ab, aoff, haa, hac⟩ := (HAF.out).at (show A < l.length by omega)
          subst haa
          have HAP : Hid (ArI w5 (some ⟨ab, aoff + (A + 1), none⟩) (Bn - A - 1) (fun i => f (A + 1 + i))) := hide (by
            rcases (HAF.out) with h | ⟨b', off', e, h1, h2⟩
            · omega
            · cases e
              exact .inr ⟨_, _, rfl, h1, fun i hi => by have := h2 (A + 1 + i) (by omega); rwa [← Nat.add_assoc] at this⟩)
          rw [show Bn - A - 1 = Bn - (A + 1) by omega] at HAP HM2
          have CL := hide (fun p ca' (hp : ArI w5 p (Bn - (A + 1)) (fun i => f (A + 1 + i))) => less26_any c p (Bn - (A + 1)) ca' (fun i => f (A + 1 + i)) w5 hp ⟨hc0.1, by omega⟩ (fun i hi => by have := (HF.out) (A + 1 + i) (by omega); omega) (by omega))
          obtain ⟨p0, p1⟩ := lsV_bd (n := c) (f := fun i => f (A + 1 + i)) hc0.1 (Bn - (A + 1)) (fun i hi => ((HF.out) (A + 1 + i) (by omega)).1)
          generalize hsp : lsV c (fun i => f (A + 1 + i)) (Bn - (A + 1)) = sp at *
          have hdl : ds.length ≤ 1000000 := by
            have e := (HPM.out).length_eq
            rw [List.length_map] at e
            have : (orL l l.length).length ≤ l.length := by unfold orL; exact Nat.le_trans (List.length_filter_le _ _) (by simp)
            omega
          have hgd : ∀ k, k < l.length → 0 ≤ (l.getD k noSz).base ∧ (l.getD k noSz).base ≤ 68719476736 ∧ 0 ≤ (l.getD k noSz).fr ∧ (l.getD k noSz).fr ≤ 1073741824 := fun k hk => by
            have h1 := (HSD.out) k hk
            have h2 := good_base h1.1
            have h3 := good_fr h1.1
            omega
          have hos5 := (HOS.out).below (by have := (ST2.out).bel; rwa [HRE.out] at this)
          have CR := hide (fun W (hb : Below w5.heap.size w5 W) => rest_any (.slice ao l.length cap) (.slice uo ds.length uc) l ds A Bn sp W ((HSL.out).below (hbw.trans (hb.mono hbw.size))) (hos5.below hb) hN hdl (by omega) hBN p0 (by omega) hgd)
          obtain ⟨l0, l1⟩ := rstV_left (l := l) (fun k hk => ⟨(hgd k hk).1, (hgd k hk).2.2.1, (hgd k hk).2.2.2⟩) (a := A) hBN p0 (ds.map (fun x => x.val))
          have CU := hide (fun W => unit26_any (rstV l A Bn sp (ds.map (fun x => x.val))) W l0 (by omega))
          generalize rstV l A Bn sp (ds.map (fun x => x.val)) = RS at *
          have hr5 := ((ST2.out).bel.block RB HRB.out).trans HROW.out
          have r0 : w5.cell? ⟨RB, 0, none⟩ = some (.slice ao l.length cap) := by rw [Lib.cell_of_heap hr5]; rfl
          have r1 : w5.cell? ⟨RB, 1, none⟩ = some (.slice uo ds.length uc) := by rw [Lib.cell_of_heap hr5]; rfl
          clear hac HAF hY hrg1 hg1 hs1 hen ST1 hrg hgd hos5 hr5 p0 p1 l0 l1 hdl hsp
          have hn1 : IntKind.i64.wrap ((A : Int) + 1) = (A : Int) + 1 := IntWalk.i64_in _ ⟨by omega, by omega⟩
          obtain ⟨ra, rb, rc⟩ := RS
          unfold rsC at CR CU
          simp only at CR CU
          by_cases hca : ca = A + 1
          all_goals (try subst hca)
          all_goals go_wp2_with fail
          all_goals
            refine Calls.mono ((CL.out) _ _ (by first | exact HAP.out | exact .inl (by omega))) ?_
            rintro e w6 ⟨rfl, hw6⟩
            subst w6
            go_wp2_with fail
            refine Calls.mono ((CR.out) _ (Below.refl _ _)) ?_
            rintro e w6 ⟨rfl, hb6⟩
            go_wp2_with fail
            refine Calls.mono ((CU.out) _) ?_
            rintro e w7 ⟨rfl, hb7⟩
            have ST7 := hide (((ST2.out).next hb6).next hb7)
            go_wp2_with fail
            go_roundw
            case rel => exact ⟨_, _, cnt1, rfl, ST7, HM2⟩
            case measure => rw [(ST7.out).rg.left_eq, hlen]; exact hlt

end Go.Proofs.Ytaonlpjfbajlcaa
