/- What stands in a leaf: Lines. -/
import Derived.Test.YtjmffhihfnmkiaaLea8
namespace Go.Proofs.Ytjmffhihfnmkiaa
open Go.RowKit

theorem lns_step (ws : List (List LenD)) (width : Int) (f i : Nat) (h : i < ws.length) : lns ws width (f + 1) i = oneL ws width i :: lns ws width f (oneL ws width i).b := if_pos h

theorem lns_end (ws : List (List LenD)) (width : Int) (f : Nat) : lns ws width (f + 1) ws.length = [] := if_neg (Nat.lt_irrefl _)

theorem own_slice14 {w : World} {base e size n : Nat} {v : Value} {xs : List Value} (h : w.ownsRow base e size v n xs) : ∃ ao cap, v = .slice ao n cap := by
  rcases h.2 with ⟨h1, h2⟩ | ⟨g, cap, cur, h1, _⟩
  · exact ⟨_, _, by rw [h2]; exact h1⟩
  · exact ⟨_, _, h1⟩

theorem LsS.start {w w2 W : World} {F B D : Nat} {v : Value} {ws : List (List LenD)} {width j : Int} (hli : LiS w2 F B D 0 v ws width) (hb : Below w.heap.size w w2) (hF : w.heap.size ≤ F) (hg : w2.grownBy W (some F)) (hf : OneI W F (.int .i64 j) 3) (p q r s : Int) : LsS w (W.alloc (.cells #[.int .i64 p, .int .i64 q, .int .i64 r, .int .i64 s] 40)) F B D W.heap.size j v width (.slice none 0 0) [] p q r s := by
  have ha := (Below.refl _ W).alloc (Nat.le_refl _) (.cells #[.int .i64 p, .int .i64 q, .int .i64 r, .int .i64 s] 40)
  have h1 := hli.b.grown hg (by simp; exact fun e => hli.fb e.symm)
  have h2 := hli.d.grown hg (by simp; exact fun e => hli.fd e.symm)
  have h3 := hf.lt
  have h4 := h1.lt
  have h5 := h2.lt
  have h6 : Below w.heap.size w W := hb.grown hg hb.size (fun q hq => by simp at hq; omega)
  exact ⟨hf.below ha hf.lt, h1.below ha h1.lt, h2.below ha h2.lt, LnAt.new _ _ _ _ _, World.ownsRow_nil _ _ _ _, (fun k hk => by simp [Value.ownBlock] at hk), ⟨hli.fb, hli.fd, by omega, by omega, by omega⟩, ⟨hF, h6.size⟩, h6.trans (ha.mono h6.size)⟩

/-- The line that the loop looks at, by its place. -/
def LsI (w W : World) (F B D L : Nat) (i : Nat) (v : Value) (ws : List (List LenD)) (width : Int) (u : Value) (acc : List LnD) : Prop :=
  (i < ws.length ∧ LsS w W F B D L ((oneL ws width i).b : Int) v width u acc (i : Int) ((oneL ws width i).b : Int) (oneL ws width i).w (oneL ws width i).h) ∨ (i = ws.length ∧ LsS w W F B D L (ws.length : Int) v width u acc 0 0 0 0)

set_option maxRecDepth 100000 in
set_option maxHeartbeats 16000000 in
theorem lines14_any (v : Value) (ws : List (List LenD)) (width : Int) (w : World) (h : WdsI w v ws) (hl : ws.length ≤ 600) (hr : ∀ l ∈ ws, l.length ≤ 600) :
    Calls Try.prog 14 #[v, .int .i64 width] w fun e w' => LnOut ws width w.heap.size e w' ∧ Below w.heap.size w w' := by
  have ct := total14_any v ws w h hl hr
  unfold totE at ct
  rcases eqk14 (errL ws) 0 with ⟨he, heb⟩ | ⟨he, heb⟩
  · rw [if_pos he, he] at ct
    obtain ⟨hok, _, _⟩ := errL_good he
    have hO : ∀ u W, W.ownsRow w.heap.size 40 4 u (lns ws width (ws.length + 1) 0).length (lnsC14 (lns ws width (ws.length + 1) 0)) → LnOut ws width w.heap.size (.returned (.tuple #[u, .int .i64 0])) W := fun u W ho => by
      refine ⟨u, by rw [he], ?_⟩
      have : linL ws width = lns ws width (ws.length + 1) 0 := if_pos he
      rw [this]
      exact ho
    have cli : ∀ W, WdsI W v ws → _ := fun W hW => liner_any v ws width W hW
    have cn1 : ∀ F B D i W, LiS W F B D i v ws width → i < ws.length → _ := fun F B D i W hW hi => nextOne_any F B D i v ws width W hW hok hi
    have cn2 : ∀ F B D W, LiS W F B D ws.length v ws width → _ := fun F B D W hW => nextEnd_any F B D v ws width W hW
    have hls := fun f i hi => lns_step ws width f i hi
    have hle := fun f => lns_end ws width f
    have his := fun i hi => oneL_is hok width i hi
    have hd1 := fun a b c d w hb => line_dec a b c d w hb
    have hd0 := fun w => line_dec0 w
    have hlen := hok.len
    obtain ⟨i0, hinf, hz0, hz1, hz2⟩ := info_parts lineI14
    obtain ⟨R, hR⟩ : ∃ R, R = lns ws width (ws.length + 1) 0 := ⟨_, rfl⟩
    rw [← hR] at hO
    have HX0 := hide h
    have HO := hide hO
    have CLI := hide cli
    have CN1 := hide cn1
    have CN2 := hide cn2
    have HLS := hide hls
    have HLE := hide hle
    have HIS := hide his
    have HR := hide hR
    have CT := hide ct
    have HD1 := hide hd1
    have HOK := hide hok
    obtain ⟨ao, cap, rfl⟩ := h.slice
    clear ct hO cli cn1 cn2 hls hle his hR h hr he heb hd1 hok hl
    obtain ⟨N, hN⟩ : ∃ N, N = ws.length := ⟨_, rfl⟩
    rw [← hN] at CT HX0 CLI CN1 CN2 HLS HLE HR hlen ⊢
    have HNL := hide hN
    clear hN
    go_enter Try.func14, Try.ntmps14
    go_wp2_with fail
    refine Calls.mono CT.out ?_
    rintro e w1 ⟨rfl, hb⟩
    have HB1 := hide hb
    clear hb CT
    go_wp2_with fail
    refine Calls.mono ((CLI.out) w1 ((HX0.out).below HB1.out)) ?_
    rintro e w2 ⟨rfl, hb2, hli, hsz⟩
    have hB2 := (HB1.out).trans (hb2.mono (HB1.out).size)
    have hs1 := (HB1.out).size
    generalize hF : w1.heap.size + 2 = F at *
    generalize hBn : w1.heap.size = B at *
    generalize hD : B + 1 = D at *
    have HLI := hide hli
    have HB2 := hide hB2
    have hFw : w.heap.size ≤ F := by omega
    clear hli hB2 hb2 HB1 CLI hF hBn hD hsz hs1
    go_upto_region 6 with fail
    go_cut [10] (fun lp wx => ∃ L : Nat, lp = .pointer (some ⟨L, 0, none⟩) ∧ Hid (LsI w wx F B D L 0 (.slice ao N cap) ws width (.slice none 0 0) []))
    case first =>
      by_cases h0 : 0 < N
      · have cn := (CN1.out) F B D 0 w2 HLI.out h0
        have his := (HIS.out) 0 (by rw [← HNL.out]; exact h0)
        have HQ : Hid (∀ W L, LsS w W F B D L ((oneL ws width 0).b : Int) (.slice ao N cap) width (.slice none 0 0) [] ((oneL ws width 0).a : Int) ((oneL ws width 0).b : Int) (oneL ws width 0).w (oneL ws width 0).h → LsI w W F B D L 0 (.slice ao N cap) ws width (.slice none 0 0) []) := hide (fun W L hS => .inl ⟨by rw [← HNL.out]; exact h0, by rw [his.a] at hS; exact hS⟩)
        unfold lnE at cn
        generalize oneL ws width 0 = x at *
        obtain ⟨xa, xb, xw, xh⟩ := x
        simp only at cn
        have C := hide cn
        clear cn his CN1 CN2 HIS HLS HLE HR HO h0
        go_wp2_with fail
        refine Calls.mono C.out ?_
        rintro e w3 ⟨rfl, hg, hf⟩
        have HS := hide ((HQ.out) _ _ (LsS.start HLI.out HB2.out hFw hg hf (xa : Int) (xb : Int) xw xh))
        clear hg hf C HLI HB2 HQ
        go_wp2_with fail
        go_meet
        case rel => exact ⟨_, rfl, HS⟩
      · have hN0 : N = 0 := by omega
        have hli := HLI.out
        have hli2 : LiS w2 F B D N (.slice ao N cap) ws width := by
          have hf := hli.f
          exact ⟨by rw [hN0]; exact hf, hli.b, hli.d, hli.x, hli.fb, hli.fd⟩
        have cn := (CN2.out) F B D w2 hli2
        have HQ : Hid (∀ W L, LsS w W F B D L 0 (.slice ao N cap) width (.slice none 0 0) [] 0 0 0 0 → LsI w W F B D L 0 (.slice ao N cap) ws width (.slice none 0 0) []) := hide (fun W L hS => .inr ⟨by rw [← HNL.out, hN0], by rw [← HNL.out, hN0]; rw [hN0] at hS; exact hS⟩)
        have C := hide cn
        clear cn hli hli2 CN1 CN2 HIS HLS HLE HR HO h0 hN0
        go_wp2_with fail
        refine Calls.mono C.out ?_
        rintro e w3 ⟨rfl, hb⟩
        have HS := hide ((HQ.out) _ _ (LsS.start HLI.out HB2.out hFw ⟨hb.os, hb.tape, hb.output, hb.size, fun k hk _ => hb.block k hk⟩ ((HLI.out).f.below hb (HLI.out).f.lt) 0 0 0 0))
        clear hb C HLI HB2 HQ
        go_wp2_with fail
        go_meet
        case rel => exact ⟨_, rfl, HS⟩
    case rest =>
      obtain ⟨L0, rfl, ST0⟩ := hcut
      clear HLI HB2
      go_wp2_with fail
      go_loopg [8, 10] (N + 1) (fun g u lp wx => ∃ (f i L : Nat) (acc : List LnD), lp = .pointer (some ⟨L, 0, none⟩) ∧ i ≤ N ∧ N ≤ i + f ∧ f < g ∧ acc.length ≤ i ∧ Hid (R = acc ++ lns ws width (f + 1) i) ∧ Hid (LsI w wx F B D L i (.slice ao N cap) ws width u acc))
      case atStart => exact ⟨N, 0, L0, [], rfl, by omega, by omega, by omega, by simp, hide (by rw [List.nil_append]; exact HR.out), ST0⟩
      case round =>
        clear HR ST0
        obtain ⟨f, i, L, acc, rfl, hi, hNf, hfg, hacc, HR, ST⟩ := hrel
        rcases ST.out with ⟨hiN, hS⟩ | ⟨hiN, hS⟩
        · rw [← HNL.out] at hiN
          obtain ⟨f, rfl⟩ : ∃ k, f = k + 1 := ⟨f - 1, by omega⟩
          have his := (HIS.out) i (by rw [← HNL.out]; exact hiN)
          have hR := HR.out
          rw [(HLS.out) (f + 1) i hiN] at hR
          have hbl := his.lt
          have hbe := his.le
          have hba := his.a
          rw [← HNL.out] at hbe
          obtain ⟨x, hx⟩ : ∃ x, x = oneL ws width i := ⟨_, rfl⟩
          rw [← hx] at hS hR hbl hbe hba
          have HR2 : Hid (R = (acc ++ [x]) ++ lns ws width (f + 1) x.b) := hide (by rw [hR, List.append_assoc]; rfl)
          obtain ⟨xa, xb, xw, xh⟩ := x
          simp only at hS HR2 hbl hbe hba
          subst hba
          obtain ⟨x0, x1, x2, x3⟩ := hS.l.c
          have hd1 := fun w' => (HD1.out) (xa : Int) (xb : Int) xw xh w' (by omega)
          have STB := hide hS
          have hown := hS.own
          obtain ⟨ua, uc, rfl⟩ : ∃ a c, u8 = .slice a acc.length c := own_slice14 hown
          clear hx his hR HR ST hS hown
          go_upto_region 9 with fail
          have hS9 := (STB.out).next ((Below.refl _ _).alloc (Nat.le_refl _) (.cells #[.int .i64 (xa : Int), .int .i64 (xb : Int), .int .i64 xw, .int .i64 xh] 40))
          have hbs := hS9.bel.size
          have HS9 := hide hS9
          clear hS9
          go_wp2_with (at_builtin; refine wpList_append_own_at _ rfl _ _ 32 rfl w.heap.size 40 i0 _ 4 32 Try.underlying32 hinf hz0 hz1 hz2 rfl (by decide) _ _ _ rfl (HS9.out).own ⟨wr.heap.size, 0, none⟩ 1 1 [.int .i64 (xa : Int), .int .i64 (xb : Int), .int .i64 xw, .int .i64 xh] rfl rfl (cell_four_new _ _ _ rfl _ _ _ _) (by simp [Value.oneCell']) (by unfold maxLen; omega) (by (try simp); omega) hbs ?_)
          intro v' w6 hown' hgrow _ hat
          have hS6 : LsS w w6 F B D L (xb : Int) (.slice ao N cap) width v' (acc ++ [⟨xa, xb, xw, xh⟩]) (xa : Int) (xb : Int) xw xh := (HS9.out).more hgrow (by rw [List.length_append, lnsC14_snoc]; exact hown') (by simpa using hat)
          have hS7 := hS6.copy
          obtain ⟨y0, y1, y2, y3⟩ := hS6.l.c
          have HS7 := hide hS7
          have H7s : w6.heap.size = w6.heap.size := rfl
          clear HS9 hown' hgrow hat hS6 hS7 hbs STB x0 x1 x2 x3 hd1 H7s
          go_upto_region 8 with fail
          generalize w6.alloc (.cells #[.int .i64 (xa : Int), .int .i64 (xb : Int), .int .i64 xw, .int .i64 xh] 40) = w7 at *
          generalize w6.heap.size = L7 at *
          obtain ⟨r0, r1, r2, r3⟩ := (HS7.out).l.c
          have rz := (HS7.out).l.z
          have hL7 := (HS7.out).l.lt
          rcases Nat.lt_or_ge xb N with hbN | hbN
          · have cn := (CN1.out) F B D xb w7 ((HS7.out).li HX0.out) hbN
            have his := (HIS.out) xb (by rw [← HNL.out]; exact hbN)
            have HQ : Hid (∀ W L, LsS w W F B D L ((oneL ws width xb).b : Int) (.slice ao N cap) width v' (acc ++ [⟨xa, xb, xw, xh⟩]) ((oneL ws width xb).a : Int) ((oneL ws width xb).b : Int) (oneL ws width xb).w (oneL ws width xb).h → LsI w W F B D L xb (.slice ao N cap) ws width v' (acc ++ [⟨xa, xb, xw, xh⟩])) := hide (fun W L hS => .inl ⟨by rw [← HNL.out]; exact hbN, by rw [his.a] at hS; exact hS⟩)
            unfold lnE at cn
            generalize oneL ws width xb = x at *
            obtain ⟨za, zb, zw, zh⟩ := x
            simp only at cn HQ
            have C := hide cn
            clear cn his
            go_wp2_with fail
            refine Calls.mono C.out ?_
            rintro e w8 ⟨rfl, hg, hf⟩
            have hS8 := (HS7.out).call hg hf
            obtain ⟨q0, q1, q2, q3⟩ := hS8.l.c
            have qz := hS8.l.z
            have HS8 := hide ((HQ.out) _ _ (hS8.put (za : Int) (zb : Int) zw zh))
            clear hg hf C HS7 HQ hS8 r0 r1 r2 r3 rz
            go_wp2_with fail
            cases gk with
            | zero => omega
            | succ g =>
              go_roundg g
              case measure => omega
              case rel => exact ⟨f, xb, L7, acc ++ [⟨xa, xb, xw, xh⟩], rfl, hbe, by omega, by omega, by simp; omega, HR2, HS8⟩
          · have hbN2 : xb = N := by omega
            have hli := (HS7.out).li HX0.out
            rw [hbN2] at hli
            have cn := (CN2.out) F B D w7 hli
            have HQ : Hid (∀ W L, LsS w W F B D L (xb : Int) (.slice ao N cap) width v' (acc ++ [⟨xa, xb, xw, xh⟩]) 0 0 0 0 → LsI w W F B D L xb (.slice ao N cap) ws width v' (acc ++ [⟨xa, xb, xw, xh⟩])) := hide (fun W L hS => .inr ⟨by rw [← HNL.out]; exact hbN2, by rw [← HNL.out, ← hbN2]; exact hbN2 ▸ hS⟩)
            have C := hide cn
            clear cn hli
            go_wp2_with fail
            refine Calls.mono C.out ?_
            rintro e w8 ⟨rfl, hb⟩
            have hS8 := (HS7.out).next hb
            obtain ⟨q0, q1, q2, q3⟩ := hS8.l.c
            have qz := hS8.l.z
            have HS8 := hide ((HQ.out) _ _ (hS8.put 0 0 0 0))
            clear hb C HS7 HQ hS8 r0 r1 r2 r3 rz hbN2
            go_wp2_with fail
            cases gk with
            | zero => omega
            | succ g =>
              go_roundg g
              case measure => omega
              case rel => exact ⟨f, xb, L7, acc ++ [⟨xa, xb, xw, xh⟩], rfl, hbe, by omega, by omega, by simp; omega, HR2, HS8⟩
        · obtain ⟨x0, x1, x2, x3⟩ := hS.l.c
          have hR := HR.out
          rw [hiN, ← HNL.out, (HLE.out) f, List.append_nil] at hR
          have HOUT : Hid (LnOut ws width w.heap.size (.returned (.tuple #[u8, .int .i64 0])) wr) := hide ((HO.out) u8 wr (by rw [hR]; exact hS.own))
          have HBEL := hide hS.bel
          clear hR HR ST hS hiN
          go_wp2_with fail
          go_ret2
          exact ⟨HOUT.out, HBEL.out⟩
  · rw [if_neg he] at ct
    have HO : Hid (∀ W, LnOut ws width w.heap.size (.returned (.tuple #[.slice none 0 0, .int .i64 (errL ws)])) W) := hide (fun W => ⟨_, rfl, by
      have : linL ws width = [] := if_neg he
      rw [this]
      exact World.ownsRow_nil _ _ _ _⟩)
    obtain ⟨ao, cap, rfl⟩ := h.slice
    have hnb : (errL ws != 0) = true := by simp [he]
    generalize errL ws = E at *
    generalize ws.length = N at *
    have CT := hide ct
    clear ct h hr he
    go_enter Try.func14, Try.ntmps14
    go_wp2_with fail
    refine Calls.mono CT.out ?_
    rintro e w1 ⟨rfl, hb⟩
    have HB := hide hb
    clear hb CT
    go_wp2_with fail
    go_ret2
    exact ⟨(HO.out) _, HB.out⟩

end Go.Proofs.Ytjmffhihfnmkiaa
