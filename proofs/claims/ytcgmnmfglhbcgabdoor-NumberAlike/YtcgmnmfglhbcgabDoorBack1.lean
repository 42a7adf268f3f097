/- A text put together of its parts: what it begins with, its digits, its value; and texts that come back. -/
import Derived.Test.YtcgmnmfglhbcgabDoorRef6
namespace Go.Proofs.YtcgmnmfglhbcgabDoor
open Go.RowKit

theorem pgo_bd' {D : ByteArray} {sc : Int} (h : AllD D) (h0 : 1 ≤ sc) (h1 : sc ≤ 1000) : 0 ≤ (pgo D sc D.size).1 ∧ (pgo D sc D.size).1 ≤ 999 := by
  have b := sgo_bd (d := revD D) (revD_bd h) h0 h1 D.size
  rw [sgo_pgo D sc D.size (Nat.le_refl _)] at b
  exact b
/-- Does the first byte keep to p? -/
def hd (p : UInt8 → Bool) : List UInt8 → Bool
  | [] => false
  | c :: _ => p c
def pmB (c : UInt8) : Bool := c == 43 || c == 45
def eB (c : UInt8) : Bool := c == 101 || c == 69
/-- Digits all. -/
def DD (l : List UInt8) : Prop := ∀ c ∈ l, dg c = true
theorem hasAt_hd (g s : ByteArray) (k : Nat) : hasAt g s k = hd (fun c => decide (0 ≤ Lib.indexByte g.data.toList c)) (s.data.toList.drop k) := by
  unfold hasAt
  by_cases h : k < s.size
  · rw [drop_cons s k h, byte_at s k h]; simp [hd, h]
  · rw [List.drop_eq_nil_of_le (by rw [size_data]; omega)]; simp [hd, h]
theorem has_pm (s : ByteArray) (k : Nat) : hasAt PM s k = hd pmB (s.data.toList.drop k) := by
  rw [hasAt_hd, show PM.data.toList = [43, 45] from rfl, show (fun c => decide (0 ≤ Lib.indexByte [43, 45] c)) = pmB from funext fun c => idx_two 43 45 c]
theorem has_ee (s : ByteArray) (k : Nat) : hasAt EE s k = hd eB (s.data.toList.drop k) := by
  rw [hasAt_hd, show EE.data.toList = [101, 69] from rfl, show (fun c => decide (0 ≤ Lib.indexByte [101, 69] c)) = eB from funext fun c => idx_two 101 69 c]
theorem has_dot (s : ByteArray) (k : Nat) : hasAt DOT s k = hd (· == 46) (s.data.toList.drop k) := by
  rw [hasAt_hd, show DOT.data.toList = [46] from rfl, show (fun c => decide (0 ≤ Lib.indexByte [46] c)) = (· == 46) from funext fun c => idx_one 46 c]
theorem neg_hd (s : ByteArray) (k : Nat) : negAt s k = hd (· == 45) (s.data.toList.drop k) := by
  unfold negAt
  rw [has_pm]
  by_cases h : k < s.size
  · rw [drop_cons s k h, byte_at s k h]
    show (pmB s[k] && s[k] == 45) = (s[k] == 45)
    unfold pmB
    cases s[k] == 45 <;> simp
  · rw [List.drop_eq_nil_of_le (by rw [size_data]; omega)]; simp [hd]
theorem tw_part : ∀ {l r : List UInt8}, DD l → hd dg r = false → (l ++ r).takeWhile dg = l
  | [], [], _, _ => rfl
  | [], c :: r, _, h => by simp [hd] at h; simp [h]
  | c :: l, r, h, hr => by
    rw [List.cons_append, List.takeWhile_cons_of_pos (h c (by simp)), tw_part (fun d hd' => h d (by simp [hd'])) hr]
theorem dg_pm {c : UInt8} (h : dg c = true) : pmB c = false := by
  have := dg_true h
  unfold pmB
  have e1 : ¬ c = 43 := fun e => by subst e; simp at this
  have e2 : ¬ c = 45 := fun e => by subst e; simp at this
  simp [e1, e2]
theorem dg_e {c : UInt8} (h : dg c = true) : eB c = false := by
  have := dg_true h
  unfold eB
  have e1 : ¬ c = 101 := fun e => by subst e; simp at this
  have e2 : ¬ c = 69 := fun e => by subst e; simp at this
  simp [e1, e2]
theorem e_or {c : UInt8} (h : eB c = true) : c = 101 ∨ c = 69 := by unfold eB at h; simpa using h
/-- A sign, or none. -/
def Sg (l : List UInt8) : Prop := l = [] ∨ l = [43] ∨ l = [45]
theorem sg_len {l r : List UInt8} (h : Sg l) (hr : hd pmB r = false) : (hd pmB (l ++ r)).toNat = l.length := by
  rcases h with rfl | rfl | rfl
  · rw [List.nil_append, hr]; rfl
  · rfl
  · rfl
theorem sg_neg {l r : List UInt8} (h : Sg l) (hr : hd pmB r = false) : hd (· == 45) (l ++ r) = decide (l = [45]) := by
  rcases h with rfl | rfl | rfl
  · cases r with
    | nil => rfl
    | cons c r => 
      have h2 : (c == 45) = false := by simp [hd, pmB] at hr; simp [hr]
      show (c == 45) = _
      rw [h2]; rfl
  · rfl
  · rfl

/-- A number's text, of its parts. -/
structure Shape (s : ByteArray) (sg W fr F ex sg2 X : List UInt8) : Prop where
  eq : s.data.toList = sg ++ (W ++ (fr ++ ex))
  sgn : Sg sg
  dw : DD W
  df : DD F
  dx : DD X
  fr : (fr = [] ∧ F = []) ∨ (fr = 46 :: F ∧ F ≠ [])
  ex : (ex = [] ∧ X = [] ∧ sg2 = []) ∨ (∃ c, eB c = true ∧ ex = c :: (sg2 ++ X) ∧ X ≠ [] ∧ Sg sg2)
  some : W ≠ [] ∨ F ≠ []

section
variable {s : ByteArray} {sg W fr F ex sg2 X : List UInt8} (a : Shape s sg W fr F ex sg2 X)
include a
theorem Shape.hx (p : UInt8 → Bool) (h : ∀ c, eB c = true → p c = false) : hd p ex = false := by
  rcases a.ex with ⟨rfl, _⟩ | ⟨c, hc, rfl, _⟩
  · rfl
  · exact h c hc
theorem Shape.hfx (p : UInt8 → Bool) (h : ∀ c, eB c = true → p c = false) (hp : p 46 = false) : hd p (fr ++ ex) = false := by
  rcases a.fr with ⟨rfl, _⟩ | ⟨rfl, _⟩
  · rw [List.nil_append]; exact a.hx p h
  · exact hp
theorem Shape.ew : hd dg (fr ++ ex) = false := a.hfx dg (fun c h => by rcases e_or h with rfl | rfl <;> decide) (by decide)
theorem Shape.pw : hd pmB (W ++ (fr ++ ex)) = false := by
  cases hW : W with
  | nil => rw [List.nil_append]; exact a.hfx pmB (fun c h => by rcases e_or h with rfl | rfl <;> decide) (by decide)
  | cons c W' => exact dg_pm (a.dw c (by rw [hW]; simp))
theorem Shape.k0 : (hasAt PM s 0).toNat = sg.length := by
  rw [has_pm, List.drop_zero, a.eq]; exact sg_len a.sgn a.pw
theorem Shape.neg : negAt s 0 = decide (sg = [45]) := by
  rw [neg_hd, List.drop_zero, a.eq]; exact sg_neg a.sgn a.pw
theorem Shape.d1 : s.data.toList.drop sg.length = W ++ (fr ++ ex) := by rw [a.eq]; exact List.drop_left' rfl
theorem Shape.run1 : (s.data.toList.drop sg.length).takeWhile dg = W := by rw [a.d1]; exact tw_part a.dw a.ew
theorem Shape.one : aOne s = sg.length + W.length := by unfold aOne run; rw [a.k0, a.run1]
theorem Shape.d2 : s.data.toList.drop (sg.length + W.length) = fr ++ ex := by rw [← List.drop_drop, a.d1]; exact List.drop_left' rfl
theorem Shape.dot : hasAt DOT s (aOne s) = !fr.isEmpty := by
  rw [a.one, has_dot, a.d2]
  rcases a.fr with ⟨rfl, _⟩ | ⟨rfl, _⟩
  · rw [List.nil_append]; exact a.hx (· == 46) (fun c h => by rcases e_or h with rfl | rfl <;> decide)
  · rfl
theorem Shape.run2 (h : fr = 46 :: F) : (s.data.toList.drop (aOne s + 1)).takeWhile dg = F := by
  have e : s.data.toList.drop (sg.length + W.length + 1) = F ++ ex := by rw [← List.drop_drop, a.d2, h]; rfl
  rw [a.one, e]
  exact tw_part a.df (a.hx dg (fun c h => by rcases e_or h with rfl | rfl <;> decide))
theorem Shape.fn : fracN s = F.length := by
  unfold fracN run
  rw [a.dot]
  rcases a.fr with ⟨h, h2⟩ | ⟨h, _⟩
  · rw [h, h2]; rfl
  · rw [a.run2 h, h]; rfl
theorem Shape.fv : (fracV s).data.toList = F := by
  unfold fracV
  rw [a.dot]
  rcases a.fr with ⟨h, h2⟩ | ⟨h, _⟩
  · rw [h, h2]; rfl
  · rw [if_pos (by rw [h]; rfl), ext_run, a.run2 h]
theorem Shape.wv : (wholeV s).data.toList = W := by
  unfold wholeV aOne
  rw [ext_run, a.k0, a.run1]
theorem Shape.dv : (digV s).data.toList = W ++ F := by
  unfold digV
  rw [ByteArray.data_append, Array.toList_append, a.wv, a.fv]
theorem Shape.none : noneB s = false := by
  unfold noneB run
  rw [a.k0, a.run1, a.fn]
  rcases a.some with h | h
  · have := List.length_pos_iff.2 h
    have e : (W.length == 0) = false := by rw [beq_eq_false_iff_ne]; omega
    rw [e]; rfl
  · have := List.length_pos_iff.2 h
    have e : (F.length == 0) = false := by rw [beq_eq_false_iff_ne]; omega
    rw [e, Bool.and_false]
theorem Shape.three : aThree s = sg.length + W.length + fr.length := by
  unfold aThree aTwo run
  rw [a.fn, a.dot]
  rcases a.fr with ⟨h, h2⟩ | ⟨h, h3⟩
  · rw [if_pos (by rw [h2]; rfl), a.one, h]; rfl
  · have := List.length_pos_iff.2 h3
    rw [if_neg (by omega), if_pos (by rw [h]; rfl), a.run2 h, a.one, h]
    simp; omega
theorem Shape.d3 : s.data.toList.drop (aThree s) = ex := by
  rw [a.three, ← List.drop_drop, a.d2]; exact List.drop_left' rfl
theorem Shape.ee : hasAt EE s (aThree s) = !ex.isEmpty := by
  rw [has_ee, a.d3]
  rcases a.ex with ⟨h, _⟩ | ⟨c, hc, h, _⟩
  · rw [h]; rfl
  · rw [h]; exact hc
theorem Shape.px : hd pmB X = false := by
  cases hX : X with
  | nil => rfl
  | cons c _ => exact dg_pm (a.dx c (by rw [hX]; simp))
theorem Shape.four {c : UInt8} (h : ex = c :: (sg2 ++ X)) (h2 : Sg sg2) : aFour s = aThree s + 1 + sg2.length ∧ negAt s (aThree s + 1) = decide (sg2 = [45]) ∧ (s.data.toList.drop (aFour s)).takeWhile dg = X := by
  have e : s.data.toList.drop (aThree s + 1) = sg2 ++ X := by rw [← List.drop_drop, a.d3, h]; rfl
  have e1 : aFour s = aThree s + 1 + sg2.length := by
    unfold aFour
    rw [has_pm, e, sg_len h2 a.px]
  refine ⟨e1, ?_, ?_⟩
  · rw [neg_hd, e]; exact sg_neg h2 a.px
  · rw [e1, ← List.drop_drop, e, List.drop_left' rfl]
    have := tw_part (r := []) a.dx rfl
    rwa [List.append_nil] at this
theorem Shape.down : downV s = decide (sg2 = [45]) := by
  unfold downV
  rw [a.ee]
  rcases a.ex with ⟨h, _, h2⟩ | ⟨c, hc, h, _, h2⟩
  · rw [h, h2]; rfl
  · rw [(a.four h h2).2.1, h]; simp
theorem Shape.xv : (expV s).data.toList = X := by
  unfold expV
  rw [a.ee]
  rcases a.ex with ⟨h, h2, _⟩ | ⟨c, hc, h, _, h2⟩
  · rw [h, h2]; rfl
  · rw [if_pos (by rw [h]; rfl), ext_run, (a.four h h2).2.2]
theorem Shape.size : s.size = sg.length + (W.length + (fr.length + ex.length)) := by
  rw [← size_data, a.eq]; simp
theorem Shape.scan : scanV s = s.size ∧ 0 < s.size := by
  have hs := a.size
  have he := a.ee
  unfold scanV lenV'
  rw [a.none, if_neg (by simp)]
  rcases a.ex with ⟨h, h2, _⟩ | ⟨c, hc, h, hx, h2⟩
  · have e0 : expN s = 0 := by unfold expN; rw [he, h]; rfl
    rw [if_pos e0, hs, a.three, h]
    have : 0 < W.length ∨ 0 < F.length := by
      rcases a.some with h | h
      · left; exact List.length_pos_iff.2 h
      · right; exact List.length_pos_iff.2 h
    have hf : F.length ≤ fr.length := by
      rcases a.fr with ⟨h, h2⟩ | ⟨h, _⟩
      · rw [h2]; exact Nat.zero_le _
      · rw [h]; simp
    simp; omega
  · have hl := List.length_pos_iff.2 hx
    have e : run s (aFour s) = X.length := by unfold run; rw [(a.four h h2).2.2]
    have e0 : expN s = X.length := by unfold expN; rw [he, h, if_pos (by rfl), e]
    rw [e0, if_neg (by omega), (a.four h h2).1, hs, a.three, h]
    simp; omega
end
/-- The number of digits, the first the greatest. -/
def nv : List UInt8 → Int
  | [] => 0
  | c :: l => ((c.toNat : Int) - 48) * 10 ^ l.length + nv l
theorem nv_app : ∀ a b : List UInt8, nv (a ++ b) = nv a * 10 ^ b.length + nv b
  | [], b => by simp [nv]
  | c :: a, b => by
    rw [List.cons_append]
    show _ * 10 ^ (a ++ b).length + nv (a ++ b) = (_ * 10 ^ a.length + nv a) * 10 ^ b.length + nv b
    rw [nv_app a b, List.length_append, Int.pow_add, Int.add_mul, Int.mul_assoc, Int.add_assoc]
theorem nv_zeros : ∀ m, nv (List.replicate m 48) = 0
  | 0 => rfl
  | m + 1 => by
    rw [List.replicate_succ]
    show (((48 : UInt8).toNat : Int) - 48) * _ + nv (List.replicate m 48) = 0
    rw [nv_zeros m]; simp
theorem dig_nat {k : Nat} (h : k < 10) : (UInt8.ofNat (48 + k)).toNat = 48 + k := by simp; omega
theorem dg_ofNat {k : Nat} (h : k < 10) : dg (UInt8.ofNat (48 + k)) = true := by
  unfold dg; rw [dig_nat h]; simp; omega
theorem dec_all (n : Nat) : DD (Lib.decDigits n) ∧ nv (Lib.decDigits n) = (n : Int) := by
  induction n using Nat.strongRecOn with
  | _ n ih =>
    rcases Nat.lt_or_ge n 10 with h | h
    · rw [dec_small h]
      refine ⟨fun c hc => ?_, ?_⟩
      · rw [List.mem_singleton.1 hc]; exact dg_ofNat h
      · show ((((UInt8.ofNat (48 + n)).toNat : Nat) : Int) - 48) * 10 ^ 0 + 0 = n
        rw [dig_nat h]; omega
    · obtain ⟨a, b⟩ := ih (n / 10) (by omega)
      rw [dec_big h]
      have h2 : n % 10 < 10 := Nat.mod_lt _ (by omega)
      refine ⟨fun c hc => ?_, ?_⟩
      · rcases List.mem_append.1 hc with e | e
        · exact a c e
        · rw [List.mem_singleton.1 e]; exact dg_ofNat h2
      · rw [nv_app, b]
        show ((n / 10 : Nat) : Int) * 10 ^ 1 + (((((UInt8.ofNat (48 + n % 10)).toNat : Nat) : Int) - 48) * 10 ^ 0 + 0) = n
        rw [dig_nat h2]; omega
theorem dd_app {a b : List UInt8} (h : DD a) (k : DD b) : DD (a ++ b) := fun c hc => (List.mem_append.1 hc).elim (h c) (k c)
theorem dd_zeros (m : Nat) : DD (List.replicate m 48) := fun c hc => by rw [List.eq_of_mem_replicate hc]; decide
theorem dd_nil : DD [] := fun _ h => by cases h

/-- The number of a list's digits. -/
def val : List Int → Int
  | [] => 0
  | x :: l => x * 10 ^ l.length + val l
/-- What the last j of them come to. -/
theorem pgo_val (D : ByteArray) (sc : Int) : ∀ j, j ≤ D.size → (pgo D sc j).1 * 10 ^ j + val (pgo D sc j).2 = nv (D.data.toList.drop (D.size - j)) * sc
  | 0, _ => by rw [List.drop_eq_nil_of_le (by rw [size_data]; omega)]; simp [pgo, val, nv]
  | j + 1, h => by
    have ih := pgo_val D sc j (by omega)
    have hlt : D.size - (j + 1) < D.size := by omega
    have e : ext D sc (D.size + 3 - (j + 1)) = dAt D (D.size - (j + 1)) * sc := by
      unfold ext; rw [if_neg (by omega)]; congr 2; omega
    have hd2 : nv (D.data.toList.drop (D.size - (j + 1))) = dAt D (D.size - (j + 1)) * 10 ^ j + nv (D.data.toList.drop (D.size - j)) := by
      rw [drop_cons D _ hlt, show D.size - (j + 1) + 1 = D.size - j by omega]
      show ((D[D.size - (j + 1)].toNat : Int) - 48) * 10 ^ (D.data.toList.drop (D.size - j)).length + _ = _
      rw [List.length_drop, size_data, show D.size - (D.size - j) = j by omega]
      unfold dAt
      rw [byte_at D _ hlt]
    have hl := pgo_len D sc j
    show (pstep (ext D sc (D.size + 3 - (j + 1))) (pgo D sc j)).1 * 10 ^ (j + 1) + val (pstep (ext D sc (D.size + 3 - (j + 1))) (pgo D sc j)).2 = _
    rw [e, hd2, Int.add_mul, ← ih]
    unfold pstep
    show ((pgo D sc j).1 + dAt D (D.size - (j + 1)) * sc) / 10 * 10 ^ (j + 1) + (((pgo D sc j).1 + dAt D (D.size - (j + 1)) * sc) % 10 * 10 ^ (pgo D sc j).2.length + val (pgo D sc j).2) = _
    rw [hl, Int.pow_succ]
    generalize (pgo D sc j).1 = c
    generalize dAt D (D.size - (j + 1)) = d
    generalize val (pgo D sc j).2 = v
    generalize (10 : Int) ^ j = t
    have hx := Int.emod_add_mul_ediv (c + d * sc) 10
    generalize hq : (c + d * sc) / 10 = q at hx ⊢
    generalize hr : (c + d * sc) % 10 = r at hx ⊢
    have hr2 : r = c + d * sc - 10 * q := by omega
    rw [hr2]
    simp only [Int.sub_mul, Int.add_mul]
    have e1 : q * (t * 10) = 10 * q * t := by
      rw [Int.mul_comm t 10, ← Int.mul_assoc, Int.mul_comm q 10]
    have e2 : d * sc * t = d * t * sc := by rw [Int.mul_assoc, Int.mul_comm sc t, ← Int.mul_assoc]
    rw [e1, e2]
    omega
theorem val_app : ∀ a b : List Int, val (a ++ b) = val a * 10 ^ b.length + val b
  | [], b => by simp [val]
  | c :: a, b => by
    rw [List.cons_append]
    show _ * 10 ^ (a ++ b).length + val (a ++ b) = (_ * 10 ^ a.length + val a) * 10 ^ b.length + val b
    rw [val_app a b, List.length_append, Int.pow_add, Int.add_mul, Int.mul_assoc, Int.add_assoc]
theorem prod_val {D : ByteArray} {sc : Int} (h : AllD D) (h0 : 1 ≤ sc) (h1 : sc ≤ 1000) : val (prodV D sc) = nv D.data.toList * sc := by
  have a := pgo_val D sc D.size (Nat.le_refl _)
  have b := pgo_bd' h h0 h1
  rw [Nat.sub_self, List.drop_zero] at a
  rw [prod_split, val_app, ← a, pgo_len]
  generalize (pgo D sc D.size).1 = c at *
  have e : val [c / 10 / 10 % 10, c / 10 % 10, c % 10] = c := by
    show (c / 10 / 10 % 10) * 10 ^ 2 + ((c / 10 % 10) * 10 ^ 1 + ((c % 10) * 10 ^ 0 + 0)) = c
    omega
  rw [e]
/-- The list parted at a place. -/
theorem val_at {L : List Int} : ∀ k, k ≤ L.length → val L = pre L k * 10 ^ (L.length - k) + val (L.drop k)
  | 0, _ => by simp [pre]
  | k + 1, h => by
    have ih := val_at (L := L) k (by omega)
    have hk : k < L.length := by omega
    rw [ih, List.drop_eq_getElem_cons hk]
    show pre L k * 10 ^ (L.length - k) + (L[k] * 10 ^ (L.drop (k + 1)).length + val (L.drop (k + 1))) = (pre L k * 10 + ldig L k) * 10 ^ (L.length - (k + 1)) + val (L.drop (k + 1))
    have e : ldig L (k : Int) = L[k] := by
      unfold ldig; rw [if_neg (by omega), List.getD, show ((k : Int)).toNat = k by omega, List.getElem?_eq_getElem hk]; rfl
    rw [e, List.length_drop, show L.length - k = (L.length - (k + 1)) + 1 by omega, Int.pow_succ, Int.add_mul]
    generalize (10 : Int) ^ (L.length - (k + 1)) = t
    have : pre L k * (t * 10) = pre L k * 10 * t := by rw [Int.mul_comm t 10, Int.mul_assoc]
    omega
theorem pow_pos' (j : Nat) : (0 : Int) < 10 ^ j := Int.pow_pos (by decide)
theorem val_bd : ∀ {L : List Int}, (∀ x ∈ L, 0 ≤ x ∧ x ≤ 9) → 0 ≤ val L ∧ val L < 10 ^ L.length
  | [], _ => by simp [val]
  | x :: l, h => by
    have ih := val_bd (L := l) fun y hy => h y (by simp [hy])
    have hx := h x (by simp)
    show 0 ≤ x * 10 ^ l.length + val l ∧ x * 10 ^ l.length + val l < 10 ^ (l.length + 1)
    rw [Int.pow_succ]
    have := pow_pos' l.length
    generalize (10 : Int) ^ l.length = t at *
    have a : 0 ≤ x * t := Int.mul_nonneg hx.1 (by omega)
    have b : x * t ≤ 9 * t := Int.mul_le_mul_of_nonneg_right hx.2 (by omega)
    omega
theorem LD_mem {L : List Int} (h : LD L) : ∀ x ∈ L, 0 ≤ x ∧ x ≤ 9 := fun x hx => by
  obtain ⟨i, hi, rfl⟩ := List.getElem_of_mem hx
  have := h (i : Int)
  unfold ldig at this
  rw [if_neg (by omega), List.getD, show ((i : Int)).toNat = i by omega, List.getElem?_eq_getElem hi] at this
  exact this
theorem res_exact {L : List Int} (h : LD L) {x : Int} {j : Nat} (hj : j ≤ L.length) (hv : val L = x * 10 ^ j) (h1 : x ≤ 68719476736) : resV L ((L.length : Int) - (j : Int)) = x := by
  have a := val_at (L := L) (L.length - j) (by omega)
  have hd : ∀ y ∈ L.drop (L.length - j), 0 ≤ y ∧ y ≤ 9 := fun y hy => LD_mem h y (List.mem_of_mem_drop hy)
  have b := val_bd hd
  rw [List.length_drop, show L.length - (L.length - j) = j by omega] at b
  rw [hv, show L.length - (L.length - j) = j by omega] at a
  have ht := pow_pos' j
  have hp : pre L (L.length - j) = x ∧ val (L.drop (L.length - j)) = 0 := by
    generalize val (L.drop (L.length - j)) = r at *
    generalize pre L (L.length - j) = p at *
    generalize (10 : Int) ^ j = t at *
    have e : (x - p) * t = r := by rw [Int.sub_mul]; omega
    have e3 : x - p = 0 := by
      rcases Int.lt_trichotomy (x - p) 0 with g | g | g
      · exfalso
        have := Int.mul_le_mul_of_nonneg_right (show x - p ≤ -1 by omega) (show 0 ≤ t by omega)
        omega
      · exact g
      · exfalso
        have := Int.mul_le_mul_of_nonneg_right (show 1 ≤ x - p by omega) (show 0 ≤ t by omega)
        omega
    rw [e3, Int.zero_mul] at e
    exact ⟨by omega, e.symm⟩
  have hn : (((L.length : Int) - (j : Int))).toNat = L.length - j := by omega
  have hi : inc L ((L.length : Int) - (j : Int)) = 0 := by
    unfold inc
    rw [if_neg]
    by_cases hj0 : j = 0
    · rw [ldig_out (by right; omega)]; decide
    · have hk : L.length - j < L.length := by omega
      have hz := hp.2
      rw [List.drop_eq_getElem_cons hk] at hz
      have hy := LD_mem h L[L.length - j] (List.getElem_mem hk)
      have b2 := val_bd (L := L.drop (L.length - j + 1)) fun y hy => LD_mem h y (List.mem_of_mem_drop hy)
      have hz2 : L[L.length - j] * 10 ^ (L.drop (L.length - j + 1)).length + val (L.drop (L.length - j + 1)) = 0 := hz
      have e : ldig L ((L.length : Int) - (j : Int)) = L[L.length - j] := by
        unfold ldig; rw [if_neg (by omega), List.getD, hn, List.getElem?_eq_getElem hk]; rfl
      rw [e]
      have ht2 := pow_pos' (L.drop (L.length - j + 1)).length
      generalize (10 : Int) ^ (L.drop (L.length - j + 1)).length = t at *
      intro h5
      have := Int.mul_le_mul_of_nonneg_right h5 (show 0 ≤ t by omega)
      omega
  unfold resV
  rw [hn, hp.1, hi, if_neg (by omega), Int.add_zero]
theorem pow_go (X : ByteArray) (hX : DD X.data.toList) (hn : nv X.data.toList < 1000) : powGo X X.size = nv X.data.toList := by
  have bd : ∀ l : List UInt8, DD l → 0 ≤ nv l := fun l => by
    induction l with
    | nil => intro _; exact Int.le_refl 0
    | cons c l ih =>
      intro h
      have := dg_true (h c (by simp))
      have := ih fun d hd => h d (by simp [hd])
      have := Int.mul_nonneg (show 0 ≤ (c.toNat : Int) - 48 by omega) (Int.le_of_lt (pow_pos' l.length))
      show 0 ≤ ((c.toNat : Int) - 48) * 10 ^ l.length + nv l
      omega
  have key : ∀ k, k ≤ X.size → powGo X k = nv (X.data.toList.take k) := fun k => by
    induction k with
    | zero => intro _; simp [powGo, nv]
    | succ k ih =>
      intro hk
      have hlt : k < X.data.toList.length := by rw [size_data]; omega
      have e : X.data.toList.take (k + 1) = X.data.toList.take k ++ [X.data.toList[k]] := List.take_succ_eq_append_getElem hlt
      have e2 : nv (X.data.toList.take (k + 1)) = nv (X.data.toList.take k) * 10 + dAt X k := by
        rw [e, nv_app]
        show _ * 10 ^ 1 + (((X.data.toList[k].toNat : Int) - 48) * 10 ^ 0 + 0) = _
        unfold dAt
        rw [List.getD, List.getElem?_eq_getElem hlt]
        simp
      have hall : nv X.data.toList = nv (X.data.toList.take (k + 1)) * 10 ^ (X.data.toList.drop (k + 1)).length + nv (X.data.toList.drop (k + 1)) := by
        rw [← nv_app, List.take_append_drop]
      have b1 := bd (X.data.toList.take (k + 1)) fun c hc => hX c (List.mem_of_mem_take hc)
      have b2 := bd (X.data.toList.drop (k + 1)) fun c hc => hX c (List.mem_of_mem_drop hc)
      have ht := pow_pos' (X.data.toList.drop (k + 1)).length
      have hlt2 : nv (X.data.toList.take (k + 1)) < 1000 := by
        generalize (10 : Int) ^ (X.data.toList.drop (k + 1)).length = t at *
        have := Int.mul_le_mul_of_nonneg_left (show 1 ≤ t by omega) b1
        omega
      show (if powGo X k * 10 + dAt X k < 1000 then powGo X k * 10 + dAt X k else 1000) = _
      rw [ih (by omega), ← e2, if_pos hlt2]
  rw [key X.size (Nat.le_refl _), List.take_of_length_le (by rw [size_data]; omega)]

/-- The value of a text of that shape, where it comes out even. -/
theorem Shape.value {s : ByteArray} {sg W fr F ex sg2 X : List UInt8} (a : Shape s sg W fr F ex sg2 X) {sc x : Int} {j : Nat} (hsc : isSc sc = true) (hs : s.size ≤ 300)
    (hX : nv X < 1000) (hj : (F.length : Int) - (if sg2 = [45] then - nv X else nv X) = (j : Int)) (hjl : j ≤ W.length + F.length) (hv : nv (W ++ F) * sc = x * 10 ^ j) (h0 : 0 ≤ x) (h1 : x ≤ 68719476736) :
    valueV s sc = (if sg = [45] then -x else x, 0) := by
  have hb : 1 ≤ sc ∧ sc ≤ 1000 := by simp [isSc] at hsc; omega
  have hw : numV s sc = x := by
    have hsz : (digV s).size = W.length + F.length := by rw [← size_data, a.dv]; simp
    have hfs : (fracV s).size = F.length := by rw [← size_data, a.fv]
    have hp : powV (downV s) (expV s) = if sg2 = [45] then - nv X else nv X := by
      unfold powV
      have hxs : (expV s).data.toList = X := a.xv
      rw [pow_go (expV s) (by rw [hxs]; exact a.dx) (by rw [hxs]; exact hX), hxs, a.down]
      simp
    have hl := prod_len (digV s) sc
    have e : (((digV s).size + 3 : Nat) : Int) - (fracV s).size + powV (downV s) (expV s) = ((prodV (digV s) sc).length : Int) - (j : Int) := by
      rw [hp, hl, hfs]; omega
    have hres := res_exact (LD_prod (digV s) sc) (x := x) (j := j) (by rw [hl, hsz]; omega) (by rw [prod_val (allD_dig s) hb.1 hb.2, a.dv]; exact hv) h1
    have hr := round_res (LD_prod (digV s) sc) (((prodV (digV s) sc).length : Int) - (j : Int))
    unfold numV
    rw [e, hr.2.1 (by rw [hres]; exact h1), hres]
  have hsn := a.scan
  unfold valueV
  rw [if_neg (by rw [hsc]; simp), if_neg (by omega), if_neg (by omega), if_neg (by omega), hw, if_neg (by simp [isLen]; omega), a.neg]
  by_cases e : sg = [45]
  · simp [e]
  · simp [e]
theorem one_dig {d : Int} (h0 : 0 ≤ d) (h1 : d ≤ 9) : (itB d).data.toList = [UInt8.ofNat (48 + d.toNat)] ∧ dg (UInt8.ofNat (48 + d.toNat)) = true ∧ ((UInt8.ofNat (48 + d.toNat)).toNat : Int) - 48 = d := by
  obtain ⟨k, rfl⟩ := Int.eq_ofNat_of_zero_le h0
  have hk : k < 10 := by omega
  refine ⟨?_, ?_, ?_⟩
  · rw [itB_nat, dec_small hk]; simp
  · exact dg_ofNat hk
  · rw [show ((k : Int)).toNat = k by omega, dig_nat hk]; omega
theorem tl_shape {sc : Int} (h0 : 1 ≤ sc) : ∀ (k : Nat) (r : Int) (acc : ByteArray), 0 ≤ r → r < sc → r * 10 ^ k % sc = 0 →
    ∃ F : List UInt8, (tl sc k r acc).data.toList = acc.data.toList ++ F ∧ DD F ∧ nv F * sc = r * 10 ^ F.length ∧ (F = [] ↔ r = 0) ∧ F.length ≤ k
  | 0, r, acc, hr0, hr1, hm => by
    have : r = 0 := by rw [Int.pow_zero, Int.mul_one, Int.emod_eq_of_lt hr0 hr1] at hm; exact hm
    subst this
    exact ⟨[], by simp [tl], dd_nil, by simp [nv], by simp, Nat.zero_le _⟩
  | k + 1, r, acc, hr0, hr1, hm => by
    by_cases h : r = 0
    · subst h
      exact ⟨[], by simp [tl], dd_nil, by simp [nv], by simp, Nat.zero_le _⟩
    · have hd0 : 0 ≤ r * 10 / sc := Int.ediv_nonneg (by omega) (by omega)
      have hd1 : r * 10 / sc ≤ 9 := by
        have : r * 10 / sc < 10 := Int.ediv_lt_of_lt_mul (by omega) (by omega)
        omega
      have hr0' : 0 ≤ r * 10 % sc := Int.emod_nonneg _ (by omega)
      have hr1' : r * 10 % sc < sc := Int.emod_lt_of_pos _ (by omega)
      have hm' : r * 10 % sc * 10 ^ k % sc = 0 := by
        rw [Int.mul_emod, Int.emod_emod, ← Int.mul_emod, Int.mul_assoc, ← Int.pow_succ', hm]
      obtain ⟨F, e, hF, hn, hz, hl⟩ := tl_shape h0 k (r * 10 % sc) (acc ++ itB (r * 10 / sc)) hr0' hr1' hm'
      obtain ⟨o1, o2, o3⟩ := one_dig hd0 hd1
      refine ⟨UInt8.ofNat (48 + (r * 10 / sc).toNat) :: F, ?_, ?_, ?_, ?_, ?_⟩
      · rw [tl_step sc k h, e, ByteArray.data_append, Array.toList_append, o1]; simp
      · intro c hc
        rcases List.mem_cons.1 hc with rfl | hc
        · exact o2
        · exact hF c hc
      · show (((((UInt8.ofNat (48 + (r * 10 / sc).toNat)).toNat : Nat) : Int) - 48) * 10 ^ F.length + nv F) * sc = r * 10 ^ (F.length + 1)
        rw [o3, Int.add_mul, hn, Int.pow_succ]
        have hx := Int.emod_add_mul_ediv (r * 10) sc
        generalize r * 10 / sc = q at hx ⊢
        generalize r * 10 % sc = y at hx ⊢
        generalize (10 : Int) ^ F.length = t
        have e1 : q * t * sc = sc * q * t := by rw [Int.mul_assoc, Int.mul_comm t sc, ← Int.mul_assoc, Int.mul_comm q sc]
        have e2 : r * (t * 10) = r * 10 * t := by rw [Int.mul_comm t 10, Int.mul_assoc]
        rw [e1, e2, ← hx, Int.add_mul]
        omega
      · simp [h]
      · simp; omega

/-- The shape of a text that is made. -/
theorem txt_shape {p : ByteArray} {sg : List UInt8} (hp : p.data.toList = sg) (hsg : Sg sg) {a sc : Int} (hsc : isSc sc = true) (h0 : 0 ≤ a) (h1 : a ≤ 68719476736) :
    ∃ W fr F, Shape (txt p a sc) sg W fr F [] [] [] ∧ nv (W ++ F) * sc = a * 10 ^ F.length ∧ (txt p a sc).size ≤ 30 ∧ W.length ≤ 11 ∧ W = Lib.decDigits (a / sc).toNat ∧ (sc = 1 → F = []) := by
  have hb : 1 ≤ sc ∧ sc ≤ 1000 := by simp [isSc] at hsc; omega
  have hr0 : 0 ≤ a % sc := Int.emod_nonneg _ (by omega)
  have hr1 : a % sc < sc := Int.emod_lt_of_pos _ (by omega)
  have hm : a % sc * 10 ^ 7 % sc = 0 := by
    have := ten_end hsc (a % sc * 10)
    rw [Int.mul_assoc] at this
    exact this
  have hq0 : 0 ≤ a / sc := Int.ediv_nonneg h0 (by omega)
  have hq1 : a / sc ≤ a := Int.ediv_le_self _ h0
  obtain ⟨q, hq⟩ := Int.eq_ofNat_of_zero_le hq0
  obtain ⟨F, e, hF, hn, hz, hl⟩ := tl_shape hb.1 7 (a % sc) (if 0 < a % sc then p ++ itB (a / sc) ++ (⟨#[46]⟩ : ByteArray) else p ++ itB (a / sc)) hr0 hr1 hm
  have hW := dec_all q
  have hWl : (Lib.decDigits q).length ≤ 11 := dec_len 10 q (by omega)
  have hWp := dec_pos q
  have hval : nv (Lib.decDigits q ++ F) * sc = a * 10 ^ F.length := by
    rw [nv_app, hW.2, Int.add_mul, hn]
    have hx := Int.emod_add_mul_ediv a sc
    rw [hq] at hx
    generalize a % sc = y at hx ⊢
    generalize (10 : Int) ^ F.length = t
    have e1 : (q : Int) * t * sc = sc * q * t := by rw [Int.mul_assoc, Int.mul_comm t sc, ← Int.mul_assoc, Int.mul_comm (q : Int) sc]
    rw [e1, ← hx, Int.add_mul]
    omega
  have hsl : sg.length ≤ 1 := by rcases hsg with rfl | rfl | rfl <;> simp
  have hone : sc = 1 → F = [] := fun h1 => hz.2 (by rw [h1]; omega)
  by_cases hr : 0 < a % sc
  · rw [if_pos hr] at e
    have hFn : F ≠ [] := fun h => by have := hz.1 h; omega
    have sh : Shape (txt p a sc) sg (Lib.decDigits q) (46 :: F) F [] [] [] := {
      eq := by
        unfold txt
        rw [if_pos hr, e, hq]
        simp only [ByteArray.data_append, Array.toList_append, hp, itB_nat]
        simp
      sgn := hsg
      dw := hW.1
      df := hF
      dx := dd_nil
      fr := .inr ⟨rfl, hFn⟩
      ex := .inl ⟨rfl, rfl, rfl⟩
      some := .inr hFn }
    refine ⟨_, _, _, sh, hval, ?_, hWl, by rw [hq]; rfl, hone⟩
    rw [sh.size]
    simp; omega
  · rw [if_neg hr] at e
    have hF0 : F = [] := hz.2 (by omega)
    subst hF0
    have sh : Shape (txt p a sc) sg (Lib.decDigits q) [] [] [] [] [] := {
      eq := by
        unfold txt
        rw [if_neg hr, e, hq]
        simp only [ByteArray.data_append, Array.toList_append, hp, itB_nat]
        simp
      sgn := hsg
      dw := hW.1
      df := dd_nil
      dx := dd_nil
      fr := .inl ⟨rfl, rfl⟩
      ex := .inl ⟨rfl, rfl, rfl⟩
      some := .inl (List.length_pos_iff.1 (by omega)) }
    refine ⟨_, _, _, sh, hval, ?_, hWl, by rw [hq]; rfl, hone⟩
    rw [sh.size]
    simp; omega
/-- A text comes back. -/
theorem text_back {n sc : Int} (hsc : isSc sc = true) (hn : isLen n = true) : valueV (textV n sc) sc = (n, 0) ∧ scanV (textV n sc) = (textV n sc).size ∧ (textV n sc).size ≤ 30 := by
  have hb : -68719476736 ≤ n ∧ n ≤ 68719476736 := by simpa [isLen] using hn
  unfold textV
  rw [if_neg (by rw [hn]; simp), if_neg (by rw [hsc]; simp)]
  by_cases h : n < 0
  · rw [if_pos h]
    obtain ⟨W, fr, F, sh, hv, hs, -⟩ := txt_shape (p := (⟨#[45]⟩ : ByteArray)) (sg := [45]) rfl (.inr (.inr rfl)) (a := -n) hsc (by omega) (by omega)
    refine ⟨?_, sh.scan.1, hs⟩
    rw [sh.value (j := F.length) hsc (by omega) (by simp [nv]) (by simp [nv]) (by omega) hv (by omega) (by omega)]
    simp
  · rw [if_neg h]
    obtain ⟨W, fr, F, sh, hv, hs, -⟩ := txt_shape (p := (⟨#[]⟩ : ByteArray)) (sg := []) rfl (.inl rfl) (a := n) hsc (by omega) (by omega)
    refine ⟨?_, sh.scan.1, hs⟩
    rw [sh.value (j := F.length) hsc (by omega) (by simp [nv]) (by simp [nv]) (by omega) hv (by omega) (by omega)]
    simp
theorem text_none {n sc : Int} (hn : isLen n = false) : textV n sc = (⟨#[]⟩ : ByteArray) := by unfold textV; rw [if_pos hn]
/-- A whole number's text. -/
theorem text_one {n : Int} (h0 : 0 ≤ n) (h1 : n ≤ 68719476736) : (textV n 1).data.toList = Lib.decDigits n.toNat := by
  have hl : isLen n = true := by simp [isLen]; omega
  unfold textV
  rw [if_neg (by rw [hl]; simp), if_neg (by decide), if_neg (by omega)]
  obtain ⟨W, fr, F, sh, -, -, -, hW, hF⟩ := txt_shape (p := (⟨#[]⟩ : ByteArray)) (sg := []) rfl (.inl rfl) (a := n) (sc := 1) (by decide) h0 h1
  have hF := hF rfl
  subst hF
  have hfr : fr = [] := by
    rcases sh.fr with ⟨h, _⟩ | ⟨_, h⟩
    · exact h
    · exact absurd rfl h
  subst hfr
  rw [sh.eq, hW]
  simp
theorem dec_ne (n : Nat) : Lib.decDigits n ≠ [] := List.length_pos_iff.1 (by have := dec_pos n; omega)
theorem nv_lead (m : Nat) (l : List UInt8) : nv (List.replicate m 48 ++ l) = nv l := by rw [nv_app, nv_zeros]; simp
theorem nv_trail (m : Nat) (l : List UInt8) : nv (l ++ List.replicate m 48) = nv l * 10 ^ m := by rw [nv_app, nv_zeros]; simp

section
variable {n m : Nat} {k : Int} {S Z M M' : ByteArray} (hn : n ≤ 1000000) (hm : m ≤ 19) (hk : isSc k = true)
  (hS : S.data.toList = Lib.decDigits n) (hZ : Z.data.toList = List.replicate m 48) (hM : M.data.toList = Lib.decDigits m) (hM' : M'.data.toList = Lib.decDigits (m + S.size))
include hn hk hS
theorem al_len : S.size ≤ 7 ∧ (n : Int) * k ≤ 68719476736 ∧ 0 ≤ (n : Int) * k := by
  have hb : 1 ≤ k ∧ k ≤ 1000 := by simp [isSc] at hk; omega
  have h1 : S.size ≤ 7 := by rw [← size_data, hS]; exact dec_len 6 n (by omega)
  have h2 : (n : Int) * k ≤ 1000000 * 1000 := Int.mul_le_mul (by omega) hb.2 (by omega) (by omega)
  have h3 : 0 ≤ (n : Int) * k := Int.mul_nonneg (by omega) (by omega)
  exact ⟨h1, by omega, h3⟩
theorem al_0 : valueV S k = ((n : Int) * k, 0) := by
  have hl := al_len hn hk hS
  have d := dec_all n
  have sh : Shape S [] (Lib.decDigits n) [] [] [] [] [] := ⟨by rw [hS]; simp, .inl rfl, d.1, dd_nil, dd_nil, .inl ⟨rfl, rfl⟩, .inl ⟨rfl, rfl, rfl⟩, .inl (dec_ne n)⟩
  rw [sh.value (j := 0) (x := (n : Int) * k) hk (by omega) (by simp [nv]) (by simp [nv]) (Nat.zero_le _) (by rw [List.append_nil, d.2]; simp) hl.2.2 hl.2.1]
  simp
theorem al_3 : valueV ((⟨#[43]⟩ : ByteArray) ++ S) k = ((n : Int) * k, 0) := by
  have hl := al_len hn hk hS
  have d := dec_all n
  have sh : Shape ((⟨#[43]⟩ : ByteArray) ++ S) [43] (Lib.decDigits n) [] [] [] [] [] := ⟨by simp [ByteArray.data_append, hS], .inr (.inl rfl), d.1, dd_nil, dd_nil, .inl ⟨rfl, rfl⟩, .inl ⟨rfl, rfl, rfl⟩, .inl (dec_ne n)⟩
  rw [sh.value (j := 0) (x := (n : Int) * k) hk (by rw [ByteArray.size_append]; have : (⟨#[43]⟩ : ByteArray).size = 1 := rfl; omega) (by simp [nv]) (by simp [nv]) (Nat.zero_le _) (by rw [List.append_nil, d.2]; simp) hl.2.2 hl.2.1]
  simp
theorem al_7 : valueV ((⟨#[45]⟩ : ByteArray) ++ S) k = (-((n : Int) * k), 0) := by
  have hl := al_len hn hk hS
  have d := dec_all n
  have sh : Shape ((⟨#[45]⟩ : ByteArray) ++ S) [45] (Lib.decDigits n) [] [] [] [] [] := ⟨by simp [ByteArray.data_append, hS], .inr (.inr rfl), d.1, dd_nil, dd_nil, .inl ⟨rfl, rfl⟩, .inl ⟨rfl, rfl, rfl⟩, .inl (dec_ne n)⟩
  rw [sh.value (j := 0) (x := (n : Int) * k) hk (by rw [ByteArray.size_append]; have : (⟨#[45]⟩ : ByteArray).size = 1 := rfl; omega) (by simp [nv]) (by simp [nv]) (Nat.zero_le _) (by rw [List.append_nil, d.2]; simp) hl.2.2 hl.2.1]
  simp
include hm hZ
theorem al_1 : valueV (Z ++ S) k = ((n : Int) * k, 0) := by
  have hl := al_len hn hk hS
  have hz : Z.size = m := by rw [← size_data, hZ]; simp
  have d := dec_all n
  have sh : Shape (Z ++ S) [] (List.replicate m 48 ++ Lib.decDigits n) [] [] [] [] [] := ⟨by simp [ByteArray.data_append, hS, hZ], .inl rfl, dd_app (dd_zeros m) d.1, dd_nil, dd_nil, .inl ⟨rfl, rfl⟩, .inl ⟨rfl, rfl, rfl⟩, .inl (by simp [dec_ne n])⟩
  rw [sh.value (j := 0) (x := (n : Int) * k) hk (by rw [ByteArray.size_append]; omega) (by simp [nv]) (by simp [nv]) (Nat.zero_le _) (by rw [List.append_nil, nv_lead, d.2]; simp) hl.2.2 hl.2.1]
  simp
theorem al_2 : valueV (S ++ (⟨#[46, 48]⟩ : ByteArray) ++ Z) k = ((n : Int) * k, 0) := by
  have hl := al_len hn hk hS
  have hz : Z.size = m := by rw [← size_data, hZ]; simp
  have d := dec_all n
  have sh : Shape (S ++ (⟨#[46, 48]⟩ : ByteArray) ++ Z) [] (Lib.decDigits n) (46 :: List.replicate (m + 1) 48) (List.replicate (m + 1) 48) [] [] [] := ⟨by simp [ByteArray.data_append, hS, hZ, List.replicate_succ], .inl rfl, d.1, dd_zeros _, dd_nil, .inr ⟨rfl, by simp⟩, .inl ⟨rfl, rfl, rfl⟩, .inl (dec_ne n)⟩
  rw [sh.value (j := m + 1) (x := (n : Int) * k) hk (by rw [ByteArray.size_append, ByteArray.size_append]; have : (⟨#[46, 48]⟩ : ByteArray).size = 2 := rfl; omega) (by simp [nv]) (by simp [nv]) (by simp) (by rw [nv_trail, d.2, Int.mul_assoc, Int.mul_comm (10 ^ (m + 1)) k, ← Int.mul_assoc]) hl.2.2 hl.2.1]
  simp
theorem al_6 : valueV (S ++ (⟨#[101, 48]⟩ : ByteArray) ++ Z) k = ((n : Int) * k, 0) := by
  have hl := al_len hn hk hS
  have hz : Z.size = m := by rw [← size_data, hZ]; simp
  have d := dec_all n
  have sh : Shape (S ++ (⟨#[101, 48]⟩ : ByteArray) ++ Z) [] (Lib.decDigits n) [] [] (101 :: ([] ++ List.replicate (m + 1) 48)) [] (List.replicate (m + 1) 48) := ⟨by simp [ByteArray.data_append, hS, hZ, List.replicate_succ], .inl rfl, d.1, dd_nil, dd_zeros _, .inl ⟨rfl, rfl⟩, .inr ⟨101, rfl, rfl, by simp, .inl rfl⟩, .inl (dec_ne n)⟩
  rw [sh.value (j := 0) (x := (n : Int) * k) hk (by rw [ByteArray.size_append, ByteArray.size_append]; have : (⟨#[101, 48]⟩ : ByteArray).size = 2 := rfl; omega) (by rw [nv_zeros]; omega) (by rw [nv_zeros]; simp) (Nat.zero_le _) (by rw [List.append_nil, d.2]; simp) hl.2.2 hl.2.1]
  simp
include hM in
theorem al_4 : valueV (S ++ Z ++ (⟨#[101, 45]⟩ : ByteArray) ++ M) k = ((n : Int) * k, 0) := by
  have hl := al_len hn hk hS
  have hz : Z.size = m := by rw [← size_data, hZ]; simp
  have d := dec_all n
  have dm := dec_all m
  have hml : M.size ≤ 2 := by rw [← size_data, hM]; exact dec_len 1 m (by omega)
  have sh : Shape (S ++ Z ++ (⟨#[101, 45]⟩ : ByteArray) ++ M) [] (Lib.decDigits n ++ List.replicate m 48) [] [] (101 :: ([45] ++ Lib.decDigits m)) [45] (Lib.decDigits m) := ⟨by simp [ByteArray.data_append, hS, hZ, hM], .inl rfl, dd_app d.1 (dd_zeros m), dd_nil, dm.1, .inl ⟨rfl, rfl⟩, .inr ⟨101, rfl, rfl, dec_ne m, .inr (.inr rfl)⟩, .inl (by simp [dec_ne n])⟩
  rw [sh.value (j := m) (x := (n : Int) * k) hk (by rw [ByteArray.size_append, ByteArray.size_append, ByteArray.size_append]; have : (⟨#[101, 45]⟩ : ByteArray).size = 2 := rfl; omega) (by rw [dm.2]; omega) (by rw [dm.2]; simp) (by simp) (by rw [List.append_nil, nv_trail, d.2, Int.mul_assoc, Int.mul_comm (10 ^ m) k, ← Int.mul_assoc]) hl.2.2 hl.2.1]
  simp
include hM' in
theorem al_5 : valueV (Z ++ (⟨#[46]⟩ : ByteArray) ++ Z ++ S ++ (⟨#[69]⟩ : ByteArray) ++ M') k = ((n : Int) * k, 0) := by
  have hl := al_len hn hk hS
  have hz : Z.size = m := by rw [← size_data, hZ]; simp
  have hs2 : (Lib.decDigits n).length = S.size := by rw [← hS, size_data]
  have d := dec_all n
  have dm := dec_all (m + S.size)
  have hml : M'.size ≤ 2 := by rw [← size_data, hM']; exact dec_len 1 _ (by omega)
  have sh : Shape (Z ++ (⟨#[46]⟩ : ByteArray) ++ Z ++ S ++ (⟨#[69]⟩ : ByteArray) ++ M') [] (List.replicate m 48) (46 :: (List.replicate m 48 ++ Lib.decDigits n)) (List.replicate m 48 ++ Lib.decDigits n) (69 :: ([] ++ Lib.decDigits (m + S.size))) [] (Lib.decDigits (m + S.size)) :=
    ⟨by simp [ByteArray.data_append, hS, hZ, hM'], .inl rfl, dd_zeros m, dd_app (dd_zeros m) d.1, dm.1, .inr ⟨rfl, by simp [dec_ne n]⟩, .inr ⟨69, rfl, rfl, dec_ne _, .inl rfl⟩, .inr (by simp [dec_ne n])⟩
  rw [sh.value (j := 0) (x := (n : Int) * k) hk (by simp only [ByteArray.size_append]; have : (⟨#[46]⟩ : ByteArray).size = 1 := rfl; have : (⟨#[69]⟩ : ByteArray).size = 1 := rfl; omega) (by rw [dm.2]; omega) (by rw [dm.2, List.length_append, hs2]; simp) (Nat.zero_le _) (by rw [nv_lead, nv_lead, d.2]; simp) hl.2.2 hl.2.1]
  simp
end

end Go.Proofs.YtcgmnmfglhbcgabDoor
