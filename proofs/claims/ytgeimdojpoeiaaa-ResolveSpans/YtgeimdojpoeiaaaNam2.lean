/- Names of lines: does a line have a name? -/
import Derived.Test.YtgeimdojpoeiaaaNam1
import Derived.Test.YtgeimdojpoeiaaaCn0
import Derived.Test.YtgeimdojpoeiaaaShelf
namespace Go.Proofs.Ytgeimdojpoeiaaa
open Go.RowKit

set_option maxRecDepth 100000 in
set_option maxHeartbeats 2000000 in
theorem rhas16_any (x : ByteArray) (l : List ByteArray) (u : Value) (w : World) (h : Strs w u l) (hl : l.length ≤ 1000000) :
    Calls Try.prog 61 #[u, .string x] w fun e w' => e = .returned (.bool (nhB x l)) ∧ w' = w := by
  have HX := hide h
  obtain ⟨ao, cap, rfl⟩ := h.slice
  clear h
  obtain ⟨n, hn⟩ : ∃ n, n = l.length := ⟨_, rfl⟩
  rw [← hn] at HX hl ⊢
  have HN := hide hn
  clear hn
  go_enter Try.func61, Try.ntmps61
  go_wp2_with fail
  go_loopw [5] (fun i wr => ∃ j : Nat, j ≤ n ∧ i = .int .i64 (j : Int) ∧ wr = w ∧ Hid (x ∉ l.take j)) (fun i _ => ((n : Int) - intOf i).toNat)
  case atStart => exact ⟨0, by omega, by go_num, rfl, hide (by simp)⟩
  case round =>
    obtain ⟨j, hj, rfl, hwr, HS⟩ := hrel
    subst wr
    by_cases hjl : j < n
    · obtain ⟨y, hy⟩ : ∃ y, l[j]? = some y := ⟨_, List.getElem?_eq_getElem (by rw [← HN.out]; exact hjl)⟩
      have hji : (j : Int) < (n : Int) := by omega
      rcases (HX.out).val with ⟨hnil, _⟩ | ⟨b, off, cap', hsl, hlt, hc⟩
      · rw [hnil] at hy; simp at hy
      · have hao : ao = some ⟨b, off, none⟩ := by simp at hsl; exact hsl.1
        subst hao
        have c0 := hc j y hy
        by_cases hxy : y = x
        · subst hxy
          have HV : Hid (nhB y l = true) := hide (by unfold nhB; rw [(memB_iff _ _).2 (List.mem_of_getElem? hy)]; simp)
          clear hc hsl HX HS hy
          go_wp2_with fail
          go_ret
          exact ⟨by rw [HV.out] <;> rfl, rfl⟩
        · have hq := str_ne hxy
          have HS2 : Hid (x ∉ l.take (j + 1)) := hide (by
            rw [List.take_add_one, hy]
            simp only [Option.toList_some, List.mem_append, List.mem_singleton, not_or]
            exact ⟨HS.out, fun e => hxy e.symm⟩)
          clear hc hsl HX HS hy
          go_wp2_with fail
          go_roundw
          case rel => exact ⟨j + 1, by omega, by go_num, trivial, HS2⟩
          case measure => simp [intOf]; omega
    · obtain rfl : j = n := by omega
      have HM : Hid (x ∉ l) := hide (by have := HS.out; rw [HN.out, List.take_length] at this; exact this)
      by_cases hx : x = ByteArray.empty
      · subst hx
        have HV : Hid (nhB ByteArray.empty l = true) := hide (nhB_empty l)
        clear HS HX HM
        go_wp2_with fail
        go_ret
        exact ⟨by rw [HV.out] <;> rfl, rfl⟩
      · have hq := str_some hx
        have HV : Hid (nhB x l = false) := hide (by rw [nhB_ne hx]; exact memB_no HM.out)
        clear HS HX HM
        go_wp2_with fail
        go_ret
        exact ⟨by rw [HV.out] <;> rfl, rfl⟩

theorem contains16_any (x : ByteArray) (l : List ByteArray) (u : Value) (w : World) (h : Strs w u l) (hl : l.length ≤ 1000000) :
    Calls Try.prog 69 #[u, .string x] w fun e w' => e = .returned (.bool (memB x l)) ∧ w' = w := by
  have e : Lib.containsS l x = memB x l := by
    rw [Bool.eq_iff_iff, Lib.containsS_iff, memB_iff]
  rcases h.val with ⟨rfl, ao, cap, rfl⟩ | ⟨b, off, cap, rfl, hlt, hc⟩
  · have := Try.slices_Contains_string_empty ao cap x w
    exact this.mono fun _ _ hh => ⟨by rw [hh.1]; rfl, hh.2⟩
  · have := Try.slices_Contains_string b off l.length cap l x w (Nat.le_refl _) (by omega) (fun j hj => by
      have := hc j _ (List.getElem?_eq_getElem hj)
      rw [this]
      simp [List.getD, hj])
    refine this.mono fun _ _ hh => ⟨?_, hh.2⟩
    rw [hh.1, List.take_length, e]

end Go.Proofs.Ytgeimdojpoeiaaa
