/- What Share answers: nothing, or for each weight its share. -/
import Derived.Test.YtaonlpjfbajlcaaShare1
namespace Go.Proofs.Ytaonlpjfbajlcaa
open Go.RowKit Go.Shelf

attribute [local go_sem] Oper.semAt_some

set_option maxHeartbeats 400000 in
theorem shares_any (n all : Int) (v : Value) (a : Option Addr) (len cap : Nat) (hv : v = .slice a len cap) (w : World) :
    Calls Try.prog 72 #[.int .i64 n, .int .i64 all, v] w fun e w' =>
      e = .returned (.func (.func 88) #[] #[.pointer (some ⟨w.heap.size + 2, 0, none⟩), .pointer (some ⟨w.heap.size, 0, none⟩), .pointer (some ⟨w.heap.size + 1, 0, none⟩)]) ∧
      w' = ((w.alloc (.cells #[.int .i64 n] 3)).alloc (.cells #[.int .i64 all] 3)).alloc (.cells #[.slice a len cap] 23) := by
  subst hv
  go_enter Try.func72, Try.ntmps72
  go_wp2
  go_ret
  exact ⟨rfl, rfl⟩

/-- The shares, all of them; nothing, where nothing can be shared. -/
def shareV (n : Int) (zs : List Int) : List Int := shareUp n zs.sum zs zs.length

set_option maxHeartbeats 1000000 in
theorem share_no (n : Int) (v : Value) (zs : List Int) (w : World) (hx : Reads w v zs) (hlen : zs.length ≤ 9223372036854775807) (h : weighV zs = 0 ∨ n < 0 ∨ 68719476736 < n) :
    Calls Try.prog 52 #[.int .i64 n, v] w fun e w' => e = .returned (.slice none 0 0) ∧ w' = w := by
  have hwe : ∀ w', w' = w → Calls Try.prog 71 #[v] w' fun e w2 => e = .returned (.int .i64 (weighV zs)) ∧ w2 = w' := fun w' e => by subst e; exact weigh_any v zs w' hx hlen
  have HW := hide hwe
  obtain ⟨s, hs⟩ : ∃ s, s = weighV zs := ⟨_, rfl⟩
  obtain ⟨a, len, cap, rfl⟩ : ∃ a len cap, v = .slice a len cap := by
    rcases hx with ⟨_, a, c, h⟩ | ⟨b, off, c, h, _⟩
    · exact ⟨_, _, _, h⟩
    · exact ⟨_, _, _, h⟩
  rw [← hs] at h HW
  clear hwe hs hx
  by_cases h1 : s = 0
  · subst h1
    go_enter Try.func52, Try.ntmps52
    go_wp2_with fail
    refine (unhide HW _ rfl).mono ?_
    rintro e w' ⟨rfl, rfl⟩
    go_wp2_with fail
    go_ret
    exact ⟨rfl, rfl⟩
  · have h1' : (s == 0) = false := by simp [h1]
    by_cases h2 : n < 0
    · clear h h1
      go_enter Try.func52, Try.ntmps52
      go_wp2_with fail
      refine (unhide HW _ rfl).mono ?_
      rintro e w' ⟨rfl, rfl⟩
      go_wp2_with fail
      go_ret
      exact ⟨rfl, rfl⟩
    · have h3 : 68719476736 < n := by omega
      clear h h1
      go_enter Try.func52, Try.ntmps52
      go_wp2_with fail
      refine (unhide HW _ rfl).mono ?_
      rintro e w' ⟨rfl, rfl⟩
      go_wp2_with fail
      go_ret
      exact ⟨rfl, rfl⟩

end Go.Proofs.Ytaonlpjfbajlcaa
