/- Whether a track that is sized may be: base.Good. -/
import Derived.Test.YtaonlpjfbajlcaaBas2n
import Derived.Test.YtaonlpjfbajlcaaBas2L1
import Derived.Test.YtaonlpjfbajlcaaBas2L2
import Derived.Test.YtaonlpjfbajlcaaBas2L3
import Derived.Test.YtaonlpjfbajlcaaBas2L4
namespace Go.Proofs.Ytaonlpjfbajlcaa
open Go.RowKit

theorem good22_any (s : SzD) (w : World) : Calls Try.prog 64 #[.agg (szC s)] w fun e w' => e = .returned (.bool (goodS s)) ∧ Below w.heap.size w w' := by
  cases hP : (wiB s.mn 1 4 && wiB s.mx 1 5 && wiB s.fr 0 1073741824 && (s.mx == 5 || s.fr == 0) && wiB s.cap 0 68719476736 && (s.fit || s.cap == 0) && ((s.mn == 2 && s.mx == 4) || !s.fit) && wiB s.base 0 1125899906842623 && decide (s.limit ≤ 1125899906842624))
  · exact good22_no s w hP
  · rw [Bool.and_eq_true, Bool.and_eq_true, Bool.and_eq_true, Bool.and_eq_true, Bool.and_eq_true, Bool.and_eq_true, Bool.and_eq_true, Bool.and_eq_true] at hP
    obtain ⟨⟨⟨⟨⟨⟨⟨⟨h1, h2⟩, h3⟩, h4⟩, h5⟩, h6⟩, h7⟩, h8⟩, h9⟩ := hP
    cases hFL : (s.mx == 5)
    · have z3 : (s.fr == 0) = true := by rw [hFL] at h4; exact h4
      cases hQ : s.fit
      · have z5 : (s.cap == 0) = true := by rw [hQ] at h6; exact h6
        cases hFI : (s.mn == 2 && s.mx == 4)
        · exact good22_L1 s w h1 h2 h3 h5 h8 h9 hFL hFI hQ z3 z5
        · exact good22_L2 s w h1 h2 h3 h5 h8 h9 hFL hFI hQ z3 z5
      · have hFI : (s.mn == 2 && s.mx == 4) = true := by rw [hQ, Bool.not_true, Bool.or_false] at h7; exact h7
        exact good22_L3 s w h1 h2 h3 h5 h8 h9 hFL hFI hQ z3
    · have hb : s.mx = 5 := by simpa using hFL
      have hFI : (s.mn == 2 && s.mx == 4) = false := by
        rw [hb]
        simp
      have hQ : s.fit = false := by
        rw [hFI] at h7
        simpa using h7
      have z5 : (s.cap == 0) = true := by rw [hQ] at h6; exact h6
      exact good22_L4 s w h1 h2 h3 h5 h8 h9 hFL hFI hQ z5

end Go.Proofs.Ytaonlpjfbajlcaa
