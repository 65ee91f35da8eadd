/-
  Contracts of spec.Cut and impl.Cut: the pieces of a string between its spaces.
-/
import Derived.Test.YtkcediipkkpofaaStrMarks
namespace Go.Proofs.Ytkcediipkkpofaa.low
open Go.RowKit
set_option linter.unusedVariables false

theorem specCut_any (s : ByteArray) (w : World) (hs : s.size ≤ 1048576) : Calls Try.prog 26 #[.string s] w (StrsPost (cuts s 32) w) := by
  go_enter Try.func26, Try.ntmps26
  go_wp2_with fail
  refine (specSplit_any s 32 _ hs).mono ?_
  rintro e w' ⟨v, rfl, h1, h2⟩
  go_wp2
  go_ret
  exact ⟨v, rfl, h1, h2⟩
theorem implCut_any (s : ByteArray) (w : World) (hs : s.size ≤ 1048576) : Calls Try.prog 27 #[.string s] w (StrsPost (cuts s 32) w) := by
  go_enter Try.func27, Try.ntmps27
  go_wp2_with fail
  refine (implSplit_any s 32 _ hs (by omega)).mono ?_
  rintro e w' ⟨v, rfl, h1, h2⟩
  go_wp2
  go_ret
  exact ⟨v, rfl, h1, h2⟩
theorem cuts_len (s : ByteArray) (m : Nat) (hs : s.size ≤ 1048576) : (cuts s m).length ≤ 1048577 := by
  have := (cuts_pos s m s.size 0 0).2
  unfold cuts
  omega
end Go.Proofs.Ytkcediipkkpofaa.low
