/-
  Contracts of spec.Cut and impl.Cut (the pieces of a string between its spaces) and of spec.Lines and impl.Lines (its lines).
-/
import Derived.Test.YtkcediipkkpofaaStrMarks
namespace Go.Proofs.Ytkcediipkkpofaa.low
open Go.RowKit
set_option linter.unusedVariables false

theorem specCut_any (s : ByteArray) (w : World) (hs : s.size ≤ 1048576) : Calls Try.prog 26 #[.string s] w (StrsPost (cuts s 32) w) := by
  go_enter Try.func26, Try.ntmps26
  go_wp2_with fail
  refine (specSplit_any s 32 _ hs).mono ?_
  rintro e w' ⟨v, rfl, h1, h2⟩
  go_wp2
  go_ret
  exact ⟨v, rfl, h1, h2⟩
theorem implCut_any (s : ByteArray) (w : World) (hs : s.size ≤ 1048576) : Calls Try.prog 27 #[.string s] w (StrsPost (cuts s 32) w) := by
  go_enter Try.func27, Try.ntmps27
  go_wp2_with fail
  refine (implSplit_any s 32 _ hs (by omega)).mono ?_
  rintro e w' ⟨v, rfl, h1, h2⟩
  go_wp2
  go_ret
  exact ⟨v, rfl, h1, h2⟩
theorem cuts_len (s : ByteArray) (m : Nat) (hs : s.size ≤ 1048576) : (cuts s m).length ≤ 1048577 := by
  have := (cuts_pos s m s.size 0 0).2
  unfold cuts
  omega

/-- the lines: the pieces between newlines, without a last one that is empty -/
def linesOf (s : ByteArray) : List ByteArray := if (cuts s 10).getLast? = some ByteArray.empty then (cuts s 10).dropLast else cuts s 10
theorem cuts_last (s : ByteArray) (m : Nat) : ∃ ys z, cuts s m = ys ++ [z] := by
  rcases List.eq_nil_or_concat (cuts s m) with h | ⟨ys, z, h⟩
  · have := (cuts_pos s m s.size 0 0).1
    unfold cuts at h
    rw [h] at this
    simp at this
  · exact ⟨ys, z, by rw [h, List.concat_eq_append]⟩
theorem lines_t {s : ByteArray} {ys : List ByteArray} {z : ByteArray} (h : cuts s 10 = ys ++ [z]) (hz : z.size = 0) : linesOf s = ys := by
  have he : z = ByteArray.empty := by apply ByteArray.ext; exact Array.eq_empty_of_size_eq_zero hz
  subst he
  unfold linesOf
  rw [h]
  simp
theorem lines_f {s : ByteArray} {ys : List ByteArray} {z : ByteArray} (h : cuts s 10 = ys ++ [z]) (hz : ¬ z.size = 0) : linesOf s = ys ++ [z] := by
  unfold linesOf
  rw [h, if_neg]
  simp
  rintro rfl
  exact hz rfl
theorem lines_len (s : ByteArray) (hs : s.size ≤ 1048576) : (linesOf s).length ≤ 1048577 := by
  have h := cuts_len s 10 hs
  unfold linesOf
  split
  · simp; omega
  · exact h
theorem sbuf_cell {base g cap : Nat} {w : World} {ys : List ByteArray} {z : ByteArray} (h : SBuf base w (.slice (some ⟨g, 0, none⟩) (ys.length + 1) cap) (ys ++ [z])) : w.cell? ⟨g, ys.length, none⟩ = some (.string z) := by
  have h1 := h.1
  have hy : (ys ++ [z]).length = ys.length + 1 := by simp
  rw [hy] at h1
  rw [World.ownsRow.cellAt (g := g) h1 ys.length (by omega)]
  simp
theorem sbuf_init {base g cap : Nat} {w : World} {ys : List ByteArray} {z : ByteArray} (h : SBuf base w (.slice (some ⟨g, 0, none⟩) (ys.length + 1) cap) (ys ++ [z])) : SBuf base w (.slice (some ⟨g, 0, none⟩) ys.length cap) ys := by
  refine ⟨⟨by simp, ?_⟩, h.2⟩
  rcases h.1.2 with ⟨hn, _⟩ | ⟨g', cap', cur, hv, hge, hh, hnc, hm, hcs, ht⟩
  · cases hn
  · injection hv with e1 e2 e3
    injection e1 with e1
    injection e1 with e1
    subst e1
    subst e3
    refine .inr ⟨g, cap, cur, rfl, hge, hh, by omega, hm, hcs, ?_⟩
    have := congrArg (List.take ys.length) ht
    rw [List.take_take] at this
    simp only [List.map_append, List.length_append, List.length_cons, List.length_nil, Nat.mul_one] at this
    rw [Nat.min_eq_left (by omega), List.take_append_of_le_length (by simp), List.take_of_length_le (l := List.map Value.string ys) (by simp)] at this
    rw [Nat.mul_one]
    exact this
theorem str_full {z : ByteArray} (h : ¬ z.size = 0) : (z.toList == []) = false := by
  rw [beq_eq_false_iff_ne]
  intro e
  rw [ByteArray.toList_eq] at e
  have h1 := congrArg List.length e
  exact h h1
theorem sbuf_form {base : Nat} {w : World} {v : Value} {ys : List ByteArray} {z : ByteArray} (h : SBuf base w v (ys ++ [z])) : ∃ g cap, v = .slice (some ⟨g, 0, none⟩) (ys.length + 1) cap ∧ ys.length + 1 ≤ cap ∧ cap ≤ maxLen := by
  rcases h.1.2 with ⟨_, h0⟩ | ⟨g, cap, cur, rfl, hge, hh, hnc, hm, _⟩
  · simp at h0
  · exact ⟨g, cap, by simp, by simpa using hnc, hm⟩

set_option maxHeartbeats 800000 in
theorem specLines_any (s : ByteArray) (w : World) (hs : s.size ≤ 1048576) : Calls Try.prog 31 #[.string s] w (StrsPost (linesOf s) w) := by
  have hlen := cuts_len s 10 hs
  obtain ⟨ys, z, hyz⟩ := cuts_last s 10
  have hy : ys.length ≤ 1048576 := by rw [hyz] at hlen; simp at hlen; omega
  clear hlen
  go_enter Try.func31, Try.ntmps31
  go_wp2_with fail
  refine (specSplit_any s 10 _ hs).mono ?_
  rintro e w' ⟨v, rfl, h1, h2⟩
  rw [hyz] at h1
  obtain ⟨g, cap, rfl, hnc, hcap⟩ := sbuf_form h1
  have hc := sbuf_cell h1
  unfold maxLen at hcap
  by_cases hz : z.size = 0
  · have HF := Lib.hid (lines_t hyz hz)
    have HI := Lib.hid (sbuf_init h1)
    obtain rfl : z = ByteArray.empty := by apply ByteArray.ext; exact Array.eq_empty_of_size_eq_zero hz
    clear hz hyz h1
    generalize hn : ys.length = n at *
    have HN := Lib.hid hn
    clear hn
    go_wp2
    go_ret
    rw [HF.out]
    exact ⟨_, rfl, HI.out, h2⟩
  · have HF := Lib.hid (lines_f hyz hz)
    have hz' := str_full hz
    clear hz hyz
    have HI := Lib.hid h1
    clear h1
    generalize hn : ys.length = n at *
    have HN := Lib.hid hn
    clear hn
    go_wp2
    go_ret
    rw [HF.out]
    exact ⟨_, rfl, HI.out, h2⟩

set_option maxHeartbeats 800000 in
theorem implLines_any (s : ByteArray) (w : World) (hs : s.size ≤ 1048576) : Calls Try.prog 32 #[.string s] w (StrsPost (linesOf s) w) := by
  have hlen := cuts_len s 10 hs
  obtain ⟨ys, z, hyz⟩ := cuts_last s 10
  have hy : ys.length ≤ 1048576 := by rw [hyz] at hlen; simp at hlen; omega
  clear hlen
  go_enter Try.func32, Try.ntmps32
  go_wp2_with fail
  refine (implSplit_any s 10 _ hs (by omega)).mono ?_
  rintro e w' ⟨v, rfl, h1, h2⟩
  rw [hyz] at h1
  obtain ⟨g, cap, rfl, hnc, hcap⟩ := sbuf_form h1
  have hc := sbuf_cell h1
  unfold maxLen at hcap
  by_cases hz : z.size = 0
  · have HF := Lib.hid (lines_t hyz hz)
    have HI := Lib.hid (sbuf_init h1)
    obtain rfl : z = ByteArray.empty := by apply ByteArray.ext; exact Array.eq_empty_of_size_eq_zero hz
    clear hz hyz h1
    generalize hn : ys.length = n at *
    have HN := Lib.hid hn
    clear hn
    go_wp2
    go_ret
    rw [HF.out]
    exact ⟨_, rfl, HI.out, h2⟩
  · have HF := Lib.hid (lines_f hyz hz)
    have hz' := str_full hz
    clear hz hyz
    have HI := Lib.hid h1
    clear h1
    generalize hn : ys.length = n at *
    have HN := Lib.hid hn
    clear hn
    go_wp2
    go_ret
    rw [HF.out]
    exact ⟨_, rfl, HI.out, h2⟩
end Go.Proofs.Ytkcediipkkpofaa.low
