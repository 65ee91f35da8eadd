
/-
  From the reading of a law's argument to the words for memory: a slice of numbers, a part, a slice of parts.
-/
import Derived.Test.YtemhhjagdfkmfaaPBuf
import Derived.ProofKit
import Derived.OpenShut
import Derived.Deep.Slices
import Derived.Lib.SmallJoins
namespace Go.Proofs.Ytemhhjagdfkmfaa.low
open Go.RowKit Go.ChangeShapes Go.WideShapes Go.Deep
set_option linter.unusedVariables false

theorem choose_list {α : Type} {Q : Nat → α → Prop} : ∀ n, (∀ i, i < n → ∃ x, Q i x) → ∃ xs : List α, xs.length = n ∧ ∀ i x, xs[i]? = some x → Q i x
  | 0, _ => ⟨[], rfl, fun i x h => by simp at h⟩
  | n + 1, h => by
    obtain ⟨xs, hl, hq⟩ := choose_list n fun i hi => h i (by omega)
    obtain ⟨x, hx⟩ := h n (by omega)
    refine ⟨xs ++ [x], by simp [hl], fun i y hy => ?_⟩
    by_cases hi : i < xs.length
    · rw [List.getElem?_append_left hi] at hy; exact hq i y hy
    · have e : i = n := by
        rcases Nat.lt_or_ge i (n + 1) with h | h
        · omega
        · rw [List.getElem?_eq_none (by simp [hl]; omega)] at hy; cases hy
      subst e
      rw [List.getElem?_append_right (by omega), hl] at hy
      simp at hy
      subst hy
      exact hx
theorem laidOut : laidOutB Try.prog = true := by kernel_rfl
theorem cellsInt : Try.prog.cellsOf 3 = 1 := by kernel_rfl
theorem cellsInts : Try.prog.cellsOf 22 = 1 := by kernel_rfl
theorem cellsPart : Try.prog.cellsOf 51 = 3 := by kernel_rfl

section
variable {H : Type} {enc : TypeId × Value → H} {w : World} {base : Nat} {spare : Nat → Bool} {held : Bool}
theorem read_ints {fuel : Nat} {cs : List Value} {x : DataW H × List MemPlace} (h : DataW.trod enc Try.prog w base spare held fuel 22 cs = some x) :
    ∃ A c, ∃ zs : List Int, cs = [.slice A zs.length c] ∧ Row (Value.int .i64) w w.heap.size A zs ∧ zs.length ≤ maxLen := by
  rcases open_ints Try.underlying22 Try.underlying3 cellsInt h with ⟨hcs, _⟩ | ⟨a, len, cap, zs, hcs, _, hl, hm, hz, _, hc, hw⟩
  · exact ⟨none, 0, [], hcs, Row.nil, Nat.zero_le _⟩
  · have hzl : len ≤ zs.length := by rw [hz]; split <;> omega
    refine ⟨some a, cap, zs.take len, by rw [hcs, List.length_take, Nat.min_eq_left hzl], fun hn => ?_, by rw [List.length_take]; omega⟩
    have h0 := cell_lt (hc 0 (by simp at hn; omega))
    rw [block_of_add] at h0
    refine ⟨a, rfl, h0, fun k z hk => ?_⟩
    have hk' : k < zs.length := by
      rcases Nat.lt_or_ge k zs.length with h | h
      · exact h
      · rw [List.getElem?_eq_none (by simp; omega)] at hk; cases hk
    have hk2 : zs[k]? = some z := by
      rw [List.getElem?_take] at hk
      split at hk
      · exact hk
      · cases hk
    rw [hc k hk']
    simp [List.getD, hk2]
set_option maxRecDepth 100000 in
theorem read_part {fuel : Nat} {cs : List Value} {x : DataW H × List MemPlace} (h : DataW.trod enc Try.prog w base spare held fuel 51 cs = some x) :
    ∃ (p : Pt) (A : Option Addr) (c : Nat), cs = [.int .i64 p.kind, .int .i64 p.n, .slice A p.signs.length c] ∧ Row (Value.int .i64) w w.heap.size A p.signs ∧ p.signs.length ≤ maxLen := by
  obtain ⟨xs, n, _, _, hl, hxl, hf⟩ := DataW.trod_struct Try.underlying51 h
  rw [cellsPart] at hl
  match cs, hl with
  | [c0, c1, c2], _ =>
    match xs, hxl with
    | [y0, y1, y2], _ =>
      have h0 := hf 0 _ rfl
      have h1 := hf 1 _ rfl
      have h2 := hf 2 _ rfl
      simp [cellsInt, cellsInts] at h0 h1 h2
      obtain ⟨k, e0, _, _⟩ := DataW.trod_int Try.underlying3 h0
      obtain ⟨m, e1, _, _⟩ := DataW.trod_int Try.underlying3 h1
      obtain ⟨A, c, zs, e2, hr, hz⟩ := read_ints h2
      simp at e0 e1 e2
      subst e0; subst e1; subst e2
      exact ⟨⟨k, m, zs⟩, A, c, rfl, hr, hz⟩
set_option maxRecDepth 100000 in
theorem read_parts {fuel : Nat} {cs : List Value} {x : DataW H × List MemPlace} (h : DataW.trod enc Try.prog w base spare held fuel 26 cs = some x) :
    ∃ (ps : List Pt) (A : Option Addr) (c : Nat), cs = [.slice A ps.length c] ∧ PRow w w.heap.size A ps ∧ ps.length ≤ maxLen ∧ ∀ p ∈ ps, p.signs.length ≤ maxLen := by
  rcases open_slice Try.underlying26 h with ⟨hcs, _⟩ | ⟨a, len, cap, m, n, D, Pl, hcs, _, hl, hm, hmm, _, hi⟩
  · exact ⟨[], none, 0, hcs, PRow.nil, Nat.zero_le _, by simp⟩
  · have hlm : len ≤ m := by rw [hmm]; split <;> omega
    by_cases h0 : len = 0
    · subst h0
      exact ⟨[], some a, cap, hcs, PRow.nil, Nat.zero_le _, by simp⟩
    obtain ⟨b, off, spot⟩ := a
    have hs : spot = none := by
      obtain ⟨cs', hc, ht⟩ := hi 0 (by omega)
      obtain ⟨p, A, c, rfl, hr, hz⟩ := read_part ht
      rw [cellsPart] at hc
      obtain ⟨_, _, hcell⟩ := World.cells?_some hc
      have k0 := hcell 0 (by omega)
      simp only [List.getElem?_cons_zero] at k0
      simpa [Addr.add] using World.cell?_spot k0
    subst hs
    obtain ⟨ps, hpl, hq⟩ := choose_list (α := Pt) (Q := fun i p => b < w.heap.size ∧ PtAt w w.heap.size b (off + i * 3) p ∧ p.signs.length ≤ maxLen) len (fun i hil => by
      obtain ⟨cs', hc, ht⟩ := hi i (by omega)
      obtain ⟨p, A, c, rfl, hr, hz⟩ := read_part ht
      rw [cellsPart] at hc
      obtain ⟨_, _, hcell⟩ := World.cells?_some hc
      have k0 := hcell 0 (by omega)
      have k1 := hcell 1 (by omega)
      have k2 := hcell 2 (by omega)
      simp only [List.getElem?_cons_zero, List.getElem?_cons_succ] at k0 k1 k2
      rw [add_plain, add_plain] at k0 k1 k2
      have hb := cell_lt k0
      exact ⟨p, hb, ⟨k0, k1, A, c, k2, hr⟩, hz⟩)
    refine ⟨ps, some ⟨b, off, none⟩, cap, by rw [hcs, hpl], fun hn => ?_, by omega, fun p hp => ?_⟩
    · obtain ⟨p0, hp0⟩ : ∃ p, ps[0]? = some p := ⟨_, List.getElem?_eq_getElem hn⟩
      exact ⟨b, off, rfl, (hq 0 p0 hp0).1, fun i p hp => (hq i p hp).2.1⟩
    · obtain ⟨i, hi', rfl⟩ := List.getElem_of_mem hp
      exact (hq i _ (List.getElem?_eq_getElem hi')).2.2
end
end Go.Proofs.Ytemhhjagdfkmfaa.low
