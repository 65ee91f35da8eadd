
/-
  A law's arguments opened, in the words of data: a slice of numbers, of parts, a list of slices of parts.
-/
import Derived.Test.YtemhhjagdfkmfaaOpenPart
import Derived.Test.YtemhhjagdfkmfaaHelpPP
namespace Go.Proofs.Ytemhhjagdfkmfaa.low
open Go.RowKit Go.ChangeShapes Go.WideShapes Go.Deep
set_option linter.unusedVariables false
section
variable {H : Type} {enc : TypeId × Value → H} {w : World} {base : Nat} {spare : Nat → Bool} {held : Bool}
theorem add_zero (p : Addr) : p.add 0 = p := by unfold Addr.add; simp
theorem open_dints {fuel : Nat} {cs : List Value} {x : DataW H × List MemPlace} (h : DataW.trod enc Try.prog w base spare held fuel 22 cs = some x) :
    ∃ A c, ∃ zs : List Int, cs = [.slice A zs.length c] ∧ RdC w w.heap.size (encInts zs) (.slice A zs.length c) ∧ zs.length ≤ maxLen := by
  have h' := h
  obtain ⟨A, c, zs, e, hr, hl⟩ := read_ints h
  refine ⟨A, c, zs, e, rd_ints hr ?_, hl⟩
  rcases open_slice Try.underlying22 h' with ⟨hcs, _⟩ | ⟨a, len, cap, m, n, D, Pl, hcs, _, hl', _⟩
  · rw [hcs] at e
    simp at e
    omega
  · rw [hcs] at e
    simp at e
    omega
set_option maxRecDepth 100000 in
theorem open_dpart {fuel : Nat} {cs : List Value} {x : DataW H × List MemPlace} (h : DataW.trod enc Try.prog w base spare held fuel 51 cs = some x) :
    ∃ (p : Pt) (v : Value), cs = [.int .i64 p.kind, .int .i64 p.n, v] ∧ RdC w w.heap.size (encInts p.signs) v ∧ p.signs.length ≤ maxLen := by
  obtain ⟨xs, n, _, _, hl, hxl, hf⟩ := DataW.trod_struct Try.underlying51 h
  rw [cellsPart] at hl
  match cs, hl with
  | [c0, c1, c2], _ =>
    match xs, hxl with
    | [y0, y1, y2], _ =>
      have h0 := hf 0 _ rfl
      have h1 := hf 1 _ rfl
      have h2 := hf 2 _ rfl
      simp [cellsInt, cellsInts] at h0 h1 h2
      obtain ⟨k, e0, _, _⟩ := DataW.trod_int Try.underlying3 h0
      obtain ⟨m, e1, _, _⟩ := DataW.trod_int Try.underlying3 h1
      obtain ⟨A, c, zs, e2, hr, hz⟩ := open_dints h2
      simp at e0 e1 e2
      subst e0; subst e1; subst e2
      exact ⟨⟨k, m, zs⟩, _, rfl, hr, hz⟩
/-- a slice whose elements are read one by one -/
theorem open_rows {α : Type} {f : α → List Dat} {P : α → Prop} {sz : Nat} {e : TypeId} {a : Addr} {len cap : Nat} (hc : len ≤ cap) (hs : sz = 1 ∨ 0 < len → a.spot = none ∨ sz = 1)
    (hi : ∀ i, i < len → ∃ x, a.block < w.heap.size ∧ RdL w w.heap.size a (i * sz) (f x) ∧ P x) :
    ∃ l : List α, l.length = len ∧ RdC w w.heap.size (.rows e sz (l.map f)) (.slice (some a) len cap) ∧ ∀ x ∈ l, P x := by
  obtain ⟨l, hl, hq⟩ := choose_list (α := α) (Q := fun i x => a.block < w.heap.size ∧ RdL w w.heap.size a (i * sz) (f x) ∧ P x) len hi
  refine ⟨l, hl, ⟨some a, cap, by simp [hl], by simpa [hl] using hc, fun hn => ?_⟩, fun x hx => ?_⟩
  · have hn' : 0 < l.length := by simpa using hn
    obtain ⟨x0, hx0⟩ : ∃ x, l[0]? = some x := ⟨_, List.getElem?_eq_getElem hn'⟩
    refine ⟨a, rfl, (hq 0 x0 hx0).1, ?_, rdR_of f l 0 (fun i x hx => by rw [Nat.zero_add]; exact (hq i x hx).2.1)⟩
    rcases hs (.inr (by omega)) with h | h
    · exact .inr h
    · exact .inl h
  · obtain ⟨i, hi', rfl⟩ := List.getElem_of_mem hx
    exact (hq i _ (List.getElem?_eq_getElem hi')).2.2
set_option maxRecDepth 100000 in
theorem open_dparts {fuel : Nat} {cs : List Value} {x : DataW H × List MemPlace} (h : DataW.trod enc Try.prog w base spare held fuel 26 cs = some x) :
    ∃ (ps : List Pt) (A : Option Addr) (c : Nat), cs = [.slice A ps.length c] ∧ RdC w w.heap.size (encPs ps) (.slice A ps.length c) ∧ ps.length ≤ maxLen ∧ ∀ p ∈ ps, p.signs.length ≤ maxLen := by
  rcases open_slice Try.underlying26 h with ⟨hcs, _⟩ | ⟨a, len, cap, m, n, D, Pl, hcs, _, hl, hm, hmm, _, hi⟩
  · exact ⟨[], none, 0, hcs, ⟨none, 0, rfl, Nat.le_refl _, fun hn => absurd hn (by simp)⟩, Nat.zero_le _, by simp⟩
  · have hlm : len ≤ m := by rw [hmm]; split <;> omega
    have hrow : ∀ i, i < len → ∃ p : Pt, a.block < w.heap.size ∧ (0 < len → a.spot = none) ∧ RdL w w.heap.size a (i * 3) (encPt p) ∧ p.signs.length ≤ maxLen := fun i hil => by
      have hs : a.spot = none := by
        obtain ⟨cs', hc, ht⟩ := hi 0 (by omega)
        obtain ⟨p, v, rfl, _⟩ := open_dpart ht
        rw [cellsPart] at hc
        obtain ⟨_, _, hcell⟩ := World.cells?_some hc
        have k0 := hcell 0 (by omega)
        simp only [List.getElem?_cons_zero] at k0
        simpa [Addr.add] using World.cell?_spot k0
      obtain ⟨b, off, spot⟩ := a
      simp only at hs
      subst hs
      obtain ⟨cs', hc, ht⟩ := hi i (by omega)
      obtain ⟨p, v, rfl, hr, hz⟩ := open_dpart ht
      rw [cellsPart] at hc
      obtain ⟨_, _, hcell⟩ := World.cells?_some hc
      have k0 := hcell 0 (by omega)
      have k1 := hcell 1 (by omega)
      have k2 := hcell 2 (by omega)
      simp only [List.getElem?_cons_zero, List.getElem?_cons_succ] at k0 k1 k2
      rw [add_at, add_at] at k0 k1 k2
      have hb := cell_lt k0
      refine ⟨p, hb, fun _ => rfl, ⟨⟨_, ?_, rfl⟩, ⟨_, ?_, rfl⟩, ⟨v, ?_, hr⟩, trivial⟩, hz⟩
      · rw [add_at]; exact k0
      · rw [add_at]; exact k1
      · rw [add_at]; exact k2
    obtain ⟨ps, e1, e2, e3⟩ := open_rows (α := Pt) (f := encPt) (P := fun p => p.signs.length ≤ maxLen ∧ (0 < len → a.spot = none)) (sz := 3) (e := 53) (w := w) (a := a) hl (fun hd => by
      rcases hd with hd | hd
      · cases hd
      · obtain ⟨p, _, hs, _⟩ := hrow 0 hd
        exact .inl (hs hd)) (fun i hil => by
      obtain ⟨p, h1, h2, h3, h4⟩ := hrow i hil
      exact ⟨p, h1, h3, h4, h2⟩)
    subst e1
    exact ⟨ps, some a, cap, hcs, e2, by omega, fun p hp => (e3 p hp).1⟩
theorem cellsParts : Try.prog.cellsOf 26 = 1 := by kernel_rfl
set_option maxRecDepth 100000 in
theorem open_dpss {fuel : Nat} {cs : List Value} {x : DataW H × List MemPlace} (h : DataW.trod enc Try.prog w base spare held fuel 39 cs = some x) :
    ∃ (l : List (List Pt)) (A : Option Addr) (c : Nat), cs = [.slice A l.length c] ∧ RdC w w.heap.size (encPss l) (.slice A l.length c) ∧ l.length ≤ maxLen ∧ ∀ ps ∈ l, ps.length ≤ maxLen ∧ ∀ p ∈ ps, p.signs.length ≤ maxLen := by
  rcases open_slice Try.underlying39 h with ⟨hcs, _⟩ | ⟨a, len, cap, m, n, D, Pl, hcs, _, hl, hm, hmm, _, hi⟩
  · exact ⟨[], none, 0, hcs, ⟨none, 0, rfl, Nat.le_refl _, fun hn => absurd hn (by simp)⟩, Nat.zero_le _, by simp⟩
  · have hlm : len ≤ m := by rw [hmm]; split <;> omega
    obtain ⟨l, e1, e2, e3⟩ := open_rows (α := List Pt) (f := fun ps => [encPs ps]) (P := fun ps => ps.length ≤ maxLen ∧ ∀ p ∈ ps, p.signs.length ≤ maxLen) (sz := 1) (e := 30) (w := w) (a := a) hl (fun _ => .inr rfl) (fun i hil => by
      obtain ⟨cs', hc, ht⟩ := hi i (by omega)
      obtain ⟨ps, A, c, rfl, hr, hz, hz2⟩ := open_dparts ht
      rw [cellsParts] at hc
      obtain ⟨_, _, hcell⟩ := World.cells?_some hc
      have k0 := hcell 0 (by omega)
      simp only [List.getElem?_cons_zero] at k0
      rw [add_zero] at k0
      have hb := cell_lt k0
      rw [block_of_add] at hb
      exact ⟨ps, hb, ⟨⟨_, k0, hr⟩, trivial⟩, hz, hz2⟩)
    subst e1
    exact ⟨l, some a, cap, hcs, e2, by omega, e3⟩
end
end Go.Proofs.Ytemhhjagdfkmfaa.low
