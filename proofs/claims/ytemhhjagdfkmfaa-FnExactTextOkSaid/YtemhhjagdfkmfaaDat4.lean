
/-
  Data in memory: the cells of one element of an owned slice, read and written one by one.
-/
import Derived.Test.YtemhhjagdfkmfaaMk
namespace Go.Proofs.Ytemhhjagdfkmfaa.low
open Go.RowKit
set_option linter.unusedVariables false

theorem OwC.cases {w : World} {e : TypeId} {sz : Nat} {ds : List (List Dat)} {v : Value} {bs : List Nat} (h : OwC w (.rows e sz ds) v bs) : (v = .slice none 0 0 ∧ ds = [] ∧ bs = []) ∨ ∃ g cap, v = .slice (some ⟨g, 0, none⟩) ds.length cap := by
  obtain ⟨xs, cs, ho, hr, hb⟩ := h
  rcases ho.2 with ⟨rfl, h0⟩ | ⟨g, cap, cur, rfl, _⟩
  · have : ds = [] := List.eq_nil_of_length_eq_zero h0
    subst this
    obtain ⟨_, rfl⟩ := hr
    exact .inl ⟨rfl, rfl, by rw [hb]; rfl⟩
  · exact .inr ⟨g, cap, rfl⟩
theorem set_same {α : Type} {l : List α} {i : Nat} {x : α} (h : l[i]? = some x) : l.set i x = l := by
  apply List.ext_getElem?
  intro t
  rw [List.getElem?_set]
  split
  · rename_i e; subst e; rw [h]; simp [idx_lt h]
  · rfl
theorem OwC.frozen {w : World} {e : TypeId} {sz g n cap : Nat} {ds : List (List Dat)} {bs : List Nat} (h : OwC w (.rows e sz ds) (.slice (some ⟨g, 0, none⟩) n cap) bs) (o : Nat) : w.frozen? ⟨g, o, none⟩ = false := by
  obtain ⟨rfl, xs, cs, ho, hor, rfl⟩ := h.open_
  exact ho.frozenAt o
theorem OwC.head {w : World} {e : TypeId} {sz g n cap : Nat} {ds : List (List Dat)} {bs : List Nat} (h : OwC w (.rows e sz ds) (.slice (some ⟨g, 0, none⟩) n cap) bs) : g ∈ bs := by
  obtain ⟨rfl, xs, cs, ho, hor, rfl⟩ := h.open_
  simp
/-- the cell j of the element i: what it holds -/
theorem OwC.get {w : World} {e : TypeId} {sz g n cap i : Nat} {ds : List (List Dat)} {bs : List Nat} {r : List Dat} (h : OwC w (.rows e sz (ds.set i r)) (.slice (some ⟨g, 0, none⟩) n cap) bs) (hi : i < ds.length) (j : Nat) {d : Dat} (hd : r[j]? = some d) {x : Value} (hf : d.flat = some x) :
    w.cell? ⟨g, i * sz + j, none⟩ = some x := by
  obtain ⟨_, u, c, h1, h2, _⟩ := h.cell (i := i) (r := r) (by rw [List.getElem?_set_self hi]) hd
  rw [h1, (h2.flat hf).1]
/-- a number, a bool or a string is written into the cell j -/
theorem OwC.put {w : World} {e : TypeId} {sz g n cap i : Nat} {ds : List (List Dat)} {bs : List Nat} {r : List Dat} (h : OwC w (.rows e sz (ds.set i r)) (.slice (some ⟨g, 0, none⟩) n cap) bs) (hnd : bs.Nodup) (hi : i < ds.length) (j : Nat) {d : Dat} (hd : r[j]? = some d) {x : Value} (hf : d.flat = some x)
    {d' : Dat} {x' : Value} (hf' : d'.flat = some x') : OwC (w.setCell ⟨g, i * sz + j, none⟩ x') (.rows e sz (ds.set i (r.set j d'))) (.slice (some ⟨g, 0, none⟩) n cap) bs := by
  obtain ⟨_, u, c, h1, h2, _, _, _, h3⟩ := h.cell (i := i) (r := r) (by rw [List.getElem?_set_self hi]) hd
  have := h3 hnd d' x' (by rw [hf, (h2.flat hf).1]) hf'
  rwa [List.set_set] at this
/-- what lies behind the cell j -/
theorem OwC.sub {w : World} {e : TypeId} {sz g n cap i : Nat} {ds : List (List Dat)} {bs : List Nat} {r : List Dat} (h : OwC w (.rows e sz (ds.set i r)) (.slice (some ⟨g, 0, none⟩) n cap) bs) (hnd : bs.Nodup) (hi : i < ds.length) (j : Nat) {d : Dat} (hd : r[j]? = some d) :
    ∃ u c, w.cell? ⟨g, i * sz + j, none⟩ = some u ∧ OwC w d u c ∧ c.Nodup ∧ (∀ b ∈ c, b ∈ bs) ∧ g ∉ c ∧ ∀ (w' : World) (d' : Dat), OwC w' d' u c → Touch (fun b => b ∈ c) w w' → OwC w' (.rows e sz (ds.set i (r.set j d'))) (.slice (some ⟨g, 0, none⟩) n cap) bs := by
  obtain ⟨_, u, c, h1, h2, h3, h4, h5, _⟩ := h.cell (i := i) (r := r) (by rw [List.getElem?_set_self hi]) hd
  refine ⟨u, c, h1, h2, (h3 hnd).1, h4, (h3 hnd).2, fun w' d' hd' ht => ?_⟩
  have := h5 hnd w' d' hd' ht
  rwa [List.set_set] at this
theorem cell_set {w : World} {g a o : Nat} {x u : Value} (h : w.cell? ⟨g, o, none⟩ = some u) (hne : ¬ a = o) : (w.setCell ⟨g, a, none⟩ x).cell? ⟨g, o, none⟩ = some u := by
  rw [← h]
  exact World.cell?_setCell_other _ _ _ _ (fun e => hne (by injection e))
theorem touch_set {T : Nat → Prop} {w w' : World} (h : Touch T w w') {g o : Nat} (hg : T g) (x : Value) : Touch T w (w'.setCell ⟨g, o, none⟩ x) := h.setCell (p := ⟨g, o, none⟩) hg x
end Go.Proofs.Ytemhhjagdfkmfaa.low
