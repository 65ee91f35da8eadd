
/-
  Data in memory: an element of an owned slice, taken out and put back; a cell of it written; what lies behind it changed.
-/
import Derived.Test.YtemhhjagdfkmfaaDat
namespace Go.Proofs.Ytemhhjagdfkmfaa.low
open Go.RowKit
set_option linter.unusedVariables false

theorem OwR.len {w : World} {sz : Nat} : ∀ {rs : List (List Dat)} {xs : List Value} {bs : List Nat}, OwR w sz rs xs bs → xs.length = rs.length * sz
  | [], xs, bs, h => by obtain ⟨h, _⟩ := h; subst h; simp
  | r :: rs, xs, bs, h => by
    obtain ⟨y, ys, b, b', hx, hl, hb, h1, h2⟩ := h
    have := OwR.len h2
    rw [hx, List.length_append, hl, this, List.length_cons, Nat.add_mul]
    omega
theorem OwR.append {w : World} {sz : Nat} : ∀ {rs : List (List Dat)} {xs : List Value} {bs : List Nat} {rs' : List (List Dat)} {xs' : List Value} {bs' : List Nat}, OwR w sz rs xs bs → OwR w sz rs' xs' bs' → OwR w sz (rs ++ rs') (xs ++ xs') (bs ++ bs')
  | [], xs, bs, rs', xs', bs', h, h' => by obtain ⟨h1, h2⟩ := h; subst h1; subst h2; simpa using h'
  | r :: rs, xs, bs, rs', xs', bs', h, h' => by
    obtain ⟨y, ys, b, b', hx, hl, hb, h1, h2⟩ := h
    exact ⟨y, ys ++ xs', b, b' ++ bs', by rw [hx, List.append_assoc], hl, by rw [hb, List.append_assoc], h1, OwR.append h2 h'⟩
theorem OwR.one {w : World} {sz : Nat} {r : List Dat} {y : List Value} {b : List Nat} (h : OwL w r y b) (hl : y.length = sz) : OwR w sz [r] y b := ⟨y, [], b, [], by simp, hl, by simp, h, rfl, rfl⟩
/-- the i-th row, taken out -/
theorem OwR.split {w : World} {sz : Nat} : ∀ {rs : List (List Dat)} {xs : List Value} {bs : List Nat} {i : Nat} {r : List Dat}, OwR w sz rs xs bs → rs[i]? = some r →
    ∃ xs1 y xs2 b1 b b2, xs = xs1 ++ (y ++ xs2) ∧ bs = b1 ++ (b ++ b2) ∧ xs1.length = i * sz ∧ y.length = sz ∧ OwR w sz (rs.take i) xs1 b1 ∧ OwL w r y b ∧ OwR w sz (rs.drop (i + 1)) xs2 b2
  | [], _, _, _, _, _, h => by simp at h
  | q :: rs, xs, bs, 0, r, h, hr => by
    simp at hr
    subst hr
    obtain ⟨y, ys, b, b', hx, hl, hb, h1, h2⟩ := h
    exact ⟨[], y, ys, [], b, b', by simpa using hx, by simpa using hb, by simp, hl, ⟨rfl, rfl⟩, h1, by simpa using h2⟩
  | q :: rs, xs, bs, i + 1, r, h, hr => by
    obtain ⟨y, ys, b, b', hx, hl, hb, h1, h2⟩ := h
    obtain ⟨xs1, z, xs2, c1, c, c2, e1, e2, e3, e4, k1, k2, k3⟩ := OwR.split h2 (by simpa using hr)
    refine ⟨y ++ xs1, z, xs2, b ++ c1, c, c2, by rw [hx, e1, List.append_assoc], by rw [hb, e2, List.append_assoc], by rw [List.length_append, hl, e3, Nat.add_mul]; omega, e4, ⟨y, xs1, b, c1, rfl, hl, rfl, h1, by simpa using k1⟩, k2, by simpa using k3⟩
theorem set_eq {α : Type} {l : List α} {i : Nat} (h : i < l.length) (a : α) : l.set i a = l.take i ++ ([a] ++ l.drop (i + 1)) := by
  rw [List.set_eq_take_append_cons_drop, if_pos h]
  rfl

/-- the cells of a row, one taken out -/
theorem OwL.split {w : World} : ∀ {ds : List Dat} {xs : List Value} {bs : List Nat} {j : Nat} {d : Dat}, OwL w ds xs bs → ds[j]? = some d →
    ∃ u c1 c c2, xs[j]? = some u ∧ bs = c1 ++ (c ++ c2) ∧ OwC w d u c ∧ (∀ (w' : World) (d' : Dat) (u' : Value) (c' : List Nat), OwC w' d' u' c' → (∀ b ∈ c1 ++ c2, w'.heap[b]? = w.heap[b]?) → OwL w' (ds.set j d') (xs.set j u') (c1 ++ (c' ++ c2)))
  | [], _, _, _, _, _, h => by simp at h
  | q :: ds, xs, bs, 0, d, h, hd => by
    simp at hd
    subst hd
    obtain ⟨x, xs', b, b', hx, hb, h1, h2⟩ := h
    refine ⟨x, [], b, b', by rw [hx]; rfl, by simpa using hb, h1, fun w' d' u' c' hc hk => ?_⟩
    exact ⟨u', xs', c', b', by rw [hx]; rfl, by simp, hc, OwL.keep ds xs' b' h2 (fun b hb' => hk b (by simpa using hb'))⟩
  | q :: ds, xs, bs, j + 1, d, h, hd => by
    obtain ⟨x, xs', b, b', hx, hb, h1, h2⟩ := h
    obtain ⟨u, c1, c, c2, e1, e2, k1, k2⟩ := OwL.split h2 (by simpa using hd)
    refine ⟨u, b ++ c1, c, c2, by rw [hx]; simpa using e1, by rw [hb, e2, List.append_assoc], k1, fun w' d' u' c' hc hk => ?_⟩
    refine ⟨x, xs'.set j u', b, c1 ++ (c' ++ c2), by rw [hx]; rfl, by rw [List.append_assoc], OwC.keep q x b h1 (fun p hp => hk p (by simp [hp])), k2 w' d' u' c' hc (fun p hp => hk p ?_)⟩
    rcases List.mem_append.1 hp with hp | hp <;> simp [hp]

theorem own_seg {w : World} {e : TypeId} {size n : Nat} {v : Value} {xs1 y xs2 : List Value} {i : Nat} (h : w.ownsRow 0 e size v n (xs1 ++ (y ++ xs2))) (hl : xs1.length = i * size) (j : Nat) (u : Value) : (xs1 ++ (y ++ xs2)).set (i * size + j) u = xs1 ++ ((y ++ xs2).set j u) := by
  rw [← hl, List.set_append_right _ _ (by omega)]
  simp

/-- an owned slice that is not nil: its block, and its rows -/
theorem OwC.open_ {w : World} {e : TypeId} {sz g n cap : Nat} {ds : List (List Dat)} {bs : List Nat} (h : OwC w (.rows e sz ds) (.slice (some ⟨g, 0, none⟩) n cap) bs) :
    n = ds.length ∧ ∃ xs cs, w.ownsRow 0 e sz (.slice (some ⟨g, 0, none⟩) ds.length cap) ds.length xs ∧ OwR w sz ds xs cs ∧ bs = g :: cs := by
  obtain ⟨xs, cs, ho, hr, hb⟩ := h
  have hn : n = ds.length := by
    rcases ho.2 with ⟨h, _⟩ | ⟨g', cap', cur, hv, _⟩
    · cases h
    · injection hv
  subst hn
  exact ⟨rfl, xs, cs, ho, hr, by rw [hb]; rfl⟩
theorem OwC.shut {w : World} {e : TypeId} {sz g cap : Nat} {ds : List (List Dat)} {xs : List Value} {cs : List Nat} (ho : w.ownsRow 0 e sz (.slice (some ⟨g, 0, none⟩) ds.length cap) ds.length xs) (hr : OwR w sz ds xs cs) : OwC w (.rows e sz ds) (.slice (some ⟨g, 0, none⟩) ds.length cap) (g :: cs) := ⟨xs, cs, ho, hr, rfl⟩

/-- a number, a bool or a string -/
def Dat.flat : Dat → Option Value
  | .int n => some (.int .i64 n)
  | .bool b => some (.bool b)
  | .str s => some (.string s)
  | .rows _ _ _ => none
theorem OwC.flat {w : World} {d : Dat} {u v : Value} {bs : List Nat} (h : OwC w d v bs) (hf : d.flat = some u) : v = u ∧ bs = [] := by
  cases d with
  | int n => obtain ⟨h1, h2⟩ := h; injection hf with hf; exact ⟨h1.trans hf, h2⟩
  | bool n => obtain ⟨h1, h2⟩ := h; injection hf with hf; exact ⟨h1.trans hf, h2⟩
  | str n => obtain ⟨h1, h2⟩ := h; injection hf with hf; exact ⟨h1.trans hf, h2⟩
  | rows => cases hf
theorem OwC.of_flat {w : World} {d : Dat} {u : Value} (hf : d.flat = some u) : OwC w d u [] := by
  cases d with
  | int n => injection hf with hf; exact ⟨hf.symm, rfl⟩
  | bool n => injection hf with hf; exact ⟨hf.symm, rfl⟩
  | str n => injection hf with hf; exact ⟨hf.symm, rfl⟩
  | rows => cases hf

/-- the cell j of the element i of an owned slice -/
theorem OwC.cell {w : World} {e : TypeId} {sz g n cap i j : Nat} {ds : List (List Dat)} {bs : List Nat} {r : List Dat} {d : Dat} (h : OwC w (.rows e sz ds) (.slice (some ⟨g, 0, none⟩) n cap) bs) (hr : ds[i]? = some r) (hd : r[j]? = some d) :
    (∀ o, w.frozen? ⟨g, o, none⟩ = false) ∧ ∃ u c, w.cell? ⟨g, i * sz + j, none⟩ = some u ∧ OwC w d u c ∧ (bs.Nodup → c.Nodup ∧ g ∉ c) ∧ (∀ b ∈ c, b ∈ bs) ∧
    (bs.Nodup → ∀ (w' : World) (d' : Dat), OwC w' d' u c → Touch (fun b => b ∈ c) w w' → OwC w' (.rows e sz (ds.set i (r.set j d'))) (.slice (some ⟨g, 0, none⟩) n cap) bs) ∧
    (bs.Nodup → ∀ (d' : Dat) (x' : Value), d.flat = some u → d'.flat = some x' → OwC (w.setCell ⟨g, i * sz + j, none⟩ x') (.rows e sz (ds.set i (r.set j d'))) (.slice (some ⟨g, 0, none⟩) n cap) bs) := by
  obtain ⟨rfl, xs, cs, ho, hor, rfl⟩ := h.open_
  obtain ⟨xs1, y, xs2, b1, b, b2, e1, e2, e3, e4, k1, k2, k3⟩ := hor.split hr
  obtain ⟨u, c1, c, c2, f1, f2, l1, l2⟩ := k2.split hd
  have hi := idx_lt hr
  have hj : j < y.length := idx_lt f1
  have hcell : xs[i * sz + j]? = some u := by
    rw [e1, ← e3, List.getElem?_append_right (by omega)]
    simp only [Nat.add_sub_cancel_left]
    rw [List.getElem?_append_left hj]
    exact f1
  refine ⟨fun o => ho.frozenAt o, u, c, own_cells ho _ _ hcell, l1, fun hnd => ?_, fun q hq => by rw [e2, f2]; simp [hq], fun hnd w' d' hd' ht => ?_, fun hnd d' x' hf hf' => ?_⟩
  · rw [e2, f2] at hnd
    have h1 := List.nodup_cons.1 hnd
    refine ⟨?_, fun hg => h1.1 (by simp [hg])⟩
    have h2 := (List.nodup_append.1 h1.2).2.1
    have h3 := (List.nodup_append.1 h2).1
    have h4 := (List.nodup_append.1 h3).2.1
    exact (List.nodup_append.1 h4).1
  · rw [e2, f2] at hnd
    have h1 := List.nodup_cons.1 hnd
    have a2 := List.nodup_append.1 h1.2
    have a3 := List.nodup_append.1 a2.2.1
    have a4 := List.nodup_append.1 a3.1
    have a5 := List.nodup_append.1 a4.2.1
    have hsame : (ds.set i (r.set j d')).length = ds.length := by rw [List.length_set]
    have ho' : w'.ownsRow 0 e sz (.slice (some ⟨g, 0, none⟩) ds.length cap) ds.length xs := own_touch ho ht (fun k hk hc => by
      have : g = k := by simpa [Value.ownBlock] using hk
      subst this
      exact h1.1 (by simp [hc]))
    have hk1 := OwR.keep sz _ xs1 b1 k1 (w' := w') (fun q hq => ht.block q (fun hc => a2.2.2 q hq q (by simp [hc]) rfl))
    have hk3 := OwR.keep sz _ xs2 b2 k3 (w' := w') (fun q hq => ht.block q (fun hc => a3.2.2 q (by simp [hc]) q hq rfl))
    have hk2 := l2 w' d' u c hd' (fun q hq => ht.block q (fun hc => by
      rcases List.mem_append.1 hq with hq | hq
      · exact a4.2.2 q hq q (by simp [hc]) rfl
      · exact a5.2.2 q hc q hq rfl))
    have hyu : y.set j u = y := by
      apply List.ext_getElem?
      intro t
      rw [List.getElem?_set]
      split
      · rename_i h; subst h; simp [f1]
      · rfl
    rw [hyu] at hk2
    have hall := hk1.append ((OwR.one hk2 e4).append hk3)
    rw [← set_eq hi, ← e1] at hall
    rw [← hsame] at ho' ⊢
    have := OwC.shut ho' hall
    rw [e2, f2]
    simpa using this
  · obtain ⟨_, rfl⟩ := l1.flat hf
    have hsame : (ds.set i (r.set j d')).length = ds.length := by rw [List.length_set]
    have ho' := (ho.stored (i * sz + j) x').1
    have h1 := (List.nodup_cons.1 hnd).1
    have hbb : ∀ q, q ∈ cs → (w.setCell ⟨g, i * sz + j, none⟩ x').heap[q]? = w.heap[q]? := fun q hq => Below.heap_setCell _ _ _ _ (fun e => h1 (by have e' : q = g := e; rw [← e']; exact hq))
    have hk1 := OwR.keep sz _ xs1 b1 k1 (fun q hq => hbb q (by rw [e2]; simp [hq]))
    have hk3 := OwR.keep sz _ xs2 b2 k3 (fun q hq => hbb q (by rw [e2]; simp [hq]))
    have hk2 := l2 (w.setCell ⟨g, i * sz + j, none⟩ x') d' x' [] (OwC.of_flat hf') (fun q hq => hbb q (by
      rw [e2, f2]
      rcases List.mem_append.1 hq with hq | hq <;> simp [hq]))
    have hall := hk1.append ((OwR.one hk2 (by rw [List.length_set]; exact e4)).append hk3)
    rw [← set_eq hi] at hall
    have ex : xs.set (i * sz + j) x' = xs1 ++ (y.set j x' ++ xs2) := by
      rw [e1, ← e3, List.set_append_right _ _ (by omega)]
      simp only [Nat.add_sub_cancel_left]
      rw [List.set_append_left _ _ hj]
    rw [← ex] at hall
    rw [← hsame] at ho' ⊢
    have := OwC.shut ho' hall
    rw [e2, f2]
    simpa using this
end Go.Proofs.Ytemhhjagdfkmfaa.low
