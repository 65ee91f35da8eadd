
/-
  The builder of a normal form behind a pointer: its memory (a block of three cells: the parts so far, the characters still to be put, how many are dropped), and what becomes of it when a part is appended.
-/
import Derived.Test.YtemhhjagdfkmfaaKeeping
import Derived.OneCell
import Derived.Deep.RegionHeld3
import Derived.Deep.AppendLies
import Derived.Maps.AppendAt
import Derived.Laws.AppendOwnNone
namespace Go.Proofs.Ytemhhjagdfkmfaa.low
open Go.RowKit
set_option linter.unusedVariables false

theorem own_blk {w : World} {base n size : Nat} {v : Value} {e : TypeId} {xs : List Value} (h : w.ownsRow base e size v n xs) {k : Nat} (hk : v.ownBlock = some k) : ∃ cur, w.heap[k]? = some (.cells cur e (0, 0)) := by
  rcases h.2 with ⟨rfl, _⟩ | ⟨g, cap, cur, rfl, hge, hh, _⟩
  · simp [Value.ownBlock] at hk
  · have : g = k := by simpa [Value.ownBlock] using hk
    subst this
    exact ⟨cur, hh⟩
theorem own_far {w : World} {base n size g : Nat} {v : Value} {e T : TypeId} {xs : List Value} {cs : Array Value} {fr : Nat × Nat} (h : w.ownsRow base e size v n xs) (hg : w.heap[g]? = some (.cells cs T fr)) (hT : ¬ T = e) : ¬ v.ownBlock = some g := fun hk => by
  obtain ⟨cur, hh⟩ := own_blk h hk
  rw [hg] at hh
  injection hh with hh
  injection hh with _ ht _
  exact hT ht

/-- the builder at block g: v the parts so far, u the slice of characters to be put, d how many are dropped -/
structure Box (lo g : Nat) (T : TypeId) (w : World) (v u : Value) (d : Int) (ps : List Pt) (us : List Value) : Prop where
  box : w.heap[g]? = some (.cells #[v, u, .int .i64 d] T (0, 0))
  row : w.ownsRow lo 53 3 v ps.length (cellsOf ps us)
  len : us.length = ps.length
  low : lo ≤ g
theorem Box.cell0 {lo g : Nat} {T : TypeId} {w : World} {v u : Value} {d : Int} {ps : List Pt} {us : List Value} (h : Box lo g T w v u d ps us) : w.cell? ⟨g, 0, none⟩ = some v := cell_of_row _ _ 0 _ _ _ h.box
theorem Box.cell1 {lo g : Nat} {T : TypeId} {w : World} {v u : Value} {d : Int} {ps : List Pt} {us : List Value} (h : Box lo g T w v u d ps us) : w.cell? ⟨g, 1, none⟩ = some u := cell_of_row _ _ 1 _ _ _ h.box
theorem Box.cell2 {lo g : Nat} {T : TypeId} {w : World} {v u : Value} {d : Int} {ps : List Pt} {us : List Value} (h : Box lo g T w v u d ps us) : w.cell? ⟨g, 2, none⟩ = some (.int .i64 d) := cell_of_row _ _ 2 _ _ _ h.box
theorem Box.free {lo g : Nat} {T : TypeId} {w : World} {v u : Value} {d : Int} {ps : List Pt} {us : List Value} (h : Box lo g T w v u d ps us) (o : Nat) : w.frozen? ⟨g, o, none⟩ = false := by simp [World.frozen?, h.box]
theorem Box.lt {lo g : Nat} {T : TypeId} {w : World} {v u : Value} {d : Int} {ps : List Pt} {us : List Value} (h : Box lo g T w v u d ps us) : g < w.heap.size := lt_of_some h.box

/-- a part more: behind the making of a block of one part, the append and the store -/
theorem Box.push {lo g gg cap : Nat} {T : TypeId} {w w0 w1 : World} {v u : Value} {d : Int} {ps : List Pt} {us : List Value} {p : Pt} {u' : Value} (h : Box lo g T w v u d ps us) (hT1 : ¬ T = 3) (hT2 : ¬ T = 53)
    (ha : Apart lo w.heap.size w (ps ++ [p]) (us ++ [u'])) (h0 : Below w.heap.size w w0) 
    (hown : w1.ownsRow lo 53 3 (.slice (some ⟨gg, 0, none⟩) (ps.length + 1) cap) (ps.length + 1) (cellsOf ps us ++ [.int .i64 p.kind, .int .i64 p.n, u']))
    (hgrow : w0.grownBy w1 v.ownBlock) :
    Box lo g T (w1.setCell ⟨g, 0, none⟩ (.slice (some ⟨gg, 0, none⟩) (ps.length + 1) cap)) (.slice (some ⟨gg, 0, none⟩) (ps.length + 1) cap) u d (ps ++ [p]) (us ++ [u']) ∧
    Apart lo (w1.setCell ⟨g, 0, none⟩ (.slice (some ⟨gg, 0, none⟩) (ps.length + 1) cap)).heap.size (w1.setCell ⟨g, 0, none⟩ (.slice (some ⟨gg, 0, none⟩) (ps.length + 1) cap)) (ps ++ [p]) (us ++ [u']) ∧
    Below lo w (w1.setCell ⟨g, 0, none⟩ (.slice (some ⟨gg, 0, none⟩) (ps.length + 1) cap)) := by
  have hlt := h.lt
  have hsz : w.heap.size ≤ w1.heap.size := Nat.le_trans h0.size hgrow.size
  have hold : ∀ k, k < w.heap.size → ¬ v.ownBlock = some k → w1.heap[k]? = w.heap[k]? := fun k hk hne => by
    rw [hgrow.block k (Nat.lt_of_lt_of_le hk h0.size) (fun e => hne e.symm), h0.block k hk]
  have hg1 : w1.heap[g]? = some (.cells #[v, u, .int .i64 d] T (0, 0)) := by rw [hold g hlt (own_far h.row h.box hT2)]; exact h.box
  have hgg : ¬ (Value.slice (some ⟨gg, 0, none⟩) (ps.length + 1) cap).ownBlock = some g := own_far hown hg1 hT2
  refine ⟨⟨?_, ?_, by simp [h.len], h.low⟩, ?_, ?_⟩
  · rw [heap_setCell_same _ _ _ _ _ _ hg1]; rfl
  · rw [cellsOf_snoc _ _ _ _ h.len]
    have := ownsRow_setCell_other hown (a := ⟨g, 0, none⟩) hgg (.slice (some ⟨gg, 0, none⟩) (ps.length + 1) cap)
    simpa using this
  · refine ha.keep (by simp; exact hsz) (fun i x k hx hk1 hk2 => ?_)
    obtain ⟨q, hq⟩ := idx_some (l := ps ++ [p]) (i := i) (by rw [← ha.1]; exact idx_lt hx)
    have hox := (ha.2.1 i q x hq hx).1
    have hkg : ¬ k = g := fun e => own_far hox h.box hT1 (by rw [hk1, e])
    rw [Below.heap_setCell _ _ _ _ hkg, hold k hk2]
    intro hv
    obtain ⟨c1, e1⟩ := own_blk hox hk1
    obtain ⟨c2, e2⟩ := own_blk h.row hv
    rw [e1] at e2
    injection e2 with e2
    injection e2 with _ ht _
    exact absurd ht (by decide)
  · refine Below.setCell ?_ h.low _
    have hb : Below lo w w0 := h0.mono (Nat.le_trans h.low (Nat.le_of_lt hlt))
    exact hb.grown hgrow (Nat.le_trans (Nat.le_trans h.low (Nat.le_of_lt hlt)) h0.size) (fun k hk => own_ge h.row k hk)
end Go.Proofs.Ytemhhjagdfkmfaa.low
