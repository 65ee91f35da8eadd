
/-
  Words for memory: a row of numbers of the caller's own.
-/
import Derived.Test.YtemhhjagdfkmfaaSignsOk
import Derived.Lib.OthersKept
import Derived.WalkSmall
namespace Go.Proofs.Ytemhhjagdfkmfaa.low
open Go.RowKit
set_option linter.unusedVariables false

theorem lt_of_some {w : World} {g : Nat} {o : Obj} (h : w.heap[g]? = some o) : g < w.heap.size := by
  rcases Nat.lt_or_ge g w.heap.size with hlt | hge
  · exact hlt
  · rw [Array.getElem?_eq_none hge] at h; cases h
/-- v is a row of numbers of the caller's own -/
def IBuf (base : Nat) (w : World) (v : Value) (zs : List Int) : Prop := w.ownsRow base 3 1 v zs.length (zs.map (Value.int .i64)) ∧ base ≤ w.heap.size
theorem IBuf.alloc {base : Nat} {w : World} {v : Value} {bs : List Int} (h : IBuf base w v bs) (o : Obj) : IBuf base (w.alloc o) v bs := ⟨h.1.alloc o, by have := h.2; simp; omega⟩
theorem IBuf.nil (base : Nat) (w : World) (h : base ≤ w.heap.size) : IBuf base w (.slice none 0 0) [] := ⟨World.ownsRow_nil _ _ _ _, h⟩
theorem IBuf.slice {base : Nat} {w : World} {v : Value} {zs : List Int} (h : IBuf base w v zs) : ∃ A c, v = .slice A zs.length c ∧ Row (Value.int .i64) w w.heap.size A zs := by
  rcases h.1.2 with ⟨rfl, h0⟩ | ⟨g, cap, cur, rfl, _⟩
  · have : zs = [] := List.eq_nil_of_length_eq_zero h0
    subst this
    exact ⟨none, 0, rfl, Row.nil⟩
  · exact ⟨_, cap, rfl, Row.of_own h.1⟩
theorem IBuf.own {base : Nat} {w : World} {v : Value} {zs : List Int} (h : IBuf base w v zs) : ∀ k, v.ownBlock = some k → base ≤ k := by
  intro k hk
  rcases h.1.2 with ⟨rfl, _⟩ | ⟨g, cap, cur, rfl, hge, _⟩
  · simp [Value.ownBlock] at hk
  · simp [Value.ownBlock] at hk; omega
theorem IBuf.lower {base base' : Nat} {w : World} {v : Value} {zs : List Int} (h : IBuf base w v zs) (hb : base' ≤ base) : IBuf base' w v zs := by
  refine ⟨⟨h.1.1, ?_⟩, Nat.le_trans hb h.2⟩
  rcases h.1.2 with hn | ⟨g, cap, cur, hv, hge, hr⟩
  · exact .inl hn
  · exact .inr ⟨g, cap, cur, hv, Nat.le_trans hb hge, hr⟩
/-- behind a call that left all old blocks alone -/
theorem IBuf.past {base : Nat} {w w' : World} {v : Value} {zs : List Int} (h : IBuf base w v zs) (hb : Below w.heap.size w w') : IBuf base w' v zs := by
  refine ⟨⟨h.1.1, ?_⟩, Nat.le_trans h.2 hb.size⟩
  rcases h.1.2 with hn | ⟨g, cap, cur, hv, hge, hh, hr⟩
  · exact .inl hn
  · have hlt : g < w.heap.size := by
      rcases Nat.lt_or_ge g w.heap.size with hlt | hge
      · exact hlt
      · rw [Array.getElem?_eq_none hge] at hh; cases hh
    exact .inr ⟨g, cap, cur, hv, hge, (hb.block g hlt).trans hh, hr⟩
/-- the row behind an append of one number -/
theorem ibuf_of {base : Nat} {w w' : World} {v v' : Value} {bs : List Int} {z : Int} {xs : List Value} (hx : xs = [z].map (Value.int .i64))
    (ho : w'.ownsRow base 3 1 v' (bs.length + 1) (bs.map (Value.int .i64) ++ xs)) (hg : w.grownBy w' v.ownBlock) (hb : IBuf base w v bs) : IBuf base w' v' (bs ++ [z]) := by
  subst hx
  exact ⟨by simpa using ho, Nat.le_trans hb.2 hg.size⟩
theorem IBuf.iterAt {base k : Nat} {w : World} {v : Value} {zs : List Int} {s : ByteArray} (h : IBuf base w v zs) (hk : k < base) (pos : Nat) : IBuf base (w.iterAt k s pos) v zs := by
  refine ⟨⟨h.1.1, ?_⟩, by rw [Lib.iterAt_size]; exact h.2⟩
  rcases h.1.2 with hn | ⟨g, cap, cur, hv, hge, hh, hr⟩
  · exact .inl hn
  · exact .inr ⟨g, cap, cur, hv, hge, (Lib.iterAt_other w k g s pos (by omega)).trans hh, hr⟩
end Go.Proofs.Ytemhhjagdfkmfaa.low
