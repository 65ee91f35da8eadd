
/-
  Contracts of the laws' own toPart and toPartS: a copy of a part, of a slice of parts.
-/
import Derived.Test.YtemhhjagdfkmfaaPart
namespace Go.Proofs.Ytemhhjagdfkmfaa.low
open Go.RowKit
set_option linter.unusedVariables false

theorem three_new (w : World) (o0 o1 o2 : Obj) : ∃ W, W = ((w.alloc o0).alloc o1).alloc o2 ∧ Below w.heap.size w W ∧ W.heap.size = w.heap.size + 3 ∧ W.heap[w.heap.size + 1]? = some o1 ∧ W.heap[w.heap.size + 1 + 1]? = some o2 := by
  have s1 : (w.alloc o0).heap.size = w.heap.size + 1 := Array.size_push ..
  have s2 : ((w.alloc o0).alloc o1).heap.size = w.heap.size + 1 + 1 := by rw [← s1]; exact Array.size_push ..
  refine ⟨_, rfl, (((Below.refl _ _).alloc (Nat.le_refl _) _).alloc (by omega) _).alloc (by omega) _, ?_, ?_, ?_⟩
  · have : (((w.alloc o0).alloc o1).alloc o2).heap.size = ((w.alloc o0).alloc o1).heap.size + 1 := Array.size_push ..
    omega
  · rw [Below.heap_alloc _ _ _ (by omega), ← s1]; exact heap_alloc_new _ _
  · rw [← s2]; exact heap_alloc_new _ _

theorem own_lt {w : World} {base g n cap size : Nat} {e : TypeId} {xs : List Value} (h : w.ownsRow base e size (.slice (some ⟨g, 0, none⟩) n cap) n xs) : g < w.heap.size := by
  rcases h.2 with ⟨hn, _⟩ | ⟨g', cap', cur, hv, _, hh, _⟩
  · cases hn
  · injection hv with e1 e2 e3
    injection e1 with e1
    injection e1 with e1
    subst e1
    exact lt_of_some hh
theorem own_lower {w : World} {base base' size n : Nat} {v : Value} {e : TypeId} {xs : List Value} (h : w.ownsRow base e size v n xs) (hb : base' ≤ base) : w.ownsRow base' e size v n xs := by
  refine ⟨h.1, ?_⟩
  rcases h.2 with hn | ⟨g, cap, cur, hv, hge, hr⟩
  · exact .inl hn
  · exact .inr ⟨g, cap, cur, hv, Nat.le_trans hb hge, hr⟩

/-- the part at hand is a copy whose characters lie in a row of its own -/
def PtCopied (p : Pt) (w : World) (e : Ending) (w' : World) : Prop :=
  ∃ g, e = .returned (.agg #[.int .i64 p.kind, .int .i64 p.n, .slice (some ⟨g, 0, none⟩) p.signs.length p.signs.length]) ∧ w.heap.size ≤ g ∧ g < w'.heap.size ∧
    w'.ownsRow w.heap.size 3 1 (.slice (some ⟨g, 0, none⟩) p.signs.length p.signs.length) p.signs.length (p.signs.map (Value.int .i64)) ∧ Below w.heap.size w w'

set_option maxHeartbeats 1600000 in
theorem toPart_any (p : Pt) (A : Option Addr) (c : Nat) (w : World) (hr : Row (Value.int .i64) w w.heap.size A p.signs) (hl : p.signs.length ≤ 4294967296) :
    Calls Try.prog 38 #[.agg #[.int .i64 p.kind, .int .i64 p.n, .slice A p.signs.length c]] w (PtCopied p w) := by
  obtain ⟨k, n, zs⟩ := p
  go_enter Try.func38, Try.ntmps38
  go_wp2_with fail
  obtain ⟨W, hW, hbW, hsz, B1, B2⟩ := three_new w (Obj.cells #[Value.int IntKind.i64 k, Value.int IntKind.i64 n, Value.slice A zs.length c] 51) (Obj.cells #[Value.int IntKind.i64 0, Value.int IntKind.i64 0, Value.slice none 0 0] 53)
    (Obj.cells #[Value.int IntKind.i64 k, Value.int IntKind.i64 n, Value.slice none 0 0] 53)
  rw [← hW]
  have c10 : W.cell? ⟨w.heap.size + 1, 0, none⟩ = some (.int .i64 0) := cell_of_row W _ 0 _ _ _ B1
  have c11 : W.cell? ⟨w.heap.size + 1, 1, none⟩ = some (.int .i64 0) := cell_of_row W _ 1 _ _ _ B1
  have c12 : W.cell? ⟨w.heap.size + 1, 2, none⟩ = some (.slice none 0 0) := cell_of_row W _ 2 _ _ _ B1
  have c20 : W.cell? ⟨w.heap.size + 1 + 1, 0, none⟩ = some (.int .i64 k) := cell_of_row W _ 0 _ _ _ B2
  have c21 : W.cell? ⟨w.heap.size + 1 + 1, 1, none⟩ = some (.int .i64 n) := cell_of_row W _ 1 _ _ _ B2
  have c22 : W.cell? ⟨w.heap.size + 1 + 1, 2, none⟩ = some (.slice none 0 0) := cell_of_row W _ 2 _ _ _ B2
  have f1 : ∀ o, W.frozen? ⟨w.heap.size + 1, o, none⟩ = false := fun o => by simp [World.frozen?, B1]
  have f2 : ∀ o, W.frozen? ⟨w.heap.size + 1 + 1, o, none⟩ = false := fun o => by simp [World.frozen?, B2]
  clear B1 B2
  clear hW
  refine (toIntS_own A c zs W (hr.past hbW) hl).mono ?_
  rintro e w1 ⟨rfl, ho, b1⟩
  have d10 := (b1.cell (p := ⟨w.heap.size + 1, 0, none⟩) (by simp only; omega)).trans c10
  have d11 := (b1.cell (p := ⟨w.heap.size + 1, 1, none⟩) (by simp only; omega)).trans c11
  have d12 := (b1.cell (p := ⟨w.heap.size + 1, 2, none⟩) (by simp only; omega)).trans c12
  have d20 := (b1.cell (p := ⟨w.heap.size + 1 + 1, 0, none⟩) (by simp only; omega)).trans c20
  have d21 := (b1.cell (p := ⟨w.heap.size + 1 + 1, 1, none⟩) (by simp only; omega)).trans c21
  have d22 := (b1.cell (p := ⟨w.heap.size + 1 + 1, 2, none⟩) (by simp only; omega)).trans c22
  have e10 := (b1.frozen (p := ⟨w.heap.size + 1, 0, none⟩) (by simp only; omega)).trans (f1 0)
  have e11 := (b1.frozen (p := ⟨w.heap.size + 1, 1, none⟩) (by simp only; omega)).trans (f1 1)
  have e12 := (b1.frozen (p := ⟨w.heap.size + 1, 2, none⟩) (by simp only; omega)).trans (f1 2)
  have e22 := (b1.frozen (p := ⟨w.heap.size + 1 + 1, 2, none⟩) (by simp only; omega)).trans (f2 2)
  clear c10 c11 c12 c20 c21 c22 f1 f2
  have HSZ := Lib.hid hsz
  clear hsz
  have HO := Lib.hid ho
  clear ho
  go_wp2
  have B1 : ∀ u, w.heap.size ≤ (⟨w.heap.size + 1, u, none⟩ : Addr).block := fun _ => by simp only; omega
  refine bodyPost_ret (v := .agg #[.int .i64 k, .int .i64 n, .slice (some ⟨W.heap.size, 0, none⟩) zs.length zs.length]) (by simp [results, Try.results38, go_sem, d10, d11, d12]) rfl ⟨W.heap.size, rfl, hbW.size, ?_, ?_, ?_⟩
  · have := own_lt HO.out
    simp [World.setCell]
    exact this
  · have h1 := ownsRow_setCell_below HO.out (a := ⟨w.heap.size + 1 + 1, 2, none⟩) (by have := HSZ.out; simp only; omega) (.slice (some ⟨W.heap.size, 0, none⟩) zs.length zs.length)
    have h2 := ownsRow_setCell_below h1 (a := ⟨w.heap.size + 1, 0, none⟩) (by have := HSZ.out; simp only; omega) (.int .i64 k)
    have h3 := ownsRow_setCell_below h2 (a := ⟨w.heap.size + 1, 1, none⟩) (by have := HSZ.out; simp only; omega) (.int .i64 n)
    have h4 := ownsRow_setCell_below h3 (a := ⟨w.heap.size + 1, 2, none⟩) (by have := HSZ.out; simp only; omega) (.slice (some ⟨W.heap.size, 0, none⟩) zs.length zs.length)
    exact own_lower h4 hbW.size
  · have hb := hbW.trans (b1.mono hbW.size)
    exact (((hb.setCell (p := ⟨w.heap.size + 1 + 1, 2, none⟩) (by simp only; omega) _).setCell (B1 0) _).setCell (B1 1) _).setCell (B1 2) _
end Go.Proofs.Ytemhhjagdfkmfaa.low
