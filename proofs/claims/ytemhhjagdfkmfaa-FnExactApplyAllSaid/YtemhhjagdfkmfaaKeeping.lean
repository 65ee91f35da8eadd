
/-
  Contract of spec.Keeping.
-/
import Derived.Test.YtemhhjagdfkmfaaPMarks
import Derived.Test.YtemhhjagdfkmfaaSpecOp
namespace Go.Proofs.Ytemhhjagdfkmfaa.low
open Go.RowKit
set_option linter.unusedVariables false

/-- the operation that keeps n characters -/
def keepL (n : Int) : List Pt := if 1 ≤ n ∧ n ≤ 200 then [⟨1, n, []⟩] else []
theorem keepL_len (n : Int) : (keepL n).length ≤ 1 := by unfold keepL; split <;> simp
theorem keepL_signs (n : Int) : signsIn (keepL n) = 0 := by unfold keepL; split <;> simp [signsIn]

theorem PBuf.nil (w : World) : PBuf w.heap.size w.heap.size w (.slice none 0 0) [] :=
  ⟨[], World.ownsRow_nil _ _ _ _, ⟨rfl, fun i p u hp _ => by simp at hp, fun i j k u v hu _ _ _ => by simp at hu⟩, fun k hk => by simp [Value.ownBlock] at hk, Nat.le_refl _, Nat.le_refl _⟩
theorem PBuf.past {lo hi : Nat} {w w' : World} {v : Value} {ps : List Pt} (h : PBuf lo hi w v ps) (hb : Below w.heap.size w w') : PBuf lo hi w' v ps := by
  obtain ⟨us, ho, hap, hv, hh, hlo⟩ := h
  exact ⟨us, own_keep ho (fun k _ hk2 => hb.block k hk2), hap.keep (Nat.le_refl _) (fun i u k _ _ hk2 => hb.block k hk2), hv, Nat.le_trans hh hb.size, hlo⟩
theorem kat_nonneg {k : Int} (h : 0 ≤ k) (ps : List Pt) (i : Nat) : 0 ≤ kat k ps i := by unfold kat; omega
/-- a marked slice of parts, read again -/
theorem PBuf.marked {lo hi c : Nat} {w : World} {A : Option Addr} {k : Int} {ps qs : List Pt} (h : PBuf lo hi w (.slice A ps.length c) qs) (hm : IsMarked k ps qs) : PRow w w.heap.size A qs := by
  have hh := h
  obtain ⟨A', c', e, r⟩ := h.slice
  injection e with e1 e2 e3
  obtain ⟨_, _, _, _, hs, _⟩ := hh
  rw [e1]
  exact r.more hs
/-- a slice of one part that was just made, the part without characters -/
theorem PBuf.one (w : World) (k n : Int) : PBuf w.heap.size (w.alloc (.cells #[.int .i64 k, .int .i64 n, .slice none 0 0] 53)).heap.size (w.alloc (.cells #[.int .i64 k, .int .i64 n, .slice none 0 0] 53)) (.slice (some ⟨w.heap.size, 0, none⟩) 1 1) [⟨k, n, []⟩] := by
  refine ⟨[.slice none 0 0], ⟨rfl, .inr ⟨w.heap.size, 1, _, rfl, Nat.le_refl _, heap_alloc_new w _, Nat.le_refl _, by decide, rfl, rfl⟩⟩, ⟨rfl, fun i p u hp hu => ?_, fun i j q u v hu hv hk _ => ?_⟩, fun q hq => blk_lt hq (by simp), Nat.le_refl _, by simp⟩
  · cases i with
    | zero =>
      simp at hp hu
      subst hp; subst hu
      exact ⟨World.ownsRow_nil _ _ _ _, fun q hq => by simp [Value.ownBlock] at hq⟩
    | succ i => simp at hp
  · cases i with
    | zero =>
      simp at hu
      subst hu
      simp [Value.ownBlock] at hk
    | succ i => simp at hu

end Go.Proofs.Ytemhhjagdfkmfaa.low
