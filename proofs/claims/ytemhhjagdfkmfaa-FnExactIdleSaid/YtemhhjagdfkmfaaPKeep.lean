
/-
  What a slice of parts of the caller's own still is behind a call that wrote elsewhere.
-/
import Derived.Test.YtemhhjagdfkmfaaKeeping
namespace Go.Proofs.Ytemhhjagdfkmfaa.low
open Go.RowKit
set_option linter.unusedVariables false

theorem PBuf.prow {lo hi c : Nat} {w : World} {A : Option Addr} {ps : List Pt} (h : PBuf lo hi w (.slice A ps.length c) ps) : PRow w w.heap.size A ps := by
  have hh := h
  obtain ⟨A', c', e, r⟩ := h.slice
  injection e with e1 e2 e3
  obtain ⟨_, _, _, _, hs, _⟩ := hh
  rw [e1]
  exact r.more hs
/-- other blocks were written -/
theorem PBuf.apart {lo hi : Nat} {w w' : World} {v : Value} {ps : List Pt} {T : Nat → Prop} (h : PBuf lo hi w v ps) (ht : Touch T w w') (hT : ∀ b, lo ≤ b → b < hi → ¬ T b) : PBuf lo hi w' v ps := by
  obtain ⟨us, ho, hap, hv, hh, hlo⟩ := h
  refine ⟨us, own_touch ho ht (fun k hk => hT k (own_ge ho k hk) (hv k hk)), hap.keep (Nat.le_refl _) (fun i u k hu hk1 hk2 => ?_), hv, by rw [ht.size]; exact hh, hlo⟩
  obtain ⟨p, hp⟩ := idx_some (l := ps) (i := i) (by rw [← hap.1]; exact idx_lt hu)
  obtain ⟨o1, o2⟩ := hap.2.1 i p u hp hu
  exact ht.block k (hT k (own_ge o1 k hk1) (o2 k hk1))
end Go.Proofs.Ytemhhjagdfkmfaa.low
