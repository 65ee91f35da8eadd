
/-
  Applying operations, as functions on lists: a valid text, whether an operation fits it, the result.
-/
import Derived.Test.YtemhhjagdfkmfaaLawKit
import Derived.Test.YtemhhjagdfkmfaaSpecNorm
namespace Go.Proofs.Ytemhhjagdfkmfaa.low
open Go.RowKit
set_option linter.unusedVariables false

/-- a valid text -/
def okText (t : List Int) : Bool := allB t && decide (t.length ≤ 200)
/-- the operation applies to the text -/
def fitsB (ps : List Pt) (t : List Int) : Bool := okOp ps && okText t && decide (sumK ps + sumD ps = (t.length : Int))
def stepA (t : List Int) (s : Nat × List Int) (p : Pt) : Nat × List Int :=
  if p.kind = 1 then (s.1 + p.n.toNat, s.2 ++ (t.drop s.1).take p.n.toNat) else if p.kind = 2 then (s.1, s.2 ++ p.signs) else (s.1 + p.n.toNat, s.2)
def foldA (t : List Int) (ps : List Pt) : Nat × List Int := ps.foldl (stepA t) (0, [])
def applyT (ps : List Pt) (t : List Int) : List Int := if fitsB ps t = true then (foldA t ps).2 else []
theorem foldA_snoc {t : List Int} {ps : List Pt} {k : Nat} {p : Pt} (h : ps[k]? = some p) : foldA t (ps.take (k + 1)) = stepA t (foldA t (ps.take k)) p := by
  unfold foldA
  rw [List.take_add_one, h]
  simp
theorem okPs_mem' {ps : List Pt} (h : okPs ps = true) {p : Pt} (hp : p ∈ ps) : okPt p = true := by unfold okPs at h; exact List.all_eq_true.1 h p hp
/-- where the reading stands, and how much there is -/
theorem foldA_fit {t : List Int} {ps : List Pt} (hok : okPs ps = true) : ∀ k, k ≤ ps.length → ((foldA t (ps.take k)).1 : Int) = sumOf keepOf (ps.take k) + sumOf dropOf (ps.take k) ∧ ((foldA t (ps.take k)).2.length : Int) ≤ sumOf keepOf (ps.take k) + sumOf putOf (ps.take k)
  | 0, _ => by simp [foldA, sumOf]
  | k + 1, hk => by
    obtain ⟨p, hp⟩ := idx_some (l := ps) (i := k) (by omega)
    obtain ⟨i1, i2⟩ := foldA_fit (t := t) hok k (by omega)
    have hp' := of_okPt (okPs_at hp hok)
    rw [foldA_snoc hp, sumOf_snoc hp, sumOf_snoc hp, sumOf_snoc hp]
    generalize foldA t (ps.take k) = s at *
    generalize sumOf keepOf (ps.take k) = q1 at *
    generalize sumOf putOf (ps.take k) = q2 at *
    generalize sumOf dropOf (ps.take k) = q3 at *
    unfold stepA keepOf putOf dropOf
    rcases (show p.kind = 1 ∨ p.kind = 2 ∨ p.kind = 3 by omega) with e | e | e
    · simp only [e, if_true]
      refine ⟨by simp; omega, ?_⟩
      rw [List.length_append, List.length_take, List.length_drop]
      simp
      omega
    · simp only [e]
      simp
      omega
    · simp only [e]
      simp
      omega
theorem sumOf_take {f : Pt → Int} {ps : List Pt} (h : ∀ p ∈ ps, 0 ≤ f p) (k : Nat) : sumOf f (ps.take k) ≤ sumOf f ps := by
  have e : sumOf f ps = sumOf f (ps.take k) + sumOf f (ps.drop k) := by
    unfold sumOf
    rw [← List.sum_append, ← List.map_append, List.take_append_drop]
  have : 0 ≤ sumOf f (ps.drop k) := by
    unfold sumOf
    have hd : ∀ p ∈ ps.drop k, 0 ≤ f p := fun p hp => h p (List.mem_of_mem_drop hp)
    clear e
    generalize ps.drop k = qs at *
    induction qs with
    | nil => simp
    | cons q qs ih =>
      rw [List.map_cons, List.sum_cons]
      have h1 := hd q (by simp)
      have h2 := ih (fun p hp => hd p (by simp [hp]))
      omega
  omega
/-- what a fitting operation is -/
theorem fits_of {ps : List Pt} {t : List Int} (h : fitsB ps t = true) : okPs ps = true ∧ ps.length ≤ 600 ∧ sumOf keepOf ps + sumOf dropOf ps = (t.length : Int) ∧ sumOf keepOf ps + sumOf putOf ps ≤ 200 ∧ okText t = true ∧ t.length ≤ 200 ∧ okOp ps = true := by
  unfold fitsB at h
  rw [Bool.and_eq_true, Bool.and_eq_true] at h
  obtain ⟨⟨h1, h2⟩, h3⟩ := h
  have h1' := h1
  unfold okOp at h1
  rw [Bool.and_eq_true, Bool.and_eq_true] at h1
  obtain ⟨⟨h4, h5⟩, h6⟩ := h1
  have h7 := partsB_of h4
  obtain ⟨t1, t2, t3⟩ := sum_t h4
  have h3 := of_decide_eq_true h3
  have h6 := of_decide_eq_true h6
  rw [t1, t3] at h3
  rw [t1, t2] at h6
  have h2' := h2
  unfold okText at h2'
  rw [Bool.and_eq_true] at h2'
  exact ⟨h7.1, h7.2, h3, h6, h2, of_decide_eq_true h2'.2, h1'⟩
/-- the reading stays in the text -/
theorem foldA_in {t : List Int} {ps : List Pt} {k : Nat} {p : Pt} (h : fitsB ps t = true) (hp : ps[k]? = some p) (hk : p.kind = 1 ∨ p.kind = 3) : ((foldA t (ps.take k)).1 : Int) + p.n ≤ (t.length : Int) := by
  obtain ⟨h1, h2, h3, _⟩ := fits_of h
  have hlt := idx_lt hp
  have f := (foldA_fit (t := t) h1 k (by omega)).1
  have a1 := sumOf_take (f := keepOf) (ps := ps) (fun q hq => (ok_bd (okPs_mem' h1 hq)).1.1) (k + 1)
  have a2 := sumOf_take (f := dropOf) (ps := ps) (fun q hq => (ok_bd (okPs_mem' h1 hq)).2.2.1) (k + 1)
  rw [sumOf_snoc hp] at a1 a2
  have : keepOf p + dropOf p = p.n := by
    unfold keepOf dropOf
    rcases hk with e | e <;> simp [e]
  omega
theorem apply_len (ps : List Pt) (t : List Int) : (applyT ps t).length ≤ 200 := by
  unfold applyT
  split
  · rename_i h
    obtain ⟨h1, h2, h3, h4, _⟩ := fits_of h
    have f := (foldA_fit (t := t) h1 ps.length (Nat.le_refl _)).2
    rw [List.take_length] at f
    omega
  · simp
theorem apply_small {ps : List Pt} {t : List Int} (h0 : SmP ps) (h1 : SmI t) : SmI (applyT ps t) := by
  have := apply_len ps t
  unfold SmI
  omega
end Go.Proofs.Ytemhhjagdfkmfaa.low
