
/-
  Applying: the lengths; a row that is filled from the front by copies.
-/
import Derived.Test.YtemhhjagdfkmfaaApplyL
import Derived.Laws.CopyOwn
namespace Go.Proofs.Ytemhhjagdfkmfaa.low
open Go.RowKit
set_option linter.unusedVariables false

theorem foldA_len {t : List Int} {ps : List Pt} (h : fitsB ps t = true) : ∀ k, k ≤ ps.length → ((foldA t (ps.take k)).2.length : Int) = sumOf keepOf (ps.take k) + sumOf putOf (ps.take k)
  | 0, _ => by simp [foldA, sumOf]
  | k + 1, hk => by
    obtain ⟨p, hp⟩ := idx_some (l := ps) (i := k) (by omega)
    have i2 := foldA_len h k (by omega)
    have hok := (fits_of h).1
    have hp' := of_okPt (okPs_at hp hok)
    have hin := foldA_in h hp
    rw [foldA_snoc hp, sumOf_snoc hp, sumOf_snoc hp]
    generalize foldA t (ps.take k) = s at *
    generalize sumOf keepOf (ps.take k) = q1 at *
    generalize sumOf putOf (ps.take k) = q2 at *
    unfold stepA keepOf putOf
    rcases (show p.kind = 1 ∨ p.kind = 2 ∨ p.kind = 3 by omega) with e | e | e
    · have hin := hin (.inl e)
      simp only [e, if_true]
      rw [List.length_append, List.length_take, List.length_drop]
      simp
      omega
    · simp only [e]
      simp
      omega
    · simp only [e]
      simp
      omega
theorem foldA_upto {t : List Int} {ps : List Pt} {n : Nat} (h : fitsB ps t = true) (hn : sumK ps + sumP ps = (n : Int)) (k : Nat) (hk : k ≤ ps.length) : (foldA t (ps.take k)).2.length ≤ n := by
  have h1 := foldA_len h k hk
  obtain ⟨hok, _, _, _, _, _, ho⟩ := fits_of h
  have hp : partsB ps = true := by unfold okOp at ho; rw [Bool.and_eq_true, Bool.and_eq_true] at ho; exact ho.1.1
  obtain ⟨t1, t2, t3⟩ := sum_t hp
  rw [t1, t2] at hn
  have a1 := sumOf_take (f := keepOf) (ps := ps) (fun q hq => (ok_bd (okPs_mem' hok hq)).1.1) k
  have a2 := sumOf_take (f := putOf) (ps := ps) (fun q hq => (ok_bd (okPs_mem' hok hq)).2.1.1) k
  omega
theorem foldA_all {t : List Int} {ps : List Pt} {n : Nat} (h : fitsB ps t = true) (hn : sumK ps + sumP ps = (n : Int)) : (foldA t ps).2.length = n := by
  have h1 := foldA_len h ps.length (Nat.le_refl _)
  rw [List.take_length] at h1
  obtain ⟨hok, _, _, _, _, _, ho⟩ := fits_of h
  have hp : partsB ps = true := by unfold okOp at ho; rw [Bool.and_eq_true, Bool.and_eq_true] at ho; exact ho.1.1
  obtain ⟨t1, t2, t3⟩ := sum_t hp
  rw [t1, t2] at hn
  omega
theorem fits_n {t : List Int} {ps : List Pt} (h : fitsB ps t = true) : ∃ n : Nat, sumK ps + sumP ps = (n : Int) ∧ n ≤ 200 := by
  obtain ⟨hok, _, _, h4, _, _, ho⟩ := fits_of h
  have hp : partsB ps = true := by unfold okOp at ho; rw [Bool.and_eq_true, Bool.and_eq_true] at ho; exact ho.1.1
  obtain ⟨t1, t2, t3⟩ := sum_t hp
  have h1 := foldA_len h ps.length (Nat.le_refl _)
  rw [List.take_length] at h1
  exact ⟨(foldA t ps).2.length, by rw [t1, t2]; omega, by omega⟩
/-- a row of n cells of which the first are filled -/
def fillR (n : Nat) (out : List Int) : List Value := out.map (Value.int .i64) ++ List.replicate (n - out.length) (Value.int .i64 0)
theorem fill_len (n : Nat) (out : List Int) (h : out.length ≤ n) : (fillR n out).length = n := by unfold fillR; simp; omega
theorem fill_splice (n : Nat) (out ys : List Int) (h : out.length + ys.length ≤ n) : splice (fillR n out) out.length (ys.map (Value.int .i64)) = fillR n (out ++ ys) := by
  unfold splice fillR
  have e1 : (out.map (Value.int .i64) ++ List.replicate (n - out.length) (Value.int .i64 0)).take out.length = out.map (Value.int .i64) := by
    rw [List.take_append_of_le_length (by simp), List.take_of_length_le (by simp)]
  have e2 : (out.map (Value.int .i64) ++ List.replicate (n - out.length) (Value.int .i64 0)).drop (out.length + (ys.map (Value.int .i64)).length) = List.replicate (n - (out ++ ys).length) (Value.int .i64 0) := by
    rw [List.drop_append, List.drop_eq_nil_of_le (by simp), List.nil_append, List.drop_replicate]
    congr 1
    simp
    omega
  rw [e1, e2, List.map_append, List.append_assoc]
theorem fill_all (n : Nat) (out : List Int) (h : out.length = n) : fillR n out = out.map (Value.int .i64) := by
  unfold fillR
  rw [h]
  simp
theorem own_full {w : World} {base r n : Nat} {e : TypeId} {xs : List Value} (h : w.ownsRow base e 1 (.slice (some ⟨r, 0, none⟩) n n) n xs) : w.heap[r]? = some (.cells xs.toArray e (0, 0)) ∧ base ≤ r ∧ xs.length = n := by
  have hl := h.1
  rcases h.2 with ⟨h1, _⟩ | ⟨g, cap, cur, hv, hge, hh, h4, h5, h6, h7⟩
  · cases h1
  · injection hv with q1 q2 q3
    injection q1 with q1
    injection q1 with q1
    subst q1
    subst q3
    have : cur = xs.toArray := by
      rw [← h7, List.take_of_length_le (by simp; omega)]
    subst this
    exact ⟨hh, hge, by simpa using hl⟩
theorem full_own {w : World} {base r n : Nat} {e : TypeId} {xs : List Value} (h : w.heap[r]? = some (.cells xs.toArray e (0, 0))) (hb : base ≤ r) (hl : xs.length = n) (hn : n ≤ 4294967296) : w.ownsRow base e 1 (.slice (some ⟨r, 0, none⟩) n n) n xs := by
  refine ⟨by simpa using hl, .inr ⟨r, n, xs.toArray, rfl, hb, h, Nat.le_refl _, by unfold maxLen; omega, by simp [hl], ?_⟩⟩
  rw [List.take_of_length_le (by simp [hl])]
end Go.Proofs.Ytemhhjagdfkmfaa.low
