
/-
  The normal form as a fold over a builder's state: parts so far, what is to be put, how many are dropped.
-/
import Derived.Test.YtemhhjagdfkmfaaSpecBuild3
namespace Go.Proofs.Ytemhhjagdfkmfaa.low
open Go.RowKit
set_option linter.unusedVariables false

def stepN (s : List Pt × List Int × Int) (p : Pt) : List Pt × List Int × Int :=
  if p.kind = 1 then (if p.n = 0 then s else (keepTo (s.1 ++ putL s.2.1 ++ dropL s.2.2) p.n, [], 0))
  else if p.kind = 2 then (s.1, s.2.1 ++ p.signs, s.2.2) else (s.1, s.2.1, s.2.2 + p.n)
def foldN (ps : List Pt) : List Pt × List Int × Int := ps.foldl stepN ([], [], 0)
def doneN (s : List Pt × List Int × Int) : List Pt := s.1 ++ putL s.2.1 ++ dropL s.2.2
/-- the normal form -/
def normL (ps : List Pt) : List Pt := if okOp ps = true then doneN (foldN ps) else []
theorem foldN_snoc {ps : List Pt} {k : Nat} {p : Pt} (h : ps[k]? = some p) : foldN (ps.take (k + 1)) = stepN (foldN (ps.take k)) p := by
  unfold foldN
  rw [List.take_add_one, h]
  simp

theorem signsIn_app (a b : List Pt) : signsIn (a ++ b) = signsIn a + signsIn b := by simp [signsIn]
theorem putL_len (z : List Int) : (putL z).length ≤ 1 ∧ signsIn (putL z) = z.length ∧ ∀ p ∈ putL z, p.n = 0 := by
  unfold putL
  split
  · rename_i h; simp [signsIn, h]
  · simp [signsIn]
theorem dropL_len (d : Int) : (dropL d).length ≤ 1 ∧ signsIn (dropL d) = 0 ∧ ∀ p ∈ dropL d, p.n = d ∧ 0 ≤ d := by
  unfold dropL
  split
  · rename_i h; simp [signsIn]; omega
  · simp [signsIn]

/-- the state behind j valid parts that hold m characters -/
structure Fit (j m : Nat) (s : List Pt × List Int × Int) : Prop where
  len : s.1.length ≤ 3 * j
  signs : signsIn s.1 + s.2.1.length ≤ m
  d0 : 0 ≤ s.2.2
  d1 : s.2.2 ≤ 200 * (j : Int)
  ns : ∀ p ∈ s.1, 0 ≤ p.n ∧ p.n ≤ 200 * (j : Int)
theorem Fit.done {j m : Nat} {s : List Pt × List Int × Int} (h : Fit j m s) : (doneN s).length ≤ 3 * j + 2 ∧ signsIn (doneN s) ≤ m ∧ ∀ p ∈ doneN s, 0 ≤ p.n ∧ p.n ≤ 200 * (j : Int) := by
  obtain ⟨a1, a2, a3⟩ := putL_len s.2.1
  obtain ⟨b1, b2, b3⟩ := dropL_len s.2.2
  have h1 := h.len
  have h2 := h.signs
  have h3 := h.d0
  have h4 := h.d1
  refine ⟨by unfold doneN; simp; omega, by unfold doneN; rw [signsIn_app, signsIn_app]; omega, fun p hp => ?_⟩
  unfold doneN at hp
  rcases List.mem_append.1 hp with hp | hp
  · rcases List.mem_append.1 hp with hp | hp
    · exact h.ns p hp
    · have := a3 p hp; omega
  · have := b3 p hp; omega
theorem keepTo_fit {q : List Pt} {n M : Int} (hn : 0 ≤ n) (hM : 0 ≤ M) (hq : ∀ p ∈ q, 0 ≤ p.n ∧ p.n ≤ M) : (keepTo q n).length ≤ q.length + 1 ∧ signsIn (keepTo q n) = signsIn q ∧ ∀ p ∈ keepTo q n, 0 ≤ p.n ∧ p.n ≤ M + n := by
  rcases q.eq_nil_or_concat with rfl | ⟨r, p, rfl⟩
  · rw [keepTo_nil]
    refine ⟨by simp, by simp [signsIn], fun x hx => ?_⟩
    simp at hx
    subst hx
    simp only
    omega
  · rw [List.concat_eq_append] at *
    have hp := hq p (by simp)
    by_cases hk : p.kind = 1
    · rw [keepTo_t n hk]
      refine ⟨by simp, by rw [signsIn_app, signsIn_app]; simp [signsIn], fun x hx => ?_⟩
      rcases List.mem_append.1 hx with hx | hx
      · have := hq x (by simp [hx]); omega
      · simp at hx
        subst hx
        simp only
        omega
    · rw [keepTo_f n hk]
      refine ⟨by simp, by rw [signsIn_app, signsIn_app]; simp [signsIn], fun x hx => ?_⟩
      rcases List.mem_append.1 hx with hx | hx
      · have := hq x hx; omega
      · simp at hx
        subst hx
        simp only
        omega
theorem Fit.step {j m : Nat} {s : List Pt × List Int × Int} {p : Pt} (h : Fit j m s) (hp : okPt p = true) : Fit (j + 1) (m + p.signs.length) (stepN s p) := by
  have hok := of_okPt hp
  obtain ⟨d1, d2, d3⟩ := h.done
  have h1 := h.len
  have h2 := h.signs
  have h3 := h.d0
  have h4 := h.d1
  have hns := h.ns
  unfold stepN
  split
  · rename_i hk
    have hn : 0 ≤ p.n ∧ p.n ≤ 200 := by omega
    split
    · exact ⟨by omega, by omega, h3, by omega, fun x hx => by have := hns x hx; omega⟩
    · have hM : p.n ≤ 200 * ((j : Int) + 1) := by omega
      obtain ⟨k1, k2, k3⟩ := keepTo_fit (q := doneN s) hn.1 (M := 200 * (j : Int)) (by omega) d3
      refine ⟨?_, ?_, by simp, by simp; omega, fun x hx => ?_⟩
      · show (keepTo (doneN s) p.n).length ≤ _; omega
      · show signsIn (keepTo (doneN s) p.n) + 0 ≤ _; omega
      · have := k3 x hx; omega
  · split
    · rename_i hk
      refine ⟨by simp; omega, by simp; omega, h3, by simp; omega, fun x hx => by have := hns x hx; omega⟩
    · have hn : 0 ≤ p.n ∧ p.n ≤ 200 := by omega
      refine ⟨by simp; omega, by simp; omega, by simp; omega, by simp; omega, fun x hx => by have := hns x hx; omega⟩
theorem Fit.start : Fit 0 0 ([], [], 0) := ⟨by simp, by simp [signsIn], by simp, by simp, fun p hp => by simp at hp⟩
theorem foldN_fit {ps : List Pt} (h : okPs ps = true) : ∀ k, k ≤ ps.length → Fit k (signsIn (ps.take k)) (foldN (ps.take k))
  | 0, _ => by simpa [foldN, signsIn] using Fit.start
  | k + 1, hk => by
    obtain ⟨p, hp⟩ := idx_some (l := ps) (i := k) (by omega)
    rw [foldN_snoc hp, signsIn_snoc hp]
    exact (foldN_fit h k (by omega)).step (okPs_at hp h)
end Go.Proofs.Ytemhhjagdfkmfaa.low
