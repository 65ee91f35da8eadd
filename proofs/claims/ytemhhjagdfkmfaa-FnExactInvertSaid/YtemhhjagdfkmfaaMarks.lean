
/-
  Contracts of the laws' own markIntS (it writes ascending numbers into a slice) and heldIntS (it asks whether they still stand there).
-/
import Derived.Test.YtemhhjagdfkmfaaIBuf
namespace Go.Proofs.Ytemhhjagdfkmfaa.low
open Go.RowKit
set_option linter.unusedVariables false

def marks (k : Int) (n : Nat) : List Int := (List.range n).map fun (i : Nat) => k + (i : Int)
theorem marks_len (k : Int) (n : Nat) : (marks k n).length = n := by simp [marks]
theorem marks_at {k : Int} {n j : Nat} (h : j < n) : (marks k n)[j]? = some (k + (j : Int)) := by simp [marks, h]

/-- it returns the next number, and the row holds the marks -/
def Marked (base : Nat) (v : Value) (k : Int) (n : Nat) (w : World) (e : Ending) (w' : World) : Prop :=
  e = .returned (.int .i64 (k + (n : Int))) ∧ IBuf base w' v (marks k n) ∧ Below base w w' ∧ w'.heap.size = w.heap.size
theorem mark_set {xs : List Value} {k : Int} {j : Nat} (hl : j < xs.length) (hp : ∀ t, t < j → xs[t]? = some (.int .i64 (k + (t : Int)))) :
    ∀ t, t < j + 1 → (xs.set j (.int .i64 (k + (j : Int))))[t]? = some (.int .i64 (k + (t : Int))) := by
  intro t ht
  rw [List.getElem?_set]
  by_cases e : j = t
  · subst e; rw [if_pos rfl, if_pos hl]
  · rw [if_neg e]; exact hp t (by omega)
theorem marks_all {xs : List Value} {k : Int} {n : Nat} (hl : xs.length = n) (hp : ∀ t, t < n → xs[t]? = some (.int .i64 (k + (t : Int)))) : xs = (marks k n).map (Value.int .i64) := by
  apply List.ext_getElem?
  intro t
  rcases Nat.lt_or_ge t n with h | h
  · rw [hp t h, List.getElem?_map, marks_at h]; rfl
  · rw [List.getElem?_eq_none (by omega), List.getElem?_eq_none (by rw [List.length_map, marks_len]; exact h)]

set_option maxHeartbeats 1600000 in
theorem markIntS_any (base : Nat) (v : Value) (zs : List Int) (k : Int) (w : World) (hb : IBuf base w v zs) (h0 : 0 ≤ k) (h1 : k ≤ 4294967296) (hn : zs.length ≤ 4294967296) :
    Calls Try.prog 19 #[v, .int .i64 k] w (Marked base v k zs.length w) := by
  rcases hb.1.2 with ⟨rfl, hz⟩ | ⟨g, cap, cur, rfl, hge, _⟩
  · have hz' : zs = [] := List.eq_nil_of_length_eq_zero hz
    subst hz'
    go_enter Try.func19, Try.ntmps19
    go_wp2
    refine wp_loop_rounds 1 ?_
    rw [rounds_succ]
    go_wp2
    go_ret
    exact ⟨by simp, hb, Below.refl _ _, rfl⟩
  · have hown := hb.1
    have hxl := hown.1
    have hbb := hb.2
    clear hb
    generalize hxs : zs.map (Value.int .i64) = xs0 at hown hxl
    clear hxs
    generalize zs.length = n at *
    go_enter Try.func19, Try.ntmps19
    go_wp2
    go_loopw [1, 5] (fun kk i wr => ∃ (j : Nat) (xs : List Value), j ≤ n ∧ i = .int .i64 j ∧ kk = .int .i64 (k + (j : Int)) ∧ xs.length = n ∧ (∀ t, t < j → xs[t]? = some (.int .i64 (k + (t : Int)))) ∧
        wr.ownsRow base 3 1 (.slice (some ⟨g, 0, none⟩) n cap) n xs ∧ Below base w wr ∧ wr.heap.size = w.heap.size) (fun _ i _ => n - (intOf i).toNat)
    case atStart => exact ⟨0, xs0, Nat.zero_le _, rfl, by simp, by simpa using hxl, fun t h => absurd h (by omega), hown, Below.refl _ _, rfl⟩
    case round =>
      obtain ⟨j, xs, hj, rfl, rfl, hl, hp, ho, hbel, hsz⟩ := hrel
      clear hown hxl
      have HL := Lib.hid hl
      have HP := Lib.hid hp
      have HSZ := Lib.hid hsz
      clear hl hp hsz
      by_cases hlt : j < n
      · obtain ⟨u, hu⟩ : ∃ u, wr.cell? ⟨g, j, none⟩ = some u := by
          rw [ho.cellAt j (by omega)]
          exact ⟨_, List.getElem?_eq_getElem (by rw [HL.out]; exact hlt)⟩
        have hfz := ho.frozenAt j
        go_wp2
        go_roundw
        case rel =>
          have hst := ho.stored j (.int .i64 (k + (j : Int)))
          exact ⟨j + 1, xs.set j (.int .i64 (k + (j : Int))), by omega, by go_num, by go_num, by rw [List.length_set]; exact HL.out, mark_set (by rw [HL.out]; exact hlt) HP.out, hst.1, hbel.setCell hge _, by rw [← HSZ.out]; simp [World.setCell]⟩
        case measure => simp [intOf]; omega
      · obtain rfl : j = n := by omega
        go_wp2
        go_ret
        have hxs := marks_all HL.out HP.out
        subst hxs
        exact ⟨rfl, ⟨by rw [marks_len]; exact ho, by rw [HSZ.out]; exact hbb⟩, hbel, HSZ.out⟩

set_option maxHeartbeats 1600000 in
theorem heldIntS_any (A : Option Addr) (c n : Nat) (k : Int) (w : World) (hr : Row (Value.int .i64) w w.heap.size A (marks k n)) (h0 : 0 ≤ k) (h1 : k ≤ 4294967296) (hn : n ≤ 4294967296) :
    Calls Try.prog 20 #[.slice A n c, .int .i64 k] w fun e w' => e = .returned (.int .i64 (k + (n : Int))) ∧ w = w' := by
  go_enter Try.func20, Try.ntmps20
  go_wp2
  go_loop [1, 5] (fun kk i => ∃ j : Nat, j ≤ n ∧ i = .int .i64 j ∧ kk = .int .i64 (k + (j : Int))) (fun _ i => n - (intOf i).toNat)
  case atStart => exact ⟨0, Nat.zero_le _, rfl, by simp⟩
  case round =>
    obtain ⟨j, hj, rfl, rfl⟩ := hrel
    by_cases hlt : j < n
    · obtain ⟨ad, z, rfl, hbl, hz, hc⟩ := hr.at_ (k := j) (by rw [marks_len]; exact hlt)
      rw [marks_at hlt] at hz
      have hz' : k + (j : Int) = z := by injection hz
      rw [← hz'] at hc
      clear hz hz'
      go_wp2
      go_round
      case rel => exact ⟨j + 1, by omega, by go_num, by go_num⟩
      case measure => simp [intOf]; omega
    · obtain rfl : j = n := by omega
      go_wp2
      go_ret
      exact ⟨rfl, rfl⟩
end Go.Proofs.Ytemhhjagdfkmfaa.low
