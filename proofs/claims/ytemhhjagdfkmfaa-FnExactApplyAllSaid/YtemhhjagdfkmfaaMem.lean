
/-
  Words for memory, of no program: a slice that reads as a list of one-celled elements, nil let in; how it is kept.
-/
import Derived.WalkKit
import Derived.Lib.Hide
import Derived.Below
import Derived.Laws.OwnMore
import Derived.Deep.Draws
namespace Go.Proofs.Ytemhhjagdfkmfaa.low
open Go.RowKit

theorem block_of_add (a : Addr) (n : Nat) : (a.add n).block = a.block := by unfold Addr.add; split <;> rfl

/-- The slice at A holds the elements zs, each in one cell as f writes it, in a block below B. -/
def Row {α : Type} (f : α → Value) (w : World) (B : Nat) (A : Option Addr) (zs : List α) : Prop :=
  0 < zs.length → ∃ ad, A = some ad ∧ ad.block < B ∧ ∀ (k : Nat) (z : α), zs[k]? = some z → w.cell? (ad.add k) = some (f z)

theorem Row.nil {α : Type} {f : α → Value} {w : World} {B : Nat} {A : Option Addr} : Row f w B A [] := fun h => absurd h (by simp)
theorem Row.at_ {α : Type} {f : α → Value} {w : World} {B : Nat} {A : Option Addr} {zs : List α} {k : Nat} (h : Row f w B A zs) (hk : k < zs.length) :
    ∃ ad z, A = some ad ∧ ad.block < B ∧ zs[k]? = some z ∧ w.cell? (ad.add k) = some (f z) := by
  obtain ⟨ad, e, hb, hc⟩ := h (by omega)
  exact ⟨ad, zs[k], e, hb, List.getElem?_eq_getElem hk, hc k _ (List.getElem?_eq_getElem hk)⟩
theorem Row.keep {α : Type} {f : α → Value} {w w' : World} {B : Nat} {A : Option Addr} {zs : List α} (h : Row f w B A zs)
    (hk : ∀ p : Addr, p.block < B → w'.cell? p = w.cell? p) : Row f w' B A zs := fun hn => by
  obtain ⟨ad, e, hb, hc⟩ := h hn
  exact ⟨ad, e, hb, fun j u hu => (hk _ (by rw [block_of_add]; exact hb)).trans (hc j u hu)⟩
theorem Row.more {α : Type} {f : α → Value} {w : World} {B B' : Nat} {A : Option Addr} {zs : List α} (h : Row f w B A zs) (hB : B ≤ B') : Row f w B' A zs := fun hn => by
  obtain ⟨ad, e, hb, hc⟩ := h hn
  exact ⟨ad, e, by omega, hc⟩
theorem Row.below {α : Type} {f : α → Value} {w w' : World} {B : Nat} {A : Option Addr} {zs : List α} (h : Row f w B A zs) (hb : Below B w w') : Row f w' B A zs := h.keep fun _ hp => hb.cell hp
/-- behind a call that left all old blocks alone -/
theorem Row.past {α : Type} {f : α → Value} {w w' : World} {A : Option Addr} {zs : List α} (h : Row f w w.heap.size A zs) (hb : Below w.heap.size w w') : Row f w' w'.heap.size A zs :=
  (h.below hb).more hb.size
theorem Row.drewN {α : Type} {f : α → Value} {w : World} {B : Nat} {A : Option Addr} {zs : List α} (h : Row f w B A zs) (k : Nat) : Row f (w.drewN k) B A zs := h
theorem Row.of_own {α : Type} {f : α → Value} {w : World} {base n c : Nat} {e : TypeId} {A : Option Addr} {zs : List α} (h : w.ownsRow base e 1 (.slice A n c) n (zs.map f)) :
    Row f w w.heap.size A zs := fun hn => by
  rcases h.2 with ⟨he, h0⟩ | ⟨g, cap, cur, hv, _, hh, hnc, _, hs, ht⟩
  · have := h.1
    simp at this
    omega
  · have hA : A = some ⟨g, 0, none⟩ := by injection hv
    subst hA
    have hlt : g < w.heap.size := by
      rcases Nat.lt_or_ge g w.heap.size with hlt | hge
      · exact hlt
      · rw [Array.getElem?_eq_none hge] at hh; cases hh
    refine ⟨_, rfl, hlt, fun k z hz => ?_⟩
    have hk : k < zs.length := by
      rcases Nat.lt_or_ge k zs.length with hlt | hge
      · exact hlt
      · rw [List.getElem?_eq_none hge] at hz; cases hz
    have h1 := h.1
    simp at h1
    have hcap : c = cap := by injection hv
    subst hcap
    have hc := World.ownsRow.cellAt (g := g) h k (by omega)
    have ha : (Addr.add ⟨g, 0, none⟩ k) = ⟨g, k, none⟩ := by unfold Addr.add; split <;> simp_all
    rw [ha, hc, List.getElem?_map, hz]
    rfl

/-- An argument slice of integers, as the shell of a law hands it over. -/
def IsInts (k : IntKind) (w : World) (a : Option Addr) (len cap : Nat) (zs : List Int) : Prop :=
  (a = none ∧ len = 0 ∧ cap = 0 ∧ zs = []) ∨
  ∃ x, a = some x ∧ len ≤ cap ∧ cap ≤ maxLen ∧ zs.length = cap ∧ (∀ i, i < zs.length → w.cell? (x.add i) = some (.int k (zs.getD i 0))) ∧ ∀ n ∈ zs, (Lit.int k n).wf = true

theorem cell_lt {w : World} {p : Addr} {v : Value} (h : w.cell? p = some v) : p.block < w.heap.size := by
  rcases Nat.lt_or_ge p.block w.heap.size with hlt | hge
  · exact hlt
  · unfold World.cell? at h; rw [Array.getElem?_eq_none hge] at h; simp at h

theorem IsInts.row {k : IntKind} {w : World} {a : Option Addr} {len cap : Nat} {zs : List Int} (h : IsInts k w a len cap zs) :
    ∃ ys : List Int, ys.length = len ∧ Row (Value.int k) w w.heap.size a ys ∧ ∀ n ∈ ys, (Lit.int k n).wf = true := by
  rcases h with ⟨rfl, rfl, rfl, rfl⟩ | ⟨x, rfl, h1, h2, h3, h4, h5⟩
  · exact ⟨[], rfl, Row.nil, by simp⟩
  · refine ⟨zs.take len, by simp; omega, fun hn => ?_, fun n hn => h5 n (List.mem_of_mem_take hn)⟩
    have hl : 0 < len := by simp at hn; omega
    have h0 := cell_lt (h4 0 (by omega))
    rw [block_of_add] at h0
    refine ⟨x, rfl, h0, fun i z hz => ?_⟩
    have hi : i < zs.length := by
      rcases Nat.lt_or_ge i zs.length with hlt | hge
      · exact hlt
      · rw [List.getElem?_eq_none (by simp; omega)] at hz; cases hz
    have hz' : zs[i]? = some z := by
      rw [List.getElem?_take] at hz
      split at hz
      · exact hz
      · cases hz
    rw [h4 i hi]
    simp [List.getD, hz']
end Go.Proofs.Ytemhhjagdfkmfaa.low
