/-
  Texts that the proofs over this seat rest on, one behind the other (4 of 5).
-/
import Derived.Test.YtgfbcpcfdlnbhabGreatM3
import Derived.Deep.RegionHeld
import Derived.Test.YtgfbcpcfdlnbhabGreatM2
import Derived.Test.YtgfbcpcfdlnbhabGreatM1
import Derived.Maps.RangeWalk
import Derived.Shelf.SlSortCmp.WholeK
import Derived.Shelf.SlLaysF0
import Derived.Shelf.Small.Bits
import Derived.Shelf.Strconv.Itoa0
import Derived.Shelf.LaysM
import Derived.Shelf.Strconv.Clone
import Derived.Test.YtgfbcpcfdlnbhabGreatProg
import Derived.Lib.SliceRun
import Derived.Laws.CopyOwn

/-
  More of Ms: a box written whole, some of the items alone, what new memory is called.
-/
namespace Go.Proofs.YtgfbcpcfdlnbhabGreat.low
open Go.RowKit
set_option linter.unusedVariables false
/-- an int's range -/
def Rng (n : Int) : Prop := -9223372036854775808 ≤ n ∧ n < 9223372036854775808
theorem rngI {n : Int} (h : (Lit.int .i64 n).wf = true) : Rng n := by
  have h64 : -9223372036854775808 ≤ n ∧ n ≤ 9223372036854775807 := by simpa [Lit.wf, IntKind.min, IntKind.max, IntKind.signed, IntKind.bits] using h
  unfold Rng
  omega
section
variable {w0 W W' : World} {L L' : List It} {x y : It}
theorem putRow_cells {g : Nat} {T : TypeId} : ∀ {ys : List Value} {cs : Array Value} {o : Nat} {W : World}, o + ys.length = cs.size → W.heap[g]? = some (.cells cs T (0, 0)) → (putRow W g o ys).heap[g]? = some (.cells (cs.toList.take o ++ ys).toArray T (0, 0))
  | [], cs, o, W, hl, h => by
    rw [putRow, h]
    have e : cs.toList.take o = cs.toList := List.take_of_length_le (by simp at hl; simp; omega)
    simp [e]
  | y :: ys, cs, o, W, hl, h => by
    rw [putRow]
    simp only [List.length_cons] at hl
    have h1 := putRow_cells (ys := ys) (cs := cs.setIfInBounds o y) (o := o + 1) (by rw [Array.size_setIfInBounds]; omega) (bxset h y)
    rw [h1]
    have e : (cs.setIfInBounds o y).toList.take (o + 1) = cs.toList.take o ++ [y] := by
      rw [Array.toList_setIfInBounds, List.take_add_one, List.take_set_of_le (Nat.le_refl o)]
      congr 1
      rw [List.getElem?_set_self (by simp; omega)]
      rfl
    rw [e, List.append_assoc]
    rfl
/-- a box written whole -/
theorem Ms.putRow {g : Nat} {cs : Array Value} {T : TypeId} {ys : List Value} (h : Ms w0 (.bx g (.cells cs T (0, 0)) :: L) W) (hl : ys.length = cs.size) : Ms w0 (.bx g (.cells ys.toArray T (0, 0)) :: L) (low.putRow W g 0 ys) := by
  have hg := h.glt (i := 0) rfl
  have hk := putRow_cells (ys := ys) (o := 0) (by omega) (h.at_ (i := 0) (x := .bx g (.cells cs T (0, 0))) rfl)
  refine h.turn (Nat.le_of_eq (putRow_size g ys W 0).symm) (fun q hq hn => putRow_block g ys W 0 q (fun e => hn (by simp [It.bs]; exact e))) (putRow_below hg.1 ys W 0 h.bl) ?_ (by simp [It.bs]) (fun q hq => .inl hq)
  show (low.putRow W g 0 ys).heap[g]? = _
  simpa using hk
/-- two boxes are two blocks -/
theorem Ms.ne (h : Ms w0 L W) {i j g g' : Nat} {o o' : Obj} (hi : L[i]? = some (.bx g o)) (hj : L[j]? = some (.bx g' o')) (hij : i < j) : ¬ g = g' ∧ ¬ g' = g := by
  have key : ∀ (L : List It) (i j : Nat), i < j → (L.flatMap It.bs).Nodup → L[i]? = some (.bx g o) → L[j]? = some (.bx g' o') → ¬ g = g' := by
    intro L
    induction L with
    | nil => intro i j _ _ hi; simp at hi
    | cons x L ih =>
      intro i j hij hnd hi hj
      rw [List.flatMap_cons, List.nodup_append] at hnd
      cases j with
      | zero => omega
      | succ j =>
        simp only [List.getElem?_cons_succ] at hj
        cases i with
        | zero =>
          simp only [List.getElem?_cons_zero, Option.some.injEq] at hi
          subst hi
          intro e
          subst e
          exact hnd.2.2 g (by simp [It.bs]) g (List.mem_flatMap.2 ⟨_, List.mem_of_getElem? hj, by simp [It.bs]⟩) rfl
        | succ i =>
          simp only [List.getElem?_cons_succ] at hi
          exact ih i j (by omega) hnd.2.1 hi hj
  have := key L i j hij h.nd hi hj
  exact ⟨this, fun e => this e.symm⟩
/-- the items at these places, in this order (each place at most once) -/
theorem Ms.pick (h : Ms w0 L W) : ∀ {ks : List Nat} {L' : List It}, ks.Nodup → ks.map (fun k => L[k]?) = L'.map some → Ms w0 L' W := fun {ks L'} hn hm => by
  have hmem : ∀ x ∈ L', x ∈ L := fun x hx => by
    have : some x ∈ ks.map (fun k => L[k]?) := by rw [hm]; exact List.mem_map_of_mem hx
    obtain ⟨k, _, hk⟩ := List.mem_map.1 this
    exact List.mem_of_getElem? hk
  refine ⟨fun x hx => h.ok x (hmem x hx), ?_, fun q hq => ?_, h.bl⟩
  · have key : ∀ (L : List It) (ks : List Nat) (L' : List It), (L.flatMap It.bs).Nodup → ks.Nodup → ks.map (fun k => L[k]?) = L'.map some → (L'.flatMap It.bs).Nodup := by
      intro L ks
      induction ks with
      | nil => intro L' _ _ hm; cases L' with | nil => simp | cons _ _ => simp at hm
      | cons k ks ih =>
        intro L' hnd hn hm
        cases L' with
        | nil => simp at hm
        | cons x L' =>
          simp only [List.map_cons, List.cons.injEq] at hm
          obtain ⟨hk, hm⟩ := hm
          have hn' := List.nodup_cons.1 hn
          have ih' := ih L' hnd hn'.2 hm
          rw [List.flatMap_cons, List.nodup_append]
          have hp := erase_perm hk
          have hnd2 := (hp.flatMap_right It.bs).nodup_iff.1 hnd
          rw [List.flatMap_cons, List.nodup_append] at hnd2
          refine ⟨hnd2.1, ih', fun a ha b hb e => ?_⟩
          subst e
          obtain ⟨y, hy, hay⟩ := List.mem_flatMap.1 hb
          have : some y ∈ ks.map (fun k => L[k]?) := by rw [hm]; exact List.mem_map_of_mem hy
          obtain ⟨k2, hk2, hky⟩ := List.mem_map.1 this
          have hne : k2 ≠ k := fun e => hn'.1 (e ▸ hk2)
          have hmem2 : y ∈ L.eraseIdx k := by
            rw [List.mem_eraseIdx_iff_getElem?]
            exact ⟨k2, hne, hky⟩
          exact hnd2.2.2 a ha a (List.mem_flatMap.2 ⟨y, hmem2, hay⟩) rfl
    exact key L ks L' h.nd hn hm
  · obtain ⟨x, hx, hq⟩ := List.mem_flatMap.1 hq
    exact h.rg q (List.mem_flatMap.2 ⟨x, hmem x hx, hq⟩)
/-- the value owned comes with what else is known: an 'OwnPost' out of the first item -/
theorem Ms.post {d : Dat} {v : Value} {b : List Nat} (h : Ms w0 (.dt d v b :: L) W) : OwnPost d w0 (.returned v) W := ⟨v, rfl, h.own (i := 0) rfl, h.bl⟩
theorem Ms.resB {d : Dat} {v : Value} {b : List Nat} (ok : Bool) (h : Ms w0 (.dt d v b :: L) W) : ResB d ok w0 (.returned (.tuple #[v, .bool ok])) W := ⟨v, rfl, h.own (i := 0) rfl, h.bl⟩
theorem RdL.shift {w : World} {B b off k : Nat} : ∀ {ds : List Dat} {o : Nat}, RdL w B ⟨b, off, none⟩ (k + o) ds → RdL w B ⟨b, off + k, none⟩ o ds
  | [], _, _ => trivial
  | d :: ds, o, h => by
    obtain ⟨⟨v, hv, hd⟩, h2⟩ := h
    refine ⟨⟨v, ?_, hd⟩, RdL.shift (o := o + 1) (by rw [← Nat.add_assoc]; exact h2)⟩
    rw [add_at] at hv ⊢
    rw [Nat.add_assoc]
    exact hv
theorem RdR.shift {w : World} {B b off k sz : Nat} : ∀ {rs : List (List Dat)} {o : Nat}, RdR w B sz ⟨b, off, none⟩ (k + o) rs → RdR w B sz ⟨b, off + k, none⟩ o rs
  | [], _, _ => trivial
  | r :: rs, o, h => ⟨RdL.shift h.1, RdR.shift (o := o + sz) (by rw [← Nat.add_assoc]; exact h.2)⟩
theorem RdR.drop_ {w : World} {B sz : Nat} {ad : Addr} : ∀ {m : Nat} {rs : List (List Dat)} {o : Nat}, RdR w B sz ad o rs → RdR w B sz ad (o + m * sz) (rs.drop m)
  | 0, rs, o, h => by simpa using h
  | m + 1, [], o, h => by simp [RdR]
  | m + 1, r :: rs, o, h => by
    have := RdR.drop_ (m := m) h.2
    rw [List.drop_succ_cons, show o + (m + 1) * sz = o + sz + m * sz by rw [Nat.succ_mul]; omega]
    exact this
theorem RdR.take_ {w : World} {B sz : Nat} {ad : Addr} : ∀ {m : Nat} {rs : List (List Dat)} {o : Nat}, RdR w B sz ad o rs → RdR w B sz ad o (rs.take m)
  | 0, rs, o, h => trivial
  | m + 1, [], o, h => h
  | m + 1, r :: rs, o, h => ⟨h.1, RdR.take_ h.2⟩
theorem RdC.drop_ {w : World} {B b off n c sz : Nat} {e : TypeId} {ds : List (List Dat)} (m : Nat) (h : RdC w B (.rows e sz ds) (.slice (some ⟨b, off, none⟩) n c)) : RdC w B (.rows e sz (ds.drop m)) (.slice (some ⟨b, off + m * sz, none⟩) (n - m) (c - m)) := by
  obtain ⟨A, c', hv, hc, hr⟩ := h
  injection hv with e1 e2 e3
  subst e2 e3
  refine ⟨_, _, by rw [List.length_drop], by rw [List.length_drop]; omega, fun h0 => ?_⟩
  rw [List.length_drop] at h0
  obtain ⟨ad, hA, hb, hs, hr⟩ := hr (by omega)
  rw [← e1] at hA
  injection hA with hA
  subst hA
  refine ⟨_, rfl, hb, .inr rfl, RdR.shift ?_⟩
  have := RdR.drop_ (m := m) hr
  rw [Nat.zero_add] at this
  exact this
theorem sliceV {w : World} {B sz : Nat} {e : TypeId} {ds : List (List Dat)} {v : Value} (h : RdC w B (.rows e sz ds) v) : ∃ A n c, v = .slice A n c := by
  obtain ⟨A, c, hv, _⟩ := h
  exact ⟨A, _, c, hv⟩
theorem RdC.cap_le {w : World} {B n c sz : Nat} {A : Option Addr} {e : TypeId} {ds : List (List Dat)} (h : RdC w B (.rows e sz ds) (.slice A n c)) : n ≤ c := by
  obtain ⟨A', c', hv, hc, hr⟩ := h
  injection hv with e1 e2 e3
  omega
theorem RdC.take_ {w : World} {B n c sz : Nat} {A : Option Addr} {e : TypeId} {ds : List (List Dat)} {m : Nat} (h : RdC w B (.rows e sz ds) (.slice A n c)) (hm : m ≤ ds.length) : RdC w B (.rows e sz (ds.take m)) (.slice A m c) := by
  obtain ⟨A', c', hv, hc, hr⟩ := h
  injection hv with e1 e2 e3
  subst e1 e2 e3
  have hl : (ds.take m).length = m := by rw [List.length_take]; omega
  refine ⟨_, _, by rw [hl], by rw [hl]; omega, fun h0 => ?_⟩
  obtain ⟨ad, hA, hb, hs, hr⟩ := hr (by omega)
  exact ⟨ad, hA, hb, hs, RdR.take_ hr⟩
end
end Go.Proofs.YtgfbcpcfdlnbhabGreat.low


/-
  Short words for a walk through a region that draws its order: an operation taken first, one that is passed over, one that alone may come up.
-/
namespace Go.Proofs.YtgfbcpcfdlnbhabGreat.low
open Go.RowKit
set_option linter.unusedVariables false
section
variable {P : Program} {ops : Array Oper} {Q : Exit → Act → World → Prop} {md : Region.Mode} {S : World → Prop} {fuel : Nat} {listed : Array Bool} {a : Act} {w : World}
theorem tk {v : Value} (i s : Nat) {o : Op} {t : TypeId} {p : String} {af : Array Edge} {gd : Option (Nat × Bool)} (hi : ops[i]? = some ⟨some s, o, t, p, af, gd⟩) (hy : ∀ w, S w → (execOp a.eval ⟨some s, o, t, p, af, gd⟩).run P w = .ok (.value v) w) (hS : S w)
    (h : wpAnyH P md ops Q S fuel (listed.setIfInBounds i true) (a.put (some s) v) w) (hs : Region.noSelect ops = true := by kernel_rfl) (hf : Region.free md ops listed i = true := by kernel_rfl) (hr : (Region.ready md ops listed).contains i = true := by kernel_rfl)
    (hq : ∀ c a w, Q (.panic c) (a.put (some s) v) w → Q (.panic c) a w := by exact fun _ _ _ h => h) (hw : Region.wanted ⟨some s, o, t, p, af, gd⟩ (yielded ops a.tmps) = true := by rfl) : wpAnyH P md ops Q S (fuel + 1) listed a w :=
  wpAnyH_take hi hs hf hr hq (.inl ⟨hw, hy⟩) hS h
theorem tu (i s : Nat) {o : Op} {t : TypeId} {p : String} {af : Array Edge} {gd : Option (Nat × Bool)} (hi : ops[i]? = some ⟨some s, o, t, p, af, gd⟩) (hS : S w)
    (h : wpAnyH P md ops Q S fuel (listed.setIfInBounds i true) (a.put (some s) undef) w) (hs : Region.noSelect ops = true := by kernel_rfl) (hf : Region.free md ops listed i = true := by kernel_rfl) (hr : (Region.ready md ops listed).contains i = true := by kernel_rfl)
    (hq : ∀ c a w, Q (.panic c) (a.put (some s) undef) w → Q (.panic c) a w := by exact fun _ _ _ h => h) (hw : Region.wanted ⟨some s, o, t, p, af, gd⟩ (yielded ops a.tmps) = false := by rfl) : wpAnyH P md ops Q S (fuel + 1) listed a w :=
  wpAnyH_take hi hs hf hr hq (.inr ⟨hw, rfl⟩) hS h
theorem r1 (i : Nat) (d : Option Nat) {o : Op} {t : TypeId} {p : String} {af : Array Edge} {gd : Option (Nat × Bool)} (hi : ops[i]? = some ⟨d, o, t, p, af, gd⟩)
    (h : ∀ K' : Act → World → Prop, Shut (∀ a w, S w → (S w → wpAnyH P md ops Q S fuel (listed.setIfInBounds i true) a w) → K' a w) → if Region.wanted ⟨d, o, t, p, af, gd⟩ (yielded ops a.tmps) = true then Oper.wp P ⟨d, o, t, p, af, gd⟩ a w K' Q else K' (a.put d undef) w)
    (hr : Region.ready md ops listed = [i] := by kernel_rfl) : wpAnyH P md ops Q S (fuel + 1) listed a w := wpAnyH_ready hr (by simp) (AllReadyH.cons hi h AllReadyH.nil)
theorem pa {α : Type} {l : List α} {i : Nat} {x : α} : l.toArray.setIfInBounds i x = (l.set i x).toArray := List.setIfInBounds_toArray ..
theorem pb {α : Type} {l : List α} {x y : α} : (y :: l).set 0 x = x :: l := rfl
theorem pc {α : Type} {l : List α} {x y : α} {i : Nat} : (y :: l).set (i + 1) x = y :: l.set i x := rfl
end
section
variable {w0 W : World} {L : List It}
def pk (L : List It) : List Nat → List It
  | [] => []
  | k :: ks => match L[k]? with | some x => x :: pk L ks | none => pk L ks
theorem pk_ok {L : List It} : ∀ {ks : List Nat}, (∀ k ∈ ks, k < L.length) → ks.map (fun k => L[k]?) = (pk L ks).map some
  | [], _ => rfl
  | k :: ks, h => by
    have hk := h k (by simp)
    rw [pk, List.getElem?_eq_getElem hk]
    simp only [List.map_cons, List.getElem?_eq_getElem hk]
    rw [pk_ok (fun q hq => h q (by simp [hq]))]
theorem Ms.pk (h : Ms w0 L W) (ks : List Nat) (hn : ks.Nodup) (hl : ∀ k ∈ ks, k < L.length) : Ms w0 (low.pk L ks) W := h.pick hn (pk_ok hl)
theorem Ms.c1 {g : Nat} {T : TypeId} {a : Value} (h : Ms w0 L W) (i : Nat) (hi : L[i]? = some (.bx g (.cells #[a] T (0, 0)))) : W.cell? ⟨g, 0, none⟩ = some a := h.cell (j := 0) hi rfl
theorem Ms.f1 {g : Nat} {T : TypeId} {a : Value} (h : Ms w0 L W) (i : Nat) (hi : L[i]? = some (.bx g (.cells #[a] T (0, 0)))) : W.frozen? ⟨g, 0, none⟩ = false := h.free (j := 0) hi
theorem Ms.c2 {g : Nat} {T : TypeId} {a b : Value} (h : Ms w0 L W) (i : Nat) (hi : L[i]? = some (.bx g (.cells #[a, b] T (0, 0)))) : W.cell? ⟨g, 0, none⟩ = some a ∧ W.cell? ⟨g, 1, none⟩ = some b := ⟨h.cell (j := 0) hi rfl, h.cell (j := 1) hi rfl⟩
theorem Ms.f2 {g : Nat} {T : TypeId} {a b : Value} (h : Ms w0 L W) (i : Nat) (hi : L[i]? = some (.bx g (.cells #[a, b] T (0, 0)))) : W.frozen? ⟨g, 0, none⟩ = false ∧ W.frozen? ⟨g, 1, none⟩ = false := ⟨h.free (j := 0) hi, h.free (j := 1) hi⟩
theorem Ms.c3 {g : Nat} {T : TypeId} {a b c : Value} (h : Ms w0 L W) (i : Nat) (hi : L[i]? = some (.bx g (.cells #[a, b, c] T (0, 0)))) : W.cell? ⟨g, 0, none⟩ = some a ∧ W.cell? ⟨g, 1, none⟩ = some b ∧ W.cell? ⟨g, 2, none⟩ = some c := ⟨h.cell (j := 0) hi rfl, h.cell (j := 1) hi rfl, h.cell (j := 2) hi rfl⟩
theorem Ms.f3 {g : Nat} {T : TypeId} {a b c : Value} (h : Ms w0 L W) (i : Nat) (hi : L[i]? = some (.bx g (.cells #[a, b, c] T (0, 0)))) : W.frozen? ⟨g, 0, none⟩ = false ∧ W.frozen? ⟨g, 1, none⟩ = false ∧ W.frozen? ⟨g, 2, none⟩ = false := ⟨h.free (j := 0) hi, h.free (j := 1) hi, h.free (j := 2) hi⟩
theorem Ms.c4 {g : Nat} {T : TypeId} {a b c d : Value} (h : Ms w0 L W) (i : Nat) (hi : L[i]? = some (.bx g (.cells #[a, b, c, d] T (0, 0)))) : W.cell? ⟨g, 0, none⟩ = some a ∧ W.cell? ⟨g, 1, none⟩ = some b ∧ W.cell? ⟨g, 2, none⟩ = some c ∧ W.cell? ⟨g, 3, none⟩ = some d := ⟨h.cell (j := 0) hi rfl, h.cell (j := 1) hi rfl, h.cell (j := 2) hi rfl, h.cell (j := 3) hi rfl⟩
theorem Ms.f4 {g : Nat} {T : TypeId} {a b c d : Value} (h : Ms w0 L W) (i : Nat) (hi : L[i]? = some (.bx g (.cells #[a, b, c, d] T (0, 0)))) : W.frozen? ⟨g, 0, none⟩ = false ∧ W.frozen? ⟨g, 1, none⟩ = false ∧ W.frozen? ⟨g, 2, none⟩ = false ∧ W.frozen? ⟨g, 3, none⟩ = false := ⟨h.free (j := 0) hi, h.free (j := 1) hi, h.free (j := 2) hi, h.free (j := 3) hi⟩
theorem Ms.c5 {g : Nat} {T : TypeId} {a b c d e : Value} (h : Ms w0 L W) (i : Nat) (hi : L[i]? = some (.bx g (.cells #[a, b, c, d, e] T (0, 0)))) : W.cell? ⟨g, 0, none⟩ = some a ∧ W.cell? ⟨g, 1, none⟩ = some b ∧ W.cell? ⟨g, 2, none⟩ = some c ∧ W.cell? ⟨g, 3, none⟩ = some d ∧ W.cell? ⟨g, 4, none⟩ = some e := ⟨h.cell (j := 0) hi rfl, h.cell (j := 1) hi rfl, h.cell (j := 2) hi rfl, h.cell (j := 3) hi rfl, h.cell (j := 4) hi rfl⟩
theorem Ms.f5 {g : Nat} {T : TypeId} {a b c d e : Value} (h : Ms w0 L W) (i : Nat) (hi : L[i]? = some (.bx g (.cells #[a, b, c, d, e] T (0, 0)))) : W.frozen? ⟨g, 0, none⟩ = false ∧ W.frozen? ⟨g, 1, none⟩ = false ∧ W.frozen? ⟨g, 2, none⟩ = false ∧ W.frozen? ⟨g, 3, none⟩ = false ∧ W.frozen? ⟨g, 4, none⟩ = false := ⟨h.free (j := 0) hi, h.free (j := 1) hi, h.free (j := 2) hi, h.free (j := 3) hi, h.free (j := 4) hi⟩
theorem Ms.c6 {g : Nat} {T : TypeId} {a b c d e f : Value} (h : Ms w0 L W) (i : Nat) (hi : L[i]? = some (.bx g (.cells #[a, b, c, d, e, f] T (0, 0)))) : W.cell? ⟨g, 0, none⟩ = some a ∧ W.cell? ⟨g, 1, none⟩ = some b ∧ W.cell? ⟨g, 2, none⟩ = some c ∧ W.cell? ⟨g, 3, none⟩ = some d ∧ W.cell? ⟨g, 4, none⟩ = some e ∧ W.cell? ⟨g, 5, none⟩ = some f := ⟨h.cell (j := 0) hi rfl, h.cell (j := 1) hi rfl, h.cell (j := 2) hi rfl, h.cell (j := 3) hi rfl, h.cell (j := 4) hi rfl, h.cell (j := 5) hi rfl⟩
theorem Ms.f6 {g : Nat} {T : TypeId} {a b c d e f : Value} (h : Ms w0 L W) (i : Nat) (hi : L[i]? = some (.bx g (.cells #[a, b, c, d, e, f] T (0, 0)))) : W.frozen? ⟨g, 0, none⟩ = false ∧ W.frozen? ⟨g, 1, none⟩ = false ∧ W.frozen? ⟨g, 2, none⟩ = false ∧ W.frozen? ⟨g, 3, none⟩ = false ∧ W.frozen? ⟨g, 4, none⟩ = false ∧ W.frozen? ⟨g, 5, none⟩ = false := ⟨h.free (j := 0) hi, h.free (j := 1) hi, h.free (j := 2) hi, h.free (j := 3) hi, h.free (j := 4) hi, h.free (j := 5) hi⟩
theorem Ms.apart (h : Ms w0 L W) {i j : Nat} {x y : It} (hi : L[i]? = some x) (hj : L[j]? = some y) (hij : ¬ i = j) {q : Nat} (hq : q ∈ x.bs) (hq' : q ∈ y.bs) : False := by
  have key : ∀ (L : List It) (i j : Nat) (x y : It), i < j → (L.flatMap It.bs).Nodup → L[i]? = some x → L[j]? = some y → q ∈ x.bs → q ∈ y.bs → False := by
    intro L
    induction L with
    | nil => intro i j x y _ _ hi; simp at hi
    | cons z L ih =>
      intro i j x y hij hnd hi hj hq hq'
      rw [List.flatMap_cons, List.nodup_append] at hnd
      cases j with
      | zero => omega
      | succ j =>
        simp only [List.getElem?_cons_succ] at hj
        cases i with
        | zero =>
          simp only [List.getElem?_cons_zero, Option.some.injEq] at hi
          subst hi
          exact hnd.2.2 q hq q (List.mem_flatMap.2 ⟨_, List.mem_of_getElem? hj, hq'⟩) rfl
        | succ i =>
          simp only [List.getElem?_cons_succ] at hi
          exact ih i j x y (by omega) hnd.2.1 hi hj hq hq'
  rcases Nat.lt_or_gt_of_ne hij with hlt | hlt
  · exact key L i j x y hlt h.nd hi hj hq hq'
  · exact key L j i y x hlt h.nd hj hi hq' hq
/-- the world at hand gets a name -/
theorem Ms.name (h : Ms w0 L W) : ∃ W', W' = W ∧ Ms w0 L W' := ⟨W, rfl, h⟩
end
end Go.Proofs.YtgfbcpcfdlnbhabGreat.low


/-
  Contracts of spec.l08Entry, l08Entries, l08Copy and Forget, in the words of Ms. Written by mkdoc8.py.
-/
namespace Go.Proofs.YtgfbcpcfdlnbhabGreat.low
open Go.RowKit
set_option linter.unusedVariables false

theorem elt_of {t e : TypeId} {z : Value} {sz bytes : Nat} (hu : Tryz.prog.underlying t = some (.slice e)) (hi : (Tryz.prog.info? e).map (fun i => (i.zero, i.size, i.bytes)) = some (some z, sz, bytes)) (h1 : z.cells.size = sz) (h2 : 0 < sz) (h3 : bytes ≤ 100000) : Elt t e z sz bytes := by
  obtain ⟨i, k1, k2⟩ := Option.map_eq_some_iff.1 hi
  simp only [Prod.mk.injEq] at k2
  exact ⟨i, hu, k1, k2.1, k2.2.1, k2.2.2, h1, h2, h3⟩
theorem eltInt : Elt 22 3 (.int .i64 0) 1 8 := elt_of (by kernel_rfl) (by kernel_rfl) rfl (by omega) (by omega)
theorem eltEn : Elt 28 67 (.agg #[.int .i64 0, .int .i64 0, .slice none 0 0]) 3 40 := elt_of (by kernel_rfl) (by kernel_rfl) rfl (by omega) (by omega)
theorem eltSe : Elt 29 52 (.agg #[.int .i64 0, .int .i64 0, .int .i64 0]) 3 24 := elt_of (by kernel_rfl) (by kernel_rfl) rfl (by omega) (by omega)
theorem flatI (zs : List Int) : FlatR (zs.map fun z => [.int z]) 1 := fun r hr => by
  obtain ⟨z, _, rfl⟩ := List.mem_map.1 hr
  exact ⟨rfl, fun d hd => by rw [List.mem_singleton] at hd; subst hd; exact ⟨_, rfl, rfl⟩⟩
theorem flatSe (l : List Se) : FlatR (l.map encSe) 3 := fun r hr => by
  obtain ⟨z, _, rfl⟩ := List.mem_map.1 hr
  refine ⟨rfl, fun d hd => ?_⟩
  unfold encSe at hd
  simp only [List.mem_cons, List.not_mem_nil, or_false] at hd
  rcases hd with rfl | rfl | rfl <;> exact ⟨_, rfl, rfl⟩

set_option maxRecDepth 100000 in
set_option maxHeartbeats 3200000 in
theorem specEntryC_d (v : Value) (x : En) (w : World) (h : RdC w w.heap.size (datEn x) v) (hs : SmEn x) : Calls Tryz.prog 42 #[v] w (OwnPost (datEn x) w) := by
  obtain ⟨A2, c2, rfl, r2⟩ := aggEn h
  have HR := Lib.hid r2
  clear h r2
  have HM := Lib.hid (Ms.start w)
  replace HM := Lib.hid (HM.out.new #[.int .i64 x.client, .int .i64 x.seq, .slice A2 x.o.length c2] 67)
  have hm := HM.out.new #[.int .i64 0, .int .i64 0, .slice none 0 0] 67
  simp only [World.size_alloc] at hm
  replace HM := Lib.hid hm
  clear hm
  go_enter Tryz.func42, Tryz.ntmps42
  go_wp2
  obtain ⟨W1, hW, hm⟩ := HM.out.name
  rw [← hW]
  replace HM := Lib.hid hm
  clear hm hW
  replace HM := Lib.hid (HM.out.drew)
  refine wp_region_held_drew (S := fun W => Ms w [.bx w.heap.size (.cells #[.int .i64 x.client, .int .i64 x.seq, .slice A2 x.o.length c2] 67 (0, 0))] W) (by kernel_rfl) (HM.out.pick (ks := [1]) (by decide) rfl) (fun hS => ?_)
  generalize W1.drew = W2 at HM hS ⊢
  refine tk (v := ?_) 0 3 rfl (fun w' hS' => ?_) hS ?_
  rotate_left
  · go_simp; all_goals (with_reducible rfl)
  try simp only [Act.put, pa, pb, pc]
  refine tk (v := ?_) 1 4 rfl (fun w' hS' => ?_) hS ?_
  rotate_left
  · (try dsimp only at hS'); obtain ⟨q0, q1, q2⟩ := hS'.c3 0 rfl; go_simp; all_goals (with_reducible rfl)
  try simp only [Act.put, pa, pb, pc]
  refine tk (v := ?_) 2 5 rfl (fun w' hS' => ?_) hS ?_
  rotate_left
  · go_simp; all_goals (with_reducible rfl)
  try simp only [Act.put, pa, pb, pc]
  refine tk (v := ?_) 3 6 rfl (fun w' hS' => ?_) hS ?_
  rotate_left
  · (try dsimp only at hS'); obtain ⟨q0, q1, q2⟩ := hS'.c3 0 rfl; go_simp; all_goals (with_reducible rfl)
  try simp only [Act.put, pa, pb, pc]
  refine tk (v := ?_) 4 7 rfl (fun w' hS' => ?_) hS ?_
  rotate_left
  · go_simp; all_goals (with_reducible rfl)
  try simp only [Act.put, pa, pb, pc]
  refine tk (v := ?_) 5 8 rfl (fun w' hS' => ?_) hS ?_
  rotate_left
  · (try dsimp only at hS'); obtain ⟨q0, q1, q2⟩ := hS'.c3 0 rfl; go_simp; all_goals (with_reducible rfl)
  try simp only [Act.put, pa, pb, pc]
  refine r1 6 (some 9) rfl (fun K hK => ?_)
  go_simp
  refine (specCopy_d _ x.o _ (HM.out.arg HR.out) hs.o).mono ?_
  rintro e' W3 ⟨v', rfl, o', b'⟩
  obtain ⟨An, cn, rfl⟩ := sliceP o'.read
  obtain ⟨bo, hm⟩ := HM.out.got o' b'
  clear o' b'
  replace HM := Lib.hid hm
  clear hm
  clear hS
  refine hK.out _ _ (HM.out.pick (ks := [2]) (by decide) rfl) (fun hS => ?_)
  clear hK K
  try simp only [Act.put, pa, pb, pc]
  refine tk (v := ?_) 7 10 rfl (fun w' hS' => ?_) hS ?_
  rotate_left
  · go_simp; all_goals (with_reducible rfl)
  try simp only [Act.put, pa, pb, pc]
  refine r1 8 none rfl (fun K hK => ?_)
  obtain ⟨kr0, kr1, kr2⟩ := HM.out.c3 1 rfl
  obtain ⟨fr0, fr1, fr2⟩ := HM.out.f3 1 rfl
  go_simp
  clear hS kr0 kr1 kr2 fr0 fr1 fr2
  have hm := HM.out.pk [1, 0, 2] (by decide) (by simp)
  simp only [low.pk, List.getElem?_cons_zero, List.getElem?_cons_succ] at hm
  replace HM := Lib.hid hm
  clear hm
  have hm := HM.out.putRow (ys := [.int .i64 x.client, .int .i64 x.seq, .slice An x.o.length cn]) rfl
  simp only [low.putRow, Nat.zero_add, Nat.reduceAdd] at hm
  replace HM := Lib.hid hm
  clear hm
  obtain ⟨W4, hW, hm⟩ := HM.out.name
  rw [← hW]
  replace HM := Lib.hid hm
  clear hm hW
  refine hK.out _ _ (HM.out.pick (ks := [2]) (by decide) rfl) (fun hS => ?_)
  clear hK K
  try simp only [Act.put, pa, pb, pc]
  refine wpAnyH_done (by kernel_rfl) ?_ _
  clear hS
  go_wp2
  obtain ⟨kr0, kr1, kr2⟩ := HM.out.c3 0 rfl
  have hm := HM.out.pk [1, 0, 2] (by decide) (by simp)
  simp only [low.pk, List.getElem?_cons_zero, List.getElem?_cons_succ] at hm
  replace HM := Lib.hid hm
  clear hm
  exact bodyPost_ret (v := .agg #[.int .i64 x.client, .int .i64 x.seq, .slice An x.o.length cn]) (by simp [results, Tryz.results42, go_sem, kr0, kr1, kr2]) rfl (show Ms w (.dt (datEn x) (.agg #[.int .i64 x.client, .int .i64 x.seq, .slice An x.o.length cn]) (bo ++ []) :: _) _ from (HM.out.pk0.pkO.pkF rfl).pkF rfl).post
set_option maxRecDepth 100000 in
set_option maxHeartbeats 3200000 in
theorem specEntriesC_d (v : Value) (l : List En) (w : World) (h : RdC w w.heap.size (encEns l) v) (hs : SmEns l) : Calls Tryz.prog 17 #[v] w (OwnPost (encEns l) w) := by
  obtain ⟨A, c, rfl⟩ := sliceEns h
  have hl := hs.len
  have HR := Lib.hid h
  clear h
  have HM := Lib.hid (Ms.start w)
  replace HM := Lib.hid (HM.out.empty 67 3)
  go_enter Tryz.func17, Tryz.ntmps17
  go_wp2
  go_loopw [3, 9] (fun ov i wr => ∃ (j : Nat) (A1 : Option Addr) (c1 : Nat) (bs : List Nat), j ≤ l.length ∧ i = .int .i64 (j : Int) ∧ ov = .slice A1 j c1 ∧ Ms w [.dt (.rows 67 3 ((l.take j).map encEn)) (.slice A1 j c1) bs] wr) (fun _ i _ => l.length - (intOf i).toNat)
  case atStart => exact ⟨0, _, _, _, Nat.zero_le _, rfl, rfl, HM.out⟩
  case round =>
    obtain ⟨j, A1, c1, bs, hj, rfl, rfl, hm⟩ := hrel
    clear HM
    have HM := Lib.hid hm
    clear hm
    by_cases hlt : j < l.length
    · obtain ⟨b, off, e, A5, c5, rfl, hbb, hp, y0, y1, y2, q2⟩ := atEns HR.out hlt
      have x0 := (HM.out.bl.cell (p := ⟨b, off + j * 3, none⟩) hbb).trans y0
      have x1 := (HM.out.bl.cell (p := ⟨b, off + j * 3 + 1, none⟩) hbb).trans y1
      have x2 := (HM.out.bl.cell (p := ⟨b, off + j * 3 + 2, none⟩) hbb).trans y2
      clear y0 y1 y2
      have hse := hs.at_ (List.mem_of_getElem? hp)
      have HT := Lib.hid (show (l.take (j + 1)).map encEn = (l.take j).map encEn ++ [encEn e] by rw [List.take_add_one, hp]; simp)
      clear hp
      replace HM := Lib.hid (HM.out.new #[.int .i64 e.client, .int .i64 e.seq, .slice A5 e.o.length c5] 67)
      go_wp2_with fail
      obtain ⟨W1, hW, hm⟩ := HM.out.name
      rw [← hW]
      replace HM := Lib.hid hm
      clear hm hW
      refine (specEntryC_d _ e _ (rdEn e (HM.out.arg q2)) hse).mono ?_
      rintro e' W2 ⟨v', rfl, o', b'⟩
      obtain ⟨A6, c6, rfl, -⟩ := aggEn o'.read
      obtain ⟨bn, hm⟩ := HM.out.got o' b'
      clear o' b'
      replace HM := Lib.hid hm
      clear hm
      clear x0 x1 x2
      replace HM := Lib.hid (HM.out.new #[.int .i64 e.client, .int .i64 e.seq, .slice A6 e.o.length c6] 67)
      have hm := HM.out.pk [3, 1, 0, 2] (by decide) (by simp)
      simp only [low.pk, List.getElem?_cons_zero, List.getElem?_cons_succ] at hm
      replace HM := Lib.hid hm
      clear hm
      go_wp2_with (at_builtin; refine wpList_ms1 rfl (.tmp 13) (.tmp 16) 28 rfl eltEn HM.out rfl (by simp; omega) W2.heap.size _ rfl (HM.out.at_ (i := 2) rfl) rfl (by simp [Value.oneCell']) ?_; intro A7 c7 w7 b7 hm)
      have e1 : ((l.take j).map encEn).length = j := by simp; omega
      rw [e1] at hm
      try rw [e1]
      rw [HT.out.symm] at hm
      have HM7 := Lib.hid hm
      clear hm e1 HM
      go_wp2
      go_roundw
      case rel => exact ⟨j + 1, A7, c7, b7, by omega, by go_num, rfl, HM7.out.pick (ks := [0]) (by decide) rfl⟩
      case measure => simp [intOf]; omega
    · obtain rfl : j = l.length := by omega
      have hm := HM.out
      rw [List.take_length] at hm
      have HM7 := Lib.hid hm
      clear hm HM
      go_wp2
      go_ret
      exact (show Ms w [.dt (encEns l) _ _] _ from HM7.out).post
set_option maxRecDepth 100000 in
set_option maxHeartbeats 3200000 in
theorem specCopyD_d (v : Value) (x : Do) (w : World) (h : RdC w w.heap.size (datDo x) v) (hs : SmDo x) : Calls Tryz.prog 15 #[v] w (OwnPost (datDo x) w) := by
  obtain ⟨A2, c2, A3, c3, A4, c4, rfl, r2, r3, r4⟩ := aggDo h
  have ht : x.text.length ≤ 1048576 := hs.text
  have hl := hs.list.len
  have hl4 := hs.seen.len
  have R2 := Lib.hid r2
  have R3 := Lib.hid r3
  have R4 := Lib.hid r4
  clear h r2 r3 r4
  have HM := Lib.hid (Ms.start w)
  replace HM := Lib.hid (HM.out.new #[.string x.name, .int .i64 x.from_, .slice A2 x.text.length c2, .slice A3 x.list.length c3, .slice A4 x.seen.length c4] 31)
  have hm := HM.out.new #[.string ⟨#[]⟩, .int .i64 0, .slice none 0 0, .slice none 0 0, .slice none 0 0] 31
  simp only [World.size_alloc] at hm
  replace HM := Lib.hid hm
  clear hm
  go_enter Tryz.func15, Tryz.ntmps15
  go_wp2
  obtain ⟨W1, hW, hm⟩ := HM.out.name
  rw [← hW]
  replace HM := Lib.hid hm
  clear hm hW
  replace HM := Lib.hid (HM.out.drew)
  refine wp_region_held_drew (S := fun W => Ms w [.bx w.heap.size (.cells #[.string x.name, .int .i64 x.from_, .slice A2 x.text.length c2, .slice A3 x.list.length c3, .slice A4 x.seen.length c4] 31 (0, 0))] W) (by kernel_rfl) (HM.out.pick (ks := [1]) (by decide) rfl) (fun hS => ?_)
  generalize W1.drew = W2 at HM hS ⊢
  refine tk (v := ?_) 0 3 rfl (fun w' hS' => ?_) hS ?_
  rotate_left
  · go_simp; all_goals (with_reducible rfl)
  try simp only [Act.put, pa, pb, pc]
  refine tk (v := ?_) 1 4 rfl (fun w' hS' => ?_) hS ?_
  rotate_left
  · (try dsimp only at hS'); obtain ⟨q0, q1, q2, q3, q4⟩ := hS'.c5 0 rfl; go_simp; all_goals (with_reducible rfl)
  try simp only [Act.put, pa, pb, pc]
  refine tk (v := ?_) 2 5 rfl (fun w' hS' => ?_) hS ?_
  rotate_left
  · go_simp; all_goals (with_reducible rfl)
  try simp only [Act.put, pa, pb, pc]
  refine tk (v := ?_) 3 6 rfl (fun w' hS' => ?_) hS ?_
  rotate_left
  · (try dsimp only at hS'); obtain ⟨q0, q1, q2, q3, q4⟩ := hS'.c5 0 rfl; go_simp; all_goals (with_reducible rfl)
  try simp only [Act.put, pa, pb, pc]
  refine tk (v := ?_) 5 8 rfl (fun w' hS' => ?_) hS ?_
  rotate_left
  · go_simp; all_goals (with_reducible rfl)
  try simp only [Act.put, pa, pb, pc]
  refine tk (v := ?_) 6 9 rfl (fun w' hS' => ?_) hS ?_
  rotate_left
  · (try dsimp only at hS'); obtain ⟨q0, q1, q2, q3, q4⟩ := hS'.c5 0 rfl; go_simp; all_goals (with_reducible rfl)
  try simp only [Act.put, pa, pb, pc]
  refine tk (v := ?_) 8 11 rfl (fun w' hS' => ?_) hS ?_
  rotate_left
  · go_simp; all_goals (with_reducible rfl)
  try simp only [Act.put, pa, pb, pc]
  refine tk (v := ?_) 9 12 rfl (fun w' hS' => ?_) hS ?_
  rotate_left
  · (try dsimp only at hS'); obtain ⟨q0, q1, q2, q3, q4⟩ := hS'.c5 0 rfl; go_simp; all_goals (with_reducible rfl)
  try simp only [Act.put, pa, pb, pc]
  refine tk (v := ?_) 12 15 rfl (fun w' hS' => ?_) hS ?_
  rotate_left
  · go_simp; all_goals (with_reducible rfl)
  try simp only [Act.put, pa, pb, pc]
  refine tk (v := ?_) 13 16 rfl (fun w' hS' => ?_) hS ?_
  rotate_left
  · (try dsimp only at hS'); obtain ⟨q0, q1, q2, q3, q4⟩ := hS'.c5 0 rfl; go_simp; all_goals (with_reducible rfl)
  try simp only [Act.put, pa, pb, pc]
  refine wpAnyH_ready (rs := [4, 11]) (by kernel_rfl) (by simp) ?_
  refine AllReadyH.cons (o := ⟨some 7, _, _, _, _, _⟩) rfl (fun K hK => ?_) ?_
  · go_simp
    replace HM := Lib.hid (HM.out.empty 3 1)
    obtain ⟨W3, hW, hm⟩ := HM.out.name
    rw [← hW]
    replace HM := Lib.hid hm
    clear hm hW
    clear hS
    refine hK.out _ _ (HM.out.pick (ks := [2]) (by decide) rfl) (fun hS => ?_)
    clear hK K
    try simp only [Act.put, pa, pb, pc]
    refine wpAnyH_ready (rs := [7, 11]) (by kernel_rfl) (by simp) ?_
    refine AllReadyH.cons (o := ⟨some 10, _, _, _, _, _⟩) rfl (fun K hK => ?_) ?_
    · refine step_msAll (by rfl) (.tmp 7) (.tmp 9) 22 (by rfl) eltInt HM.out (by rfl) A2 x.text.length c2 (by rfl) (HM.out.arg R2.out) (flatI _) (by simp; omega) ?_
      intro Ant cnt W4 bnt hm
      simp only [List.nil_append, List.length_nil, Nat.zero_add] at hm ⊢
      replace HM := Lib.hid hm
      clear hm
      clear hS
      refine hK.out _ _ (HM.out.pick (ks := [2]) (by decide) rfl) (fun hS => ?_)
      clear hK K
      try simp only [Act.put, pa, pb, pc]
      refine wpAnyH_ready (rs := [10, 11]) (by kernel_rfl) (by simp) ?_
      refine AllReadyH.cons (o := ⟨some 13, _, _, _, _, _⟩) rfl (fun K hK => ?_) ?_
      · go_simp
        refine (specEntriesC_d _ x.list _ (HM.out.arg R3.out) hs.list).mono ?_
        rintro e' W5 ⟨v', rfl, o', b'⟩
        obtain ⟨Anl, cnl, rfl⟩ := sliceEns o'.read
        obtain ⟨bl, hm⟩ := HM.out.got o' b'
        clear o' b'
        replace HM := Lib.hid hm
        clear hm
        clear hS
        refine hK.out _ _ (HM.out.pick (ks := [3]) (by decide) rfl) (fun hS => ?_)
        clear hK K
        try simp only [Act.put, pa, pb, pc]
        refine r1 11 (some 14) rfl (fun K hK => ?_)
        go_simp
        replace HM := Lib.hid (HM.out.empty 52 3)
        obtain ⟨W6, hW, hm⟩ := HM.out.name
        rw [← hW]
        replace HM := Lib.hid hm
        clear hm hW
        clear hS
        refine hK.out _ _ (HM.out.pick (ks := [4]) (by decide) rfl) (fun hS => ?_)
        clear hK K
        try simp only [Act.put, pa, pb, pc]
        refine r1 14 (some 17) rfl (fun K hK => ?_)
        refine step_msAll (by rfl) (.tmp 14) (.tmp 16) 29 (by rfl) eltSe HM.out (by rfl) A4 x.seen.length c4 (by rfl) (HM.out.arg R4.out) (flatSe _) (by simp; omega) ?_
        intro Ans cns W7 bns hm
        simp only [List.nil_append, List.length_nil, Nat.zero_add] at hm ⊢
        replace HM := Lib.hid hm
        clear hm
        clear hS
        refine hK.out _ _ (HM.out.pick (ks := [4]) (by decide) rfl) (fun hS => ?_)
        clear hK K
        try simp only [Act.put, pa, pb, pc]
        refine tk (v := ?_) 15 18 rfl (fun w' hS' => ?_) hS ?_
        rotate_left
        · go_simp; all_goals (with_reducible rfl)
        try simp only [Act.put, pa, pb, pc]
        refine r1 16 none rfl (fun K hK => ?_)
        obtain ⟨kr0, kr1, kr2, kr3, kr4⟩ := HM.out.c5 3 rfl
        obtain ⟨fr0, fr1, fr2, fr3, fr4⟩ := HM.out.f5 3 rfl
        go_simp
        clear hS kr0 kr1 kr2 kr3 kr4 fr0 fr1 fr2 fr3 fr4
        have hm := HM.out.pk [3, 0, 1, 2, 4] (by decide) (by simp)
        simp only [low.pk, List.getElem?_cons_zero, List.getElem?_cons_succ] at hm
        replace HM := Lib.hid hm
        clear hm
        have hm := HM.out.putRow (ys := [.string x.name, .int .i64 x.from_, .slice Ant x.text.length cnt, .slice Anl x.list.length cnl, .slice Ans x.seen.length cns]) rfl
        simp only [low.putRow, Nat.zero_add, Nat.reduceAdd] at hm
        replace HM := Lib.hid hm
        clear hm
        obtain ⟨W8, hW, hm⟩ := HM.out.name
        rw [← hW]
        replace HM := Lib.hid hm
        clear hm hW
        refine hK.out _ _ (HM.out.pick (ks := [4]) (by decide) rfl) (fun hS => ?_)
        clear hK K
        try simp only [Act.put, pa, pb, pc]
        refine wpAnyH_done (by kernel_rfl) ?_ _
        clear hS
        go_wp2
        obtain ⟨kr0, kr1, kr2, kr3, kr4⟩ := HM.out.c5 0 rfl
        have hm := HM.out.pk [1, 2, 3, 0, 4] (by decide) (by simp)
        simp only [low.pk, List.getElem?_cons_zero, List.getElem?_cons_succ] at hm
        replace HM := Lib.hid hm
        clear hm
        exact bodyPost_ret (v := .agg #[.string x.name, .int .i64 x.from_, .slice Ant x.text.length cnt, .slice Anl x.list.length cnl, .slice Ans x.seen.length cns]) (by simp [results, Tryz.results15, go_sem, kr0, kr1, kr2, kr3, kr4]) rfl (show Ms w (.dt (datDo x) (.agg #[.string x.name, .int .i64 x.from_, .slice Ant x.text.length cnt, .slice Anl x.list.length cnl, .slice Ans x.seen.length cns]) _ :: _) _ from (HM.out.pk0.pkO.pkO.pkO.pkF rfl).pkF rfl).post
      refine AllReadyH.cons (o := ⟨some 14, _, _, _, _, _⟩) rfl (fun K hK => ?_) AllReadyH.nil
      go_simp
      replace HM := Lib.hid (HM.out.empty 52 3)
      obtain ⟨W9, hW, hm⟩ := HM.out.name
      rw [← hW]
      replace HM := Lib.hid hm
      clear hm hW
      clear hS
      refine hK.out _ _ (HM.out.pick (ks := [3]) (by decide) rfl) (fun hS => ?_)
      clear hK K
      try simp only [Act.put, pa, pb, pc]
      refine r1 10 (some 13) rfl (fun K hK => ?_)
      go_simp
      refine (specEntriesC_d _ x.list _ (HM.out.arg R3.out) hs.list).mono ?_
      rintro e' W10 ⟨v', rfl, o', b'⟩
      obtain ⟨Anl, cnl, rfl⟩ := sliceEns o'.read
      obtain ⟨bl, hm⟩ := HM.out.got o' b'
      clear o' b'
      replace HM := Lib.hid hm
      clear hm
      clear hS
      refine hK.out _ _ (HM.out.pick (ks := [4]) (by decide) rfl) (fun hS => ?_)
      clear hK K
      try simp only [Act.put, pa, pb, pc]
      refine r1 14 (some 17) rfl (fun K hK => ?_)
      have hm := HM.out.pk [1, 0, 2, 3, 4] (by decide) (by simp)
      simp only [low.pk, List.getElem?_cons_zero, List.getElem?_cons_succ] at hm
      replace HM := Lib.hid hm
      clear hm
      refine step_msAll (by rfl) (.tmp 14) (.tmp 16) 29 (by rfl) eltSe HM.out (by rfl) A4 x.seen.length c4 (by rfl) (HM.out.arg R4.out) (flatSe _) (by simp; omega) ?_
      intro Ans cns W11 bns hm
      simp only [List.nil_append, List.length_nil, Nat.zero_add] at hm ⊢
      replace HM := Lib.hid hm
      clear hm
      clear hS
      refine hK.out _ _ (HM.out.pick (ks := [4]) (by decide) rfl) (fun hS => ?_)
      clear hK K
      try simp only [Act.put, pa, pb, pc]
      refine tk (v := ?_) 15 18 rfl (fun w' hS' => ?_) hS ?_
      rotate_left
      · go_simp; all_goals (with_reducible rfl)
      try simp only [Act.put, pa, pb, pc]
      refine r1 16 none rfl (fun K hK => ?_)
      obtain ⟨kr0, kr1, kr2, kr3, kr4⟩ := HM.out.c5 3 rfl
      obtain ⟨fr0, fr1, fr2, fr3, fr4⟩ := HM.out.f5 3 rfl
      go_simp
      clear hS kr0 kr1 kr2 kr3 kr4 fr0 fr1 fr2 fr3 fr4
      have hm := HM.out.pk [3, 0, 1, 2, 4] (by decide) (by simp)
      simp only [low.pk, List.getElem?_cons_zero, List.getElem?_cons_succ] at hm
      replace HM := Lib.hid hm
      clear hm
      have hm := HM.out.putRow (ys := [.string x.name, .int .i64 x.from_, .slice Ant x.text.length cnt, .slice Anl x.list.length cnl, .slice Ans x.seen.length cns]) rfl
      simp only [low.putRow, Nat.zero_add, Nat.reduceAdd] at hm
      replace HM := Lib.hid hm
      clear hm
      obtain ⟨W12, hW, hm⟩ := HM.out.name
      rw [← hW]
      replace HM := Lib.hid hm
      clear hm hW
      refine hK.out _ _ (HM.out.pick (ks := [4]) (by decide) rfl) (fun hS => ?_)
      clear hK K
      try simp only [Act.put, pa, pb, pc]
      refine wpAnyH_done (by kernel_rfl) ?_ _
      clear hS
      go_wp2
      obtain ⟨kr0, kr1, kr2, kr3, kr4⟩ := HM.out.c5 0 rfl
      have hm := HM.out.pk [1, 2, 3, 0, 4] (by decide) (by simp)
      simp only [low.pk, List.getElem?_cons_zero, List.getElem?_cons_succ] at hm
      replace HM := Lib.hid hm
      clear hm
      exact bodyPost_ret (v := .agg #[.string x.name, .int .i64 x.from_, .slice Ant x.text.length cnt, .slice Anl x.list.length cnl, .slice Ans x.seen.length cns]) (by simp [results, Tryz.results15, go_sem, kr0, kr1, kr2, kr3, kr4]) rfl (show Ms w (.dt (datDo x) (.agg #[.string x.name, .int .i64 x.from_, .slice Ant x.text.length cnt, .slice Anl x.list.length cnl, .slice Ans x.seen.length cns]) _ :: _) _ from (HM.out.pk0.pkO.pkO.pkO.pkF rfl).pkF rfl).post
    refine AllReadyH.cons (o := ⟨some 14, _, _, _, _, _⟩) rfl (fun K hK => ?_) AllReadyH.nil
    go_simp
    replace HM := Lib.hid (HM.out.empty 52 3)
    obtain ⟨W13, hW, hm⟩ := HM.out.name
    rw [← hW]
    replace HM := Lib.hid hm
    clear hm hW
    clear hS
    refine hK.out _ _ (HM.out.pick (ks := [3]) (by decide) rfl) (fun hS => ?_)
    clear hK K
    try simp only [Act.put, pa, pb, pc]
    refine r1 7 (some 10) rfl (fun K hK => ?_)
    have hm := HM.out.pk [1, 0, 2, 3] (by decide) (by simp)
    simp only [low.pk, List.getElem?_cons_zero, List.getElem?_cons_succ] at hm
    replace HM := Lib.hid hm
    clear hm
    refine step_msAll (by rfl) (.tmp 7) (.tmp 9) 22 (by rfl) eltInt HM.out (by rfl) A2 x.text.length c2 (by rfl) (HM.out.arg R2.out) (flatI _) (by simp; omega) ?_
    intro Ant cnt W14 bnt hm
    simp only [List.nil_append, List.length_nil, Nat.zero_add] at hm ⊢
    replace HM := Lib.hid hm
    clear hm
    clear hS
    refine hK.out _ _ (HM.out.pick (ks := [3]) (by decide) rfl) (fun hS => ?_)
    clear hK K
    try simp only [Act.put, pa, pb, pc]
    refine r1 10 (some 13) rfl (fun K hK => ?_)
    go_simp
    refine (specEntriesC_d _ x.list _ (HM.out.arg R3.out) hs.list).mono ?_
    rintro e' W15 ⟨v', rfl, o', b'⟩
    obtain ⟨Anl, cnl, rfl⟩ := sliceEns o'.read
    obtain ⟨bl, hm⟩ := HM.out.got o' b'
    clear o' b'
    replace HM := Lib.hid hm
    clear hm
    clear hS
    refine hK.out _ _ (HM.out.pick (ks := [4]) (by decide) rfl) (fun hS => ?_)
    clear hK K
    try simp only [Act.put, pa, pb, pc]
    refine r1 14 (some 17) rfl (fun K hK => ?_)
    have hm := HM.out.pk [2, 0, 1, 3, 4] (by decide) (by simp)
    simp only [low.pk, List.getElem?_cons_zero, List.getElem?_cons_succ] at hm
    replace HM := Lib.hid hm
    clear hm
    refine step_msAll (by rfl) (.tmp 14) (.tmp 16) 29 (by rfl) eltSe HM.out (by rfl) A4 x.seen.length c4 (by rfl) (HM.out.arg R4.out) (flatSe _) (by simp; omega) ?_
    intro Ans cns W16 bns hm
    simp only [List.nil_append, List.length_nil, Nat.zero_add] at hm ⊢
    replace HM := Lib.hid hm
    clear hm
    clear hS
    refine hK.out _ _ (HM.out.pick (ks := [4]) (by decide) rfl) (fun hS => ?_)
    clear hK K
    try simp only [Act.put, pa, pb, pc]
    refine tk (v := ?_) 15 18 rfl (fun w' hS' => ?_) hS ?_
    rotate_left
    · go_simp; all_goals (with_reducible rfl)
    try simp only [Act.put, pa, pb, pc]
    refine r1 16 none rfl (fun K hK => ?_)
    obtain ⟨kr0, kr1, kr2, kr3, kr4⟩ := HM.out.c5 3 rfl
    obtain ⟨fr0, fr1, fr2, fr3, fr4⟩ := HM.out.f5 3 rfl
    go_simp
    clear hS kr0 kr1 kr2 kr3 kr4 fr0 fr1 fr2 fr3 fr4
    have hm := HM.out.pk [3, 0, 1, 2, 4] (by decide) (by simp)
    simp only [low.pk, List.getElem?_cons_zero, List.getElem?_cons_succ] at hm
    replace HM := Lib.hid hm
    clear hm
    have hm := HM.out.putRow (ys := [.string x.name, .int .i64 x.from_, .slice Ant x.text.length cnt, .slice Anl x.list.length cnl, .slice Ans x.seen.length cns]) rfl
    simp only [low.putRow, Nat.zero_add, Nat.reduceAdd] at hm
    replace HM := Lib.hid hm
    clear hm
    obtain ⟨W17, hW, hm⟩ := HM.out.name
    rw [← hW]
    replace HM := Lib.hid hm
    clear hm hW
    refine hK.out _ _ (HM.out.pick (ks := [4]) (by decide) rfl) (fun hS => ?_)
    clear hK K
    try simp only [Act.put, pa, pb, pc]
    refine wpAnyH_done (by kernel_rfl) ?_ _
    clear hS
    go_wp2
    obtain ⟨kr0, kr1, kr2, kr3, kr4⟩ := HM.out.c5 0 rfl
    have hm := HM.out.pk [1, 2, 3, 0, 4] (by decide) (by simp)
    simp only [low.pk, List.getElem?_cons_zero, List.getElem?_cons_succ] at hm
    replace HM := Lib.hid hm
    clear hm
    exact bodyPost_ret (v := .agg #[.string x.name, .int .i64 x.from_, .slice Ant x.text.length cnt, .slice Anl x.list.length cnl, .slice Ans x.seen.length cns]) (by simp [results, Tryz.results15, go_sem, kr0, kr1, kr2, kr3, kr4]) rfl (show Ms w (.dt (datDo x) (.agg #[.string x.name, .int .i64 x.from_, .slice Ant x.text.length cnt, .slice Anl x.list.length cnl, .slice Ans x.seen.length cns]) _ :: _) _ from (HM.out.pk0.pkO.pkO.pkO.pkF rfl).pkF rfl).post
  refine AllReadyH.cons (o := ⟨some 14, _, _, _, _, _⟩) rfl (fun K hK => ?_) AllReadyH.nil
  go_simp
  replace HM := Lib.hid (HM.out.empty 52 3)
  obtain ⟨W18, hW, hm⟩ := HM.out.name
  rw [← hW]
  replace HM := Lib.hid hm
  clear hm hW
  clear hS
  refine hK.out _ _ (HM.out.pick (ks := [2]) (by decide) rfl) (fun hS => ?_)
  clear hK K
  try simp only [Act.put, pa, pb, pc]
  refine r1 4 (some 7) rfl (fun K hK => ?_)
  go_simp
  replace HM := Lib.hid (HM.out.empty 3 1)
  obtain ⟨W19, hW, hm⟩ := HM.out.name
  rw [← hW]
  replace HM := Lib.hid hm
  clear hm hW
  clear hS
  refine hK.out _ _ (HM.out.pick (ks := [3]) (by decide) rfl) (fun hS => ?_)
  clear hK K
  try simp only [Act.put, pa, pb, pc]
  refine r1 7 (some 10) rfl (fun K hK => ?_)
  refine step_msAll (by rfl) (.tmp 7) (.tmp 9) 22 (by rfl) eltInt HM.out (by rfl) A2 x.text.length c2 (by rfl) (HM.out.arg R2.out) (flatI _) (by simp; omega) ?_
  intro Ant cnt W20 bnt hm
  simp only [List.nil_append, List.length_nil, Nat.zero_add] at hm ⊢
  replace HM := Lib.hid hm
  clear hm
  clear hS
  refine hK.out _ _ (HM.out.pick (ks := [3]) (by decide) rfl) (fun hS => ?_)
  clear hK K
  try simp only [Act.put, pa, pb, pc]
  refine r1 10 (some 13) rfl (fun K hK => ?_)
  go_simp
  refine (specEntriesC_d _ x.list _ (HM.out.arg R3.out) hs.list).mono ?_
  rintro e' W21 ⟨v', rfl, o', b'⟩
  obtain ⟨Anl, cnl, rfl⟩ := sliceEns o'.read
  obtain ⟨bl, hm⟩ := HM.out.got o' b'
  clear o' b'
  replace HM := Lib.hid hm
  clear hm
  clear hS
  refine hK.out _ _ (HM.out.pick (ks := [4]) (by decide) rfl) (fun hS => ?_)
  clear hK K
  try simp only [Act.put, pa, pb, pc]
  refine r1 14 (some 17) rfl (fun K hK => ?_)
  have hm := HM.out.pk [2, 0, 1, 3, 4] (by decide) (by simp)
  simp only [low.pk, List.getElem?_cons_zero, List.getElem?_cons_succ] at hm
  replace HM := Lib.hid hm
  clear hm
  refine step_msAll (by rfl) (.tmp 14) (.tmp 16) 29 (by rfl) eltSe HM.out (by rfl) A4 x.seen.length c4 (by rfl) (HM.out.arg R4.out) (flatSe _) (by simp; omega) ?_
  intro Ans cns W22 bns hm
  simp only [List.nil_append, List.length_nil, Nat.zero_add] at hm ⊢
  replace HM := Lib.hid hm
  clear hm
  clear hS
  refine hK.out _ _ (HM.out.pick (ks := [4]) (by decide) rfl) (fun hS => ?_)
  clear hK K
  try simp only [Act.put, pa, pb, pc]
  refine tk (v := ?_) 15 18 rfl (fun w' hS' => ?_) hS ?_
  rotate_left
  · go_simp; all_goals (with_reducible rfl)
  try simp only [Act.put, pa, pb, pc]
  refine r1 16 none rfl (fun K hK => ?_)
  obtain ⟨kr0, kr1, kr2, kr3, kr4⟩ := HM.out.c5 3 rfl
  obtain ⟨fr0, fr1, fr2, fr3, fr4⟩ := HM.out.f5 3 rfl
  go_simp
  clear hS kr0 kr1 kr2 kr3 kr4 fr0 fr1 fr2 fr3 fr4
  have hm := HM.out.pk [3, 0, 1, 2, 4] (by decide) (by simp)
  simp only [low.pk, List.getElem?_cons_zero, List.getElem?_cons_succ] at hm
  replace HM := Lib.hid hm
  clear hm
  have hm := HM.out.putRow (ys := [.string x.name, .int .i64 x.from_, .slice Ant x.text.length cnt, .slice Anl x.list.length cnl, .slice Ans x.seen.length cns]) rfl
  simp only [low.putRow, Nat.zero_add, Nat.reduceAdd] at hm
  replace HM := Lib.hid hm
  clear hm
  obtain ⟨W23, hW, hm⟩ := HM.out.name
  rw [← hW]
  replace HM := Lib.hid hm
  clear hm hW
  refine hK.out _ _ (HM.out.pick (ks := [4]) (by decide) rfl) (fun hS => ?_)
  clear hK K
  try simp only [Act.put, pa, pb, pc]
  refine wpAnyH_done (by kernel_rfl) ?_ _
  clear hS
  go_wp2
  obtain ⟨kr0, kr1, kr2, kr3, kr4⟩ := HM.out.c5 0 rfl
  have hm := HM.out.pk [1, 2, 3, 0, 4] (by decide) (by simp)
  simp only [low.pk, List.getElem?_cons_zero, List.getElem?_cons_succ] at hm
  replace HM := Lib.hid hm
  clear hm
  exact bodyPost_ret (v := .agg #[.string x.name, .int .i64 x.from_, .slice Ant x.text.length cnt, .slice Anl x.list.length cnl, .slice Ans x.seen.length cns]) (by simp [results, Tryz.results15, go_sem, kr0, kr1, kr2, kr3, kr4]) rfl (show Ms w (.dt (datDo x) (.agg #[.string x.name, .int .i64 x.from_, .slice Ant x.text.length cnt, .slice Anl x.list.length cnl, .slice Ans x.seen.length cns]) _ :: _) _ from (HM.out.pk0.pkO.pkO.pkO.pkF rfl).pkF rfl).post
end Go.Proofs.YtgfbcpcfdlnbhabGreat.low


/-
  Contract of spec.Forget. Written by mkdoc8.py.
-/
namespace Go.Proofs.YtgfbcpcfdlnbhabGreat.low
open Go.RowKit
set_option linter.unusedVariables false

/-- forgetting -/
def forgetB (x : Do) (n : Int) : Bool := docB x && !decide (n < 0)
def forgetT (x : Do) (n : Int) : Do := if forgetB x n = true then (if (x.list.length : Int) - n ≤ 0 then x else ⟨x.name, x.from_ + ((x.list.length : Int) - n), textAtT x (x.from_ + ((x.list.length : Int) - n)), x.list.drop ((x.list.length : Int) - n).toNat, x.seen⟩) else noDo
/-- the capacity of a document's list -/
def capOf : Value → Nat
  | .agg a => match (a[3]? : Option Value) with | some (Value.slice _ _ c) => c | _ => 0
  | _ => 0
theorem rdEns_drop0 {w : World} {B c m : Nat} {A : Option Addr} {l : List En} (h : l.length - m = 0) : RdC w B (encEns (l.drop m)) (.slice A 0 c) := by
  rw [List.drop_eq_nil_of_le (by omega)]
  exact ⟨A, c, rfl, Nat.zero_le _, fun h => absurd h (by simp)⟩
theorem forget_f {x : Do} {n : Int} (h : forgetB x n = false) : forgetB x n = false ∧ forgetT x n = noDo := ⟨h, by unfold forgetT; rw [h]; rfl⟩
theorem forget_small {x : Do} {n : Int} (hs : SmDo x) : SmDo (forgetT x n) := by
  unfold forgetT
  split
  · rename_i h
    split
    · exact hs
    · unfold forgetB at h
      rw [Bool.and_eq_true] at h
      have hi := docB_in h.1
      have h1 := sumN_drop totEn x.list ((x.list.length : Int) - n).toNat
      have h2 : (textAtT x (x.from_ + ((x.list.length : Int) - n))).length ≤ 200 := by
        unfold textAtT
        split
        · exact endT_200 (fun e he => by
            have := chain_all (docB_chain h.1) e (List.mem_of_mem_take he)
            exact this) hi.text
        · simp
      have h3 := hi.list
      have h4 := hi.ops
      have := do_tot (x := ⟨x.name, x.from_ + ((x.list.length : Int) - n), textAtT x (x.from_ + ((x.list.length : Int) - n)), x.list.drop ((x.list.length : Int) - n).toNat, x.seen⟩) hi.name h2 (by simp; omega) (by simp only; omega) (by have := hi.seen; simp only; omega)
      unfold SmDo
      omega
  · have e : totDo noDo = 0 := rfl
    unfold SmDo
    rw [e]
    omega
theorem Ms.noDo {w0 W : World} {L : List It} (h : Ms w0 L W) : Ms w0 (.dt (datDo noDo) (.agg #[.string ⟨#[]⟩, .int .i64 0, .slice none 0 0, .slice none 0 0, .slice none 0 0]) [] :: L) W := (((h.nil 3 1).nil 67 3).nil 52 3).pk0.pkO.pkO.pkO.pkF rfl |>.pkF rfl
set_option maxRecDepth 100000 in
set_option maxHeartbeats 3200000 in
theorem specForget_a (v : Value) (x : Do) (n : Int) (w : World) (h : RdC w w.heap.size (datDo x) v) (hs : SmDo x) (hn : n < 9223372036854775808) (hd : docB x = false) : Calls Tryz.prog 5 #[v, .int .i64 n] w (ResB (datDo (forgetT x n)) (forgetB x n) w) := by
  have HR := Lib.hid h
  obtain ⟨A2, c2, A3, c3, A4, c4, rfl, r2, r3, r4⟩ := aggDo h
  have hl := hs.list.len
  have R3 := Lib.hid r3
  clear r2 r3 r4 h
  have HN := Lib.hid (forget_f (show forgetB x n = false from by unfold forgetB; simp [hd]))
  have HM := Lib.hid (Ms.start w)
  replace HM := Lib.hid (HM.out.new #[.string x.name, .int .i64 x.from_, .slice A2 x.text.length c2, .slice A3 x.list.length c3, .slice A4 x.seen.length c4] 31)
  have hm := HM.out.new #[.string ⟨#[]⟩, .int .i64 0, .slice none 0 0, .slice none 0 0, .slice none 0 0] 31
  simp only [World.size_alloc] at hm
  replace HM := Lib.hid hm
  clear hm
  go_enter Tryz.func5, Tryz.ntmps5
  go_wp2_with fail
  obtain ⟨W1, hW, hm⟩ := HM.out.name
  rw [← hW]
  replace HM := Lib.hid hm
  clear hm hW
  refine (specDocOk_d _ x _ (HM.out.arg HR.out) hs).mono ?_
  rw [hd]
  rintro e' W2 ⟨rfl, b'⟩
  replace HM := Lib.hid (HM.out.past b')
  clear b'
  obtain ⟨kr0, kr1, kr2, kr3, kr4⟩ := HM.out.c5 0 rfl
  obtain ⟨fr0, fr1, fr2, fr3, fr4⟩ := HM.out.f5 0 rfl
  go_wp2
  clear kr0 kr1 kr2 kr3 kr4 fr0 fr1 fr2 fr3 fr4
  have hm := HM.out.putRow (ys := [.string ⟨#[]⟩, .int .i64 0, .slice none 0 0, .slice none 0 0, .slice none 0 0]) rfl
  simp only [low.putRow, Nat.zero_add, Nat.reduceAdd] at hm
  replace HM := Lib.hid hm
  clear hm
  obtain ⟨W3, hW, hm⟩ := HM.out.name
  rw [← hW]
  replace HM := Lib.hid hm
  clear hm hW
  obtain ⟨kr0, kr1, kr2, kr3, kr4⟩ := HM.out.c5 0 rfl
  rw [HN.out.1, HN.out.2]
  exact bodyPost_ret (v := .tuple #[.agg #[.string ⟨#[]⟩, .int .i64 0, .slice none 0 0, .slice none 0 0, .slice none 0 0], .bool false]) (by simp [results, Tryz.results5, go_sem, kr0, kr1, kr2, kr3, kr4]) rfl (HM.out.noDo.resB false)
set_option maxRecDepth 100000 in
set_option maxHeartbeats 3200000 in
theorem specForget_b (v : Value) (x : Do) (n : Int) (w : World) (h : RdC w w.heap.size (datDo x) v) (hs : SmDo x) (hn : n < 9223372036854775808) (hd : docB x = true) (hneg : n < 0) : Calls Tryz.prog 5 #[v, .int .i64 n] w (ResB (datDo (forgetT x n)) (forgetB x n) w) := by
  have HR := Lib.hid h
  obtain ⟨A2, c2, A3, c3, A4, c4, rfl, r2, r3, r4⟩ := aggDo h
  have hl := hs.list.len
  have R3 := Lib.hid r3
  clear r2 r3 r4 h
  have HN := Lib.hid (forget_f (show forgetB x n = false from by unfold forgetB; simp [hneg]))
  have hneg : decide (n < 0) = true := decide_eq_true hneg
  have HM := Lib.hid (Ms.start w)
  replace HM := Lib.hid (HM.out.new #[.string x.name, .int .i64 x.from_, .slice A2 x.text.length c2, .slice A3 x.list.length c3, .slice A4 x.seen.length c4] 31)
  have hm := HM.out.new #[.string ⟨#[]⟩, .int .i64 0, .slice none 0 0, .slice none 0 0, .slice none 0 0] 31
  simp only [World.size_alloc] at hm
  replace HM := Lib.hid hm
  clear hm
  go_enter Tryz.func5, Tryz.ntmps5
  go_wp2_with fail
  obtain ⟨W1, hW, hm⟩ := HM.out.name
  rw [← hW]
  replace HM := Lib.hid hm
  clear hm hW
  refine (specDocOk_d _ x _ (HM.out.arg HR.out) hs).mono ?_
  rw [hd]
  rintro e' W2 ⟨rfl, b'⟩
  replace HM := Lib.hid (HM.out.past b')
  clear b'
  obtain ⟨kr0, kr1, kr2, kr3, kr4⟩ := HM.out.c5 0 rfl
  obtain ⟨fr0, fr1, fr2, fr3, fr4⟩ := HM.out.f5 0 rfl
  go_wp2
  clear kr0 kr1 kr2 kr3 kr4 fr0 fr1 fr2 fr3 fr4
  have hm := HM.out.putRow (ys := [.string ⟨#[]⟩, .int .i64 0, .slice none 0 0, .slice none 0 0, .slice none 0 0]) rfl
  simp only [low.putRow, Nat.zero_add, Nat.reduceAdd] at hm
  replace HM := Lib.hid hm
  clear hm
  obtain ⟨W3, hW, hm⟩ := HM.out.name
  rw [← hW]
  replace HM := Lib.hid hm
  clear hm hW
  obtain ⟨kr0, kr1, kr2, kr3, kr4⟩ := HM.out.c5 0 rfl
  rw [HN.out.1, HN.out.2]
  exact bodyPost_ret (v := .tuple #[.agg #[.string ⟨#[]⟩, .int .i64 0, .slice none 0 0, .slice none 0 0, .slice none 0 0], .bool false]) (by simp [results, Tryz.results5, go_sem, kr0, kr1, kr2, kr3, kr4]) rfl (HM.out.noDo.resB false)
set_option maxRecDepth 100000 in
set_option maxHeartbeats 3200000 in
theorem specForget_c (v : Value) (x : Do) (n : Int) (w : World) (h : RdC w w.heap.size (datDo x) v) (hs : SmDo x) (hn : n < 9223372036854775808) (hd : docB x = true) (h0 : 0 ≤ n) (hk : (x.list.length : Int) - n ≤ 0) : Calls Tryz.prog 5 #[v, .int .i64 n] w (ResB (datDo (forgetT x n)) (forgetB x n) w) := by
  have HR := Lib.hid h
  obtain ⟨A2, c2, A3, c3, A4, c4, rfl, r2, r3, r4⟩ := aggDo h
  have hl := hs.list.len
  have R3 := Lib.hid r3
  clear r2 r3 r4 h
  have hF := Lib.hid (show forgetB x n = true by unfold forgetB; rw [hd]; simp; omega)
  have hneg : decide (n < 0) = false := by simp; omega
  have hi := docB_in hd
  have h8 := hi.list
  have hf0 := hi.from0
  have hf1 := hi.from1
  have HH := Lib.hid hi.head
  clear hi
  have HN := Lib.hid (show forgetT x n = x by unfold forgetT; rw [if_pos hF.out, if_pos hk])
  have hkd : decide ((x.list.length : Int) - n ≤ 0) = true := decide_eq_true hk
  have HM := Lib.hid (Ms.start w)
  replace HM := Lib.hid (HM.out.new #[.string x.name, .int .i64 x.from_, .slice A2 x.text.length c2, .slice A3 x.list.length c3, .slice A4 x.seen.length c4] 31)
  have hm := HM.out.new #[.string ⟨#[]⟩, .int .i64 0, .slice none 0 0, .slice none 0 0, .slice none 0 0] 31
  simp only [World.size_alloc] at hm
  replace HM := Lib.hid hm
  clear hm
  go_enter Tryz.func5, Tryz.ntmps5
  go_wp2_with fail
  obtain ⟨W1, hW, hm⟩ := HM.out.name
  rw [← hW]
  replace HM := Lib.hid hm
  clear hm hW
  refine (specDocOk_d _ x _ (HM.out.arg HR.out) hs).mono ?_
  rw [hd]
  rintro e' W2 ⟨rfl, b'⟩
  replace HM := Lib.hid (HM.out.past b')
  clear b'
  obtain ⟨kx0, kx1, kx2, kx3, kx4⟩ := HM.out.c5 1 rfl
  go_wp2_with fail
  refine (specCopyD_d _ x _ (HM.out.arg HR.out) hs).mono ?_
  rintro e' W3 ⟨v', rfl, o', b'⟩
  obtain ⟨A12, c12, A13, c13, A14, c14, rfl, -, -, -⟩ := aggDo o'.read
  obtain ⟨bc, hm⟩ := HM.out.got o' b'
  clear o' b'
  replace HM := Lib.hid hm
  clear hm
  clear kx0 kx1 kx2 kx3 kx4
  replace HM := Lib.hid (HM.out.new #[.string x.name, .int .i64 x.from_, .slice A12 x.text.length c12, .slice A13 x.list.length c13, .slice A14 x.seen.length c14] 31)
  obtain ⟨kx0, kx1, kx2, kx3, kx4⟩ := HM.out.c5 3 rfl
  obtain ⟨kr0, kr1, kr2, kr3, kr4⟩ := HM.out.c5 2 rfl
  obtain ⟨fr0, fr1, fr2, fr3, fr4⟩ := HM.out.f5 2 rfl
  obtain ⟨kout0, kout1, kout2, kout3, kout4⟩ := HM.out.c5 0 rfl
  go_wp2
  clear kr0 kr1 kr2 kr3 kr4 fr0 fr1 fr2 fr3 fr4 kx0 kx1 kx2 kx3 kx4 kout0 kout1 kout2 kout3 kout4
  have hm := HM.out.pk [2, 0, 1, 3] (by decide) (by simp)
  simp only [low.pk, List.getElem?_cons_zero, List.getElem?_cons_succ] at hm
  replace HM := Lib.hid hm
  clear hm
  have hm := HM.out.putRow (ys := [.string x.name, .int .i64 x.from_, .slice A12 x.text.length c12, .slice A13 x.list.length c13, .slice A14 x.seen.length c14]) rfl
  simp only [low.putRow, Nat.zero_add, Nat.reduceAdd] at hm
  replace HM := Lib.hid hm
  clear hm
  obtain ⟨W4, hW, hm⟩ := HM.out.name
  rw [← hW]
  replace HM := Lib.hid hm
  clear hm hW
  obtain ⟨kr0, kr1, kr2, kr3, kr4⟩ := HM.out.c5 0 rfl
  have hm := HM.out.pk [2, 0, 1, 3] (by decide) (by simp)
  simp only [low.pk, List.getElem?_cons_zero, List.getElem?_cons_succ] at hm
  replace HM := Lib.hid hm
  clear hm
  rw [HN.out, hF.out]
  exact bodyPost_ret (v := .tuple #[.agg #[.string x.name, .int .i64 x.from_, .slice A12 x.text.length c12, .slice A13 x.list.length c13, .slice A14 x.seen.length c14], .bool true]) (by simp [results, Tryz.results5, go_sem, kr0, kr1, kr2, kr3, kr4]) rfl (HM.out.resB true)
/-- of a document its clients' rows alone -/
theorem Ms.seenOf' {w0 W : World} {L : List It} {x : Do} {b : List Nat} {u0 u1 u2 u3 u4 : Value} (h : Ms w0 (.dt (datDo x) (.agg #[u0, u1, u2, u3, u4]) b :: L) W) : ∃ b', Ms w0 (.dt (encSes x.seen) u4 b' :: L) W := by
  obtain ⟨d1, d2, h1⟩ := (show Ms w0 (.dt (.agg (encDo x)) (.agg ([u0, u1, u2, u3, u4] : List Value).toArray) b :: L) W from h).un
  obtain ⟨d3, d4, h2⟩ := h1.tail.un
  obtain ⟨d5, d6, h3⟩ := h2.tail.un
  obtain ⟨d7, d8, h4⟩ := h3.tail.un
  obtain ⟨d9, d0, h5⟩ := h4.tail.un
  exact ⟨_, (h5.pull (i := 1) rfl rfl).tail⟩
set_option maxRecDepth 100000 in
set_option maxHeartbeats 3200000 in
theorem specForget_d1 (v : Value) (x : Do) (n : Int) (w : World) (h : RdC w w.heap.size (datDo x) v) (hs : SmDo x) (hn : n < 9223372036854775808) (hd : docB x = true) (h0 : 0 ≤ n) (hk : ¬ (x.list.length : Int) - n ≤ 0) (hlt : (x.list.length : Int) - n = capOf v) : Calls Tryz.prog 5 #[v, .int .i64 n] w (ResB (datDo (forgetT x n)) (forgetB x n) w) := by
  have HR := Lib.hid h
  obtain ⟨A2, c2, A3, c3, A4, c4, rfl, r2, r3, r4⟩ := aggDo h
  have hl := hs.list.len
  have R3 := Lib.hid r3
  clear r2 r3 r4 h
  rw [show capOf _ = c3 from rfl] at hlt
  have hF := Lib.hid (show forgetB x n = true by unfold forgetB; rw [hd]; simp; omega)
  have hneg : decide (n < 0) = false := by simp; omega
  have hi := docB_in hd
  have h8 := hi.list
  have hf0 := hi.from0
  have hf1 := hi.from1
  have HH := Lib.hid hi.head
  clear hi
  obtain ⟨m, hm⟩ : ∃ m : Nat, (m : Int) = (x.list.length : Int) - n := ⟨((x.list.length : Int) - n).toNat, by omega⟩
  have hkd : decide ((x.list.length : Int) - n ≤ 0) = false := by simp; omega
  have hm1 : 1 ≤ m := by omega
  have hm2 : m ≤ x.list.length := by omega
  have HMM := Lib.hid hm.symm
  have hT : textAtB x (x.from_ + (m : Int)) = true := by unfold textAtB; rw [hd, HH.out, inB_t (by omega)]; rfl
  have HN := Lib.hid (show forgetT x n = ⟨x.name, x.from_ + (m : Int), textAtT x (x.from_ + (m : Int)), x.list.drop m, x.seen⟩ by unfold forgetT; rw [if_pos hF.out, if_neg hk, ← hm]; simp)
  obtain ⟨b0, off0, e0, A50, c50, rfl, -, -, -⟩ := atEns R3.out (i := 0) (by omega)
  clear hk
  obtain rfl : c3 = m := by omega
  have hn0 : x.list.length - c3 = 0 := by have := RdC.cap_le R3.out; omega
  have HNL := Lib.hid hn0
  clear hn0
  clear hm hlt
  have HM := Lib.hid (Ms.start w)
  replace HM := Lib.hid (HM.out.new #[.string x.name, .int .i64 x.from_, .slice A2 x.text.length c2, .slice (some ⟨b0, off0, none⟩) x.list.length c3, .slice A4 x.seen.length c4] 31)
  have hm := HM.out.new #[.string ⟨#[]⟩, .int .i64 0, .slice none 0 0, .slice none 0 0, .slice none 0 0] 31
  simp only [World.size_alloc] at hm
  replace HM := Lib.hid hm
  clear hm
  go_enter Tryz.func5, Tryz.ntmps5
  go_wp2_with fail
  obtain ⟨W1, hW, hm⟩ := HM.out.name
  rw [← hW]
  replace HM := Lib.hid hm
  clear hm hW
  refine (specDocOk_d _ x _ (HM.out.arg HR.out) hs).mono ?_
  rw [hd]
  rintro e' W2 ⟨rfl, b'⟩
  replace HM := Lib.hid (HM.out.past b')
  clear b'
  obtain ⟨kx0, kx1, kx2, kx3, kx4⟩ := HM.out.c5 1 rfl
  go_wp2_with fail
  refine (specCopyD_d _ x _ (HM.out.arg HR.out) hs).mono ?_
  rintro e' W3 ⟨v', rfl, o', b'⟩
  obtain ⟨A12, c12, A13, c13, A14, c14, rfl, -, -, -⟩ := aggDo o'.read
  obtain ⟨bc, hm⟩ := HM.out.got o' b'
  clear o' b'
  replace HM := Lib.hid hm
  clear hm
  clear kx0 kx1 kx2 kx3 kx4
  replace HM := Lib.hid (HM.out.new #[.string x.name, .int .i64 x.from_, .slice A12 x.text.length c12, .slice A13 x.list.length c13, .slice A14 x.seen.length c14] 31)
  obtain ⟨kx0, kx1, kx2, kx3, kx4⟩ := HM.out.c5 3 rfl
  obtain ⟨kout0, kout1, kout2, kout3, kout4⟩ := HM.out.c5 0 rfl
  obtain ⟨fout0, fout1, fout2, fout3, fout4⟩ := HM.out.f5 0 rfl
  go_wp2_with fail
  try rw [HMM.out]
  clear kx0 kx1 kx2 kx3 kx4 kout0 kout1 kout2 kout3 kout4 fout0 fout1 fout2 fout3 fout4
  obtain ⟨W4, hW, hm⟩ := HM.out.name
  rw [← hW]
  replace HM := Lib.hid hm
  clear hm hW
  refine (specTextAt_d _ x _ _ (HM.out.arg HR.out) hs).mono ?_
  rw [hT]
  rintro e' W5 ⟨v', rfl, o', b'⟩
  obtain ⟨Ant, nt, cnt, rfl⟩ := sliceV o'.read
  obtain ⟨bt, hm⟩ := HM.out.got o' b'
  clear o' b'
  replace HM := Lib.hid hm
  clear hm
  obtain ⟨kx0, kx1, kx2, kx3, kx4⟩ := HM.out.c5 4 rfl
  obtain ⟨kout0, kout1, kout2, kout3, kout4⟩ := HM.out.c5 1 rfl
  obtain ⟨fout0, fout1, fout2, fout3, fout4⟩ := HM.out.f5 1 rfl
  go_wp2_with fail
  clear kx0 kx1 kx2 kx3 kx4 kout0 kout1 kout2 kout3 kout4 fout0 fout1 fout2 fout3 fout4
  have hm := HM.out.pk [1, 0, 2, 3, 4] (by decide) (by simp)
  simp only [low.pk, List.getElem?_cons_zero, List.getElem?_cons_succ] at hm
  replace HM := Lib.hid hm
  clear hm
  have hm := HM.out.set (j := 2) (.slice Ant nt cnt)
  simp only [pa, pb, pc] at hm
  replace HM := Lib.hid hm
  clear hm
  have hm := HM.out.set (j := 1) (.int .i64 (x.from_ + (c3 : Int)))
  simp only [pa, pb, pc] at hm
  replace HM := Lib.hid hm
  clear hm
  obtain ⟨W6, hW, hm⟩ := HM.out.name
  rw [← hW]
  replace HM := Lib.hid hm
  clear hm hW
  try rw [HNL.out]
  refine (specEntriesC_d _ (x.list.drop c3) _ (HM.out.arg (rdEns_drop0 HNL.out)) (smEns_drop hs.list c3)).mono ?_
  rintro e' W7 ⟨v', rfl, o', b'⟩
  obtain ⟨Anl, nl, cnl, rfl⟩ := sliceV o'.read
  obtain ⟨bl, hm⟩ := HM.out.got o' b'
  clear o' b'
  replace HM := Lib.hid hm
  clear hm
  obtain ⟨kout0, kout1, kout2, kout3, kout4⟩ := HM.out.c5 1 rfl
  obtain ⟨fout0, fout1, fout2, fout3, fout4⟩ := HM.out.f5 1 rfl
  obtain ⟨kr0, kr1, kr2, kr3, kr4⟩ := HM.out.c5 4 rfl
  obtain ⟨fr0, fr1, fr2, fr3, fr4⟩ := HM.out.f5 4 rfl
  obtain ⟨noutr, nrout⟩ := HM.out.ne (i := 1) (j := 4) rfl rfl (by omega)
  go_wp2
  clear noutr nrout kr0 kr1 kr2 kr3 kr4 fr0 fr1 fr2 fr3 fr4 kout0 kout1 kout2 kout3 kout4 fout0 fout1 fout2 fout3 fout4
  have hm := HM.out.pk [1, 0, 2, 3, 4, 5] (by decide) (by simp)
  simp only [low.pk, List.getElem?_cons_zero, List.getElem?_cons_succ] at hm
  replace HM := Lib.hid hm
  clear hm
  have hm := HM.out.set (j := 3) (.slice Anl nl cnl)
  simp only [pa, pb, pc] at hm
  replace HM := Lib.hid hm
  clear hm
  have hm := HM.out.pk [4, 0, 1, 2, 3, 5] (by decide) (by simp)
  simp only [low.pk, List.getElem?_cons_zero, List.getElem?_cons_succ] at hm
  replace HM := Lib.hid hm
  clear hm
  have hm := HM.out.putRow (ys := [.string x.name, .int .i64 (x.from_ + (c3 : Int)), .slice Ant nt cnt, .slice Anl nl cnl, .slice A14 x.seen.length c14]) rfl
  simp only [low.putRow, Nat.zero_add, Nat.reduceAdd] at hm
  replace HM := Lib.hid hm
  clear hm
  obtain ⟨W8, hW, hm⟩ := HM.out.name
  rw [← hW]
  replace HM := Lib.hid hm
  clear hm hW
  obtain ⟨kr0, kr1, kr2, kr3, kr4⟩ := HM.out.c5 0 rfl
  have hm := HM.out.pk [4, 2, 3, 0, 1, 5] (by decide) (by simp)
  simp only [low.pk, List.getElem?_cons_zero, List.getElem?_cons_succ] at hm
  replace HM := Lib.hid hm
  clear hm
  obtain ⟨bs, hm⟩ := HM.out.seenOf'
  replace HM := Lib.hid hm
  clear hm
  rw [HN.out, hF.out]
  exact bodyPost_ret (v := .tuple #[.agg #[.string x.name, .int .i64 (x.from_ + (c3 : Int)), .slice Ant nt cnt, .slice Anl nl cnl, .slice A14 x.seen.length c14], .bool true]) (by simp [results, Tryz.results5, go_sem, kr0, kr1, kr2, kr3, kr4]) rfl ((show Ms w (.dt (datDo (⟨x.name, x.from_ + (c3 : Int), (textAtT x (x.from_ + (c3 : Int))), (x.list.drop c3), x.seen⟩ : Do)) (.agg #[.string x.name, .int .i64 (x.from_ + (c3 : Int)), .slice Ant nt cnt, .slice Anl nl cnl, .slice A14 x.seen.length c14]) _ :: _) _ from (HM.out.pk0.pkO.pkO.pkO.pkF rfl).pkF rfl).resB true)
set_option maxRecDepth 100000 in
set_option maxHeartbeats 3200000 in
theorem specForget_d2 (v : Value) (x : Do) (n : Int) (w : World) (h : RdC w w.heap.size (datDo x) v) (hs : SmDo x) (hn : n < 9223372036854775808) (hd : docB x = true) (h0 : 0 ≤ n) (hk : ¬ (x.list.length : Int) - n ≤ 0) (hlt : ¬ (x.list.length : Int) - n = capOf v) : Calls Tryz.prog 5 #[v, .int .i64 n] w (ResB (datDo (forgetT x n)) (forgetB x n) w) := by
  have HR := Lib.hid h
  obtain ⟨A2, c2, A3, c3, A4, c4, rfl, r2, r3, r4⟩ := aggDo h
  have hl := hs.list.len
  have R3 := Lib.hid r3
  clear r2 r3 r4 h
  rw [show capOf _ = c3 from rfl] at hlt
  have hF := Lib.hid (show forgetB x n = true by unfold forgetB; rw [hd]; simp; omega)
  have hneg : decide (n < 0) = false := by simp; omega
  have hi := docB_in hd
  have h8 := hi.list
  have hf0 := hi.from0
  have hf1 := hi.from1
  have HH := Lib.hid hi.head
  clear hi
  obtain ⟨m, hm⟩ : ∃ m : Nat, (m : Int) = (x.list.length : Int) - n := ⟨((x.list.length : Int) - n).toNat, by omega⟩
  have hkd : decide ((x.list.length : Int) - n ≤ 0) = false := by simp; omega
  have hm1 : 1 ≤ m := by omega
  have hm2 : m ≤ x.list.length := by omega
  have HMM := Lib.hid hm.symm
  have hT : textAtB x (x.from_ + (m : Int)) = true := by unfold textAtB; rw [hd, HH.out, inB_t (by omega)]; rfl
  have HN := Lib.hid (show forgetT x n = ⟨x.name, x.from_ + (m : Int), textAtT x (x.from_ + (m : Int)), x.list.drop m, x.seen⟩ by unfold forgetT; rw [if_pos hF.out, if_neg hk, ← hm]; simp)
  obtain ⟨b0, off0, e0, A50, c50, rfl, -, -, -⟩ := atEns R3.out (i := 0) (by omega)
  clear hk
  have hcap : ¬ m = c3 := by omega
  have hcle := RdC.cap_le R3.out
  clear hm hlt
  have HM := Lib.hid (Ms.start w)
  replace HM := Lib.hid (HM.out.new #[.string x.name, .int .i64 x.from_, .slice A2 x.text.length c2, .slice (some ⟨b0, off0, none⟩) x.list.length c3, .slice A4 x.seen.length c4] 31)
  have hm := HM.out.new #[.string ⟨#[]⟩, .int .i64 0, .slice none 0 0, .slice none 0 0, .slice none 0 0] 31
  simp only [World.size_alloc] at hm
  replace HM := Lib.hid hm
  clear hm
  go_enter Tryz.func5, Tryz.ntmps5
  go_wp2_with fail
  obtain ⟨W1, hW, hm⟩ := HM.out.name
  rw [← hW]
  replace HM := Lib.hid hm
  clear hm hW
  refine (specDocOk_d _ x _ (HM.out.arg HR.out) hs).mono ?_
  rw [hd]
  rintro e' W2 ⟨rfl, b'⟩
  replace HM := Lib.hid (HM.out.past b')
  clear b'
  obtain ⟨kx0, kx1, kx2, kx3, kx4⟩ := HM.out.c5 1 rfl
  go_wp2_with fail
  refine (specCopyD_d _ x _ (HM.out.arg HR.out) hs).mono ?_
  rintro e' W3 ⟨v', rfl, o', b'⟩
  obtain ⟨A12, c12, A13, c13, A14, c14, rfl, -, -, -⟩ := aggDo o'.read
  obtain ⟨bc, hm⟩ := HM.out.got o' b'
  clear o' b'
  replace HM := Lib.hid hm
  clear hm
  clear kx0 kx1 kx2 kx3 kx4
  replace HM := Lib.hid (HM.out.new #[.string x.name, .int .i64 x.from_, .slice A12 x.text.length c12, .slice A13 x.list.length c13, .slice A14 x.seen.length c14] 31)
  obtain ⟨kx0, kx1, kx2, kx3, kx4⟩ := HM.out.c5 3 rfl
  obtain ⟨kout0, kout1, kout2, kout3, kout4⟩ := HM.out.c5 0 rfl
  obtain ⟨fout0, fout1, fout2, fout3, fout4⟩ := HM.out.f5 0 rfl
  go_wp2_with fail
  try rw [HMM.out]
  clear kx0 kx1 kx2 kx3 kx4 kout0 kout1 kout2 kout3 kout4 fout0 fout1 fout2 fout3 fout4
  obtain ⟨W4, hW, hm⟩ := HM.out.name
  rw [← hW]
  replace HM := Lib.hid hm
  clear hm hW
  refine (specTextAt_d _ x _ _ (HM.out.arg HR.out) hs).mono ?_
  rw [hT]
  rintro e' W5 ⟨v', rfl, o', b'⟩
  obtain ⟨Ant, nt, cnt, rfl⟩ := sliceV o'.read
  obtain ⟨bt, hm⟩ := HM.out.got o' b'
  clear o' b'
  replace HM := Lib.hid hm
  clear hm
  obtain ⟨kx0, kx1, kx2, kx3, kx4⟩ := HM.out.c5 4 rfl
  obtain ⟨kout0, kout1, kout2, kout3, kout4⟩ := HM.out.c5 1 rfl
  obtain ⟨fout0, fout1, fout2, fout3, fout4⟩ := HM.out.f5 1 rfl
  go_wp2_with fail
  clear kx0 kx1 kx2 kx3 kx4 kout0 kout1 kout2 kout3 kout4 fout0 fout1 fout2 fout3 fout4
  have hm := HM.out.pk [1, 0, 2, 3, 4] (by decide) (by simp)
  simp only [low.pk, List.getElem?_cons_zero, List.getElem?_cons_succ] at hm
  replace HM := Lib.hid hm
  clear hm
  have hm := HM.out.set (j := 2) (.slice Ant nt cnt)
  simp only [pa, pb, pc] at hm
  replace HM := Lib.hid hm
  clear hm
  have hm := HM.out.set (j := 1) (.int .i64 (x.from_ + (m : Int)))
  simp only [pa, pb, pc] at hm
  replace HM := Lib.hid hm
  clear hm
  obtain ⟨W6, hW, hm⟩ := HM.out.name
  rw [← hW]
  replace HM := Lib.hid hm
  clear hm hW
  refine (specEntriesC_d _ (x.list.drop m) _ (HM.out.arg (by have h := RdC.drop_ m R3.out; rw [← List.map_drop] at h; exact h)) (smEns_drop hs.list m)).mono ?_
  rintro e' W7 ⟨v', rfl, o', b'⟩
  obtain ⟨Anl, nl, cnl, rfl⟩ := sliceV o'.read
  obtain ⟨bl, hm⟩ := HM.out.got o' b'
  clear o' b'
  replace HM := Lib.hid hm
  clear hm
  obtain ⟨kout0, kout1, kout2, kout3, kout4⟩ := HM.out.c5 1 rfl
  obtain ⟨fout0, fout1, fout2, fout3, fout4⟩ := HM.out.f5 1 rfl
  obtain ⟨kr0, kr1, kr2, kr3, kr4⟩ := HM.out.c5 4 rfl
  obtain ⟨fr0, fr1, fr2, fr3, fr4⟩ := HM.out.f5 4 rfl
  obtain ⟨noutr, nrout⟩ := HM.out.ne (i := 1) (j := 4) rfl rfl (by omega)
  go_wp2
  clear noutr nrout kr0 kr1 kr2 kr3 kr4 fr0 fr1 fr2 fr3 fr4 kout0 kout1 kout2 kout3 kout4 fout0 fout1 fout2 fout3 fout4
  have hm := HM.out.pk [1, 0, 2, 3, 4, 5] (by decide) (by simp)
  simp only [low.pk, List.getElem?_cons_zero, List.getElem?_cons_succ] at hm
  replace HM := Lib.hid hm
  clear hm
  have hm := HM.out.set (j := 3) (.slice Anl nl cnl)
  simp only [pa, pb, pc] at hm
  replace HM := Lib.hid hm
  clear hm
  have hm := HM.out.pk [4, 0, 1, 2, 3, 5] (by decide) (by simp)
  simp only [low.pk, List.getElem?_cons_zero, List.getElem?_cons_succ] at hm
  replace HM := Lib.hid hm
  clear hm
  have hm := HM.out.putRow (ys := [.string x.name, .int .i64 (x.from_ + (m : Int)), .slice Ant nt cnt, .slice Anl nl cnl, .slice A14 x.seen.length c14]) rfl
  simp only [low.putRow, Nat.zero_add, Nat.reduceAdd] at hm
  replace HM := Lib.hid hm
  clear hm
  obtain ⟨W8, hW, hm⟩ := HM.out.name
  rw [← hW]
  replace HM := Lib.hid hm
  clear hm hW
  obtain ⟨kr0, kr1, kr2, kr3, kr4⟩ := HM.out.c5 0 rfl
  have hm := HM.out.pk [4, 2, 3, 0, 1, 5] (by decide) (by simp)
  simp only [low.pk, List.getElem?_cons_zero, List.getElem?_cons_succ] at hm
  replace HM := Lib.hid hm
  clear hm
  obtain ⟨bs, hm⟩ := HM.out.seenOf'
  replace HM := Lib.hid hm
  clear hm
  rw [HN.out, hF.out]
  exact bodyPost_ret (v := .tuple #[.agg #[.string x.name, .int .i64 (x.from_ + (m : Int)), .slice Ant nt cnt, .slice Anl nl cnl, .slice A14 x.seen.length c14], .bool true]) (by simp [results, Tryz.results5, go_sem, kr0, kr1, kr2, kr3, kr4]) rfl ((show Ms w (.dt (datDo (⟨x.name, x.from_ + (m : Int), (textAtT x (x.from_ + (m : Int))), (x.list.drop m), x.seen⟩ : Do)) (.agg #[.string x.name, .int .i64 (x.from_ + (m : Int)), .slice Ant nt cnt, .slice Anl nl cnl, .slice A14 x.seen.length c14]) _ :: _) _ from (HM.out.pk0.pkO.pkO.pkO.pkF rfl).pkF rfl).resB true)
theorem specForget_d (v : Value) (x : Do) (n : Int) (w : World) (h : RdC w w.heap.size (datDo x) v) (hs : SmDo x) (hr : Rng n) : Calls Tryz.prog 5 #[v, .int .i64 n] w (ResB (datDo (forgetT x n)) (forgetB x n) w) := by
  have hn := hr.2
  cases hd : docB x
  · exact specForget_a v x n w h hs hn hd
  by_cases hneg : n < 0
  · exact specForget_b v x n w h hs hn hd hneg
  by_cases hk : (x.list.length : Int) - n ≤ 0
  · exact specForget_c v x n w h hs hn hd (by omega) hk
  by_cases hc : (x.list.length : Int) - n = capOf v
  · exact specForget_d1 v x n w h hs hn hd (by omega) hk hc
  · exact specForget_d2 v x n w h hs hn hd (by omega) hk hc
end Go.Proofs.YtgfbcpcfdlnbhabGreat.low


/-
  Contracts of the program's builder: endRun, drop, put, done, keep.
-/
namespace Go.Proofs.YtgfbcpcfdlnbhabGreat.low
open Go.RowKit
set_option linter.unusedVariables false

set_option maxRecDepth 100000 in
set_option maxHeartbeats 3200000 in
theorem implFlush_f (S : Nat → Prop) (lo g : Nat) (ps : List Pt) (put : List Int) (d : Int) (w : World) (hb : BAtS S lo g 128 w ps put d) (hS : ∀ b, w.heap.size ≤ b → S b) (hl : ps.length ≤ 4294967296) (hp : put.length ≤ 4294967296) :
    Calls Tryz.prog 132 #[.pointer (some ⟨g, 0, none⟩)] w (FlushedS S lo g 128 w (ps ++ putL put ++ dropL d)) := by
  obtain ⟨i0, hi0, hz0, hz1, hz2⟩ := info_parts part_info
  obtain ⟨v, u, us, hx, ha, hos⟩ := hb
  have HS := Lib.hid hS
  have HOS := Lib.hid hos
  clear hS hos
  have ha0 := ha.init hx.len
  obtain ⟨A, c, rfl⟩ := own_form (ha.last hx.len)
  have c0 := hx.cell0
  have c1 := hx.cell1
  have c2 := hx.cell2
  have f0 := hx.free 0
  have f1 := hx.free 1
  have f2 := hx.free 2
  have HX := Lib.hid hx
  have HA := Lib.hid ha
  have HA0 := Lib.hid ha0
  clear hx ha ha0
  by_cases hput : put.length = 0
  · have e1 : putL put = [] := by simp [putL, hput]
    rw [e1, List.append_nil]
    by_cases hd : 0 < d
    · have e2 : dropL d = [⟨3, d, []⟩] := by simp [dropL, hd]
      rw [e2]
      go_enter Tryz.func132, Tryz.ntmps132
      go_wp2_with fail
      have lg := HX.out.lt
      have hlo : lo ≤ w.heap.size := Nat.le_trans HX.out.low (Nat.le_of_lt lg)
      have hne := own_far HX.out.row HX.out.box (by decide)
      go_region_law ((refine step_append_lies _ (by rfl) (.tmp 31) (.tmp 37) 65 (by rfl) lo 88 i0 _ 3 40 Tryz.underlying65 hi0 hz0 hz1 hz2 rfl (by omega) v ps.length (cellsOf ps us) (by rfl) ((HX.out.row.alloc _).drew) ⟨w.heap.size, 0, none⟩ 1 1 [.int .i64 3, .int .i64 d, .slice none 0 0] (by rfl) (by rfl) (World.news_of_block (cs := #[.int .i64 3, .int .i64 d, .slice none 0 0]) (t := 88) (fr := (0, 0)) (heap_alloc_new w _)) (by simp [Value.oneCell']) (by omega) (by unfold maxLen; omega) (by omega) (by simp; omega) (w.heap.size + 1) (by simp) ?_; intro gg cap w1 hown1 hgrow hat hlt; have hf := free_grown (o := 0) HX.out.box (below_made w _) hgrow hne; have hf1 := free_grown (o := 1) HX.out.box (below_made w _) hgrow hne; have hf2 := free_grown (o := 2) HX.out.box (below_made w _) hgrow hne; have hc : w1.cell? ⟨g, 0, none⟩ = some v := cell_grown 0 HX.out.box (below_made w _) hgrow hne; have hc1 : w1.cell? ⟨g, 1, none⟩ = some (.slice A put.length c) := cell_grown 1 HX.out.box (below_made w _) hgrow hne; have hc2 : w1.cell? ⟨g, 2, none⟩ = some (.int .i64 d) := cell_grown 2 HX.out.box (below_made w _) hgrow hne))
      all_goals
        obtain ⟨hx2, ha2, b2⟩ := Box.push (p := ⟨3, d, []⟩) HX.out (by decide) (by decide) (Apart.bare 3 d HA0.out) (below_made w _) hown1 hgrow
        have HO2 := Lib.hid (HOS.out.init.push (n := ps.length + 1) (cap := cap) nil_own hat (HS.out _ (by omega)))
        have HR2 := Lib.hid (push_fr HOS.out.init (below_made w _) hgrow (.slice (some ⟨gg, 0, none⟩) (ps.length + 1) cap))
        have HX2 := Lib.hid hx2
        have HA2 := Lib.hid ha2
        have HB2 := Lib.hid b2
        clear hx2 ha2 b2
        go_wp2
        go_end0
        obtain ⟨r1, r2, r3⟩ := HX2.out.clearS (by decide) (by decide) HA2.out HO2.out
        exact ⟨rfl, r1, HB2.out.trans r2, HR2.out.trans r3⟩

    · have e2 : dropL d = [] := by simp [dropL]; omega
      rw [e2, List.append_nil]
      go_enter Tryz.func132, Tryz.ntmps132
      go_wp2_with fail
      go_end0
      obtain ⟨r1, r2, r3⟩ := HX.out.clearS (by decide) (by decide) HA0.out HOS.out.init
      exact ⟨rfl, r1, r2, r3⟩
  · have hput' : (0 : Int) < (put.length : Int) := by omega
    have e1 : putL put = [⟨2, 0, put⟩] := by simp [putL, hput]
    rw [e1]
    by_cases hd : 0 < d
    · have e2 : dropL d = [⟨3, d, []⟩] := by simp [dropL, hd]
      rw [e2]
      generalize hQ : ps ++ [⟨2, 0, put⟩] ++ [⟨3, d, []⟩] = Q
      have HQ := Lib.hid hQ
      clear hQ
      go_enter Tryz.func132, Tryz.ntmps132
      go_wp2_with fail
      have lg := HX.out.lt
      have hlo : lo ≤ w.heap.size := Nat.le_trans HX.out.low (Nat.le_of_lt lg)
      have hne := own_far HX.out.row HX.out.box (by decide)
      go_region_law ((refine step_append_lies _ (by rfl) (.tmp 12) (.tmp 18) 65 (by rfl) lo 88 i0 _ 3 40 Tryz.underlying65 hi0 hz0 hz1 hz2 rfl (by omega) v ps.length (cellsOf ps us) (by rfl) ((HX.out.row.alloc _).drew) ⟨w.heap.size, 0, none⟩ 1 1 [.int .i64 2, .int .i64 0, .slice A put.length c] (by rfl) (by rfl) (World.news_of_block (cs := #[.int .i64 2, .int .i64 0, .slice A put.length c]) (t := 88) (fr := (0, 0)) (heap_alloc_new w _)) (by simp [Value.oneCell']) (by omega) (by unfold maxLen; omega) (by omega) (by simp; omega) (w.heap.size + 1) (by simp) ?_; intro gg cap w1 hown1 hgrow hat hlt; have hf := free_grown (o := 0) HX.out.box (below_made w _) hgrow hne; have hf1 := free_grown (o := 1) HX.out.box (below_made w _) hgrow hne; have hf2 := free_grown (o := 2) HX.out.box (below_made w _) hgrow hne; have hc : w1.cell? ⟨g, 0, none⟩ = some v := cell_grown 0 HX.out.box (below_made w _) hgrow hne; have hc1 : w1.cell? ⟨g, 1, none⟩ = some (.slice A put.length c) := cell_grown 1 HX.out.box (below_made w _) hgrow hne; have hc2 : w1.cell? ⟨g, 2, none⟩ = some (.int .i64 d) := cell_grown 2 HX.out.box (below_made w _) hgrow hne))
      all_goals

        obtain ⟨hx1, ha1, b1⟩ := Box.push (p := ⟨2, 0, put⟩) HX.out (by decide) (by decide) HA.out (below_made w _) hown1 hgrow
        have HO1 := Lib.hid (HOS.out.init.push (n := ps.length + 1) (cap := cap) HOS.out.last hat (HS.out _ (by omega)))
        have HR1 := Lib.hid (push_fr HOS.out.init (below_made w _) hgrow (.slice (some ⟨gg, 0, none⟩) (ps.length + 1) cap))
        clear hown1 hgrow hat hlt hlo hne lg c0 c1 c2 f0 f1 f2
        have HX1 := Lib.hid hx1
        have HA1 := Lib.hid ha1
        have HB1 := Lib.hid b1
        clear hx1 ha1 b1
        go_wp2_with fail
        clear hf hf1 hf2 hc hc1 hc2
        generalize (Value.slice (some ⟨gg, 0, none⟩) (ps.length + 1) cap) = v1 at *
        generalize w1.setCell ⟨g, 0, none⟩ v1 = W1 at *
        have c0 := HX1.out.cell0
        have c1 := HX1.out.cell1
        have c2 := HX1.out.cell2
        have f0 := HX1.out.free 0
        have f1 := HX1.out.free 1
        have f2 := HX1.out.free 2
        generalize hps : ps ++ [⟨2, 0, put⟩] = ps1 at *
        have hl1 : ps1.length ≤ 4294967297 := by rw [← hps]; simp; omega
        clear hps
        generalize us ++ [Value.slice A put.length c] = us1 at *
        have lg := HX1.out.lt
        have hlo : lo ≤ W1.heap.size := Nat.le_trans HX1.out.low (Nat.le_of_lt lg)
        have hne := own_far HX1.out.row HX1.out.box (by decide)
        go_region_law ((refine step_append_lies _ (by rfl) (.tmp 31) (.tmp 37) 65 (by rfl) lo 88 i0 _ 3 40 Tryz.underlying65 hi0 hz0 hz1 hz2 rfl (by omega) v1 ps1.length (cellsOf ps1 us1) (by rfl) ((HX1.out.row.alloc _).drew) ⟨W1.heap.size, 0, none⟩ 1 1 [.int .i64 3, .int .i64 d, .slice none 0 0] (by rfl) (by rfl) (World.news_of_block (cs := #[.int .i64 3, .int .i64 d, .slice none 0 0]) (t := 88) (fr := (0, 0)) (heap_alloc_new W1 _)) (by simp [Value.oneCell']) (by omega) (by unfold maxLen; omega) (by omega) (by simp; omega) (W1.heap.size + 1) (by simp) ?_; intro gg cap w1 hown1 hgrow hat hlt; have hf := free_grown (o := 0) HX1.out.box (below_made W1 _) hgrow hne; have hf1 := free_grown (o := 1) HX1.out.box (below_made W1 _) hgrow hne; have hf2 := free_grown (o := 2) HX1.out.box (below_made W1 _) hgrow hne; have hc : w1.cell? ⟨g, 0, none⟩ = some v1 := cell_grown 0 HX1.out.box (below_made W1 _) hgrow hne; have hc1 : w1.cell? ⟨g, 1, none⟩ = some (.slice A put.length c) := cell_grown 1 HX1.out.box (below_made W1 _) hgrow hne; have hc2 : w1.cell? ⟨g, 2, none⟩ = some (.int .i64 d) := cell_grown 2 HX1.out.box (below_made W1 _) hgrow hne))
        all_goals
          obtain ⟨hx2, ha2, b2⟩ := Box.push (p := ⟨3, d, []⟩) HX1.out (by decide) (by decide) (Apart.bare 3 d HA1.out) (below_made W1 _) hown1 hgrow
          have HO2 := Lib.hid (HO1.out.push (n := ps1.length + 1) (cap := cap) nil_own hat (HS.out _ (by have := HR1.out.size; omega)))
          have HR2 := Lib.hid (push_fr HO1.out (below_made W1 _) hgrow (.slice (some ⟨gg, 0, none⟩) (ps1.length + 1) cap))
          have HX2 := Lib.hid hx2
          have HA2 := Lib.hid ha2
          have HB2 := Lib.hid b2
          clear hx2 ha2 b2
          go_wp2
          go_end0
          obtain ⟨r1, r2, r3⟩ := HX2.out.clearS (by decide) (by decide) HA2.out HO2.out
          exact ⟨rfl, by rw [← HQ.out]; exact r1, HB1.out.trans (HB2.out.trans r2), HR1.out.trans (HR2.out.trans r3)⟩

    · have e2 : dropL d = [] := by simp [dropL]; omega
      rw [e2, List.append_nil]
      go_enter Tryz.func132, Tryz.ntmps132
      go_wp2_with fail
      have lg := HX.out.lt
      have hlo : lo ≤ w.heap.size := Nat.le_trans HX.out.low (Nat.le_of_lt lg)
      have hne := own_far HX.out.row HX.out.box (by decide)
      go_region_law ((refine step_append_lies _ (by rfl) (.tmp 12) (.tmp 18) 65 (by rfl) lo 88 i0 _ 3 40 Tryz.underlying65 hi0 hz0 hz1 hz2 rfl (by omega) v ps.length (cellsOf ps us) (by rfl) ((HX.out.row.alloc _).drew) ⟨w.heap.size, 0, none⟩ 1 1 [.int .i64 2, .int .i64 0, .slice A put.length c] (by rfl) (by rfl) (World.news_of_block (cs := #[.int .i64 2, .int .i64 0, .slice A put.length c]) (t := 88) (fr := (0, 0)) (heap_alloc_new w _)) (by simp [Value.oneCell']) (by omega) (by unfold maxLen; omega) (by omega) (by simp; omega) (w.heap.size + 1) (by simp) ?_; intro gg cap w1 hown1 hgrow hat hlt; have hf := free_grown (o := 0) HX.out.box (below_made w _) hgrow hne; have hf1 := free_grown (o := 1) HX.out.box (below_made w _) hgrow hne; have hf2 := free_grown (o := 2) HX.out.box (below_made w _) hgrow hne; have hc : w1.cell? ⟨g, 0, none⟩ = some v := cell_grown 0 HX.out.box (below_made w _) hgrow hne; have hc1 : w1.cell? ⟨g, 1, none⟩ = some (.slice A put.length c) := cell_grown 1 HX.out.box (below_made w _) hgrow hne; have hc2 : w1.cell? ⟨g, 2, none⟩ = some (.int .i64 d) := cell_grown 2 HX.out.box (below_made w _) hgrow hne))
      all_goals

        obtain ⟨hx1, ha1, b1⟩ := Box.push (p := ⟨2, 0, put⟩) HX.out (by decide) (by decide) HA.out (below_made w _) hown1 hgrow
        have HO2 := Lib.hid (HOS.out.init.push (n := ps.length + 1) (cap := cap) HOS.out.last hat (HS.out _ (by omega)))
        have HR2 := Lib.hid (push_fr HOS.out.init (below_made w _) hgrow (.slice (some ⟨gg, 0, none⟩) (ps.length + 1) cap))
        have HX2 := Lib.hid hx1
        have HA2 := Lib.hid ha1
        have HB2 := Lib.hid b1
        clear hx1 ha1 b1
        go_wp2
        go_end0
        obtain ⟨r1, r2, r3⟩ := HX2.out.clearS (by decide) (by decide) HA2.out HO2.out
        exact ⟨rfl, r1, HB2.out.trans r2, HR2.out.trans r3⟩

set_option maxHeartbeats 1600000 in
theorem implDrop_f (S : Nat → Prop) (lo g : Nat) (ps : List Pt) (put : List Int) (d n : Int) (w : World) (hb : BAtS S lo g 128 w ps put d) (hS : ∀ b, w.heap.size ≤ b → S b) (h0 : 0 ≤ d) (h1 : d ≤ 4611686018427387904) (h2 : 0 ≤ n) (h3 : n ≤ 1048576) :
    Calls Tryz.prog 131 #[.pointer (some ⟨g, 0, none⟩), .int .i64 n] w (BuiltS S lo g 128 w ps put (d + n)) := by
  obtain ⟨v, u, us, hx, ha, hos⟩ := hb
  have HS := Lib.hid hS
  have HOS := Lib.hid hos
  clear hS hos
  have c2 := hx.cell2
  have f2 := hx.free 2
  have HX := Lib.hid hx
  have HA := Lib.hid ha
  clear hx ha
  go_enter Tryz.func131, Tryz.ntmps131
  go_wp2
  go_end0
  obtain ⟨r1, r2, r3⟩ := HX.out.dropS (d' := d + n) (by decide) (by decide) HA.out HOS.out
  exact ⟨rfl, r1, r2, r3⟩

set_option maxHeartbeats 1600000 in
theorem implPut_f (S : Nat → Prop) (lo g : Nat) (ps : List Pt) (put : List Int) (d : Int) (A : Option Addr) (c : Nat) (zs : List Int) (w : World) (hb : BAtS S lo g 128 w ps put d) (hS : ∀ b, w.heap.size ≤ b → S b) (hr : Row (Value.int .i64) w w.heap.size A zs) (hp : put.length ≤ 4294967296) (hz : zs.length ≤ 4294967296) :
    Calls Tryz.prog 130 #[.pointer (some ⟨g, 0, none⟩), .slice A zs.length c] w (BuiltS S lo g 128 w ps (put ++ zs) d) := by
  obtain ⟨i0, hi0, hz0, hz1, hz2⟩ := info_parts ints_info
  obtain ⟨v, u, us, hx, ha, hos⟩ := hb
  have HS := Lib.hid hS
  have HOS := Lib.hid hos
  clear hS hos
  obtain ⟨Au, cu, rfl⟩ := own_form (ha.last hx.len)
  simp only at hx ha
  have c1 := hx.cell1
  have f1 := hx.free 1
  have ho := Lib.hid (ha.last hx.len)
  have hlo : lo ≤ w.heap.size := Nat.le_trans hx.low (Nat.le_of_lt hx.lt)
  have HX := Lib.hid hx
  have HA := Lib.hid ha
  clear hx ha
  by_cases hn : 0 < zs.length
  · obtain ⟨ad, rfl, hbk, hcs⟩ := hr hn
    have hcs' : ∀ j x, (zs.map (Value.int .i64))[j]? = some x → w.cell? (ad.add j) = some x := fun j x hx => by
      rw [List.getElem?_map] at hx
      obtain ⟨z, hz, rfl⟩ := Option.map_eq_some_iff.1 hx
      exact hcs j z hz
    have HC := Lib.hid hcs'
    clear hcs hcs' hr
    have hug := own_far ho.out HX.out.box (by decide)
    go_enter Tryz.func130, Tryz.ntmps130
    go_wp2_with (at_builtin; refine wpList_append_lies _ rfl (.tmp 8) (.tmp 9) 22 rfl lo 3 i0 (.int .i64 0) 1 8 Tryz.underlying22 hi0 hz0 hz1 hz2 rfl (by decide) (.slice Au put.length cu) put.length (put.map (Value.int .i64)) rfl ho.out ad zs.length c (zs.map (Value.int .i64)) rfl (by simp) HC.out (by simp [Value.oneCell']) (by omega) (by unfold maxLen; omega) (by omega) hlo w.heap.size rfl ?_; intro gg cap w1 hown1 hgrow hat hlt; have hf := free_grown (o := 1) HX.out.box (Below.refl _ _) hgrow hug; have hc : w1.cell? ⟨g, 1, none⟩ = some (.slice Au put.length cu) := cell_grown 1 HX.out.box (Below.refl _ _) hgrow hug)
    go_end0
    obtain ⟨r1, r2, r3⟩ := Box.moreS (put' := put ++ zs) HX.out (by decide) (by decide) HA.out (by simpa using hown1) hgrow (hat.elim (fun e => .inl (by rw [e]; rfl)) (fun e => .inr (by rw [← e]; rfl))) HOS.out (HS.out _ (Nat.le_refl _))
    exact ⟨rfl, r1, r2, r3⟩
  · have e0 : zs = [] := List.eq_nil_of_length_eq_zero (by omega)
    subst e0
    rw [List.append_nil]
    go_enter Tryz.func130, Tryz.ntmps130
    go_wp2_with (at_builtin; refine wpList_append_zero rfl (.tmp 8) (.tmp 9) 22 rfl lo 3 i0 1 Tryz.underlying22 hi0 (.slice Au put.length cu) put.length (put.map (Value.int .i64)) rfl ho.out A c rfl ?_)
    go_end0
    obtain ⟨r1, r2, r3⟩ := Box.moreS (put' := put) HX.out (by decide) (by decide) HA.out ho.out ⟨rfl, rfl, rfl, Nat.le_refl _, fun _ _ _ => rfl⟩ (.inl rfl) HOS.out (HS.out _ (Nat.le_refl _))
    exact ⟨rfl, r1, r2, r3⟩

theorem implDrop_any (lo g : Nat) (ps : List Pt) (put : List Int) (d n : Int) (w : World) (hb : BAt lo g 128 w ps put d) (h0 : 0 ≤ d) (h1 : d ≤ 4611686018427387904) (h2 : 0 ≤ n) (h3 : n ≤ 1048576) :
    Calls Tryz.prog 131 #[.pointer (some ⟨g, 0, none⟩), .int .i64 n] w (Built lo g 128 w ps put (d + n)) :=
  (implDrop_f (fun _ => True) lo g ps put d n w hb.all (fun _ _ => trivial) h0 h1 h2 h3).mono fun e w' h => h.any

theorem implPut_any (lo g : Nat) (ps : List Pt) (put : List Int) (d : Int) (A : Option Addr) (c : Nat) (zs : List Int) (w : World) (hb : BAt lo g 128 w ps put d) (hr : Row (Value.int .i64) w w.heap.size A zs) (hp : put.length ≤ 4294967296) (hz : zs.length ≤ 4294967296) :
    Calls Tryz.prog 130 #[.pointer (some ⟨g, 0, none⟩), .slice A zs.length c] w (Built lo g 128 w ps (put ++ zs) d) :=
  (implPut_f (fun _ => True) lo g ps put d A c zs w hb.all (fun _ _ => trivial) hr hp hz).mono fun e w' h => h.any

set_option maxHeartbeats 1600000 in
theorem implDone_f (S : Nat → Prop) (lo g : Nat) (ps : List Pt) (put : List Int) (d : Int) (w : World) (hb : BAtS S lo g 128 w ps put d) (hS : ∀ b, w.heap.size ≤ b → S b) (hl : ps.length ≤ 4294967296) (hp : put.length ≤ 4294967296) :
    Calls Tryz.prog 115 #[.pointer (some ⟨g, 0, none⟩)] w (GoneS S lo (ps ++ putL put ++ dropL d) w) := by
  go_enter Tryz.func115, Tryz.ntmps115
  go_wp2_with fail
  refine (implFlush_f S lo g ps put d w hb hS hl hp).mono ?_
  rintro e w1 ⟨rfl, ⟨v, us, hx, ha, hos⟩, b1, fr1⟩
  have HS := Lib.hid hS
  have HOS := Lib.hid hos
  have HR := Lib.hid fr1
  clear hS hos fr1
  obtain ⟨Av, cv, rfl⟩ := own_form hx.row
  have c0 := hx.cell0
  have HX := Lib.hid hx
  have HA := Lib.hid ha
  clear hx ha
  generalize ps ++ putL put ++ dropL d = q at *
  go_wp2
  go_ret
  exact ⟨_, us, rfl, HX.out.parts HA.out, b1, HR.out, HX.out.row, HX.out.len, HOS.out.2.1, HOS.out.2.2⟩

set_option maxRecDepth 100000 in
set_option maxHeartbeats 3200000 in
theorem implKeep_f (S : Nat → Prop) (lo g : Nat) (ps : List Pt) (put : List Int) (d n : Int) (w : World) (hb : BAtS S lo g 128 w ps put d) (hS : ∀ b, w.heap.size ≤ b → S b) (hl : ps.length ≤ 4294967296) (hp : put.length ≤ 4294967296) (hn : ¬ n = 0) (hn0 : 0 ≤ n) (hn1 : n ≤ 1048576)
    (hq : ∀ p ∈ ps ++ putL put ++ dropL d, 0 ≤ p.n ∧ p.n ≤ 4611686018427387904) (hql : (ps ++ putL put ++ dropL d).length ≤ 4294967298) :
    Calls Tryz.prog 129 #[.pointer (some ⟨g, 0, none⟩), .int .i64 n] w (FlushedS S lo g 128 w (keepTo (ps ++ putL put ++ dropL d) n)) := by
  obtain ⟨i0, hi0, hz0, hz1, hz2⟩ := info_parts part_info
  go_enter Tryz.func129, Tryz.ntmps129
  go_wp2_with fail
  refine (implFlush_f S lo g ps put d w hb hS hl hp).mono ?_
  rintro e w1 ⟨rfl, ⟨v, us, hx, ha, hos⟩, b1, fr1⟩
  have HS := Lib.hid hS
  have HOS := Lib.hid hos
  have HR := Lib.hid fr1
  clear hS hos fr1
  generalize ps ++ putL put ++ dropL d = q at *
  have c0 := hx.cell0
  have f0 := hx.free 0
  have hne := own_far hx.row hx.box (by decide)
  have hlo : lo ≤ w1.heap.size := Nat.le_trans hx.low (Nat.le_of_lt hx.lt)
  rcases q.eq_nil_or_concat with rfl | ⟨r, p, rfl⟩
  · obtain ⟨Av, cv, rfl⟩ := own_form hx.row
    have HX := Lib.hid hx
    have HA := Lib.hid ha
    clear hx ha
    go_wp2_with (at_builtin; refine wpList_append_lies _ rfl (.tmp 44) (.tmp 47) 65 rfl lo 88 i0 _ 3 40 Tryz.underlying65 hi0 hz0 hz1 hz2 rfl (by omega) (.slice Av 0 cv) 0 (cellsOf [] us) rfl (HX.out.row.alloc _) ⟨w1.heap.size, 0, none⟩ 1 1 [.int .i64 1, .int .i64 n, .slice none 0 0] rfl rfl (World.news_of_block (cs := #[.int .i64 1, .int .i64 n, .slice none 0 0]) (t := 88) (fr := (0, 0)) (heap_alloc_new w1 _)) (by simp [Value.oneCell']) (by omega) (by unfold maxLen; omega) (by omega) (by simp; omega) (w1.heap.size + 1) (by simp) ?_; intro gg cap w2 hown1 hgrow hat hlt; have hf := free_grown (o := 0) HX.out.box (below_new w1 _) hgrow hne; have hc : w2.cell? ⟨g, 0, none⟩ = some (.slice Av 0 cv) := cell_grown 0 HX.out.box (below_new w1 _) hgrow hne)
    go_end0
    obtain ⟨hx2, ha2, b2⟩ := Box.push (p := ⟨1, n, []⟩) HX.out (by decide) (by decide) (Apart.bare 1 n HA.out) (below_new w1 _) hown1 hgrow
    refine ⟨rfl, ?_, b1.trans b2, HR.out.trans (push_fr HOS.out (below_new w1 _) hgrow _)⟩
    rw [keepTo_nil]
    exact ⟨_, _, hx2, ha2, HOS.out.push nil_own hat (HS.out _ (by have := HR.out.size; omega))⟩
  · rw [List.concat_eq_append] at *
    have hrl : (r ++ [p]).length = r.length + 1 := by simp
    rw [hrl] at hql
    have hp0 := hq p (by simp)
    clear hq
    rcases hx.row.2 with ⟨_, h0⟩ | ⟨gv, cap0, cur, rfl, hgv, hhv, hcap, hcap2, _, _⟩
    · simp at h0
    rw [hrl] at c0 hne hcap hx
    have hrow : w1.ownsRow lo 88 3 (.slice (some ⟨gv, 0, none⟩) (r.length + 1) cap0) (r.length + 1) (cellsOf (r ++ [p]) us) := by have := hx.row; rwa [hrl] at this
    have k0 : w1.cell? ⟨gv, r.length * 3, none⟩ = some (.int .i64 p.kind) := by
      have := hrow.cellAt (r.length * 3) (by omega)
      obtain ⟨u, hu⟩ := idx_some (l := us) (i := r.length) (by rw [hx.len]; simp)
      rw [this, (cellsOf_at (r ++ [p]) us r.length p u (by simp) hu).1]
    have k1 : w1.cell? ⟨gv, r.length * 3 + 1, none⟩ = some (.int .i64 p.n) := by
      have := hrow.cellAt (r.length * 3 + 1) (by omega)
      obtain ⟨u, hu⟩ := idx_some (l := us) (i := r.length) (by rw [hx.len]; simp)
      rw [this, (cellsOf_at (r ++ [p]) us r.length p u (by simp) hu).2.1]
    have fv := hrow.frozenAt (r.length * 3 + 1)
    have HRW := Lib.hid hrow
    clear hrow
    have HX := Lib.hid hx
    have HA := Lib.hid ha
    clear hx ha hhv
    by_cases hk : p.kind = 1
    · go_wp2
      go_end0
      obtain ⟨hx2, ha2, b2⟩ := Box.setN (b := p.n + n) HX.out (by decide) (by decide) HA.out
      refine ⟨rfl, ?_, b1.trans b2, HR.out.trans (setN_fr HOS.out _)⟩
      rw [keepTo_t n hk]
      exact ⟨_, _, hx2, ha2, HOS.out⟩
    · go_wp2_with (at_builtin; refine wpList_append_lies _ rfl (.tmp 44) (.tmp 47) 65 rfl lo 88 i0 _ 3 40 Tryz.underlying65 hi0 hz0 hz1 hz2 rfl (by omega) (.slice (some ⟨gv, 0, none⟩) (r.length + 1) cap0) (r.length + 1) (cellsOf (r ++ [p]) us) rfl (HRW.out.alloc _) ⟨w1.heap.size, 0, none⟩ 1 1 [.int .i64 1, .int .i64 n, .slice none 0 0] rfl rfl (World.news_of_block (cs := #[.int .i64 1, .int .i64 n, .slice none 0 0]) (t := 88) (fr := (0, 0)) (heap_alloc_new w1 _)) (by simp [Value.oneCell']) (by omega) (by unfold maxLen; omega) (by omega) (by simp; omega) (w1.heap.size + 1) (by simp) ?_; intro gg cap w2 hown1 hgrow hat hlt; have hf := free_grown (o := 0) HX.out.box (below_new w1 _) hgrow hne; have hc : w2.cell? ⟨g, 0, none⟩ = some (.slice (some ⟨gv, 0, none⟩) (r.length + 1) cap0) := cell_grown 0 HX.out.box (below_new w1 _) hgrow hne)
      go_end0
      obtain ⟨hx2, ha2, b2⟩ := Box.push (p := ⟨1, n, []⟩) HX.out (by decide) (by decide) (Apart.bare 1 n HA.out) (below_new w1 _) (by rw [hrl]; exact hown1) hgrow
      rw [hrl] at hx2 ha2 b2
      refine ⟨rfl, ?_, b1.trans b2, HR.out.trans (push_fr HOS.out (below_new w1 _) hgrow _)⟩
      rw [keepTo_f n hk]
      exact ⟨_, _, hx2, ha2, HOS.out.push nil_own hat (HS.out _ (by have := HR.out.size; omega))⟩

theorem implDone_any (lo g : Nat) (ps : List Pt) (put : List Int) (d : Int) (w : World) (hb : BAt lo g 128 w ps put d) (hl : ps.length ≤ 4294967296) (hp : put.length ≤ 4294967296) :
    Calls Tryz.prog 115 #[.pointer (some ⟨g, 0, none⟩)] w (Gone lo (ps ++ putL put ++ dropL d) w) :=
  (implDone_f (fun _ => True) lo g ps put d w hb.all (fun _ _ => trivial) hl hp).mono fun e w' h => h.any

theorem implKeep_any (lo g : Nat) (ps : List Pt) (put : List Int) (d n : Int) (w : World) (hb : BAt lo g 128 w ps put d) (hl : ps.length ≤ 4294967296) (hp : put.length ≤ 4294967296) (hn : ¬ n = 0) (hn0 : 0 ≤ n) (hn1 : n ≤ 1048576)
    (hq : ∀ p ∈ ps ++ putL put ++ dropL d, 0 ≤ p.n ∧ p.n ≤ 4611686018427387904) (hql : (ps ++ putL put ++ dropL d).length ≤ 4294967298) :
    Calls Tryz.prog 129 #[.pointer (some ⟨g, 0, none⟩), .int .i64 n] w (Flushed lo g 128 w (keepTo (ps ++ putL put ++ dropL d) n)) :=
  (implKeep_f (fun _ => True) lo g ps put d n w hb.all (fun _ _ => trivial) hl hp hn hn0 hn1 hq hql).mono fun e w' h => h.any

set_option maxHeartbeats 1600000 in
theorem implKeep_zero (g : Nat) (w : World) : Calls Tryz.prog 129 #[.pointer (some ⟨g, 0, none⟩), .int .i64 0] w fun e w' => e = .returned (.tuple #[]) ∧ w = w' := by
  go_enter Tryz.func129, Tryz.ntmps129
  go_wp2
  first | go_end0 | (refine bodyPost_ret (results_none rfl _ _ _) rfl ?_)
  exact ⟨rfl, rfl⟩
end Go.Proofs.YtgfbcpcfdlnbhabGreat.low


/-
  Contracts of the program's functions on operations that only read: impl.PartOk, partsOk, size, sizeOf, OpFrom, OpTo, OpOk, Puts, Drops.
-/
namespace Go.Proofs.YtgfbcpcfdlnbhabGreat.low
open Go.RowKit
set_option linter.unusedVariables false

set_option maxHeartbeats 1600000 in
theorem implPartOk_any (p : Pt) (A : Option Addr) (c : Nat) (w : World) (hr : Row (Value.int .i64) w w.heap.size A p.signs) (hl : p.signs.length ≤ 4294967296) :
    Calls Tryz.prog 126 #[.agg #[.int .i64 p.kind, .int .i64 p.n, .slice A p.signs.length c]] w (Tells (okPt p) w) := by
  obtain ⟨k, n, zs⟩ := p
  have hr' : Row (Value.int .i64) w w.heap.size A zs := hr
  have hl' : zs.length ≤ 4294967296 := hl
  clear hr hl
  by_cases hk : k = 1 ∨ k = 3
  · by_cases h0 : 0 ≤ n
    · by_cases h1 : n ≤ 200
      · by_cases hz : zs.length = 0
        all_goals
          have HS := Lib.hid (show okPt ⟨k, n, zs⟩ = decide (zs.length = 0) by
            first
              | (rw [okPt_t (.inl ⟨hk, ⟨h0, h1⟩, hz⟩), decide_eq_true hz])
              | (rw [okPt_f (by simp only; omega), decide_eq_false hz]))
          have hzb : ((zs.length : Int) == 0) = decide (zs.length = 0) := by
            first
              | (rw [decide_eq_true hz, beq_iff_eq]; omega)
              | (rw [decide_eq_false hz, beq_eq_false_iff_ne]; omega)
          generalize decide (zs.length = 0) = bb at HS hzb
          clear hz
          rcases hk with rfl | rfl
          all_goals
            go_enter Tryz.func126, Tryz.ntmps126
            go_wp2
            go_ret
            exact ⟨ret_bool (by rw [HS.out]), alloc_below _ _⟩
      · have HS := Lib.hid (show okPt ⟨k, n, zs⟩ = false by rw [okPt_f (by simp only; omega)])
        rcases hk with rfl | rfl
        all_goals
          go_enter Tryz.func126, Tryz.ntmps126
          go_wp2
          go_ret
          exact ⟨ret_bool (by rw [HS.out]), alloc_below _ _⟩
    · have HS := Lib.hid (show okPt ⟨k, n, zs⟩ = false by rw [okPt_f (by simp only; omega)])
      rcases hk with rfl | rfl
      all_goals
        go_enter Tryz.func126, Tryz.ntmps126
        go_wp2
        go_ret
        exact ⟨ret_bool (by rw [HS.out]), alloc_below _ _⟩
  · have hk1 : (k == 1) = false := by rw [beq_eq_false_iff_ne]; omega
    have hk3 : (k == 3) = false := by rw [beq_eq_false_iff_ne]; omega
    by_cases hk2 : k = 2
    · have hk2' : (k == 2) = true := by rw [beq_iff_eq]; exact hk2
      by_cases hn : n = 0
      · have hn' : (n == 0) = true := by rw [beq_iff_eq]; exact hn
        have HS := Lib.hid (show okPt ⟨k, n, zs⟩ = (allB zs && decide (zs.length ≤ 200)) by
          unfold okPt
          simp [hk2, hn])
        clear hk hk2 hn
        by_cases hlen : zs.length ≤ 200
        · have HL := Lib.hid (decide_eq_true hlen)
          go_enter Tryz.func126, Tryz.ntmps126
          go_wp2_with (go_at_call 87; refine (implSignsOk_any A c zs _ (hr'.past_alloc _) hl').mono ?_; rintro e w' ⟨rfl, rfl⟩)
          go_ret
          refine ⟨ret_bool ?_, alloc_below _ _⟩
          rw [HS.out, HL.out, Bool.and_true]
        · have HL := Lib.hid (decide_eq_false hlen)
          go_enter Tryz.func126, Tryz.ntmps126
          go_wp2
          go_ret
          refine ⟨ret_bool ?_, alloc_below _ _⟩
          rw [HS.out, HL.out, Bool.and_false]
      · have hn' : (n == 0) = false := by rw [beq_eq_false_iff_ne]; exact hn
        have HS := Lib.hid (show okPt ⟨k, n, zs⟩ = false by rw [okPt_f (by simp only; omega)])
        clear hk hk2 hn
        go_enter Tryz.func126, Tryz.ntmps126
        go_wp2
        go_ret
        exact ⟨ret_bool (by rw [HS.out]), alloc_below _ _⟩
    · have hk2' : (k == 2) = false := by rw [beq_eq_false_iff_ne]; exact hk2
      have HS := Lib.hid (show okPt ⟨k, n, zs⟩ = false by rw [okPt_f (by simp only; omega)])
      clear hk hk2
      go_enter Tryz.func126, Tryz.ntmps126
      go_wp2
      go_ret
      exact ⟨ret_bool (by rw [HS.out]), alloc_below _ _⟩

set_option maxHeartbeats 1600000 in
theorem implParts_any (A : Option Addr) (c : Nat) (ps : List Pt) (w : World) (hr : PRow w w.heap.size A ps) (hl : ps.length ≤ 4294967296) (hls : ∀ p ∈ ps, p.signs.length ≤ 4294967296) :
    Calls Tryz.prog 108 #[.slice A ps.length c] w (Tells (partsB ps) w) := by
  by_cases h6 : ps.length ≤ 600
  · go_enter Tryz.func108, Tryz.ntmps108
    go_wp2
    go_loopw [10] (fun i wr => ∃ k : Nat, k ≤ ps.length ∧ i = .int .i64 k ∧ okPs (ps.take k) = true ∧ Below w.heap.size w wr) (fun i _ => ps.length - (intOf i).toNat)
    case atStart => exact ⟨0, Nat.zero_le _, rfl, rfl, Below.refl _ _⟩
    case round =>
      obtain ⟨k, hk, rfl, ha, hbel⟩ := hrel
      have HA := Lib.hid ha
      clear ha
      by_cases hlt : k < ps.length
      · obtain ⟨b, off, p, rfl, hb, hp, hc⟩ := hr.at_ hlt
        obtain ⟨x0, x1, A1, e1, x2, r1⟩ := hc.keep (w' := wr) hb (fun _ hq => hbel.cell hq)
        have hsp := hls p (List.mem_of_getElem? hp)
        have HP := Lib.hid hp
        clear hp hc
        cases hs : okPt p
        · go_wp2_with fail
          refine (implPartOk_any p A1 e1 _ ((r1.more hbel.size).past_alloc _) hsp).mono ?_
          rintro e w2 ⟨rfl, b2⟩
          go_wp2
          go_ret
          exact ⟨ret_bool (by unfold partsB; rw [okPs_f HP.out hs]; rfl), (hbel.trans ((alloc_below wr _).mono hbel.size)).trans (b2.mono (Nat.le_trans hbel.size (alloc_below wr _).size))⟩
        · go_wp2_with fail
          refine (implPartOk_any p A1 e1 _ ((r1.more hbel.size).past_alloc _) hsp).mono ?_
          rintro e w2 ⟨rfl, b2⟩
          go_wp2
          go_roundw
          case rel => exact ⟨k + 1, by omega, by go_num, okPs_snoc HP.out HA.out hs, (hbel.trans ((alloc_below wr _).mono hbel.size)).trans (b2.mono (Nat.le_trans hbel.size (alloc_below wr _).size))⟩
          case measure => simp [intOf]; omega
      · have HE := Lib.hid (show partsB ps = true by
          have h1 := HA.out
          rw [List.take_of_length_le (by omega)] at h1
          unfold partsB
          rw [h1, Bool.true_and]
          exact decide_eq_true h6)
        go_wp2
        go_ret
        refine ⟨ret_bool ?_, hbel⟩
        rw [HE.out]
  · have HE := Lib.hid (show partsB ps = false by unfold partsB; rw [decide_eq_false h6, Bool.and_false])
    go_enter Tryz.func108, Tryz.ntmps108
    go_wp2
    go_ret
    exact ⟨ret_bool (by rw [HE.out]), Below.refl _ _⟩

/-- the size of a part of the kind -/
def sizeK (kind : Int) (p : Pt) : Int := if p.kind = kind then p.n + (p.signs.length : Int) else 0
theorem sumOf_congr {f g : Pt → Int} : ∀ {ps : List Pt}, (∀ p ∈ ps, f p = g p) → sumOf f ps = sumOf g ps
  | [], _ => rfl
  | p :: ps, h => by
    have h1 := h p (List.mem_cons_self ..)
    have h2 := sumOf_congr (f := f) (g := g) (ps := ps) fun q hq => h q (List.mem_cons_of_mem _ hq)
    have e : ∀ f : Pt → Int, sumOf f (p :: ps) = f p + sumOf f ps := fun f => by simp [sumOf]
    rw [e, e, h1, h2]
theorem okPs_mem {ps : List Pt} (h : okPs ps = true) {p : Pt} (hp : p ∈ ps) : okPt p = true := by unfold okPs at h; exact List.all_eq_true.1 h p hp
theorem sizeK_keep {ps : List Pt} (h : okPs ps = true) : sumOf (sizeK 1) ps = sumOf keepOf ps := sumOf_congr fun p hp => by
  have := of_okPt (okPs_mem h hp)
  unfold sizeK keepOf
  split <;> omega
theorem sizeK_put {ps : List Pt} (h : okPs ps = true) : sumOf (sizeK 2) ps = sumOf putOf ps := sumOf_congr fun p hp => by
  have := of_okPt (okPs_mem h hp)
  unfold sizeK putOf
  split <;> omega
theorem sizeK_drop {ps : List Pt} (h : okPs ps = true) : sumOf (sizeK 3) ps = sumOf dropOf ps := sumOf_congr fun p hp => by
  have := of_okPt (okPs_mem h hp)
  unfold sizeK dropOf
  split <;> omega
theorem sizeK_bd {kind : Int} {ps : List Pt} (h : okPs ps = true) (hl : ps.length ≤ 600) : 0 ≤ sumOf (sizeK kind) ps ∧ sumOf (sizeK kind) ps ≤ 120000 := by
  have := sumOf_bd (f := sizeK kind) ps fun p hq => by
    have := of_okPt (okPs_mem h hq)
    unfold sizeK
    split <;> omega
  omega

set_option maxHeartbeats 400000 in
theorem implSize_any (k n : Int) (A : Option Addr) (len c : Nat) (w : World) (h0 : 0 ≤ n) (h1 : n ≤ 200) (h2 : len ≤ 200) :
    Calls Tryz.prog 127 #[.agg #[.int .i64 k, .int .i64 n, .slice A len c]] w (Nums1 (n + (len : Int)) w) := by
  go_enter Tryz.func127, Tryz.ntmps127
  go_wp2
  go_ret
  exact ⟨rfl, alloc_below _ _⟩

set_option maxRecDepth 100000 in
set_option maxHeartbeats 1600000 in
theorem implSizeOf_any (kind : Int) (A : Option Addr) (c : Nat) (ps : List Pt) (w : World) (hr : PRow w w.heap.size A ps) (hl : ps.length ≤ 600) (hok : okPs ps = true) :
    Calls Tryz.prog 109 #[.slice A ps.length c, .int .i64 kind] w (Nums1 (sumOf (sizeK kind) ps) w) := by
  have HOK := Lib.hid hok
  clear hok
  go_enter Tryz.func109, Tryz.ntmps109
  go_wp2
  go_loopw [5, 10] (fun a i wr => ∃ k : Nat, k ≤ ps.length ∧ i = .int .i64 k ∧ a = .int .i64 (sumOf (sizeK kind) (ps.take k)) ∧ Below w.heap.size w wr) (fun _ i _ => ps.length - (intOf i).toNat)
  case atStart => exact ⟨0, Nat.zero_le _, rfl, rfl, Below.refl _ _⟩
  case round =>
    obtain ⟨k, hk, rfl, rfl, hbel⟩ := hrel
    obtain ⟨s1, s2⟩ := sizeK_bd (kind := kind) (okPs_take HOK.out k) (by rw [List.length_take]; omega)
    by_cases hlt : k < ps.length
    · obtain ⟨b, off, p, rfl, hb, hp, hc⟩ := hr.at_ hlt
      obtain ⟨x0, x1, A1, e1, x2, r1⟩ := hc.keep (w' := wr) hb (fun _ hq => hbel.cell hq)
      have hok := of_okPt (okPs_at hp HOK.out)
      have K1 := Lib.hid (sumOf_snoc (f := sizeK kind) hp)
      clear hp hc
      generalize sumOf (sizeK kind) (ps.take k) = q1 at *
      obtain ⟨pk, pn, pz⟩ := p
      simp only at x0 x1 x2 hok
      have hn1 : 0 ≤ pn := by omega
      have hn2 : pn ≤ 200 := by omega
      have hn3 : pz.length ≤ 200 := by omega
      clear hok
      by_cases hkk : pk = kind
      · have hkb : (pk == kind) = true := by rw [beq_iff_eq]; exact hkk
        have HK := Lib.hid (show sizeK kind ⟨pk, pn, pz⟩ = pn + (pz.length : Int) by unfold sizeK; exact if_pos hkk)
        clear hkk
        go_wp2_with fail
        refine (implSize_any pk pn A1 pz.length e1 _ hn1 hn2 hn3).mono ?_
        rintro e w2 ⟨rfl, b2⟩
        go_wp2
        go_roundw
        case rel => exact ⟨k + 1, by omega, by go_num, by rw [K1.out, HK.out], (hbel.trans ((alloc_below wr _).mono hbel.size)).trans (b2.mono (Nat.le_trans hbel.size (alloc_below wr _).size))⟩
        case measure => simp [intOf]; omega
      · have hkb : (pk == kind) = false := by rw [beq_eq_false_iff_ne]; exact hkk
        have HK := Lib.hid (show sizeK kind ⟨pk, pn, pz⟩ = 0 by unfold sizeK; exact if_neg hkk)
        clear hkk
        go_wp2
        go_roundw
        case rel => exact ⟨k + 1, by omega, by go_num, by rw [K1.out, HK.out, Int.add_zero], hbel.trans ((alloc_below wr _).mono hbel.size)⟩
        case measure => simp [intOf]; omega
    · have hke : ps.take k = ps := List.take_of_length_le (by omega)
      rw [hke] at s1 s2 ⊢
      go_wp2
      go_ret
      exact ⟨rfl, hbel⟩

set_option maxHeartbeats 800000 in
theorem implOpFrom_any (A : Option Addr) (c : Nat) (ps : List Pt) (w : World) (hr : PRow w w.heap.size A ps) (hl : ps.length ≤ 4294967296) (hls : ∀ p ∈ ps, p.signs.length ≤ 4294967296) :
    Calls Tryz.prog 107 #[.slice A ps.length c] w (Nums1 (sumK ps + sumD ps) w) := by
  cases hpb : partsB ps
  · have HS := Lib.hid (sum_f hpb)
    go_enter Tryz.func107, Tryz.ntmps107
    go_wp2_with fail
    refine (implParts_any A c ps _ hr hl hls).mono ?_
    rintro e w1 ⟨rfl, b1⟩
    go_wp2
    go_ret
    rw [HS.out.1, HS.out.2.2]
    exact ⟨rfl, b1⟩
  · obtain ⟨t1, t2, t3⟩ := sum_t hpb
    obtain ⟨p1, p2⟩ := partsB_of hpb
    have HS := Lib.hid (show sumK ps + sumD ps = sumOf (sizeK 1) ps + sumOf (sizeK 3) ps by rw [t1, t3, sizeK_keep p1, sizeK_drop p1])
    obtain ⟨s1, s2⟩ := sizeK_bd (kind := 1) p1 p2
    obtain ⟨s3, s4⟩ := sizeK_bd (kind := 3) p1 p2
    clear t1 t2 t3
    go_enter Tryz.func107, Tryz.ntmps107
    go_wp2_with fail
    refine (implParts_any A c ps _ hr hl hls).mono ?_
    rintro e w1 ⟨rfl, b1⟩
    go_wp2_with fail
    refine (implSizeOf_any 1 A c ps _ (hr.past b1) p2 p1).mono ?_
    rintro e w2 ⟨rfl, b2⟩
    have d2 := b1.trans (b2.mono b1.size)
    go_wp2_with fail
    refine (implSizeOf_any 3 A c ps _ (hr.past d2) p2 p1).mono ?_
    rintro e w3 ⟨rfl, b3⟩
    have d3 := d2.trans (b3.mono d2.size)
    generalize sumOf (sizeK 1) ps = q1 at *
    generalize sumOf (sizeK 3) ps = q3 at *
    go_wp2
    go_ret
    rw [HS.out]
    exact ⟨rfl, d3⟩

set_option maxHeartbeats 800000 in
theorem implOpTo_any (A : Option Addr) (c : Nat) (ps : List Pt) (w : World) (hr : PRow w w.heap.size A ps) (hl : ps.length ≤ 4294967296) (hls : ∀ p ∈ ps, p.signs.length ≤ 4294967296) :
    Calls Tryz.prog 89 #[.slice A ps.length c] w (Nums1 (sumK ps + sumP ps) w) := by
  cases hpb : partsB ps
  · have HS := Lib.hid (sum_f hpb)
    go_enter Tryz.func89, Tryz.ntmps89
    go_wp2_with fail
    refine (implParts_any A c ps _ hr hl hls).mono ?_
    rintro e w1 ⟨rfl, b1⟩
    go_wp2
    go_ret
    rw [HS.out.1, HS.out.2.1]
    exact ⟨rfl, b1⟩
  · obtain ⟨t1, t2, t3⟩ := sum_t hpb
    obtain ⟨p1, p2⟩ := partsB_of hpb
    have HS := Lib.hid (show sumK ps + sumP ps = sumOf (sizeK 1) ps + sumOf (sizeK 2) ps by rw [t1, t2, sizeK_keep p1, sizeK_put p1])
    obtain ⟨s1, s2⟩ := sizeK_bd (kind := 1) p1 p2
    obtain ⟨s3, s4⟩ := sizeK_bd (kind := 2) p1 p2
    clear t1 t2 t3
    go_enter Tryz.func89, Tryz.ntmps89
    go_wp2_with fail
    refine (implParts_any A c ps _ hr hl hls).mono ?_
    rintro e w1 ⟨rfl, b1⟩
    go_wp2_with fail
    refine (implSizeOf_any 1 A c ps _ (hr.past b1) p2 p1).mono ?_
    rintro e w2 ⟨rfl, b2⟩
    have d2 := b1.trans (b2.mono b1.size)
    go_wp2_with fail
    refine (implSizeOf_any 2 A c ps _ (hr.past d2) p2 p1).mono ?_
    rintro e w3 ⟨rfl, b3⟩
    have d3 := d2.trans (b3.mono d2.size)
    generalize sumOf (sizeK 1) ps = q1 at *
    generalize sumOf (sizeK 2) ps = q3 at *
    go_wp2
    go_ret
    rw [HS.out]
    exact ⟨rfl, d3⟩

set_option maxHeartbeats 1600000 in
theorem implOpOk_any (A : Option Addr) (c : Nat) (ps : List Pt) (w : World) (hr : PRow w w.heap.size A ps) (hl : ps.length ≤ 4294967296) (hls : ∀ p ∈ ps, p.signs.length ≤ 4294967296) :
    Calls Tryz.prog 100 #[.slice A ps.length c] w (Tells (okOp ps) w) := by
  cases hpb : partsB ps
  · have HS := Lib.hid (show okOp ps = false by unfold okOp; rw [hpb]; rfl)
    go_enter Tryz.func100, Tryz.ntmps100
    go_wp2_with fail
    refine (implParts_any A c ps _ hr hl hls).mono ?_
    rintro e w1 ⟨rfl, b1⟩
    go_wp2
    go_ret
    exact ⟨ret_bool (by rw [HS.out]), b1⟩
  · by_cases hf : sumK ps + sumD ps ≤ 200
    · by_cases ht : sumK ps + sumP ps ≤ 200
      all_goals
        have HS := Lib.hid (show okOp ps = decide (sumK ps + sumP ps ≤ 200) by unfold okOp; rw [hpb, decide_eq_true hf]; rfl)
        go_enter Tryz.func100, Tryz.ntmps100
        go_wp2_with fail
        refine (implParts_any A c ps _ hr hl hls).mono ?_
        rintro e w1 ⟨rfl, b1⟩
        go_wp2_with fail
        refine (implOpFrom_any A c ps _ (hr.past b1) hl hls).mono ?_
        rintro e w2 ⟨rfl, b2⟩
        have d2 := b1.trans (b2.mono b1.size)
        go_wp2_with fail
        refine (implOpTo_any A c ps _ (hr.past d2) hl hls).mono ?_
        rintro e w3 ⟨rfl, b3⟩
        go_wp2
        go_ret
        refine ⟨ret_bool ?_, d2.trans (b3.mono d2.size)⟩
        rw [HS.out]
        first | done | (rw [decide_eq_true ht]) | (rw [decide_eq_false ht])
    · have HS := Lib.hid (show okOp ps = false by unfold okOp; rw [hpb, decide_eq_false hf]; rfl)
      go_enter Tryz.func100, Tryz.ntmps100
      go_wp2_with fail
      refine (implParts_any A c ps _ hr hl hls).mono ?_
      rintro e w1 ⟨rfl, b1⟩
      go_wp2_with fail
      refine (implOpFrom_any A c ps _ (hr.past b1) hl hls).mono ?_
      rintro e w2 ⟨rfl, b2⟩
      go_wp2
      go_ret
      exact ⟨ret_bool (by rw [HS.out]), b1.trans (b2.mono b1.size)⟩

theorem okOp_parts {ps : List Pt} (h : okOp ps = true) : partsB ps = true := by
  unfold okOp at h
  cases hp : partsB ps
  · rw [hp] at h; simp at h
  · rfl

end Go.Proofs.YtgfbcpcfdlnbhabGreat.low


/-
  Contracts of impl.partSame, of the library's slices.EqualFunc at parts with impl.partSame, and of impl.OpSame.
-/
namespace Go.Proofs.YtgfbcpcfdlnbhabGreat.low
open Go.RowKit
set_option linter.unusedVariables false

set_option maxHeartbeats 800000 in
theorem implPartSame_any (p q : Pt) (A A' : Option Addr) (c c' : Nat) (w : World) (hp : Row (Value.int .i64) w w.heap.size A p.signs) (hq : Row (Value.int .i64) w w.heap.size A' q.signs) (h1 : p.signs.length ≤ 4294967296) (h2 : q.signs.length ≤ 4294967296) :
    Calls Tryz.prog 113 #[.agg #[.int .i64 p.kind, .int .i64 p.n, .slice A p.signs.length c], .agg #[.int .i64 q.kind, .int .i64 q.n, .slice A' q.signs.length c']] w (Tells (samePt p q) w) := by
  obtain ⟨k, n, zs⟩ := p
  obtain ⟨k', n', zs'⟩ := q
  have hbb : ∀ o o' : Obj, Below w.heap.size w ((w.alloc o).alloc o') := fun o o' => ((Below.refl _ _).alloc (Nat.le_refl _) _).alloc (by simp) _
  by_cases hk : k = k'
  · by_cases hn : n = n'
    · have HS := Lib.hid (show samePt ⟨k, n, zs⟩ ⟨k', n', zs'⟩ = sameB zs zs' by unfold samePt; simp [hk, hn])
      have hk1 : (k == k') = true := by simp [hk]
      have hn1 : (n == n') = true := by simp [hn]
      clear hk hn
      go_enter Tryz.func113, Tryz.ntmps113
      go_wp2_with fail
      refine (implSignsSame_any A A' c c' zs zs' _ ((hp.past_alloc _).past_alloc _) ((hq.past_alloc _).past_alloc _) h1 h2).mono ?_
      intro e w1 hsay
      obtain ⟨rfl, b1⟩ := says_tells hsay
      go_wp2
      go_ret
      refine ⟨ret_bool (by rw [HS.out]), (hbb _ _).trans (b1.mono (by simp; omega))⟩
    · have HS := Lib.hid (show samePt ⟨k, n, zs⟩ ⟨k', n', zs'⟩ = false by unfold samePt; simp [hn])
      have hk1 : (k == k') = true := by simp [hk]
      have hn1 : (n == n') = false := by simp [hn]
      clear hk hn
      go_enter Tryz.func113, Tryz.ntmps113
      go_wp2
      go_ret
      exact ⟨ret_bool (by rw [HS.out]), hbb _ _⟩
  · have HS := Lib.hid (show samePt ⟨k, n, zs⟩ ⟨k', n', zs'⟩ = false by unfold samePt; simp [hk])
    have hk1 : (k == k') = false := by simp [hk]
    clear hk
    go_enter Tryz.func113, Tryz.ntmps113
    go_wp2
    go_ret
    exact ⟨ret_bool (by rw [HS.out]), hbb _ _⟩

set_option maxRecDepth 100000 in
set_option maxHeartbeats 1600000 in
theorem equalFunc_any (A B : Option Addr) (c d : Nat) (ps qs : List Pt) (w : World) (hx : PRow w w.heap.size A ps) (hy : PRow w w.heap.size B qs)
    (hl : ps.length ≤ 4294967296) (hl2 : qs.length ≤ 4294967296) (hs : ∀ p ∈ ps, p.signs.length ≤ 4294967296) (hs2 : ∀ p ∈ qs, p.signs.length ≤ 4294967296) :
    Calls Tryz.prog 112 #[.slice A ps.length c, .slice B qs.length d, .func (.func 113) #[] #[]] w (Tells (samePs ps qs) w) := by
  by_cases hlen : ps.length = qs.length
  · have HL := Lib.hid hlen
    have hb : ((ps.length : Int) != (qs.length : Int)) = false := by simp [hlen]
    clear hlen
    go_enter Tryz.func112, Tryz.ntmps112
    go_wp2
    go_loopw [17] (fun i wr => ∃ k : Nat, k ≤ ps.length ∧ i = .int .i64 k ∧ samePs (ps.take k) (qs.take k) = true ∧ Below w.heap.size w wr) (fun i _ => ps.length - (intOf i).toNat)
    case atStart => exact ⟨0, Nat.zero_le _, rfl, rfl, Below.refl _ _⟩
    case round =>
      obtain ⟨k, hk, rfl, ht, hbel⟩ := hrel
      have HT := Lib.hid ht
      clear ht
      by_cases hlt : k < ps.length
      · have hlt2 : k < qs.length := by have := HL.out; omega
        obtain ⟨b1, o1, p, rfl, hb1, hp, hc1⟩ := hx.at_ hlt
        obtain ⟨b2, o2, q, rfl, hb2, hq, hc2⟩ := hy.at_ (k := k) hlt2
        obtain ⟨x0, x1, A1, e1, x2, r1⟩ := hc1.keep (w' := wr) hb1 (fun _ hq => hbel.cell hq)
        have hsp := hs p (List.mem_of_getElem? hp)
        have hsq := hs2 q (List.mem_of_getElem? hq)
        have HP := Lib.hid hp
        have HQ := Lib.hid hq
        clear hp hq hc1
        have bW := alloc_below wr (.cells #[.int .i64 p.kind, .int .i64 p.n, .slice A1 p.signs.length e1] 88)
        have dW := hbel.trans (bW.mono hbel.size)
        obtain ⟨y0, y1, A2, e2, y2, r2⟩ := hc2.keep (w' := wr.alloc (.cells #[.int .i64 p.kind, .int .i64 p.n, .slice A1 p.signs.length e1] 88)) hb2 (fun _ hq => dW.cell hq)
        have dV := dW.trans ((alloc_below (wr.alloc (.cells #[.int .i64 p.kind, .int .i64 p.n, .slice A1 p.signs.length e1] 88)) (.cells #[.int .i64 q.kind, .int .i64 q.n, .slice A2 q.signs.length e2] 88)).mono dW.size)
        have R1 := Lib.hid (Row.past_alloc ((r1.more hbel.size).past bW) (.cells #[.int .i64 q.kind, .int .i64 q.n, .slice A2 q.signs.length e2] 88))
        have R2 := Lib.hid (Row.past_alloc (r2.more dW.size) (.cells #[.int .i64 q.kind, .int .i64 q.n, .slice A2 q.signs.length e2] 88))
        clear hc2 r1 r2
        cases hsame : samePt p q
        · go_wp2_with fail
          refine (implPartSame_any p q A1 A2 e1 e2 _ R1.out R2.out hsp hsq).mono ?_
          rintro e w2 ⟨rfl, b2⟩
          go_wp2
          go_ret
          exact ⟨ret_bool (by rw [samePs_at ps qs k p q HP.out HQ.out hsame]), dV.trans (b2.mono dV.size)⟩
        · go_wp2_with fail
          refine (implPartSame_any p q A1 A2 e1 e2 _ R1.out R2.out hsp hsq).mono ?_
          rintro e w2 ⟨rfl, b2⟩
          go_wp2
          go_roundw
          case rel => exact ⟨k + 1, by omega, by go_num, samePs_snoc ps qs k p q HP.out HQ.out hsame HT.out, dV.trans (b2.mono dV.size)⟩
          case measure => simp [intOf]; omega
      · have H := Lib.hid (show samePs ps qs = true by have := HT.out; rwa [List.take_of_length_le (by omega), List.take_of_length_le (by have := HL.out; omega)] at this)
        go_wp2
        go_ret
        exact ⟨ret_bool (by rw [H.out]), hbel⟩
  · have hb : ((ps.length : Int) != (qs.length : Int)) = true := by simp; omega
    have H := Lib.hid (show samePs ps qs = false by cases h : samePs ps qs; rfl; exact absurd (samePs_len ps qs h) hlen)
    clear hlen
    go_enter Tryz.func112, Tryz.ntmps112
    go_wp2
    go_ret
    exact ⟨ret_bool (by rw [H.out]), Below.refl _ _⟩

set_option maxHeartbeats 400000 in
theorem implOpSame_any (A B : Option Addr) (c d : Nat) (ps qs : List Pt) (w : World) (hx : PRow w w.heap.size A ps) (hy : PRow w w.heap.size B qs)
    (hl : ps.length ≤ 4294967296) (hl2 : qs.length ≤ 4294967296) (hs : ∀ p ∈ ps, p.signs.length ≤ 4294967296) (hs2 : ∀ p ∈ qs, p.signs.length ≤ 4294967296) :
    Calls Tryz.prog 101 #[.slice A ps.length c, .slice B qs.length d] w (Tells (samePs ps qs) w) := by
  go_enter Tryz.func101, Tryz.ntmps101
  go_wp2_with fail
  refine (equalFunc_any A B c d ps qs _ hx hy hl hl2 hs hs2).mono ?_
  rintro e w1 ⟨rfl, b1⟩
  go_wp2
  go_ret
  exact ⟨rfl, b1⟩
end Go.Proofs.YtgfbcpcfdlnbhabGreat.low


/-
  Contracts of the program's add, of impl.OpNorm, impl.IsNorm and impl.Keeping.
-/
namespace Go.Proofs.YtgfbcpcfdlnbhabGreat.low
open Go.RowKit
set_option linter.unusedVariables false

theorem sameB_comm (a b : List Int) : sameB a b = sameB b a := by
  by_cases h : a = b
  · subst h; rfl
  · have h' : ¬ b = a := fun e => h e.symm
    unfold sameB
    simp [h, h']
theorem samePt_comm (p q : Pt) : samePt p q = samePt q p := by
  unfold samePt
  rw [sameB_comm p.signs q.signs, Bool.beq_comm (a := p.kind), Bool.beq_comm (a := p.n)]
theorem samePs_comm : ∀ ps qs : List Pt, samePs ps qs = samePs qs ps
  | [], [] => rfl
  | [], _ :: _ => rfl
  | _ :: _, [] => rfl
  | p :: ps, q :: qs => by
    show (samePt p q && samePs ps qs) = (samePt q p && samePs qs ps)
    rw [samePt_comm p q, samePs_comm ps qs]

set_option maxHeartbeats 1600000 in
theorem implAdd_any (lo g : Nat) (qs : List Pt) (put : List Int) (d : Int) (p : Pt) (A : Option Addr) (c : Nat) (w : World) (hb : BAt lo g 128 w qs put d) (hr : Row (Value.int .i64) w w.heap.size A p.signs) (hok : okPt p = true)
    (hl : qs.length ≤ 4294967296) (hp : put.length ≤ 4294967296) (h0 : 0 ≤ d) (h1 : d ≤ 4611686018427387904)
    (hq : ∀ p ∈ qs ++ putL put ++ dropL d, 0 ≤ p.n ∧ p.n ≤ 4611686018427387904) (hql : (qs ++ putL put ++ dropL d).length ≤ 4294967298) :
    Calls Tryz.prog 114 #[.pointer (some ⟨g, 0, none⟩), .agg #[.int .i64 p.kind, .int .i64 p.n, .slice A p.signs.length c]] w (Built lo g 128 w (stepN (qs, put, d) p).1 (stepN (qs, put, d) p).2.1 (stepN (qs, put, d) p).2.2) := by
  have hlo : lo ≤ w.heap.size := by obtain ⟨v, u, us, hx, _⟩ := hb; exact Nat.le_trans hx.low (Nat.le_of_lt hx.lt)
  have hk := of_okPt hok
  clear hok
  obtain ⟨pk, pn, pz⟩ := p
  simp only at hk hr ⊢
  have hat := hb.past (alloc_below w (.cells #[.int .i64 pk, .int .i64 pn, .slice A pz.length c] 88))
  have bel : Below lo w (w.alloc (.cells #[.int .i64 pk, .int .i64 pn, .slice A pz.length c] 88)) := (alloc_below w _).mono hlo
  rcases (show pk = 1 ∨ pk = 2 ∨ pk = 3 by omega) with rfl | rfl | rfl
  · have hn1 : 0 ≤ pn := by omega
    have hn2 : pn ≤ 200 := by omega
    clear hk
    by_cases hz : pn = 0
    · subst hz
      go_enter Tryz.func114, Tryz.ntmps114
      go_wp2_with fail
      refine (implKeep_zero g _).mono ?_
      rintro e w' ⟨rfl, rfl⟩
      go_wp2
      go_end0
      exact ⟨rfl, hat, bel⟩
    · go_enter Tryz.func114, Tryz.ntmps114
      go_wp2_with fail
      refine (implKeep_any lo g qs put d pn _ hat hl hp hz hn1 (by omega) hq hql).mono ?_
      rintro e w3 ⟨rfl, hn3, b3⟩
      go_wp2
      go_end0
      refine ⟨rfl, ?_, bel.trans b3⟩
      simp only [stepN, if_neg hz]
      exact hn3.at_
  · have hl2 : pz.length ≤ 200 := by omega
    clear hk
    go_enter Tryz.func114, Tryz.ntmps114
    go_wp2_with fail
    refine (implPut_any lo g qs put d A c pz _ hat (hr.past_alloc _) hp (by omega)).mono ?_
    rintro e w3 ⟨rfl, hn3, b3⟩
    go_wp2
    go_end0
    exact ⟨rfl, hn3, bel.trans b3⟩
  · have hn1 : 0 ≤ pn := by omega
    have hn2 : pn ≤ 200 := by omega
    clear hk
    go_enter Tryz.func114, Tryz.ntmps114
    go_wp2_with fail
    refine (implDrop_any lo g qs put d pn _ hat h0 h1 hn1 (by omega)).mono ?_
    rintro e w3 ⟨rfl, hn3, b3⟩
    go_wp2
    go_end0
    exact ⟨rfl, hn3, bel.trans b3⟩

set_option maxRecDepth 100000 in
set_option maxHeartbeats 3200000 in
theorem implOpNorm_any (A : Option Addr) (c : Nat) (ps : List Pt) (w : World) (hr : PRow w w.heap.size A ps) (hl : ps.length ≤ 4294967296) (hls : ∀ p ∈ ps, p.signs.length ≤ 4294967296) (hss : signsIn ps ≤ 1048576) :
    Calls Tryz.prog 102 #[.slice A ps.length c] w (PsPost (normL ps) w) := by
  cases hok : okOp ps
  · have e1 : normL ps = [] := by simp [normL, hok]
    rw [e1]
    go_enter Tryz.func102, Tryz.ntmps102
    go_wp2_with fail
    refine (implOpOk_any A c ps _ hr hl hls).mono ?_
    rintro e w1 ⟨rfl, b1⟩
    rw [hok] at *
    go_wp2
    go_ret
    refine ⟨_, rfl, ⟨[], World.ownsRow_nil _ _ _ _, ⟨rfl, fun i p u hp _ => by simp at hp, fun i j k u v hu _ _ _ => by simp at hu⟩, fun k hk => by simp [Value.ownBlock] at hk, Nat.le_refl _, b1.size⟩, b1⟩
  · have e1 : normL ps = doneN (foldN ps) := by simp [normL, hok]
    rw [e1]
    have HPB := Lib.hid (partsB_of (okOp_parts hok))
    go_enter Tryz.func102, Tryz.ntmps102
    go_wp2_with fail
    refine (implOpOk_any A c ps _ hr hl hls).mono ?_
    rintro e w1 ⟨rfl, b1⟩
    rw [hok] at *
    clear hok
    go_wp2
    have hnew := BAt.new w.heap.size 128 w1 b1.size
    have hbn := b1.trans ((alloc_below w1 (.cells #[.slice none 0 0, .slice none 0 0, .int .i64 0] 128)).mono b1.size)
    have hgl : w.heap.size ≤ w1.heap.size := b1.size
    generalize w1.alloc (.cells #[.slice none 0 0, .slice none 0 0, .int .i64 0] 128) = w2 at *
    generalize w1.heap.size = g at *
    clear b1
    go_loopw [13] (fun i wr => ∃ k : Nat, k ≤ ps.length ∧ i = .int .i64 k ∧ BAt w.heap.size g 128 wr (foldN (ps.take k)).1 (foldN (ps.take k)).2.1 (foldN (ps.take k)).2.2 ∧ Below w.heap.size w wr) (fun i _ => ps.length - (intOf i).toNat)
    case atStart => exact ⟨0, Nat.zero_le _, rfl, hnew, hbn⟩
    case round =>
      obtain ⟨k, hk, rfl, hat, hbel⟩ := hrel
      clear hnew hbn
      have hfit := foldN_fit HPB.out.1 k hk
      have hpl := HPB.out.2
      by_cases hlt : k < ps.length
      · obtain ⟨b, off, p, rfl, hb, hp, hc⟩ := hr.at_ hlt
        obtain ⟨x0, x1, A1, e1, x2, r1⟩ := hc.keep (w' := wr) hb (fun _ hq => hbel.cell hq)
        have hokp := okPs_at hp HPB.out.1
        have K1 := Lib.hid (foldN_snoc hp)
        have hsg : signsIn (ps.take k) ≤ signsIn ps := signsIn_take ps k
        clear hp hc
        generalize foldN (ps.take k) = st at *
        obtain ⟨qs, put, d⟩ := st
        have hf1 := hfit.len
        have hf2 := hfit.signs
        have hf3 := hfit.d0
        have hf4 := hfit.d1
        have hdn := Lib.hid hfit.done
        simp only at hf1 hf2 hf3 hf4 hat
        go_wp2_with fail
        refine (implAdd_any w.heap.size g qs put d p A1 e1 _ (hat.past (alloc_below wr _)) (Row.past_alloc (r1.more hbel.size) _) hokp (by omega) (by omega) hf3 (by omega) (fun p hp => by have := hdn.out.2.2 p hp; omega) (by have := hdn.out.1; exact Nat.le_trans this (by omega))).mono ?_
        rintro e w3 ⟨rfl, hn3, b3⟩
        go_wp2
        go_roundw
        case rel => exact ⟨k + 1, by omega, by go_num, by rw [K1.out]; exact hn3, hbel.trans (((alloc_below wr _).mono hbel.size).trans b3)⟩
        case measure => simp [intOf]; omega
      · have hke : ps.take k = ps := List.take_of_length_le (by omega)
        rw [hke] at hat hfit
        have hf1 := hfit.len
        have hf2 := hfit.signs
        go_wp2_with fail
        refine (implDone_any w.heap.size g _ _ _ _ hat (by omega) (by omega)).mono ?_
        rintro e w3 ⟨v, rfl, p3, b3⟩
        change PBuf _ _ _ _ (doneN (foldN ps)) at p3
        generalize doneN (foldN ps) = L at *
        obtain ⟨B3, d3, rfl, q3⟩ := p3.slice
        have HP3 := Lib.hid p3
        clear p3
        go_wp2
        go_ret
        exact ⟨_, rfl, HP3.out, hbel.trans b3⟩

set_option maxHeartbeats 1600000 in
theorem implIsNorm_any (A : Option Addr) (c : Nat) (ps : List Pt) (w : World) (hr : PRow w w.heap.size A ps) (hl : ps.length ≤ 4294967296) (hls : ∀ p ∈ ps, p.signs.length ≤ 4294967296) (hss : signsIn ps ≤ 1048576) :
    Calls Tryz.prog 83 #[.slice A ps.length c] w (Tells (isNormL ps) w) := by
  obtain ⟨n1, n2⟩ := normL_fit hss
  have hls' : ∀ p ∈ normL ps, p.signs.length ≤ 4294967296 := fun p hp => by
    obtain ⟨i, hi⟩ := List.getElem?_of_mem hp
    have := signsIn_at hi
    omega
  cases hok : okOp ps
  · have HS := Lib.hid (show isNormL ps = false by unfold isNormL; rw [hok]; rfl)
    go_enter Tryz.func83, Tryz.ntmps83
    go_wp2_with fail
    refine (implOpOk_any A c ps _ hr hl hls).mono ?_
    rintro e w1 ⟨rfl, b1⟩
    rw [hok] at *
    go_wp2
    go_ret
    exact ⟨ret_bool (by rw [HS.out]), b1⟩
  · have HS := Lib.hid (show isNormL ps = samePs ps (normL ps) by unfold isNormL; rw [hok, samePs_comm]; rfl)
    go_enter Tryz.func83, Tryz.ntmps83
    go_wp2_with fail
    refine (implOpOk_any A c ps _ hr hl hls).mono ?_
    rintro e w1 ⟨rfl, b1⟩
    rw [hok] at *
    clear hok
    go_wp2_with fail
    refine (implOpNorm_any A c ps _ (hr.past b1) hl hls hss).mono ?_
    rintro e w2 ⟨v2, rfl, p2, b2⟩
    obtain ⟨B2, d2, rfl, q2⟩ := p2.slice
    have d2' := b1.trans (b2.mono b1.size)
    generalize normL ps = L at *
    go_wp2_with fail
    refine (implOpSame_any A B2 c d2 ps L _ (hr.past d2') q2 hl (by omega) hls hls').mono ?_
    rintro e w3 ⟨rfl, b3⟩
    go_wp2
    go_ret
    exact ⟨ret_bool (by rw [HS.out]), d2'.trans (b3.mono d2'.size)⟩

end Go.Proofs.YtgfbcpcfdlnbhabGreat.low


/-
  Contracts of impl.NameOk, EntryOk, EntrySame, HeadRev, entriesOk.
-/
namespace Go.Proofs.YtgfbcpcfdlnbhabGreat.low
open Go.RowKit
set_option linter.unusedVariables false

theorem clientOk_any (n : Int) (w : World) : Calls Tryz.prog 66 #[.int .i64 n] w fun e w' => e = .returned (.bool (inB n 1 8)) ∧ w = w' := by
  by_cases h1 : 1 ≤ n
  · by_cases h2 : n ≤ 8
    · have HE := Lib.hid (show inB n 1 8 = true from inB_t ⟨h1, h2⟩)
      go_enter Tryz.func66, Tryz.ntmps66
      go_wp2
      go_ret
      exact ⟨ret_b HE.out.symm, rfl⟩
    · have HE := Lib.hid (show inB n 1 8 = false from inB_f (by omega))
      go_enter Tryz.func66, Tryz.ntmps66
      go_wp2
      go_ret
      exact ⟨ret_b HE.out.symm, rfl⟩
  · have HE := Lib.hid (show inB n 1 8 = false from inB_f (by omega))
    go_enter Tryz.func66, Tryz.ntmps66
    go_wp2
    go_ret
    exact ⟨ret_b HE.out.symm, rfl⟩
theorem seqOk_any (n : Int) (w : World) : Calls Tryz.prog 67 #[.int .i64 n] w fun e w' => e = .returned (.bool (inB n 1 1000000000)) ∧ w = w' := by
  by_cases h1 : 1 ≤ n
  · by_cases h2 : n ≤ 1000000000
    · have HE := Lib.hid (show inB n 1 1000000000 = true from inB_t ⟨h1, h2⟩)
      go_enter Tryz.func67, Tryz.ntmps67
      go_wp2
      go_ret
      exact ⟨ret_b HE.out.symm, rfl⟩
    · have HE := Lib.hid (show inB n 1 1000000000 = false from inB_f (by omega))
      go_enter Tryz.func67, Tryz.ntmps67
      go_wp2
      go_ret
      exact ⟨ret_b HE.out.symm, rfl⟩
  · have HE := Lib.hid (show inB n 1 1000000000 = false from inB_f (by omega))
    go_enter Tryz.func67, Tryz.ntmps67
    go_wp2
    go_ret
    exact ⟨ret_b HE.out.symm, rfl⟩
set_option maxRecDepth 100000 in
set_option maxHeartbeats 1600000 in
theorem implNameOk_d (s : ByteArray) (w : World) (hs : s.size ≤ 1048576) : Calls Tryz.prog 45 #[.string s] w (Tells (nameB s) w) := by
  by_cases h1 : s.size < 1
  · have HN := Lib.hid (show nameB s = false by unfold nameB; rw [inB_f (by omega), Bool.and_false])
    have g1 : decide ((s.size : Int) < 1) = true := decide_eq_true (by omega)
    go_enter Tryz.func45, Tryz.ntmps45
    go_wp2
    go_ret
    exact ⟨ret_b HN.out.symm, Below.refl _ _⟩
  by_cases h2 : 8 < s.size
  · have HN := Lib.hid (show nameB s = false by unfold nameB; rw [inB_f (by omega), Bool.and_false])
    have g1 : decide ((s.size : Int) < 1) = false := decide_eq_false (by omega)
    have g2 : decide (8 < (s.size : Int)) = true := decide_eq_true (by omega)
    go_enter Tryz.func45, Tryz.ntmps45
    go_wp2
    go_ret
    exact ⟨ret_b HN.out.symm, Below.refl _ _⟩
  have HN := Lib.hid (show nameB s = lowersTo s s.size by unfold nameB; rw [inB_t (by omega), Bool.and_true])
  have g1 : decide ((s.size : Int) < 1) = false := decide_eq_false (by omega)
  have g2 : decide (8 < (s.size : Int)) = false := decide_eq_false (by omega)
  go_enter Tryz.func45, Tryz.ntmps45
  go_wp2
  go_loopw [14] (fun i wr => ∃ j : Nat, j ≤ s.size ∧ i = .int .i64 (j : Int) ∧ lowersTo s j = true ∧ Below w.heap.size w wr) (fun i _ => s.size - (intOf i).toNat)
  case atStart => exact ⟨0, Nat.zero_le _, rfl, rfl, Below.refl _ _⟩
  case round =>
    obtain ⟨j, hj, rfl, hi, hbel⟩ := hrel
    have HI := Lib.hid hi
    clear hi
    by_cases hlt : j < s.size
    · obtain ⟨c, hc⟩ : ∃ c : Nat, c = (s[j]'hlt).toNat := ⟨_, rfl⟩
      have HLO := Lib.hid (show lowerAt s j = decide (97 ≤ c ∧ c ≤ 122) by unfold lowerAt; rw [dif_pos hlt, ← hc])
      by_cases h1 : c < 97
      · have HF := Lib.hid (lowersTo_f (s := s) (k := j) (by rw [HLO.out]; simp; omega) s.size hlt)
        go_wp2
        go_ret
        exact ⟨ret_b (by rw [HN.out, HF.out]), hbel⟩
      by_cases h2 : 122 < c
      · have HF := Lib.hid (lowersTo_f (s := s) (k := j) (by rw [HLO.out]; simp; omega) s.size hlt)
        go_wp2
        go_ret
        exact ⟨ret_b (by rw [HN.out, HF.out]), hbel⟩
      · have HT := Lib.hid (show lowersTo s (j + 1) = true by rw [lowersTo, HI.out, HLO.out]; simp; omega)
        go_wp2
        go_roundw
        case rel => exact ⟨j + 1, by omega, by go_num, HT.out, hbel⟩
        case measure => simp [intOf]; omega
    · obtain rfl : j = s.size := by omega
      go_wp2
      go_ret
      exact ⟨ret_b (by rw [HN.out, HI.out]), hbel⟩
set_option maxRecDepth 100000 in
set_option maxHeartbeats 1600000 in
theorem implEntryOk_d (v : Value) (x : En) (w : World) (h : RdC w w.heap.size (datEn x) v) (hs : SmEn x) : Calls Tryz.prog 65 #[v] w (Tells (entryB x) w) := by
  obtain ⟨A2, c2, rfl, r2⟩ := aggEn h
  have b0 := alloc_below w (.cells #[.int .i64 x.client, .int .i64 x.seq, .slice A2 x.o.length c2] 67)
  have HE := Lib.hid (show entryB x = (inB x.client 1 8 && inB x.seq 1 1000000000 && isNormL x.o) from rfl)
  cases h1 : inB x.client 1 8
  · go_enter Tryz.func65, Tryz.ntmps65
    go_wp2_with fail
    refine (clientOk_any _ _).mono ?_
    rintro e w1 ⟨rfl, rfl⟩
    rw [h1]
    go_wp2
    go_ret
    exact ⟨ret_b (by rw [HE.out, h1]; rfl), b0⟩
  cases h2 : inB x.seq 1 1000000000
  · go_enter Tryz.func65, Tryz.ntmps65
    go_wp2_with fail
    refine (clientOk_any _ _).mono ?_
    rintro e w1 ⟨rfl, rfl⟩
    rw [h1]
    go_wp2_with fail
    refine (seqOk_any _ _).mono ?_
    rintro e w1 ⟨rfl, rfl⟩
    rw [h2]
    go_wp2
    go_ret
    exact ⟨ret_b (by rw [HE.out, h1, h2]; rfl), b0⟩
  obtain ⟨A, c, e2, hr, _⟩ := parts_rd r2
  injection e2 with e2 _ e3
  subst e2 e3
  have hso := hs.o
  have hs1 := hso.1
  have hs2 := hso.2
  go_enter Tryz.func65, Tryz.ntmps65
  go_wp2_with fail
  refine (clientOk_any _ _).mono ?_
  rintro e w1 ⟨rfl, rfl⟩
  rw [h1]
  go_wp2_with fail
  refine (seqOk_any _ _).mono ?_
  rintro e w1 ⟨rfl, rfl⟩
  rw [h2]
  go_wp2_with fail
  refine (implIsNorm_any A2 c2 x.o _ (hr.past b0) (by omega) hso.all4 hs2).mono ?_
  rintro e w1 ⟨rfl, b1⟩
  go_wp2
  go_ret
  exact ⟨ret_b (by rw [HE.out, h1, h2]; rfl), b0.trans (b1.mono b0.size)⟩
set_option maxRecDepth 100000 in
set_option maxHeartbeats 1600000 in
theorem implHeadRev_w (v : Value) (x : Do) (w : World) (h : RdC w w.heap.size (datDo x) v) : Calls Tryz.prog 48 #[v] w (Nums1 (headRevT x) w) := by
  obtain ⟨A2, c2, A3, c3, A4, c4, rfl, _⟩ := aggDo h
  have b0 := alloc_below w (.cells #[.string x.name, .int .i64 x.from_, .slice A2 x.text.length c2, .slice A3 x.list.length c3, .slice A4 x.seen.length c4] 31)
  go_enter Tryz.func48, Tryz.ntmps48
  go_wp2
  go_ret
  exact ⟨rfl, b0⟩
end Go.Proofs.YtgfbcpcfdlnbhabGreat.low


/-
  Lists of rows of clients: the first row of each client, a row put in, rows in order.
-/
namespace Go.Proofs.YtgfbcpcfdlnbhabGreat.low
open Go.RowKit
set_option linter.unusedVariables false

def putSe : List Se → Se → List Se
  | [], s => [s]
  | t :: l, s => if t.client = s.client then s :: l else t :: putSe l s
def OneSe (l : List Se) : Prop := (l.map (·.client)).Nodup
theorem seenGo_none {k : Int} : ∀ {l : List Se}, seenGo k l = none ↔ ∀ s ∈ l, ¬ s.client = k
  | [] => by simp [seenGo]
  | t :: l => by
    unfold seenGo
    by_cases h : t.client = k
    · simp [h]
    · rw [if_neg h, seenGo_none (l := l)]
      simp [h]
theorem seenGo_at {k : Int} {s : Se} : ∀ {l : List Se} {j : Nat}, OneSe l → l[j]? = some s → s.client = k → seenGo k l = some s ∧ ∀ s', s'.client = k → putSe l s' = l.set j s'
  | [], j, _, h, _ => by simp at h
  | t :: l, 0, hn, h, e => by
    obtain rfl : t = s := by simpa using h
    refine ⟨by unfold seenGo; rw [if_pos e], fun s' h' => ?_⟩
    unfold putSe
    rw [if_pos (by rw [e, h'])]
    rfl
  | t :: l, j + 1, hn, h, e => by
    unfold OneSe at hn
    rw [List.map_cons, List.nodup_cons] at hn
    have h1 : l[j]? = some s := by simpa using h
    have hne : ¬ t.client = k := fun h2 => hn.1 (by rw [h2, ← e]; exact List.mem_map.2 ⟨s, List.mem_of_getElem? h1, rfl⟩)
    have ih := seenGo_at (l := l) hn.2 h1 e
    refine ⟨by unfold seenGo; rw [if_neg hne]; exact ih.1, fun s' h' => ?_⟩
    unfold putSe
    rw [if_neg (by rw [h']; exact hne), ih.2 s' h']
    rfl
theorem putSe_new {s : Se} : ∀ {l : List Se}, (∀ t ∈ l, ¬ t.client = s.client) → putSe l s = l ++ [s]
  | [], _ => rfl
  | t :: l, h => by
    unfold putSe
    rw [if_neg (h t (by simp)), putSe_new (fun u hu => h u (by simp [hu]))]
    rfl
theorem putSe_clients {s : Se} : ∀ {l : List Se}, (putSe l s).map (·.client) = if s.client ∈ l.map (·.client) then l.map (·.client) else l.map (·.client) ++ [s.client]
  | [] => by simp [putSe]
  | u :: l => by
    unfold putSe
    by_cases e : u.client = s.client
    · rw [if_pos e]
      simp [e]
    · rw [if_neg e, List.map_cons, putSe_clients (l := l), List.map_cons]
      have e' : ¬ s.client = u.client := fun h => e h.symm
      by_cases h : s.client ∈ l.map (·.client)
      · rw [if_pos h, if_pos (List.mem_cons_of_mem _ h)]
      · rw [if_neg h, if_neg (by simp only [List.mem_cons, not_or]; exact ⟨e', h⟩)]
        rfl
theorem OneSe.put {l : List Se} (h : OneSe l) (s : Se) : OneSe (putSe l s) := by
  unfold OneSe at *
  rw [putSe_clients]
  split
  · exact h
  · rename_i hn
    rw [List.nodup_append]
    refine ⟨h, by simp, fun a ha b hb e => ?_⟩
    obtain rfl : b = s.client := by simpa using hb
    exact hn (e ▸ ha)
theorem putSe_len {l : List Se} {s : Se} : (putSe l s).length ≤ l.length + 1 := by
  have h := congrArg List.length (putSe_clients (l := l) (s := s))
  rw [List.length_map] at h
  rw [h]
  split <;> simp
/-- the first row of each client -/
def firstSe (m : List Se) (s : Se) : List Se := if (seenGo s.client m).isSome then m else putSe m s
def dedSe (l : List Se) : List Se := l.foldl firstSe []
theorem OneSe.nil : OneSe [] := by simp [OneSe]
theorem OneSe.first {l : List Se} (h : OneSe l) (s : Se) : OneSe (firstSe l s) := by
  unfold firstSe
  split
  · exact h
  · exact h.put s
theorem ded_snoc {l : List Se} {j : Nat} {s : Se} (h : l[j]? = some s) : dedSe (l.take (j + 1)) = firstSe (dedSe (l.take j)) s := by
  obtain ⟨hlt, e⟩ := List.getElem?_eq_some_iff.1 h
  rw [List.take_succ_eq_append_getElem hlt, e, dedSe, List.foldl_append]
  rfl
theorem foldFirst_one : ∀ {l m : List Se}, OneSe m → OneSe (l.foldl firstSe m)
  | [], m, h => h
  | s :: l, m, h => foldFirst_one (l := l) (h.first s)
theorem one_ded (l : List Se) : OneSe (dedSe l) := foldFirst_one OneSe.nil
theorem ded_len : ∀ {l m : List Se}, (l.foldl firstSe m).length ≤ m.length + l.length
  | [], m => by simp
  | s :: l, m => by
    have := ded_len (l := l) (m := firstSe m s)
    have h2 : (firstSe m s).length ≤ m.length + 1 := by
      unfold firstSe
      split
      · omega
      · exact putSe_len
    rw [List.foldl_cons, List.length_cons]
    omega
/-- rows in the order of their clients -/
def AscSe (l : List Se) : Prop := l.Pairwise (fun a b => a.client < b.client)
def insSe (s : Se) : List Se → List Se
  | [] => [s]
  | t :: l => if s.client < t.client then s :: t :: l else t :: insSe s l
def ordSe : List Se → List Se
  | [] => []
  | s :: l => insSe s (ordSe l)
theorem insSe_perm {s : Se} : ∀ {l : List Se}, (insSe s l).Perm (s :: l)
  | [] => List.Perm.refl _
  | t :: l => by
    unfold insSe
    split
    · exact List.Perm.refl _
    · exact ((insSe_perm (l := l)).cons t).trans (List.Perm.swap s t l)
theorem ordSe_perm : ∀ {l : List Se}, (ordSe l).Perm l
  | [] => List.Perm.refl _
  | s :: l => insSe_perm.trans ((ordSe_perm (l := l)).cons s)
theorem insSe_asc {s : Se} : ∀ {l : List Se}, AscSe l → (∀ t ∈ l, ¬ t.client = s.client) → AscSe (insSe s l)
  | [], _, _ => by simp [insSe, AscSe]
  | t :: l, h, hn => by
    unfold insSe
    have ht := hn t (by simp)
    unfold AscSe at h
    rw [List.pairwise_cons] at h
    split
    · rename_i hlt
      refine List.pairwise_cons.2 ⟨fun u hu => ?_, List.pairwise_cons.2 h⟩
      rcases List.mem_cons.1 hu with rfl | hu
      · exact hlt
      · have := h.1 u hu; omega
    · rename_i hlt
      refine List.pairwise_cons.2 ⟨fun u hu => ?_, insSe_asc h.2 (fun u hu => hn u (by simp [hu]))⟩
      rcases List.mem_cons.1 (insSe_perm.mem_iff.1 hu) with rfl | hu
      · omega
      · exact h.1 u hu
theorem ordSe_asc : ∀ {l : List Se}, OneSe l → AscSe (ordSe l)
  | [], _ => List.Pairwise.nil
  | s :: l, h => by
    unfold OneSe at h
    rw [List.map_cons, List.nodup_cons] at h
    refine insSe_asc (ordSe_asc (l := l) h.2) (fun t ht e => h.1 ?_)
    rw [← e]
    exact List.mem_map.2 ⟨t, ordSe_perm.mem_iff.1 ht, rfl⟩
theorem asc_eq : ∀ {l m : List Se}, AscSe l → AscSe m → l.Perm m → l = m
  | [], m, _, _, h => (List.Perm.nil_eq h)
  | s :: l, m, h1, h2, h => by
    cases m with
    | nil => exact absurd h.symm.nil_eq (by simp)
    | cons t m =>
      have hs : s ∈ t :: m := h.mem_iff.1 (by simp)
      have ht : t ∈ s :: l := h.mem_iff.2 (by simp)
      unfold AscSe at h1 h2
      rw [List.pairwise_cons] at h1 h2
      obtain rfl : s = t := by
        rcases List.mem_cons.1 hs with e | hs
        · exact e
        · rcases List.mem_cons.1 ht with e | ht
          · exact e.symm
          · have := h1.1 t ht
            have := h2.1 s hs
            omega
      rw [asc_eq h1.2 h2.2 ((List.perm_cons s).1 h)]
theorem AscSe.one {l : List Se} (h : AscSe l) : OneSe l := by
  unfold OneSe List.Nodup
  rw [List.pairwise_map]
  exact List.Pairwise.imp (fun h => by omega) h
theorem one_ordered {l c : List Se} (h : OneSe l) (hp : c.Perm l) (ha : AscSe c) : c = ordSe l := asc_eq ha (ordSe_asc h) (hp.trans ordSe_perm.symm)
theorem foldFirst_new : ∀ {l m : List Se}, OneSe (m ++ l) → l.foldl firstSe m = m ++ l
  | [], m, _ => by simp
  | s :: l, m, h => by
    have h1 : firstSe m s = m ++ [s] := by
      have hn : ∀ t ∈ m, ¬ t.client = s.client := fun t ht e => by
        unfold OneSe at h
        rw [List.map_append, List.nodup_append] at h
        exact h.2.2 t.client (List.mem_map.2 ⟨t, ht, rfl⟩) s.client (by simp) e
      unfold firstSe
      rw [seenGo_none.2 hn, if_neg (by simp), putSe_new hn]
    rw [List.foldl_cons, h1, foldFirst_new (l := l) (m := m ++ [s]) (by rw [List.append_assoc]; exact h), List.append_assoc]
    rfl
theorem ded_one {l : List Se} (h : OneSe l) : dedSe l = l := foldFirst_new (m := []) h
/-- a list is what its rows in order are just when it ascends -/
theorem ord_ded {l : List Se} : l = ordSe (dedSe l) ↔ AscSe l :=
  ⟨fun h => by rw [h]; exact ordSe_asc (one_ded l), fun h => by rw [ded_one h.one]; exact one_ordered h.one (List.Perm.refl _) h⟩
end Go.Proofs.YtgfbcpcfdlnbhabGreat.low


/-
  Maps from a client to its row: the map's block as a list in the order of its entries, and its operations.
-/
namespace Go.Proofs.YtgfbcpcfdlnbhabGreat.low
open Go.RowKit
open Go.ChangeMaps (setBlock)
set_option linter.unusedVariables false

def valSe (s : Se) : Value := .agg #[.int .i64 s.client, .int .i64 s.seq, .int .i64 s.rev]
def entSe (s : Se) : Value × Value := (.int .i64 s.client, valSe s)
def decSe : Value × Value → Se
  | (_, .agg ⟨[.int _ a, .int _ b, .int _ c]⟩) => ⟨a, b, c⟩
  | _ => ⟨0, 0, 0⟩
theorem dec_ent (s : Se) : decSe (entSe s) = s := rfl
structure MapO (l : List Se) (es : Array MapEntry) (clock : Nat) : Prop where
  ents : es.toList.map (fun e => (e.key, e.val)) = l.map entSe
  old : ∀ x ∈ es.toList, x.born < clock
  nd : (es.toList.map (·.born)).Nodup
  one : OneSe l
theorem MapO.new : MapO [] #[] 0 := ⟨rfl, by simp, by simp, OneSe.nil⟩
section
variable {P : Program} {T K E : TypeId} {w : World} {b c0 : Nat} {es : Array MapEntry} {l : List Se}
theorem MapO.at_ (h : MapO l es c0) {j : Nat} {e : MapEntry} (he : es.toList[j]? = some e) : ∃ s, l[j]? = some s ∧ e.key = .int .i64 s.client ∧ e.val = valSe s := by
  have h1 := congrArg (fun x => x[j]?) h.ents
  simp only [List.getElem?_map, he, Option.map_some] at h1
  cases hl : l[j]? with
  | none => rw [hl] at h1; cases h1
  | some s =>
    rw [hl] at h1
    simp only [Option.map_some, Option.some.injEq, entSe, Prod.mk.injEq] at h1
    exact ⟨s, rfl, h1.1, h1.2⟩
theorem MapO.find (h : MapO l es c0) (hk : P.underlying K = some (.int .i64)) (k : Int) :
    ((Instr.findKey K (.int .i64 k) es.toList).run P w = .ok none w ∧ seenGo k l = none ∧ ∀ s', s'.client = k → putSe l s' = l ++ [s']) ∨
    ∃ j s, (Instr.findKey K (.int .i64 k) es.toList).run P w = .ok (some (j, valSe s)) w ∧ l[j]? = some s ∧ s.client = k ∧ seenGo k l = some s ∧ ∀ s', s'.client = k → putSe l s' = l.set j s' := by
  have hkeys : ∀ x ∈ es.toList, MapKept.IsKey (.int .i64) x.key := fun x hx => by
    obtain ⟨j, hj⟩ := List.getElem?_of_mem hx
    obtain ⟨s, _, e, _⟩ := h.at_ hj
    rw [e]
    rfl
  rcases MapKept.findNow_spec (d := .int .i64) (k := .int .i64 k) rfl es.toList 0 hkeys with ⟨h1, h2⟩ | ⟨j, e, h1, h2, h3⟩
  · have hn : ∀ s ∈ l, ¬ s.client = k := fun s hs e => by
      obtain ⟨j, hj⟩ := List.getElem?_of_mem hs
      have h4 := congrArg (fun x => x[j]?) h.ents
      simp only [List.getElem?_map, hj, Option.map_some] at h4
      cases he : es.toList[j]? with
      | none => rw [he] at h4; cases h4
      | some x =>
        rw [he] at h4
        simp only [Option.map_some, Option.some.injEq, entSe, Prod.mk.injEq] at h4
        exact h2 x (List.mem_of_getElem? he) (by rw [h4.1, e])
    refine .inl ⟨by simp [Instr.findKey, run_underlying hk, h1], seenGo_none.2 hn, fun s' h' => putSe_new (fun t ht e => hn t ht (by rw [e, h']))⟩
  · obtain ⟨s, hs, e1, e2⟩ := h.at_ h2
    have hc : s.client = k := by
      rw [e1] at h3
      injection h3
    obtain ⟨h5, h6⟩ := seenGo_at h.one hs hc
    refine .inr ⟨j, s, ?_, hs, hc, h5, h6⟩
    rw [Nat.zero_add] at h1
    simp [Instr.findKey, run_underlying hk, h1, e2]
theorem run_lookup_se (hT : P.underlying T = some (.map K E)) (hk : P.underlying K = some (.int .i64)) (hz : ∀ w, (zeroValue E).run P w = .ok (valSe ⟨0, 0, 0⟩) w) (hb : w.heap[b]? = some (.map es c0)) (h : MapO l es c0) (k : Int) :
    (Instr.lookup T (.map (some b)) (.int .i64 k) true).run P w = .ok (.tuple #[valSe ((seenGo k l).getD ⟨0, 0, 0⟩), .bool (seenGo k l).isSome]) w := by
  have hck := MapKept.run_checkKey (w := w) hk (k := .int .i64 k) rfl es.isEmpty 9999
  rcases h.find (w := w) hk k with ⟨h1, h2, _⟩ | ⟨j, s, h1, _, _, h2, _⟩
  · simp [Instr.lookup, run_underlying hT, MapKept.run_getObj_map hb, hck, h1, h2, hz, Result.andThen]
  · simp [Instr.lookup, run_underlying hT, MapKept.run_getObj_map hb, hck, h1, h2, Result.andThen]
theorem map_modify (f : MapEntry → MapEntry) {j : Nat} {e' : Value × Value} (hf : ∀ e : MapEntry, ((f e).key, (f e).val) = e') (l : List MapEntry) : (l.modify j f).map (fun e => (e.key, e.val)) = (l.map (fun e => (e.key, e.val))).set j e' := by
  induction l generalizing j with
  | nil => simp
  | cons a l ih =>
    cases j with
    | zero => simp [hf]
    | succ j => simp [ih]
theorem born_modify (f : MapEntry → MapEntry) {j : Nat} (hf : ∀ e : MapEntry, (f e).born = e.born) (l : List MapEntry) : (l.modify j f).map (·.born) = l.map (·.born) := by
  induction l generalizing j with
  | nil => simp
  | cons a l ih =>
    cases j with
    | zero => simp [hf]
    | succ j => simp [ih]
theorem run_update_se (hT : P.underlying T = some (.map K E)) (hk : P.underlying K = some (.int .i64)) (hb : w.heap[b]? = some (.map es c0)) (h : MapO l es c0) (s : Se) :
    ∃ es' c', (Instr.mapUpdate T (.map (some b)) (.int .i64 s.client) (valSe s)).run P w = .ok () (setBlock w b (.map es' c')) ∧ MapO (putSe l s) es' c' := by
  have hck := MapKept.run_checkKey (w := w) hk (k := .int .i64 s.client) rfl false 9999
  rcases h.find (w := w) hk s.client with ⟨h1, h2, h3⟩ | ⟨j, t, h1, h4, h5, h2, h3⟩
  · refine ⟨es.push ⟨.int .i64 s.client, valSe s, c0⟩, c0 + 1, ?_, ?_, ?_, ?_, h.one.put s⟩
    · simp [Instr.mapUpdate, run_underlying hT, MapKept.run_getObj_map hb, hck, h1, MapKept.run_setObj_map _ hb, Result.andThen, setBlock]
    · rw [Array.toList_push, List.map_append, h.ents, h3 s rfl, List.map_append]
      rfl
    · intro x hx
      rw [Array.toList_push] at hx
      rcases List.mem_append.1 hx with hx | hx
      · have := h.old x hx; omega
      · obtain rfl := List.mem_singleton.1 hx
        exact Nat.lt_succ_self _
    · rw [Array.toList_push, List.map_append, List.nodup_append]
      refine ⟨h.nd, by simp, fun a ha b hb e => ?_⟩
      obtain ⟨x, hx, rfl⟩ := List.mem_map.1 ha
      have := h.old x hx
      simp at hb
      omega
  · have hlt : j < es.size := by
      have h6 : j < l.length := (List.getElem?_eq_some_iff.1 h4).1
      have h7 := congrArg List.length h.ents
      simp at h7
      omega
    obtain ⟨u, hu, e1, e2⟩ := h.at_ (j := j) (e := es[j]) (by simp [hlt])
    obtain rfl : t = u := by rw [h4] at hu; injection hu
    have hst : (Instr.keyThatStays (.int .i64 t.client) (.int .i64 s.client)).run P w = .ok (.int .i64 s.client) w := by
      rw [h5]
      simp [Instr.keyThatStays, Instr.sameBits]
    refine ⟨es.modify j (fun e => { e with key := .int .i64 s.client, val := valSe s }), c0, ?_, ?_, ?_, ?_, h.one.put s⟩
    · have e3 : ((es[j]?).map (·.key)).getD (.int .i64 s.client) = .int .i64 t.client := by
        rw [Array.getElem?_eq_getElem hlt]
        exact e1
      simp [Instr.mapUpdate, run_underlying hT, MapKept.run_getObj_map hb, hck, h1, MapKept.run_setObj_map _ hb, Result.andThen, setBlock, e1, hlt, hst]
    · rw [Array.toList_modify, map_modify (e' := entSe s) _ (fun e => rfl), h.ents, h3 s rfl, List.map_set]
    · intro x hx
      have h8 : x.born ∈ (es.modify j (fun e => { e with key := .int .i64 s.client, val := valSe s })).toList.map (·.born) := List.mem_map.2 ⟨x, hx, rfl⟩
      rw [Array.toList_modify, born_modify (fun e => { e with key := .int .i64 s.client, val := valSe s }) (fun e => rfl)] at h8
      obtain ⟨y, hy, e⟩ := List.mem_map.1 h8
      rw [← e]
      exact h.old y hy
    · rw [Array.toList_modify, born_modify (fun e => { e with key := .int .i64 s.client, val := valSe s }) (fun e => rfl)]
      exact h.nd
variable {ops : Array Oper} {rest : List Oper} {o : Oper} {a : Act} {Q : Exit → Act → World → Prop}
theorem wpList_lookup_se (hg : o.guard = none) (m x : Operand) (T : TypeId) (hop : o.op = Op.lookup T m x true) (K E : TypeId) (hT : P.underlying T = some (.map K E)) (hk : P.underlying K = some (.int .i64)) (hz : ∀ w, (zeroValue E).run P w = .ok (valSe ⟨0, 0, 0⟩) w)
    (b : Nat) (hm : a.eval m = .map (some b)) (k : Int) (hx : a.eval x = .int .i64 k) (hb : w.heap[b]? = some (.map es c0)) (h : MapO l es c0)
    (hK : wpList P ops Q rest (a.put o.dst (.tuple #[valSe ((seenGo k l).getD ⟨0, 0, 0⟩), .bool (seenGo k l).isSome])) w) : wpList P ops Q (o :: rest) a w := by
  refine wpList_plain hg fun K' hK' => ?_
  have hrun := run_lookup_se hT hk hz hb h k
  unfold Oper.wp
  simp [execOp, hop, hm, hx, hrun, Result.andThen]
  exact hK' _ _ hK
theorem wpList_update_se (hg : o.guard = none) (m x v : Operand) (T : TypeId) (hop : o.op = Op.mapUpdate T m x v) (K E : TypeId) (hT : P.underlying T = some (.map K E)) (hk : P.underlying K = some (.int .i64))
    (b : Nat) (hm : a.eval m = .map (some b)) (s : Se) (hx : a.eval x = .int .i64 s.client) (hv : a.eval v = .agg #[.int .i64 s.client, .int .i64 s.seq, .int .i64 s.rev]) (hb : w.heap[b]? = some (.map es c0)) (h : MapO l es c0)
    (hK : ∀ es' c', MapO (putSe l s) es' c' → wpList P ops Q rest (a.put o.dst undef) (setBlock w b (.map es' c'))) : wpList P ops Q (o :: rest) a w := by
  refine wpList_plain hg fun K' hK' => ?_
  obtain ⟨es', c', hrun, h'⟩ := run_update_se hT hk hb h s
  unfold valSe at hrun
  unfold Oper.wp
  simp [execOp, hop, hm, hx, hv, hrun, Result.andThen]
  exact hK' _ _ (hK es' c' h')
theorem wpList_lookup_none (hg : o.guard = none) (m x : Operand) (T : TypeId) (hop : o.op = Op.lookup T m x true) (K E : TypeId) (hT : P.underlying T = some (.map K E)) (hk : P.underlying K = some (.int .i64)) (hz : ∀ w, (zeroValue E).run P w = .ok (valSe ⟨0, 0, 0⟩) w)
    (b : Nat) (hm : a.eval m = .map (some b)) (k : Int) (hx : a.eval x = .int .i64 k) (hb : w.heap[b]? = some (.map es c0)) (h : MapO l es c0) (hn : seenGo k l = none)
    (hK : wpList P ops Q rest (a.put o.dst (.tuple #[.agg #[.int .i64 0, .int .i64 0, .int .i64 0], .bool false])) w) : wpList P ops Q (o :: rest) a w :=
  wpList_lookup_se hg m x T hop K E hT hk hz b hm k hx hb h (by rw [hn]; exact hK)
theorem wpList_lookup_hit {s : Se} (hg : o.guard = none) (m x : Operand) (T : TypeId) (hop : o.op = Op.lookup T m x true) (K E : TypeId) (hT : P.underlying T = some (.map K E)) (hk : P.underlying K = some (.int .i64)) (hz : ∀ w, (zeroValue E).run P w = .ok (valSe ⟨0, 0, 0⟩) w)
    (b : Nat) (hm : a.eval m = .map (some b)) (k : Int) (hx : a.eval x = .int .i64 k) (hb : w.heap[b]? = some (.map es c0)) (h : MapO l es c0) (hn : seenGo k l = some s)
    (hK : wpList P ops Q rest (a.put o.dst (.tuple #[.agg #[.int .i64 s.client, .int .i64 s.seq, .int .i64 s.rev], .bool true])) w) : wpList P ops Q (o :: rest) a w :=
  wpList_lookup_se hg m x T hop K E hT hk hz b hm k hx hb h (by rw [hn]; exact hK)
/-- what a range over the map has given so far -/
def Seen_ (es : Array MapEntry) (seen : Array Nat) (c : List Se) : Prop := ∃ ds : List MapEntry, seen.toList = ds.map (·.born) ∧ (∀ e ∈ ds, e ∈ es.toList) ∧ ds.Nodup ∧ ds.map (fun e => (e.key, e.val)) = c.map entSe
theorem Seen_.nil (es : Array MapEntry) : Seen_ es #[] [] := ⟨[], rfl, by simp, by simp, rfl⟩
theorem MapO.mem (h : MapO l es c0) {e : MapEntry} (he : e ∈ es.toList) : ∃ s, s ∈ l ∧ e.key = .int .i64 s.client ∧ e.val = valSe s := by
  obtain ⟨j, hj⟩ := List.getElem?_of_mem he
  obtain ⟨s, h1, h2, h3⟩ := h.at_ hj
  exact ⟨s, List.mem_of_getElem? h1, h2, h3⟩
theorem Seen_.step {seen : Array Nat} {c : List Se} (h : Seen_ es seen c) {e : MapEntry} {s : Se} (he : e ∈ es.toList) (hn : seen.contains e.born = false) (h1 : e.key = .int .i64 s.client) (h2 : e.val = valSe s) : Seen_ es (seen.push e.born) (c ++ [s]) := by
  obtain ⟨ds, d1, d2, d3, d4⟩ := h
  have hn' : e.born ∉ seen.toList := by simpa using hn
  refine ⟨ds ++ [e], by simp [d1], fun x hx => ?_, ?_, by simp [d4, h1, h2, entSe]⟩
  · rcases List.mem_append.1 hx with hx | hx
    · exact d2 x hx
    · obtain rfl := List.mem_singleton.1 hx
      exact he
  · rw [List.nodup_append]
    refine ⟨d3, by simp, fun x hx y hy e1 => ?_⟩
    obtain rfl := List.mem_singleton.1 hy
    subst e1
    exact hn' (by rw [d1]; exact List.mem_map.2 ⟨_, hx, rfl⟩)
theorem born_one : ∀ {l : List MapEntry}, (l.map (·.born)).Nodup → ∀ {x y : MapEntry}, x ∈ l → y ∈ l → x.born = y.born → x = y
  | [], _, x, y, hx, _, _ => by simp at hx
  | a :: l, h, x, y, hx, hy, e => by
    rw [List.map_cons, List.nodup_cons] at h
    rcases List.mem_cons.1 hx with e1 | hx
    · rcases List.mem_cons.1 hy with e2 | hy
      · rw [e1, e2]
      · exact absurd (by rw [← e1, e]; exact List.mem_map.2 ⟨y, hy, rfl⟩) h.1
    · rcases List.mem_cons.1 hy with e2 | hy
      · exact absurd (by rw [← e2, ← e]; exact List.mem_map.2 ⟨x, hx, rfl⟩) h.1
      · exact born_one h.2 hx hy e
theorem Seen_.all {seen : Array Nat} {c : List Se} (h : Seen_ es seen c) (hm : MapO l es c0) (h0 : (leftOf es seen).size = 0) : c.Perm l := by
  obtain ⟨ds, d1, d2, d3, d4⟩ := h
  have hn : es.toList.Nodup := (List.pairwise_map.1 hm.nd).imp (fun h e => h (by rw [e]))
  have hp : ds.Perm es.toList := by
    rw [List.perm_ext_iff_of_nodup d3 hn]
    refine fun e => ⟨d2 e, fun he => ?_⟩
    have h1 := all_seen es seen h0 e he
    have h2 : e.born ∈ seen.toList := by simpa using h1
    rw [d1] at h2
    obtain ⟨d, hd, e1⟩ := List.mem_map.1 h2
    rw [← born_one hm.nd (d2 d hd) he e1]
    exact hd
  have h3 := (hp.map (fun e => (e.key, e.val))).map decSe
  rw [d4, hm.ents, List.map_map, List.map_map] at h3
  have h4 : (decSe ∘ entSe) = id := by funext s; exact dec_ent s
  rwa [h4, List.map_id, List.map_id] at h3
theorem wpList_range_se (hg : o.guard = none) (m : Operand) (T : TypeId) (hop : o.op = Op.range T m) (K E : TypeId) (hT : P.underlying T = some (.map K E)) (b : Nat) (hm : a.eval m = .map (some b)) (hb : w.heap[b]? = some (.map es c0))
    (hK : wpList P ops Q rest (a.put o.dst (.pointer (some ⟨w.heap.size, 0, none⟩))) (w.alloc (.mapIter (some b) c0 #[] c0))) : wpList P ops Q (o :: rest) a w := by
  refine wpList_plain hg fun K' hK' => ?_
  have hrun := run_range_map (P := P) w T K E b es c0 hT hb
  unfold Oper.wp
  simp [execOp, hop, hm, hrun, Result.andThen]
  exact hK' _ _ hK
theorem wpList_next_se (hg : o.guard = none) (it : Operand) (hop : o.op = Op.next it false) (r b : Nat) (seen : Array Nat) (c : List Se) (hit : a.eval it = .pointer (some ⟨r, 0, none⟩)) (hr : w.heap[r]? = some (.mapIter (some b) c0 seen c0)) (hb : w.heap[b]? = some (.map es c0)) (h : MapO l es c0) (hs : Seen_ es seen c)
    (hDone : c.Perm l → wpList P ops Q rest (a.put o.dst (.tuple #[.bool false])) w)
    (hMore : ∀ (s : Se) (seen' : Array Nat) (w1 : World), s ∈ l → Seen_ es seen' (c ++ [s]) → (leftOf es seen').size < (leftOf es seen).size → (w1 = w ∨ w1 = w.drew) →
      (Instr.entry (.pointer (some ⟨r, 0, none⟩))).run P (setBlock w1 r (.mapIter (some b) c0 seen' c0)) = .ok (.tuple #[.int .i64 s.client, .agg #[.int .i64 s.client, .int .i64 s.seq, .int .i64 s.rev]]) (setBlock w1 r (.mapIter (some b) c0 seen' c0)) →
      wpList P ops Q rest (a.put o.dst (.tuple #[.bool true, .int .i64 s.client, .agg #[.int .i64 s.client, .int .i64 s.seq, .int .i64 s.rev]])) (setBlock w1 r (.mapIter (some b) c0 seen' c0))) : wpList P ops Q (o :: rest) a w := by
  refine wpList_plain hg fun K' hK' => ?_
  unfold Oper.wp
  rcases run_next_at (P := P) w o.type r b c0 c0 seen es c0 hr hb h.old (Nat.le_refl _) with ⟨h0, hrun⟩ | ⟨e, he, w1, hw, hrun⟩
  · simp [execOp, hop, hit, hrun, Result.andThen]
    exact hK' _ _ (hDone (hs.all h h0))
  · obtain ⟨h1, h2⟩ := mem_left he
    obtain ⟨s, h3, h4, h5⟩ := h.mem h1
    have hne : ¬ b = r := fun e => by rw [e, hr] at hb; cases hb
    have hr1 : w1.heap[r]? = some (.mapIter (some b) c0 seen c0) := by rcases hw with rfl | rfl <;> exact hr
    have hb1 : w1.heap[b]? = some (.map es c0) := by rcases hw with rfl | rfl <;> exact hb
    have hset := MapKept.heap_set (o' := .mapIter (some b) c0 (seen.push e.born) c0) hr1
    have hen := run_entry_at (P := P) (setBlock w1 r (.mapIter (some b) c0 (seen.push e.born) c0)) r b c0 seen es c0 e hset.1 ((hset.2 b hne).trans hb1) h1 h.nd
    rw [h4, h5] at hrun hen
    unfold valSe at hrun hen
    simp [execOp, hop, hit, hrun, Result.andThen]
    exact hK' _ _ (hMore s _ w1 h3 (hs.step h1 h2 h4 h5) (left_shrinks es seen e he) hw hen)
end
section
variable {w0 W : World} {L : List It}
theorem Ms.obj {g : Nat} {o o' : Obj} (h : Ms w0 (.bx g o :: L) W) : Ms w0 (.bx g o' :: L) (setBlock W g o') := by
  have hg := h.glt (i := 0) rfl
  have hset := MapKept.heap_set (o' := o') (show W.heap[g]? = some o from h.at_ (i := 0) rfl)
  refine h.turn (by simp [setBlock]) (fun q hq hn => hset.2 q (fun e => hn (by simp [It.bs]; exact e))) ⟨h.bl.os, h.bl.tape, h.bl.output, by simp [setBlock]; exact h.bl.size, fun q hq => (hset.2 q (by omega)).trans (h.bl.block q hq)⟩ hset.1 (by simp [It.bs]) (fun q hq => .inl hq)
theorem Ms.newO (h : Ms w0 L W) (o : Obj) : Ms w0 (.bx W.heap.size o :: L) (W.alloc o) :=
  h.cons (alloc_below W _) (heap_alloc_new W _) (by simp [It.bs]) (fun q hq => by simp [It.bs] at hq; omega)
theorem Ms.either (h : Ms w0 L W) {W1 : World} (hw : W1 = W ∨ W1 = W.drew) : Ms w0 L W1 := by
  rcases hw with rfl | rfl
  · exact h
  · exact h.drew
end
end Go.Proofs.YtgfbcpcfdlnbhabGreat.low


/-
  Rows of clients sorted: the library's words of a sorted row in the words of Ms.
-/
namespace Go.Proofs.YtgfbcpcfdlnbhabGreat.low
open Go.RowKit Go.Sort
set_option linter.unusedVariables false

instance : Inhabited Se := ⟨⟨0, 0, 0⟩⟩
def encV (s : Se) : List Value := [.int .i64 s.client, .int .i64 s.seq, .int .i64 s.rev]
theorem flatV_get : ∀ (c : List Se) (t : Nat), (c.flatMap encV)[t]? = (c[t / 3]?).bind (fun s => (encV s)[t % 3]?)
  | [], t => by simp
  | s :: c, t => by
    rw [List.flatMap_cons]
    by_cases h : t < 3
    · rw [List.getElem?_append_left (by simp [encV]; omega), Nat.div_eq_of_lt h, Nat.mod_eq_of_lt h]
      rfl
    · rw [List.getElem?_append_right (by simp [encV]; omega), flatV_get c]
      have e1 : (encV s).length = 3 := rfl
      obtain ⟨k, rfl⟩ : ∃ k, t = k + 3 := ⟨t - 3, by omega⟩
      rw [e1, Nat.add_sub_cancel, Nat.add_mod_right, Nat.add_div_right _ (by omega)]
      rfl
theorem flatV_len : ∀ c : List Se, (c.flatMap encV).length = c.length * 3
  | [] => rfl
  | s :: c => by
    rw [List.flatMap_cons, List.length_append, flatV_len c, List.length_cons]
    show 3 + _ = _
    omega
theorem flatK_at {c : List Se} {t : Nat} (h : t < c.length * 3) : (c.flatMap encV)[t]? = some (flatK encV 3 c.toArray)[t]! := by
  rw [get_flatK encV 3 c.toArray t (by simpa using h), flatV_get]
  have h3 : t / 3 < c.length := by omega
  have e : (c.toArray)[t / 3]! = c[t / 3] := by rw [getElem!_pos c.toArray (t / 3) (by simpa using h3)]; simp
  rw [List.getElem?_eq_getElem h3, e]
  show (encV c[t / 3])[t % 3]? = _
  have h4 : t % 3 < (encV c[t / 3]).length := by show t % 3 < 3; omega
  rw [List.getElem?_eq_getElem h4, getElem!_pos (encV c[t / 3]) (t % 3) h4]
theorem owl_se {w : World} {s : Se} {y : List Value} {b : List Nat} (h : OwL w (encSe s) y b) : y = encV s ∧ b = [] := by
  obtain ⟨x1, y1, b1, b1', rfl, rfl, h1, x2, y2, b2, b2', rfl, rfl, h2, x3, y3, b3, b3', rfl, rfl, h3, rfl, rfl⟩ := h
  obtain ⟨rfl, rfl⟩ := h1
  obtain ⟨rfl, rfl⟩ := h2
  obtain ⟨rfl, rfl⟩ := h3
  exact ⟨rfl, rfl⟩
theorem owl_of (w : World) (s : Se) : OwL w (encSe s) (encV s) [] := ⟨_, _, [], [], rfl, rfl, ⟨rfl, rfl⟩, _, _, [], [], rfl, rfl, ⟨rfl, rfl⟩, _, _, [], [], rfl, rfl, ⟨rfl, rfl⟩, rfl, rfl⟩
theorem owr_se {w : World} : ∀ {c : List Se} {xs : List Value} {cs : List Nat}, OwR w 3 (c.map encSe) xs cs → xs = c.flatMap encV ∧ cs = []
  | [], xs, cs, h => h
  | s :: c, xs, cs, h => by
    obtain ⟨y, ys, b, b', rfl, _, rfl, h1, h2⟩ := h
    obtain ⟨rfl, rfl⟩ := owl_se h1
    obtain ⟨rfl, rfl⟩ := owr_se h2
    exact ⟨rfl, rfl⟩
theorem owr_of (w : World) : ∀ c : List Se, OwR w 3 (c.map encSe) (c.flatMap encV) []
  | [] => ⟨rfl, rfl⟩
  | s :: c => ⟨encV s, c.flatMap encV, [], [], rfl, rfl, rfl, owl_of w s, owr_of w c⟩
theorem holds_se {W : World} {c : List Se} {g n cap : Nat} {b : List Nat} (h : OwC W (encSes c) (.slice (some ⟨g, 0, none⟩) n cap) b) : n = c.length ∧ b = [g] ∧ HoldsK encV 3 W g 0 c.toArray := by
  obtain ⟨hn, xs, cs, ho, hr, hb⟩ := OwC.open_ h
  obtain ⟨rfl, rfl⟩ := owr_se hr
  refine ⟨by simpa using hn, hb, fun j hj => ?_⟩
  have hj' : j < c.length * 3 := by simpa using hj
  rw [Nat.zero_add]
  exact ⟨own_cells ho j _ (flatK_at hj'), ho.frozenAt j⟩
section
variable {w0 W : World} {L : List It}
theorem Ms.sorted {c d : List Se} {g n cap : Nat} {b : List Nat} (h : Ms w0 (.dt (encSes c) (.slice (some ⟨g, 0, none⟩) n cap) b :: L) W) (hd : d.length = c.length) (q : Nat) (os : Array Obj) :
    Ms w0 (.dt (encSes d) (.slice (some ⟨g, 0, none⟩) n cap) b :: L) (sortWorldK encV 3 W g 0 q d.toArray os) := by
  have hx : OwC W (encSes c) (.slice (some ⟨g, 0, none⟩) n cap) b := h.at_ (i := 0) rfl
  obtain ⟨hn, hb, _⟩ := holds_se hx
  obtain ⟨_, xs, cs, ho, hr, _⟩ := OwC.open_ hx
  obtain ⟨rfl, rfl⟩ := owr_se hr
  subst hb
  have hg := h.bsAt (i := 0) rfl g (by simp [It.bs])
  rcases ho.2 with ⟨e0, _⟩ | ⟨g', cap', cur, e0, _, hh, hnc, hm, hs, ht⟩
  · cases e0
  injection e0 with e1 _ e3
  injection e1 with e1
  injection e1 with e1
  subst e1 e3
  have hsz : (sortWorldK encV 3 W g 0 q d.toArray os).heap.size = W.heap.size + os.size := by simp [sortWorldK, putRowK, Sort.putRow, mapBlock, Sort.ahead]
  have hold : ∀ k, k < W.heap.size → k ≠ g → (sortWorldK encV 3 W g 0 q d.toArray os).heap[k]? = W.heap[k]? := fun k hk hne => by
    unfold sortWorldK
    rw [heap_grow_old _ _ (by simpa [putRowK, Sort.putRow, mapBlock, Sort.ahead] using hk)]
    simp [putRowK, Sort.putRow, mapBlock, Sort.ahead, Array.getElem?_modify, Ne.symm hne]
  refine h.turn (by omega) (fun k hk hne => hold k hk (fun e => hne (by simp [It.bs, e]))) ⟨h.bl.os, h.bl.tape, h.bl.output, by have := h.bl.size; omega, fun k hk => (hold k (by have := h.bl.size; omega) (by omega)).trans (h.bl.block k hk)⟩ ?_ (by simp [It.bs]) (fun k hk => .inl hk)
  have hgk : (sortWorldK encV 3 W g 0 q d.toArray os).heap[g]? = some (.cells (putCells id 0 (flatK encV 3 d.toArray) cur) 52 (0, 0)) := by
    unfold sortWorldK
    rw [heap_grow_old _ _ (by simpa [putRowK, Sort.putRow, mapBlock, Sort.ahead] using hg.2)]
    simp [putRowK, Sort.putRow, mapBlock, Sort.ahead, Array.getElem?_modify, hh, onCells]
  have hl1 : (c.map encSe).length = (d.map encSe).length := by simp [hd]
  refine ⟨d.flatMap encV, [], ?_, owr_of _ d, rfl⟩
  rw [hn]
  refine ⟨by rw [flatV_len]; simp, .inr ⟨g, cap, _, by simp [hd], Nat.zero_le _, hgk, by rw [← hl1]; exact hnc, hm, by simpa [putCells] using hs, ?_⟩⟩
  apply List.ext_getElem?
  intro t
  rw [List.getElem?_take, List.length_map]
  by_cases ht' : t < d.length * 3
  · have hcs : t < cur.size := by
      rw [hs]
      have : d.length * 3 ≤ cap * 3 := Nat.mul_le_mul_right 3 (by rw [hd]; simpa using hnc)
      omega
    rw [if_pos ht', flatK_at ht', Array.getElem?_toList]
    simp only [putCells, Array.getElem?_mapIdx, Array.getElem?_eq_getElem hcs, Option.map_some]
    rw [if_pos (by simp; omega)]
    rfl
  · rw [if_neg ht', List.getElem?_eq_none (by rw [flatV_len]; omega)]
end
/-- a sorted permutation of rows of different clients -/
theorem sorted_ord {c d : List Se} (h1 : OneSe c) (hp : PermIn 0 c.toArray.size c.toArray d.toArray) (hs : SortedIn (ltOf fun x y : Se => Lib.compareInt x.client y.client) 0 c.toArray.size d.toArray) : d.length = c.length ∧ d = ordSe c := by
  obtain ⟨p1, _, p3⟩ := hp
  have hl : d.length = c.length := by simpa using p1
  have hperm : d.Perm c := by
    have : (d.toArray.extract 0 c.toArray.size).toList = d := by simp [← hl]
    rw [this] at p3
    simpa using p3
  refine ⟨hl, one_ordered h1 hperm ?_⟩
  have hd1 : OneSe d := (hperm.map Se.client).nodup_iff.2 h1
  unfold AscSe
  rw [List.pairwise_iff_getElem]
  intro i j hi hj hij
  have h2 := hs i j (Nat.zero_le _) hij (by simp; omega)
  rw [getElem!_pos d.toArray i (by simpa using hi), getElem!_pos d.toArray j (by simpa using hj)] at h2
  have hne : ¬ d[i].client = d[j].client := fun e => by
    unfold OneSe List.Nodup at hd1
    rw [List.pairwise_map, List.pairwise_iff_getElem] at hd1
    exact hd1 i j hi hj hij e
  simp only [List.getElem_toArray, ltOf, Lib.compareInt] at h2
  by_cases h3 : d[j].client < d[i].client
  · rw [if_pos h3] at h2
    simp at h2
  · omega
theorem ltSe (x y : Se) : ltOf (fun x y : Se => Lib.compareInt x.client y.client) x y = decide (x.client < y.client) := by
  unfold ltOf Lib.compareInt
  by_cases h1 : x.client < y.client
  · simp [h1]
  · by_cases h2 : y.client < x.client <;> simp [h1, h2]
theorem swoSe : SWO (ltOf fun x y : Se => Lib.compareInt x.client y.client) where
  irrefl x := by rw [ltSe]; simp
  trans x y z h1 h2 := by rw [ltSe] at *; simp at *; omega
  ntrans x y z h1 h2 := by rw [ltSe] at *; simp at *; omega
end Go.Proofs.YtgfbcpcfdlnbhabGreat.low

/-
  The library's contracts that this seat's proofs use, laid at this seat's translation by the guide's own tool in plain words; no conditions but those in each statement.
-/
namespace Go.Proofs
open Go.Shelf
def Tryz.lays125_ren : Go.Shelf.Ren := ⟨fun | 125 => 104 | 128 => 124 | 129 => 125 | n => n, fun | 46 => 122 | 3 => 3 | 51 => 140 | 53 => 142 | 4 => 4 | 5 => 5 | 9 => 9 | n => n, fun | n => n⟩
theorem Tryz.lays125 : Go.Proofs.Lays.n125 Tryz.prog Tryz.lays125_ren := {
  mixed := by kernel_rfl
  f125 := Tryz.func104.trans (congrArg some (by kernel_rfl))
  f128 := Tryz.func124.trans (congrArg some (by kernel_rfl))
  f129 := Tryz.func125.trans (congrArg some (by kernel_rfl))
  t3 := Tryz.underlying3
  a3 := Tryz.isAgg3
  z3 := Tryz.sizeOf3
  v3 := Tryz.zeroValue3
  t4 := Tryz.underlying4
  a4 := Tryz.isAgg4
  z4 := Tryz.sizeOf4
  v4 := Tryz.zeroValue4
  t5 := Tryz.underlying5
  a5 := Tryz.isAgg5
  z5 := Tryz.sizeOf5
  v5 := Tryz.zeroValue5
  t9 := Tryz.underlying9
  a9 := Tryz.isAgg9
  z9 := Tryz.sizeOf9
  v9 := Tryz.zeroValue9
  t46 := Tryz.underlying122
  a46 := Tryz.isAgg122
  z46 := Tryz.sizeOf122
  v46 := Tryz.zeroValue122
  t51 := Tryz.underlying140
  a51 := Tryz.isAgg140
  z51 := Tryz.sizeOf140
  v51 := Tryz.zeroValue140
  t53 := Tryz.underlying142
  a53 := Tryz.isAgg142
  z53 := Tryz.sizeOf142
  v53 := Tryz.zeroValue142 }
/-- bits.Len: "Len returns the minimum number of bits required to represent x; the result is 0 for x == 0.": IT RETURNS 'Lib.bitLen x'; the world is as it was. (A uint has 64 bits in the model.) ITS CALLEE bits.Len64 IS MET BY ITS OWN CONTRACT OFF THE SHELF (lay that first). (LAID: no walk: one application.) -/
theorem Tryz.bits_Len (x : Int) (w : World) (h0 : 0 ≤ x) (h1 : x ≤ 18446744073709551615) :
    Calls Tryz.prog 104 #[.int .u64 x] w fun e w' => e = .returned (.int .i64 (Lib.bitLen x.toNat)) ∧ w' = w := Any.bits_Len Tryz.lays125 x w h0 h1
def Tryz.laysM316_ren : Go.Shelf.Ren := ⟨fun | 316 => 52 | n => n, fun | 9 => 9 | 3 => 3 | 4 => 4 | 37 => 96 | 0 => 0 | 127 => 97 | 5 => 5 | n => n, fun | n => n⟩
theorem Tryz.laysM316 : Go.Proofs.LaysM.n316 Tryz.prog Tryz.laysM316_ren := {
  mixed := by kernel_rfl
  f316 := Tryz.func52.trans (congrArg some (by kernel_rfl))
  t0 := Tryz.underlying0
  a0 := Tryz.isAgg0
  z0 := Tryz.sizeOf0
  v0 := Tryz.zeroValue0
  t3 := Tryz.underlying3
  a3 := Tryz.isAgg3
  z3 := Tryz.sizeOf3
  v3 := Tryz.zeroValue3
  t4 := Tryz.underlying4
  a4 := Tryz.isAgg4
  z4 := Tryz.sizeOf4
  v4 := Tryz.zeroValue4
  t9 := Tryz.underlying9
  a9 := Tryz.isAgg9
  z9 := Tryz.sizeOf9
  v9 := Tryz.zeroValue9
  t37 := Tryz.underlying96
  a37 := Tryz.isAgg96
  z37 := Tryz.sizeOf96
  v37 := Tryz.zeroValue96
  t127 := Tryz.underlying97
  a127 := Tryz.isAgg97
  z127 := Tryz.sizeOf97
  v127 := Tryz.zeroValue97
  t5 := Tryz.underlying5
  a5 := Tryz.isAgg5
  z5 := Tryz.sizeOf5
  v5 := Tryz.zeroValue5
  i0 := by kernel_rfl
  i3 := by kernel_rfl
  i4 := by kernel_rfl
  i5 := by kernel_rfl
  i9 := by kernel_rfl
  i37 := by kernel_rfl
  i127 := by kernel_rfl }
open Go.RowKit in
/-- internal/stringslite.Clone (what strings.Clone calls): "Clone returns a fresh copy of s.": THE SAME BYTES. Of what was there nothing has turned (a new row is laid, and frozen, where s is not empty). (LAID: no walk: one application.) -/
theorem Tryz.stringslite_Clone (s : ByteArray) (w : World) (hlim : s.size ≤ 281474976710656) :
    Calls Tryz.prog 52 #[.string s] w fun e w' => e = .returned (.string s) ∧ Below w.heap.size w w' := Any.stringslite_Clone Tryz.laysM316 s w hlim
def Tryz.sortSe_ren : Go.Shelf.Ren := ⟨fun | 6 => 84 | 15 => 104 | 14 => 103 | 28 => 124 | 29 => 125 | 20 => 116 | 21 => 117 | 22 => 118 | 23 => 119 | 24 => 120 | 25 => 121 | 26 => 122 | 27 => 123 | 46 => 133 | 47 => 134 | 48 => 135 | 49 => 136 | 50 => 137 | 57 => 139 | n => n, fun | 22 => 29 | 24 => 52 | 25 => 106 | 3 => 3 | 39 => 122 | 0 => 0 | 53 => 140 | 55 => 142 | 4 => 4 | 46 => 133 | 45 => 132 | 50 => 137 | 5 => 5 | 9 => 9 | 66 => 146 | 70 => 150 | 76 => 152 | 77 => 153 | n => n, fun | n => n⟩
theorem Tryz.sortSe : Go.Proofs.SlLaysF0.n6 Tryz.prog Tryz.sortSe_ren := {
  mixed := by kernel_rfl
  f6 := ⟨Tryz.f84.name, by decide, Tryz.func84.trans (congrArg some (by kernel_rfl))⟩
  f14 := ⟨Tryz.f103.name, by decide, Tryz.func103.trans (congrArg some (by kernel_rfl))⟩
  f15 := Tryz.func104.trans (congrArg some (by kernel_rfl))
  f20 := ⟨Tryz.f116.name, by decide, Tryz.func116.trans (congrArg some (by kernel_rfl))⟩
  f21 := ⟨Tryz.f117.name, by decide, Tryz.func117.trans (congrArg some (by kernel_rfl))⟩
  f22 := ⟨Tryz.f118.name, by decide, Tryz.func118.trans (congrArg some (by kernel_rfl))⟩
  f23 := ⟨Tryz.f119.name, by decide, Tryz.func119.trans (congrArg some (by kernel_rfl))⟩
  f24 := ⟨Tryz.f120.name, by decide, Tryz.func120.trans (congrArg some (by kernel_rfl))⟩
  f25 := ⟨Tryz.f121.name, by decide, Tryz.func121.trans (congrArg some (by kernel_rfl))⟩
  f26 := ⟨Tryz.f122.name, by decide, Tryz.func122.trans (congrArg some (by kernel_rfl))⟩
  f27 := ⟨Tryz.f123.name, by decide, Tryz.func123.trans (congrArg some (by kernel_rfl))⟩
  f28 := Tryz.func124.trans (congrArg some (by kernel_rfl))
  f29 := Tryz.func125.trans (congrArg some (by kernel_rfl))
  f46 := ⟨Tryz.f133.name, by decide, Tryz.func133.trans (congrArg some (by kernel_rfl))⟩
  f47 := Tryz.func134.trans (congrArg some (by kernel_rfl))
  f48 := Tryz.func135.trans (congrArg some (by kernel_rfl))
  f49 := ⟨Tryz.f136.name, by decide, Tryz.func136.trans (congrArg some (by kernel_rfl))⟩
  f50 := ⟨Tryz.f137.name, by decide, Tryz.func137.trans (congrArg some (by kernel_rfl))⟩
  f57 := ⟨Tryz.f139.name, by decide, Tryz.func139.trans (congrArg some (by kernel_rfl))⟩
  t0 := Tryz.underlying0
  a0 := Tryz.isAgg0
  z0 := Tryz.sizeOf0
  v0 := Tryz.zeroValue0
  t3 := Tryz.underlying3
  a3 := Tryz.isAgg3
  z3 := Tryz.sizeOf3
  v3 := Tryz.zeroValue3
  t4 := Tryz.underlying4
  a4 := Tryz.isAgg4
  z4 := Tryz.sizeOf4
  v4 := Tryz.zeroValue4
  t5 := Tryz.underlying5
  a5 := Tryz.isAgg5
  z5 := Tryz.sizeOf5
  v5 := Tryz.zeroValue5
  t9 := Tryz.underlying9
  a9 := Tryz.isAgg9
  z9 := Tryz.sizeOf9
  v9 := Tryz.zeroValue9
  t22 := Tryz.underlying29
  a22 := Tryz.isAgg29
  z22 := Tryz.sizeOf29
  v22 := Tryz.zeroValue29
  t25 := Tryz.underlying106
  a25 := Tryz.isAgg106
  z25 := Tryz.sizeOf106
  v25 := Tryz.zeroValue106
  t39 := Tryz.underlying122
  a39 := Tryz.isAgg122
  z39 := Tryz.sizeOf122
  v39 := Tryz.zeroValue122
  t45 := Tryz.underlying132
  a45 := Tryz.isAgg132
  z45 := Tryz.sizeOf132
  v45 := Tryz.zeroValue132
  t46 := Tryz.underlying133
  a46 := Tryz.isAgg133
  z46 := Tryz.sizeOf133
  v46 := Tryz.zeroValue133
  t50 := Tryz.underlying137
  a50 := Tryz.isAgg137
  z50 := Tryz.sizeOf137
  v50 := Tryz.zeroValue137
  t53 := Tryz.underlying140
  a53 := Tryz.isAgg140
  z53 := Tryz.sizeOf140
  v53 := Tryz.zeroValue140
  t55 := Tryz.underlying142
  a55 := Tryz.isAgg142
  z55 := Tryz.sizeOf142
  v55 := Tryz.zeroValue142
  t66 := Tryz.underlying146
  a66 := Tryz.isAgg146
  z66 := Tryz.sizeOf146
  v66 := Tryz.zeroValue146
  t70 := Tryz.underlying150
  a70 := Tryz.isAgg150
  z70 := Tryz.sizeOf150
  v70 := Tryz.zeroValue150
  t76 := Tryz.underlying152
  a76 := Tryz.isAgg152
  z76 := Tryz.sizeOf152
  v76 := Tryz.zeroValue152
  t77 := Tryz.underlying153
  a77 := Tryz.isAgg153
  z77 := Tryz.sizeOf153
  v77 := Tryz.zeroValue153 }
end Go.Proofs


/-
  Contracts of impl.requestsOf and of a map's rows in order. Written by mkimp8.py.
-/
namespace Go.Proofs.YtgfbcpcfdlnbhabGreat.low
open Go.RowKit Go.Sort
set_option linter.unusedVariables false

theorem rqT : Tryz.prog.underlying 93 = some (.map 3 52) := by kernel_rfl
theorem rqK : Tryz.prog.underlying 3 = some (.int .i64) := by kernel_rfl
theorem rqZ (w : World) : (zeroValue 52).run Tryz.prog w = .ok (valSe ⟨0, 0, 0⟩) w := by kernel_rfl
/-- a map of one's own -/
def MapPost (l : List Se) (w : World) (e : Ending) (w' : World) : Prop := ∃ (g : Nat) (es : Array MapEntry) (c0 : Nat), e = .returned (.map (some g)) ∧ MapO l es c0 ∧ w'.heap[g]? = some (.map es c0) ∧ w.heap.size ≤ g ∧ Below w.heap.size w w'
set_option maxRecDepth 100000 in
set_option maxHeartbeats 3200000 in
theorem implRequestsOf_d (v : Value) (l : List Se) (w : World) (h : RdC w w.heap.size (encSes l) v) (hs : SmSes l) : Calls Tryz.prog 69 #[v] w (MapPost (dedSe l) w) := by
  obtain ⟨A, c, rfl⟩ := sliceSes h
  have hl := hs.len
  have HR := Lib.hid h
  clear h
  have HM := Lib.hid (Ms.start w)
  replace HM := Lib.hid (show Ms w [.bx w.heap.size (.map #[] 0)] (w.alloc (.map #[] 0)) from HM.out.newO _)
  have hmm := @run_makeMap Tryz.prog
  go_enter Tryz.func69, Tryz.ntmps69
  go_wp2
  clear hmm
  go_loopw [11] (fun i wr => ∃ (j : Nat) (es : Array MapEntry) (c0 : Nat), j ≤ l.length ∧ i = .int .i64 (j : Int) ∧ MapO (dedSe (l.take j)) es c0 ∧ Ms w [.bx w.heap.size (.map es c0)] wr) (fun i _ => l.length - (intOf i).toNat)
  case atStart => exact ⟨0, _, _, Nat.zero_le _, rfl, MapO.new, HM.out⟩
  case round =>
    obtain ⟨j, es, c0, hj, rfl, hm0, hm⟩ := hrel
    clear HM
    have HM := Lib.hid hm
    have HO := Lib.hid hm0
    clear hm hm0
    by_cases hlt : j < l.length
    · obtain ⟨b, off, s, rfl, hbb, hp, y0, y1, y2⟩ := atSes HR.out hlt
      have x0 := (HM.out.bl.cell (p := ⟨b, off + j * 3, none⟩) hbb).trans y0
      have x1 := (HM.out.bl.cell (p := ⟨b, off + j * 3 + 1, none⟩) hbb).trans y1
      have x2 := (HM.out.bl.cell (p := ⟨b, off + j * 3 + 2, none⟩) hbb).trans y2
      clear y0 y1 y2
      have HD := Lib.hid (ded_snoc hp)
      clear hp
      replace HM := Lib.hid (HM.out.new #[.int .i64 s.client, .int .i64 s.seq, .int .i64 s.rev] 52)
      cases hg : seenGo s.client (dedSe (l.take j)) with
      | none =>
        have HG := Lib.hid hg
        clear hg
        have HM1 := HM
        have hm := HM.out.new #[.int .i64 0, .int .i64 0, .int .i64 0] 52
        simp only [World.size_alloc] at hm
        replace HM := Lib.hid hm
        clear hm
        have HD2 := Lib.hid (show dedSe (l.take (j + 1)) = putSe (dedSe (l.take j)) s by rw [HD.out]; unfold firstSe; rw [HG.out]; rfl)
        go_wp2_with (first | (at_lookup; refine wpList_lookup_none rfl (.tmp 16) (.tmp 18) 93 rfl 3 52 rqT rqK rqZ w.heap.size rfl s.client rfl (HM1.out.at_ (i := 1) rfl) HO.out HG.out ?_) | (at_mapUpdate; refine wpList_update_se rfl (.tmp 24) (.tmp 26) (.tmp 27) 93 rfl 3 52 rqT rqK w.heap.size rfl s rfl rfl (HM.out.at_ (i := 2) rfl) HO.out ?_; intro es' c' hm1))
        clear HM1
        have hm := HM.out.pk [2, 0, 1] (by decide) (by simp)
        simp only [low.pk, List.getElem?_cons_zero, List.getElem?_cons_succ] at hm
        replace HM := Lib.hid hm
        clear hm
        have hm := HM.out.obj (o' := .map es' c')
        go_roundw
        case rel => exact ⟨j + 1, es', c', by omega, by go_num, by rw [HD2.out]; exact hm1, hm.pick (ks := [0]) (by decide) rfl⟩
        case measure => simp [intOf]; omega
      | some u =>
        have HG := Lib.hid hg
        clear hg
        have HM1 := HM
        have hm := HM.out.new #[.int .i64 u.client, .int .i64 u.seq, .int .i64 u.rev] 52
        simp only [World.size_alloc] at hm
        replace HM := Lib.hid hm
        clear hm
        have HD2 := Lib.hid (show dedSe (l.take (j + 1)) = dedSe (l.take j) by rw [HD.out]; unfold firstSe; rw [HG.out]; rfl)
        go_wp2_with (at_lookup; refine wpList_lookup_hit rfl (.tmp 16) (.tmp 18) 93 rfl 3 52 rqT rqK rqZ w.heap.size rfl s.client rfl (HM1.out.at_ (i := 1) rfl) HO.out HG.out ?_)
        clear HM1
        go_roundw
        case rel => exact ⟨j + 1, es, c0, by omega, by go_num, by rw [HD2.out]; exact HO.out, HM.out.pick (ks := [2]) (by decide) rfl⟩
        case measure => simp [intOf]; omega
    · obtain rfl : j = l.length := by omega
      have hm0 := HO.out
      rw [List.take_length] at hm0
      have HO2 := Lib.hid hm0
      clear hm0 HO
      go_wp2
      go_ret
      exact ⟨_, es, c0, rfl, HO2.out, HM.out.at_ (i := 0) rfl, Nat.le_refl _, HM.out.bl⟩
theorem isNaN_any (a : Int) (w : World) : Calls Tryz.prog 105 #[.int .i64 a] w fun e w' => e = .returned (.bool false) ∧ w = w' := by
  go_enter Tryz.func105, Tryz.ntmps105
  go_wp2
  go_ret
  exact ⟨by simp, rfl⟩
set_option maxHeartbeats 1600000 in
theorem compare_any (a b : Int) (w : World) : Calls Tryz.prog 86 #[.int .i64 a, .int .i64 b] w fun e w' => e = .returned (.int .i64 (Lib.compareInt a b)) ∧ w = w' := by
  by_cases h1 : a < b
  · have HC := Lib.hid (show Lib.compareInt a b = -1 by unfold Lib.compareInt; rw [if_pos h1])
    go_enter Tryz.func86, Tryz.ntmps86
    go_wp2_with (go_at_call 105; refine (isNaN_any _ _).mono ?_; rintro e w' ⟨rfl, rfl⟩)
    go_ret
    exact ⟨by rw [HC.out]; rfl, rfl⟩
  by_cases h2 : b < a
  · have HC := Lib.hid (show Lib.compareInt a b = 1 by unfold Lib.compareInt; rw [if_neg h1, if_pos h2])
    go_enter Tryz.func86, Tryz.ntmps86
    go_wp2_with (go_at_call 105; refine (isNaN_any _ _).mono ?_; rintro e w' ⟨rfl, rfl⟩)
    go_ret
    exact ⟨by rw [HC.out]; rfl, rfl⟩
  · have HC := Lib.hid (show Lib.compareInt a b = 0 by unfold Lib.compareInt; rw [if_neg h1, if_neg h2])
    go_enter Tryz.func86, Tryz.ntmps86
    go_wp2_with (go_at_call 105; refine (isNaN_any _ _).mono ?_; rintro e w' ⟨rfl, rfl⟩)
    go_ret
    exact ⟨by rw [HC.out]; rfl, rfl⟩
set_option maxHeartbeats 1600000 in
theorem byClient_any (x y : Se) (w : World) : Calls Tryz.prog 85 #[.agg #[.int .i64 x.client, .int .i64 x.seq, .int .i64 x.rev], .agg #[.int .i64 y.client, .int .i64 y.seq, .int .i64 y.rev]] w fun e w' => e = .returned (.int .i64 (Lib.compareInt x.client y.client)) ∧ ∃ q os', w' = grow (w.drewN q) os' := by
  have hcon := fun W' => compare_any x.client y.client W'
  generalize Lib.compareInt x.client y.client = r at hcon ⊢
  go_enter Tryz.func85, Tryz.ntmps85
  go_wp2_with (go_at_call 86; refine (hcon _).mono ?_; rintro e w' ⟨rfl, rfl⟩)
  go_ret
  exact ⟨rfl, 0, _, by rw [alloc_eq_grow, alloc_eq_grow, grow_grow]; rfl⟩
theorem byClient_lays (blk off size : Nat) (w : World) : CmpLays Tryz.prog 85 #[] encV 3 (fun x y => Lib.compareInt x.client y.client) blk off size w := fun _ _ _ _ x y => byClient_any x y _
set_option maxHeartbeats 1600000 in
theorem ins_none (p : Option Addr) (cap : Nat) (fv : Value) (w : World) : Calls Tryz.prog 116 #[.slice p 0 cap, .int .i64 0, .int .i64 0, fv] w fun e w' => e = .returned (.tuple #[]) ∧ w = w' := by
  go_enter Tryz.func116, Tryz.ntmps116
  go_wp2
  refine wp_loop_rounds 1 ?_
  rw [rounds_succ]
  go_wp2
  go_end0
  exact ⟨rfl, rfl⟩
set_option maxHeartbeats 1600000 in
theorem pdq_none (p : Option Addr) (cap : Nat) (lim : Int) (fv : Value) (w : World) : Calls Tryz.prog 103 #[.slice p 0 cap, .int .i64 0, .int .i64 0, .int .i64 lim, fv] w fun e w' => e = .returned (.tuple #[]) ∧ w = w' := by
  go_enter Tryz.func103, Tryz.ntmps103
  go_wp2
  refine wp_loop_rounds 1 ?_
  rw [rounds_succ]
  go_wp2_with (go_at_call 116; refine (ins_none p cap fv _).mono ?_; rintro e w' ⟨rfl, rfl⟩)
  (try simp only [Exit.inBlock, Exit.then]); refine bodyPost_ret (results_none rfl _ _ _) rfl ?_
  exact ⟨rfl, rfl⟩
set_option maxHeartbeats 1600000 in
theorem sort_none (p : Option Addr) (cap : Nat) (fv : Value) (w : World) : Calls Tryz.prog 84 #[.slice p 0 cap, fv] w fun e w' => e = .returned (.tuple #[]) ∧ w = w' := by
  have hl : ∀ W, Calls Tryz.prog 104 #[.int .u64 0] W fun e w' => e = .returned (.int .i64 (Lib.bitLen 0 : Nat)) ∧ w' = W := fun W => Tryz.bits_Len 0 W (by omega) (by omega)
  go_enter Tryz.func84, Tryz.ntmps84
  go_wp2_with (first | (go_at_call 104; refine (hl _).mono ?_; rintro e w' ⟨rfl, rfl⟩) | (go_at_call 103; refine (pdq_none p cap _ fv _).mono ?_; rintro e w' ⟨rfl, rfl⟩))
  go_end0
  exact ⟨rfl, rfl⟩
theorem sort_rows (g cap : Nat) (c : List Se) (w : World) (hH : HoldsK encV 3 w g 0 c.toArray) (hg : g < w.heap.size) (hl : c.length ≤ 2000000) (h1 : OneSe c) :
    Calls Tryz.prog 84 #[.slice (some ⟨g, 0, none⟩) c.length cap, .func (.func 85) #[] #[]] w fun e w' => e = .returned (.tuple #[]) ∧ ∃ n os, w' = sortWorldK encV 3 w g 0 n (ordSe c).toArray os ∧ (ordSe c).length = c.length := by
  have eg : ∀ args w, (callFunc 85 args).run Tryz.prog w = .ok (.enter 85 args) w := enters_of Tryz.func85 (by kernel_rfl) rfl
  have hcon := AnyQ.slices_SortFunc Tryz.sortSe 3 (fun w => by kernel_rfl) (fun w => by kernel_rfl) encV (fun _ => rfl) (fun x v hv => by simp [encV] at hv; rcases hv with rfl | rfl | rfl <;> rfl) (fun x y => Lib.compareInt x.client y.client) swoSe 85 #[] g 0 cap c.toArray w eg (byClient_lays g 0 _ w) hH hg (by simp; omega)
  rw [List.size_toArray] at hcon
  refine Calls.mono hcon fun e w' ⟨he, d', n, os, hp, hs, hw⟩ => ?_
  obtain ⟨d, rfl⟩ : ∃ d : List Se, d' = d.toArray := ⟨d'.toList, by simp⟩
  obtain ⟨k1, rfl⟩ := sorted_ord h1 (by simpa using hp) (by simpa using hs)
  exact ⟨he, n, os, hw, k1⟩
theorem ord_perm {l c : List Se} (h : OneSe l) (hp : c.Perm l) : ordSe c = ordSe l := one_ordered h (ordSe_perm.trans hp) (ordSe_asc ((hp.map Se.client).nodup_iff.2 h))
theorem left_all {es : Array MapEntry} : (leftOf es #[]).size = es.size := by unfold leftOf; simp
set_option maxRecDepth 100000 in
set_option maxHeartbeats 3200000 in
theorem implInOrder_d (g : Nat) (l : List Se) (es : Array MapEntry) (c0 : Nat) (w : World) (hb : w.heap[g]? = some (.map es c0)) (h : MapO l es c0) (hl : l.length ≤ 1048576) : Calls Tryz.prog 70 #[.map (some g)] w (OwnPost (encSes (ordSe l)) w) := by
  have hg : g < w.heap.size := lt_of_some hb
  have HB := Lib.hid hb
  have HO := Lib.hid h
  have hes : es.size ≤ 1048576 := by have := congrArg List.length h.ents; simp at this; omega
  clear hb h
  have HM := Lib.hid (Ms.start w)
  replace HM := Lib.hid (show Ms w [.dt (.rows 52 3 (([] : List Se).map encSe)) (.slice none 0 0) []] w from HM.out.nil 52 3)
  replace HM := Lib.hid (show Ms w [.bx w.heap.size (.mapIter (some g) c0 #[] c0), .dt (.rows 52 3 (([] : List Se).map encSe)) (.slice none 0 0) []] (w.alloc (.mapIter (some g) c0 #[] c0)) from HM.out.newO _)
  go_enter Tryz.func70, Tryz.ntmps70
  go_wp2_with (at_range; refine wpList_range_se rfl (.tmp 6) 93 rfl 3 52 rqT g rfl HB.out ?_)
  go_frame
  go_loopw [3] (fun lv wr => ∃ (c : List Se) (seen : Array Nat) (A1 : Option Addr) (c1 : Nat) (bs : List Nat), Seen_ es seen c ∧ c.length + (leftOf es seen).size ≤ 1048576 ∧ lv = .slice A1 c.length c1 ∧ Ms w [.bx w.heap.size (.mapIter (some g) c0 seen c0), .dt (.rows 52 3 (c.map encSe)) (.slice A1 c.length c1) bs] wr) (fun _ wr => wr.rangeLeft g w.heap.size)
  case atStart => exact ⟨[], #[], none, 0, [], Seen_.nil es, by rw [left_all]; simpa using hes, rfl, HM.out⟩
  case round =>
    obtain ⟨c, seen, A1, c1, bs, hs, hlen, rfl, hm⟩ := hrel
    clear HM
    have HM := Lib.hid hm
    have HS := Lib.hid hs
    clear hm hs
    have hb1 : wr.heap[g]? = some (.map es c0) := (HM.out.bl.block g hg).trans HB.out
    have HB1 := Lib.hid hb1
    clear hb1
    have HRL := Lib.hid (show wr.rangeLeft g w.heap.size = (leftOf es seen).size by unfold World.rangeLeft; rw [HB1.out, show wr.heap[w.heap.size]? = some (.mapIter (some g) c0 seen c0) from HM.out.at_ (i := 0) rfl])
    go_wp2_with (at_next; refine wpList_next_se rfl (.tmp 7) rfl w.heap.size g seen c rfl (HM.out.at_ (i := 0) rfl) HB1.out HO.out HS.out ?_ ?_)
    · intro hp
      have HP := Lib.hid hp
      clear hp
      have HC := Lib.hid (show OneSe c from (HP.out.map Se.client).nodup_iff.2 HO.out.one)
      obtain ⟨b9, hm9⟩ : ∃ b9, Ms w [.dt (encSes c) (.slice A1 c.length c1) b9] wr := ⟨bs, HM.out.pick (ks := [1]) (by decide) rfl⟩
      have HM9 := Lib.hid hm9
      clear hm9 HM
      go_wp2_with fail
      rcases OwC.cases (show OwC wr (encSes c) (.slice A1 c.length c1) b9 from HM9.out.at_ (i := 0) rfl) with ⟨hv, h0, _⟩ | ⟨gc, cap, hv⟩
      · injection hv with e1 e2 e3
        subst e1 e3
        clear e2
        obtain rfl : c = [] := by cases c with | nil => rfl | cons s c => cases h0
        clear h0
        refine (sort_none none 0 _ _).mono ?_
        rintro e' w' ⟨rfl, rfl⟩
        go_wp2
        go_ret
        have e9 : ordSe l = [] := by rw [← ord_perm HO.out.one HP.out]; rfl
        rw [e9]
        exact HM9.out.post
      · injection hv with e1 e2 e3
        subst e1 e3
        clear e2
        obtain ⟨-, -, hH⟩ := holds_se (show OwC wr (encSes c) _ b9 from HM9.out.at_ (i := 0) rfl)
        have hgc : gc < wr.heap.size := (HM9.out.bsAt (i := 0) rfl gc (OwC.head (HM9.out.at_ (i := 0) rfl))).2
        refine (sort_rows gc c1 c _ hH hgc (by omega) HC.out).mono ?_
        rintro e' w' ⟨rfl, n9, os9, rfl, hl9⟩
        have hm := HM9.out.sorted hl9 n9 os9
        clear hH hgc
        generalize sortWorldK encV 3 wr gc 0 n9 (ordSe c).toArray os9 = W9 at hm ⊢
        have HM8 := Lib.hid hm
        clear hm HM9 hl9 hlen hes
        go_wp2
        go_ret
        rw [← ord_perm HO.out.one HP.out]
        exact HM8.out.post
    · intro s seen' w1 hsl hs' hlt hw hen
      have HS2 := Lib.hid hs'
      clear hs' hsl
      have hm := (HM.out.either hw).obj (o' := .mapIter (some g) c0 seen' c0)
      clear HM hw
      generalize Go.ChangeMaps.setBlock w1 w.heap.size (.mapIter (some g) c0 seen' c0) = W1 at hm hen ⊢
      have HM := Lib.hid hm
      clear hm
      replace HM := Lib.hid (HM.out.new #[.int .i64 s.client, .int .i64 s.seq, .int .i64 s.rev] 52)
      have hm := HM.out.new #[.int .i64 s.client, .int .i64 s.seq, .int .i64 s.rev] 52
      simp only [World.size_alloc] at hm
      replace HM := Lib.hid hm
      clear hm
      replace HM := Lib.hid (show Ms w [.dt (.agg (encSe s)) (.agg ([.int .i64 s.client, .int .i64 s.seq, .int .i64 s.rev] : List Value).toArray) [], .bx (W1.heap.size + 1) (.cells #[.int .i64 s.client, .int .i64 s.seq, .int .i64 s.rev] 52 (0, 0)), .bx W1.heap.size (.cells #[.int .i64 s.client, .int .i64 s.seq, .int .i64 s.rev] 52 (0, 0)), .bx w.heap.size (.mapIter (some g) c0 seen' c0), .dt (.rows 52 3 (c.map encSe)) (.slice A1 c.length c1) bs] ((W1.alloc (.cells #[.int .i64 s.client, .int .i64 s.seq, .int .i64 s.rev] 52)).alloc (.cells #[.int .i64 s.client, .int .i64 s.seq, .int .i64 s.rev] 52)) from ((HM.out.pk0.pkF rfl).pkF rfl).pkF rfl)
      have hm := HM.out.pk [4, 0, 1, 2, 3] (by decide) (by simp)
      simp only [low.pk, List.getElem?_cons_zero, List.getElem?_cons_succ] at hm
      replace HM := Lib.hid hm
      clear hm
      go_wp2_with (at_builtin; refine wpList_ms1 rfl (.tmp 12) (.tmp 14) 29 rfl eltSe HM.out rfl (by simp; omega) (W1.heap.size + 1) _ rfl (HM.out.at_ (i := 2) rfl) rfl (by simp [Value.oneCell']) ?_; intro A7 c7 w7 b7 hm)
      have e1 : (c.map encSe).length = c.length := by simp
      rw [e1] at hm
      try rw [e1]
      have HM7 := Lib.hid (show Ms w [.bx w.heap.size (.mapIter (some g) c0 seen' c0), .dt (.rows 52 3 (c.map encSe ++ [encSe s])) (.slice A7 (c.length + 1) c7) b7] w7 from hm.pick (ks := [3, 0]) (by decide) rfl)
      clear hm e1 HM hen
      go_wp2
      go_roundw
      case rel => exact ⟨c ++ [s], seen', A7, c7, b7, HS2.out, by simp; omega, by simp, by simpa using HM7.out⟩
      case measure => rw [HRL.out]; have e9 : w7.rangeLeft g w.heap.size = (leftOf es seen').size := (by unfold World.rangeLeft; rw [(HM7.out.bl.block g hg).trans HB.out, show w7.heap[w.heap.size]? = some (.mapIter (some g) c0 seen' c0) from HM7.out.at_ (i := 0) rfl]); rw [e9]; exact hlt
end Go.Proofs.YtgfbcpcfdlnbhabGreat.low


/-
  What the program asks of a document is what the specification asks.
-/
namespace Go.Proofs.YtgfbcpcfdlnbhabGreat.low
open Go.RowKit
set_option linter.unusedVariables false

def okSe (h : Int) (s : Se) : Bool := inB s.client 1 8 && inB s.seq 1 1000000000 && inB s.rev 1 h
def seenIB (h : Int) (l : List Se) : Bool := l.all (okSe h) && seensB l (ordSe (dedSe l))
def entriesIB (l : List En) : Bool := decide (l.length ≤ 8) && l.all entryB
theorem seSame_eq {a b : Se} : seSameB a b = true ↔ a = b := by
  obtain ⟨a1, a2, a3⟩ := a
  obtain ⟨b1, b2, b3⟩ := b
  simp [seSameB, and_assoc]
theorem seens_eq : ∀ {l m : List Se}, seensB l m = true ↔ l = m
  | [], [] => by simp [seensB]
  | [], _ :: _ => by simp [seensB]
  | _ :: _, [] => by simp [seensB]
  | a :: l, b :: m => by simp [seensB, seSame_eq, seens_eq (l := l) (m := m)]
theorem seenAll_some {h : Int} : ∀ {l : List Se} {p : Int}, seenAllB h (some p) l = true ↔ (l.all (okSe h) = true ∧ (∀ s ∈ l, p < s.client) ∧ AscSe l)
  | [], p => by simp [seenAllB, AscSe]
  | s :: l, p => by
    have ih := seenAll_some (h := h) (l := l) (p := s.client)
    rw [seenAllB, Bool.and_eq_true, ih, List.all_cons, Bool.and_eq_true]
    have e : seenOneB h (some p) s = (okSe h s && decide (p < s.client)) := rfl
    rw [e, Bool.and_eq_true, decide_eq_true_eq]
    unfold AscSe
    rw [List.pairwise_cons]
    constructor
    · rintro ⟨⟨h1, h2⟩, h3, h4, h5⟩
      refine ⟨⟨h1, h3⟩, fun t ht => ?_, h4, h5⟩
      rcases List.mem_cons.1 ht with rfl | ht
      · exact h2
      · have := h4 t ht; omega
    · rintro ⟨⟨h1, h3⟩, h4, h5, h6⟩
      exact ⟨⟨h1, h4 s (by simp)⟩, h3, h5, h6⟩
theorem seenAll_none {h : Int} {l : List Se} : seenAllB h none l = true ↔ (l.all (okSe h) = true ∧ AscSe l) := by
  cases l with
  | nil => simp [seenAllB, AscSe]
  | cons s l =>
    rw [seenAllB, Bool.and_eq_true, seenAll_some, List.all_cons, Bool.and_eq_true]
    have e : seenOneB h none s = okSe h s := by simp [seenOneB, okSe]
    rw [e]
    unfold AscSe
    rw [List.pairwise_cons]
    constructor
    · rintro ⟨h1, h3, h4, h5⟩
      exact ⟨⟨h1, h3⟩, h4, h5⟩
    · rintro ⟨⟨h1, h3⟩, h5, h6⟩
      exact ⟨h1, h3, h5, h6⟩
theorem seen_eq (h : Int) (l : List Se) : seenAllB h none l = seenIB h l := by
  rw [Bool.eq_iff_iff, seenAll_none]
  unfold seenIB
  rw [Bool.and_eq_true, seens_eq, ord_ded]
theorem foldAll_cons (o : List Pt) (l : List (List Pt)) (t : List Int) : foldAll (o :: l) t = if fitsB o t = true then foldAll l (applyT o t) else none := by
  show l.foldl stepAll (if fitsB o t = true then some (applyT o t) else none) = _
  by_cases h : fitsB o t = true
  · rw [if_pos h, if_pos h]
    rfl
  · rw [if_neg h, if_neg h]
    exact fold_none l
theorem fits_len {o : List Pt} {t : List Int} (h : fitsB o t = true) : okOp o = true ∧ okText t = true ∧ sumK o + sumD o = (t.length : Int) := by
  unfold fitsB at h
  rw [Bool.and_eq_true, Bool.and_eq_true, decide_eq_true_eq] at h
  exact ⟨h.1.1, h.1.2, h.2⟩
theorem fits_next {o : List Pt} {t : List Int} (h : fitsB o t = true) : okText (applyT o t) = true := by
  obtain ⟨h1, h2, h3⟩ := fits_len h
  exact (apply_ok h1 h2 h3).2.2.1
theorem chain_eq : ∀ {l : List En} {t : List Int}, chainGo l t = (l.all entryB && (foldAll (l.map En.o) t).isSome)
  | [], t => by simp [chainGo, foldAll]
  | e :: l, t => by
    rw [chainGo, chain_eq (l := l), List.map_cons, foldAll_cons, List.all_cons]
    cases h1 : fitsB e.o t
    · simp
    · rw [fits_next h1]
      cases entryB e <;> simp
theorem doc_eq (x : Do) : docB x = (nameB x.name && inB x.from_ 0 999999000 && entriesIB x.list && seenIB (headRevT x) x.seen && applyAllB (x.list.map En.o) x.text) := by
  unfold docB entriesIB applyAllB
  rw [seen_eq, chain_eq]
  cases nameB x.name <;> cases inB x.from_ 0 999999000 <;> cases okText x.text <;> cases decide (x.list.length ≤ 8) <;> cases x.list.all entryB <;> cases seenIB (headRevT x) x.seen <;> cases (foldAll (x.list.map En.o) x.text).isSome <;> rfl
theorem foldAll_end : ∀ {l : List En} {t : List Int}, (foldAll (l.map En.o) t).isSome = true → foldAll (l.map En.o) t = some (endT l t)
  | [], t, _ => rfl
  | e :: l, t, h => by
    rw [List.map_cons, foldAll_cons] at h ⊢
    cases h1 : fitsB e.o t
    · rw [h1] at h
      cases h
    · rw [h1, if_pos rfl] at h
      rw [if_pos rfl]
      exact foldAll_end h
theorem foldAll_take : ∀ {l : List En} {t : List Int} (k : Nat), (foldAll (l.map En.o) t).isSome = true → (foldAll ((l.take k).map En.o) t).isSome = true
  | [], t, k, h => by simpa using h
  | e :: l, t, 0, h => rfl
  | e :: l, t, k + 1, h => by
    rw [List.take_succ_cons]
    rw [List.map_cons, foldAll_cons] at h ⊢
    cases h1 : fitsB e.o t
    · rw [h1] at h
      cases h
    · rw [h1, if_pos rfl] at h
      rw [if_pos rfl]
      exact foldAll_take k h
theorem doc_apply {x : Do} (h : docB x = true) : applyAllB (x.list.map En.o) x.text = true := by
  rw [doc_eq, Bool.and_eq_true] at h
  exact h.2
theorem doc_text {x : Do} (h : docB x = true) (k : Nat) : applyAllB ((x.list.take k).map En.o) x.text = true ∧ applyAllT ((x.list.take k).map En.o) x.text = endT (x.list.take k) x.text := by
  have h1 := doc_apply h
  unfold applyAllB at h1
  rw [Bool.and_eq_true] at h1
  have h2 := foldAll_take k h1.1
  have h3 : applyAllB ((x.list.take k).map En.o) x.text = true := by
    unfold applyAllB
    rw [h2, h1.2]
    rfl
  refine ⟨h3, ?_⟩
  unfold applyAllT
  rw [if_pos h3, foldAll_end h2]
  rfl
end Go.Proofs.YtgfbcpcfdlnbhabGreat.low


/-
  A slice cloned, its rows then made the caller's own one by one: the first rows are owned, the cells behind them are known.
-/
namespace Go.Proofs.YtgfbcpcfdlnbhabGreat.low
open Go.RowKit
set_option linter.unusedVariables false

/-- the cells from k on are those of the list -/
def Raw (W : World) (g k : Nat) (raw : List Value) : Prop := ∃ cur T, W.heap[g]? = some (.cells cur T (0, 0)) ∧ ∀ t u, k ≤ t → raw[t]? = some u → cur[t]? = some u
theorem Raw.cell {W : World} {g k t : Nat} {raw : List Value} {u : Value} (h : Raw W g k raw) (hk : k ≤ t) (hu : raw[t]? = some u) : W.cell? ⟨g, t, none⟩ = some u := by
  obtain ⟨cur, T, hh, hc⟩ := h
  exact bxcell hh (hc t u hk hu)
theorem Raw.free {W : World} {g k t : Nat} {raw : List Value} (h : Raw W g k raw) : W.frozen? ⟨g, t, none⟩ = false := by
  obtain ⟨cur, T, hh, hc⟩ := h
  exact bxfree hh
theorem Raw.keep {W W' : World} {g k : Nat} {raw : List Value} (h : Raw W g k raw) (hk : W'.heap[g]? = W.heap[g]?) : Raw W' g k raw := by
  obtain ⟨cur, T, hh, hc⟩ := h
  exact ⟨cur, T, hk.trans hh, hc⟩
theorem Raw.lt {W : World} {g k : Nat} {raw : List Value} (h : Raw W g k raw) : g < W.heap.size := by
  obtain ⟨cur, T, hh, hc⟩ := h
  exact lt_of_some hh
theorem Raw.past {W W' : World} {g k : Nat} {raw : List Value} (h : Raw W g k raw) (hb : Below W.heap.size W W') : Raw W' g k raw := h.keep (hb.block g h.lt)
theorem Raw.set {W : World} {g k k' : Nat} {raw : List Value} (h : Raw W g k raw) (o : Nat) (u : Value) (h1 : k ≤ k') (h2 : o < k') : Raw (W.setCell ⟨g, o, none⟩ u) g k' raw := by
  obtain ⟨cur, T, hh, hc⟩ := h
  refine ⟨_, T, bxset (j := o) hh u, fun t v ht hv => ?_⟩
  rw [Array.getElem?_setIfInBounds_ne (by omega)]
  exact hc t v (by omega) hv
section
variable {w0 W : World} {L : List It}
/-- the next row is the caller's own: its third cell has been written -/
theorem Ms.fill3 {g n cap : Nat} {e : TypeId} {ds : List (List Dat)} {d : Dat} {v : Value} {b c : List Nat} {x y : Int} {raw : List Value} (h : Ms w0 (.dt (.rows e 3 ds) (.slice (some ⟨g, 0, none⟩) n cap) b :: .dt d v c :: L) W) (hn : n = ds.length) (hcap : n < cap)
    (hr : Raw W g (n * 3) raw) (hx : raw[n * 3]? = some (.int .i64 x)) (hy : raw[n * 3 + 1]? = some (.int .i64 y)) :
    ∃ b', Ms w0 (.dt (.rows e 3 (ds ++ [[.int x, .int y, d]])) (.slice (some ⟨g, 0, none⟩) (n + 1) cap) b' :: L) (W.setCell ⟨g, n * 3 + 2, none⟩ v) := by
  subst hn
  have hd : OwC W d v c := h.at_ (i := 1) rfl
  have hrow : OwR W 3 [[.int x, .int y, d]] [.int .i64 x, .int .i64 y, v] c := OwR.one ⟨_, _, [], c, rfl, rfl, ⟨rfl, rfl⟩, _, _, [], c, rfl, rfl, ⟨rfl, rfl⟩, v, [], c, [], rfl, by simp, hd, rfl, rfl⟩ rfl
  obtain ⟨xs, hown, grow⟩ := Ms.grow (Y := [.dt d v c]) h hrow (h.ndAt (i := 1) (x := .dt d v c) rfl) (fun q hq => by simpa [It.bs] using hq)
  obtain ⟨hxs, hcase⟩ := hown
  rcases hcase with ⟨h0, _⟩ | ⟨g', cap', cur, hv, _, hh, hnc, hcm, hcs, htk⟩
  · cases h0
  injection hv with hv1 _ hv3
  injection hv1 with hv1
  injection hv1 with hv1 _ _
  subst hv1 hv3
  obtain ⟨cur', T', hh', hc'⟩ := hr
  rw [hh] at hh'
  injection hh' with hh'
  injection hh' with e1 e2 _
  subst e1 e2
  have q0 := hc' _ _ (Nat.le_refl _) hx
  have q1 := hc' _ _ (by omega) hy
  have hb := Below.heap_setCell W ⟨g, ds.length * 3 + 2, none⟩ v
  refine grow g (ds.length + 1) cap _ ?_ ⟨rfl, rfl, rfl, by simp [World.setCell], fun k hk hne => Below.heap_setCell _ _ _ _ (fun e => hne (by rw [e]; rfl))⟩ (.inl rfl) (by simp only [World.setCell, Array.size_modify]; exact lt_of_some hh)
  refine ⟨by simp [hxs]; omega, .inr ⟨g, cap, cur.setIfInBounds (ds.length * 3 + 2) v, by simp, Nat.zero_le _, bxset hh v, by simp; omega, hcm, by simpa using hcs, ?_⟩⟩
  have hsz : ds.length * 3 + 3 ≤ cur.toList.length := by
    have e : cur.toList.length = cap * 3 := by rw [Array.length_toList]; exact hcs
    rw [e]
    have : (ds.length + 1) * 3 ≤ cap * 3 := Nat.mul_le_mul_right 3 hcap
    omega
  rw [Array.toList_setIfInBounds, List.length_append, List.length_singleton, Nat.add_mul, Nat.one_mul]
  have l0 : cur.toList[ds.length * 3]? = some (.int .i64 x) := by rw [Array.getElem?_toList]; exact q0
  have l1 : cur.toList[ds.length * 3 + 1]? = some (.int .i64 y) := by rw [Array.getElem?_toList]; exact q1
  apply List.ext_getElem?
  intro t
  rw [List.getElem?_take]
  by_cases ht : t < ds.length * 3
  · rw [if_pos (by omega), List.getElem?_set_ne (by omega), List.getElem?_append_left (by rw [hxs]; exact ht), ← htk, List.getElem?_take, if_pos ht]
  · rw [List.getElem?_append_right (by rw [hxs]; omega), hxs]
    by_cases h3 : t < ds.length * 3 + 3
    · rw [if_pos h3]
      obtain ⟨k, rfl⟩ : ∃ k, t = ds.length * 3 + k := ⟨t - ds.length * 3, by omega⟩
      rw [Nat.add_sub_cancel_left]
      have hk : k = 0 ∨ k = 1 ∨ k = 2 := by omega
      rcases hk with rfl | rfl | rfl
      · rw [List.getElem?_set_ne (by omega), Nat.add_zero, l0]
        rfl
      · rw [List.getElem?_set_ne (by omega), l1]
        rfl
      · rw [List.getElem?_set_self (by omega)]
        rfl
    · rw [if_neg h3, List.getElem?_eq_none (by simp; omega)]
end
/-- the cells of rows, as values -/
theorem RdL.vals {w : World} {B : Nat} {ad : Addr} : ∀ {r : List Dat} {o : Nat}, RdL w B ad o r → ∃ ys : List Value, ys.length = r.length ∧ RdV w B r ys ∧ ∀ j u, ys[j]? = some u → w.cell? (ad.add (o + j)) = some u
  | [], o, _ => ⟨[], rfl, rfl, fun j u h => by simp at h⟩
  | d :: r, o, h => by
    obtain ⟨⟨v, hv, hd⟩, h2⟩ := h
    obtain ⟨ys, h3, h4, h5⟩ := RdL.vals h2
    refine ⟨v :: ys, by simp [h3], ⟨v, ys, rfl, hd, h4⟩, fun j u hu => ?_⟩
    cases j with
    | zero => simp at hu; subst hu; exact hv
    | succ j =>
      have := h5 j u (by simpa using hu)
      rwa [show o + (j + 1) = o + 1 + j by omega]
theorem RdR.vals {w : World} {B sz : Nat} {ad : Addr} : ∀ {rs : List (List Dat)} {o : Nat}, (∀ r ∈ rs, r.length = sz) → RdR w B sz ad o rs → ∃ ys : List Value, ys.length = rs.length * sz ∧ (∀ i r, rs[i]? = some r → ∃ y, RdV w B r y ∧ y.length = sz ∧ ∀ k u, y[k]? = some u → ys[i * sz + k]? = some u) ∧ ∀ j u, ys[j]? = some u → w.cell? (ad.add (o + j)) = some u
  | [], o, _, _ => ⟨[], by simp, fun i r h => by simp at h, fun j u h => by simp at h⟩
  | r :: rs, o, hl, h => by
    obtain ⟨y, y1, y2, y3⟩ := RdL.vals h.1
    obtain ⟨ys, h3, h4, h5⟩ := RdR.vals (rs := rs) (fun q hq => hl q (by simp [hq])) h.2
    have hy : y.length = sz := by rw [y1]; exact hl r (by simp)
    refine ⟨y ++ ys, by rw [List.length_append, hy, h3, List.length_cons, Nat.add_mul]; omega, fun i q hq => ?_, fun j u hu => ?_⟩
    · cases i with
      | zero =>
        simp at hq
        subst hq
        refine ⟨y, y2, hy, fun k u hu => ?_⟩
        rw [Nat.zero_mul, Nat.zero_add, List.getElem?_append_left (idx_lt hu)]
        exact hu
      | succ i =>
        obtain ⟨z, z1, z2, z3⟩ := h4 i q (by simpa using hq)
        refine ⟨z, z1, z2, fun k u hu => ?_⟩
        rw [List.getElem?_append_right (by rw [hy, Nat.add_mul]; omega), hy, show (i + 1) * sz + k - sz = i * sz + k by rw [Nat.add_mul]; omega]
        exact z3 k u hu
    · by_cases hj : j < sz
      · rw [List.getElem?_append_left (by omega)] at hu
        exact y3 j u hu
      · rw [List.getElem?_append_right (by omega), hy] at hu
        have := h5 (j - sz) u hu
        rwa [show o + sz + (j - sz) = o + j by omega] at this
/-- a value without parts fills one cell -/
def Dat.one : Dat → Bool
  | .agg _ => false
  | _ => true
theorem RdC.oneCell {w : World} {B : Nat} {d : Dat} {v : Value} (h : RdC w B d v) (hd : d.one = true) : v.oneCell' = true := by
  cases d with
  | int n => have h : v = .int .i64 n := h; rw [h]; rfl
  | bool b => have h : v = .bool b := h; rw [h]; rfl
  | str s => have h : v = .string s := h; rw [h]; rfl
  | rows e sz ds => obtain ⟨A, c, rfl, _⟩ := h; rfl
  | agg ds => cases hd
theorem RdV.ones {w : World} {B : Nat} : ∀ {r : List Dat} {ys : List Value}, (∀ d ∈ r, d.one = true) → RdV w B r ys → ∀ u ∈ ys, u.oneCell' = true
  | [], ys, _, h, u, hu => by
    have h : ys = [] := h
    subst h
    simp at hu
  | d :: r, ys, hd, h, u, hu => by
    obtain ⟨x, xs, rfl, h1, h2⟩ := h
    rcases List.mem_cons.1 hu with rfl | hu
    · exact h1.oneCell (hd d (by simp))
    · exact RdV.ones (fun q hq => hd q (by simp [hq])) h2 u hu
theorem RdR.ones {w : World} {B sz : Nat} {ad : Addr} : ∀ {rs : List (List Dat)} {o : Nat}, (∀ r ∈ rs, r.length = sz ∧ ∀ d ∈ r, d.one = true) → RdR w B sz ad o rs → ∃ ys : List Value, ys.length = rs.length * sz ∧ (∀ i r, rs[i]? = some r → ∃ y, RdV w B r y ∧ y.length = sz ∧ ∀ k u, y[k]? = some u → ys[i * sz + k]? = some u) ∧ (∀ u ∈ ys, u.oneCell' = true) ∧ ∀ j u, ys[j]? = some u → w.cell? (ad.add (o + j)) = some u
  | [], o, _, _ => ⟨[], by simp, fun i r h => by simp at h, by simp, fun j u h => by simp at h⟩
  | r :: rs, o, hl, h => by
    obtain ⟨y, y1, y2, y3⟩ := RdL.vals h.1
    obtain ⟨ys, h3, h4, h5, h6⟩ := RdR.ones (rs := rs) (fun q hq => hl q (by simp [hq])) h.2
    have hy : y.length = sz := by rw [y1]; exact (hl r (by simp)).1
    refine ⟨y ++ ys, by rw [List.length_append, hy, h3, List.length_cons, Nat.add_mul]; omega, fun i q hq => ?_, fun u hu => ?_, fun j u hu => ?_⟩
    · cases i with
      | zero =>
        simp at hq
        subst hq
        refine ⟨y, y2, hy, fun k u hu => ?_⟩
        rw [Nat.zero_mul, Nat.zero_add, List.getElem?_append_left (idx_lt hu)]
        exact hu
      | succ i =>
        obtain ⟨z, z1, z2, z3⟩ := h4 i q (by simpa using hq)
        refine ⟨z, z1, z2, fun k u hu => ?_⟩
        rw [List.getElem?_append_right (by rw [hy, Nat.add_mul]; omega), hy, show (i + 1) * sz + k - sz = i * sz + k by rw [Nat.add_mul]; omega]
        exact z3 k u hu
    · rcases List.mem_append.1 hu with hu | hu
      · exact RdV.ones (hl r (by simp)).2 y2 u hu
      · exact h5 u hu
    · by_cases hj : j < sz
      · rw [List.getElem?_append_left (by omega)] at hu
        exact y3 j u hu
      · rw [List.getElem?_append_right (by omega), hy] at hu
        have := h6 (j - sz) u hu
        rwa [show o + sz + (j - sz) = o + j by omega] at this
/-- the cells of rows as a list of values, each row read -/
def Cells (w : World) (rs : List (List Dat)) (ys : List Value) : Prop := ∀ i r, rs[i]? = some r → ∃ y, RdV w w.heap.size r y ∧ y.length = 3 ∧ ∀ k u, y[k]? = some u → ys[i * 3 + k]? = some u
section
variable {w0 W : World} {L : List It}
/-- to a slice without elements all of another's cells are added, whatever they lead to -/
theorem wpList_raw {ops : Array Oper} {rest : List Oper} {o : Oper} {a : Act} {Q : Exit → Act → World → Prop} (hgd : o.guard = none) (s x : Operand) (t : TypeId)
    (ho : o.op = .call { callee := .builtin .append, args := #[s, x], argTypes := #[t, t] }) {e : TypeId} {z : Value} {bytes : Nat} (he : Elt t e z 3 bytes) {rs : List (List Dat)} {g0 c1 : Nat} {b : List Nat}
    (h : Ms w0 (.dt (.rows e 3 []) (.slice (some ⟨g0, 0, none⟩) 0 c1) b :: L) W) (hs : a.eval s = .slice (some ⟨g0, 0, none⟩) 0 c1) (A : Option Addr) (m c0 : Nat) (hx : a.eval x = .slice A m c0) (hrd : RdC w0 w0.heap.size (.rows e 3 rs) (.slice A m c0)) (hone : ∀ r ∈ rs, r.length = 3 ∧ ∀ d ∈ r, d.one = true) (hlen : rs.length ≤ 2000000)
    (K : ∀ g cap W' b' ys, m ≤ cap → Ms w0 (.dt (.rows e 3 []) (.slice (some ⟨g, 0, none⟩) 0 cap) b' :: L) W' → Raw W' g 0 ys → Cells w0 rs ys → wpList Tryz.prog ops Q rest (a.put o.dst (.slice (some ⟨g, 0, none⟩) m cap)) W') : wpList Tryz.prog ops Q (o :: rest) a W := by
  obtain ⟨i, ht, hi, hz, hsize, hby, hzs, hsz, hbm⟩ := he
  obtain ⟨A', c', hv, hc, hrd⟩ := hrd
  injection hv with e1 e2 e3
  subst e1 e2 e3
  by_cases h0 : 0 < rs.length
  · obtain ⟨ad, rfl, hbk, hsp, hrr⟩ := hrd h0
    obtain ⟨ys, k1, k2, k3, k4⟩ := RdR.ones hone hrr
    obtain ⟨xs, hown, grow⟩ := Ms.grow (Y := []) (rs := []) (news := []) (c := []) h ⟨rfl, rfl⟩ (by simp) (by simp)
    have hx0 : xs = [] := List.eq_nil_of_length_eq_zero (by rw [hown.1]; simp)
    subst hx0
    refine wpList_append_lies _ hgd s x t ho 0 e i z 3 bytes ht hi hz hsize hby hzs hsz _ 0 [] hs hown ad rs.length c0 ys hx k1 (fun j u hu => by have := k4 j u hu; rw [Nat.zero_add] at this; exact (h.bl.cell (p := ad.add j) (by rw [block_of_add]; exact hbk)).trans this) k3 h0 (by unfold maxLen; omega) ?_ (Nat.zero_le _) _ rfl ?_
    · exact bytes_fit (by omega) hbm
    · intro g cap W' hown' hg hat hlt
      rw [Nat.zero_add, List.nil_append] at hown'
      rcases hown'.2 with ⟨e0, _⟩ | ⟨g', cap', cur, e0, q1, q2, q3, q4, q5, q6⟩
      · cases e0
      injection e0 with e1 _ e3
      injection e1 with e1
      injection e1 with e1
      subst e1 e3
      obtain ⟨b', hm⟩ := grow g 0 cap W' ⟨by simp, .inr ⟨g, cap, cur, rfl, Nat.zero_le _, q2, Nat.zero_le _, q4, q5, by simp⟩⟩ hg hat hlt
      have hraw : Raw W' g 0 ys := by
        refine ⟨cur, e, q2, fun t u _ hu => ?_⟩
        rw [← q6, List.getElem?_take] at hu
        split at hu
        · rwa [Array.getElem?_toList] at hu
        · cases hu
      rw [Nat.zero_add]
      exact K g cap W' b' ys q3 (by simpa using hm) hraw k2
  · obtain rfl : rs = [] := List.eq_nil_of_length_eq_zero (by omega)
    obtain ⟨xs, cs, hown, _⟩ : OwC W (.rows e 3 []) (.slice (some ⟨g0, 0, none⟩) 0 c1) b := h.at_ (i := 0) rfl
    refine wpList_append_zero hgd s x t ho 0 e i 3 ht hi _ 0 xs hs hown A c0 hx ?_
    rcases hown.2 with ⟨e0, _⟩ | ⟨g', cap', cur, e0, q1, q2, q3⟩
    · cases e0
    injection e0 with e1 _ e3
    injection e1 with e1
    injection e1 with e1
    subst e1 e3
    exact K g0 c1 W b [] (Nat.zero_le _) h ⟨cur, e, q2, fun t u _ hu => by simp at hu⟩ (fun i r hr => by simp at hr)
end
/-- a slice whose cells are those of the rows, in a block of its own; nil if the rows came as nil -/
def RawPost (e : TypeId) (rs : List (List Dat)) (w : World) (E : Ending) (w' : World) : Prop := (rs = [] ∧ E = .returned (.slice none 0 0) ∧ w = w') ∨
  ∃ g cap ys, E = .returned (.slice (some ⟨g, 0, none⟩) rs.length cap) ∧ rs.length ≤ cap ∧ Own w.heap.size w'.heap.size w' (.rows e 3 []) (.slice (some ⟨g, 0, none⟩) 0 cap) ∧ Raw w' g 0 ys ∧ Cells w rs ys ∧ Below w.heap.size w w'
end Go.Proofs.YtgfbcpcfdlnbhabGreat.low


/-
  Contracts of impl.seenOk, entriesOk, copyOp and opsOf. Written by mkimp8b.py.
-/
namespace Go.Proofs.YtgfbcpcfdlnbhabGreat.low
open Go.RowKit
set_option linter.unusedVariables false

theorem seens_len : ∀ {l m : List Se}, ¬ l.length = m.length → seensB l m = false
  | [], [], h => absurd rfl h
  | [], _ :: _, _ => rfl
  | _ :: _, [], _ => rfl
  | a :: l, b :: m, h => by
    rw [seensB, seens_len (l := l) (m := m) (by simpa using h), Bool.and_false]
set_option maxRecDepth 100000 in
set_option maxHeartbeats 3200000 in
theorem equalSe_d (v v' : Value) (l m : List Se) (w : World) (h : RdC w w.heap.size (encSes l) v) (h' : RdC w w.heap.size (encSes m) v') (hl : l.length ≤ 1048576) (hm : m.length ≤ 1048577) : Calls Tryz.prog 68 #[v, v'] w (Tells (seensB l m) w) := by
  obtain ⟨A, c, rfl⟩ := sliceSes h
  obtain ⟨A', c', rfl⟩ := sliceSes h'
  have HR := Lib.hid h
  have HR' := Lib.hid h'
  clear h h'
  by_cases hlen : l.length = m.length
  · have gl : (((l.length : Int)) != (m.length : Int)) = false := by simp [hlen]
    have HL := Lib.hid hlen
    clear hlen
    go_enter Tryz.func68, Tryz.ntmps68
    go_wp2
    go_loopw [13] (fun i wr => ∃ j : Nat, j ≤ l.length ∧ i = .int .i64 (j : Int) ∧ seensB l m = seensB (l.drop j) (m.drop j) ∧ Below w.heap.size w wr) (fun i _ => l.length - (intOf i).toNat)
    case atStart => exact ⟨0, Nat.zero_le _, rfl, by simp, Below.refl _ _⟩
    case round =>
      obtain ⟨j, hj, rfl, hi, hbel⟩ := hrel
      have HI := Lib.hid hi
      clear hi
      by_cases hlt : j < l.length
      · have hlt2 : j < m.length := by have := HL.out; omega
        obtain ⟨b, off, s, rfl, hbb, hp, x0, x1, x2⟩ := atSes (HR.out.below hbel) hlt
        obtain ⟨b', off', u, rfl, hbb', hp', y0, y1, y2⟩ := atSes (HR'.out.below hbel) hlt2
        have HS := Lib.hid (seensB_step hp hp')
        clear hp hp'
        by_cases h1 : s = u
        · subst h1
          have HS2 := Lib.hid (show seensB l m = seensB (l.drop (j + 1)) (m.drop (j + 1)) by rw [HI.out, HS.out, seSame_eq.2 rfl, Bool.true_and])
          go_wp2
          go_quiet (fail)
          go_wp2
          go_roundw
          case rel => exact ⟨j + 1, by omega, by go_num, HS2.out, hbel.trans ⟨rfl, rfl, rfl, Nat.le_refl _, fun _ _ => rfl⟩⟩
          case measure => simp [intOf]; omega
        · have HS2 := Lib.hid (show seensB l m = false by rw [HI.out, HS.out, Bool.eq_false_iff.2 (fun e => h1 (seSame_eq.1 e)), Bool.false_and])
          have h2 : ((s.client == u.client) && ((s.seq == u.seq) && (s.rev == u.rev))) = false := by rw [Bool.eq_false_iff]; intro e; simp at e; obtain ⟨s1, s2, s3⟩ := s; obtain ⟨u1, u2, u3⟩ := u; simp at e; obtain ⟨rfl, rfl, rfl⟩ := e; exact h1 rfl
          clear h1
          cases q1 : s.client == u.client
          · clear h2
            go_wp2
            go_quiet (fail)
            go_wp2
            go_ret
            exact ⟨ret_b HS2.out.symm, hbel.trans ⟨rfl, rfl, rfl, Nat.le_refl _, fun _ _ => rfl⟩⟩
          cases q2 : s.seq == u.seq
          · clear h2
            go_wp2
            go_quiet (fail)
            go_wp2
            go_ret
            exact ⟨ret_b HS2.out.symm, hbel.trans ⟨rfl, rfl, rfl, Nat.le_refl _, fun _ _ => rfl⟩⟩
          have q3 : (s.rev == u.rev) = false := by simpa [q1, q2] using h2
          clear h2
          go_wp2
          go_quiet (fail)
          go_wp2
          go_ret
          exact ⟨ret_b HS2.out.symm, hbel.trans ⟨rfl, rfl, rfl, Nat.le_refl _, fun _ _ => rfl⟩⟩
      · have h9 : l.drop j = [] := List.drop_eq_nil_of_le (by omega)
        have h8 : m.drop j = [] := List.drop_eq_nil_of_le (by have := HL.out; omega)
        have HS2 := Lib.hid (show seensB l m = true by rw [HI.out, h9, h8]; rfl)
        clear h9 h8
        go_wp2
        go_ret
        exact ⟨ret_b HS2.out.symm, hbel⟩
  · have gl : (((l.length : Int)) != (m.length : Int)) = true := by simp; omega
    have HS2 := Lib.hid (seens_len hlen)
    clear hlen
    go_enter Tryz.func68, Tryz.ntmps68
    go_wp2
    go_ret
    exact ⟨ret_b HS2.out.symm, Below.refl _ _⟩
set_option maxRecDepth 100000 in
set_option maxHeartbeats 3200000 in
theorem implSeenOk_d (v : Value) (l : List Se) (head : Int) (w : World) (h : RdC w w.heap.size (encSes l) v) (hs : SmSes l) : Calls Tryz.prog 47 #[v, .int .i64 head] w (Tells (seenIB head l) w) := by
  obtain ⟨A, c, rfl⟩ := sliceSes h
  have hl := hs.len
  have HR := Lib.hid h
  clear h
  have HM := Lib.hid (Ms.start w)
  go_enter Tryz.func47, Tryz.ntmps47
  go_wp2
  go_loopw [9] (fun i wr => ∃ j : Nat, j ≤ l.length ∧ i = .int .i64 (j : Int) ∧ (l.take j).all (okSe head) = true ∧ Ms w [] wr) (fun i _ => l.length - (intOf i).toNat)
  case atStart => exact ⟨0, Nat.zero_le _, rfl, by simp, HM.out⟩
  case round =>
    obtain ⟨j, hj, rfl, hi, hm⟩ := hrel
    clear HM
    have HM := Lib.hid hm
    have HI := Lib.hid hi
    clear hm hi
    by_cases hlt : j < l.length
    · obtain ⟨b, off, s, rfl, hbb, hp, y0, y1, y2⟩ := atSes HR.out hlt
      have x0 := (HM.out.bl.cell (p := ⟨b, off + j * 3, none⟩) hbb).trans y0
      have x1 := (HM.out.bl.cell (p := ⟨b, off + j * 3 + 1, none⟩) hbb).trans y1
      have x2 := (HM.out.bl.cell (p := ⟨b, off + j * 3 + 2, none⟩) hbb).trans y2
      clear y0 y1 y2
      have HT := Lib.hid (show (l.take (j + 1)).all (okSe head) = okSe head s by rw [List.take_add_one, hp, List.all_append, HI.out]; simp)
      have HF := Lib.hid (show okSe head s = false → seenIB head l = false from fun e => by unfold seenIB; rw [show l.all (okSe head) = false from Bool.eq_false_iff.2 (fun e2 => by rw [List.all_eq_true.1 e2 s (List.mem_of_getElem? hp)] at e; cases e), Bool.false_and])
      clear hp
      replace HM := Lib.hid (HM.out.new #[.int .i64 s.client, .int .i64 s.seq, .int .i64 s.rev] 52)
      have HE := Lib.hid (show okSe head s = (inB s.client 1 8 && inB s.seq 1 1000000000 && inB s.rev 1 head) from rfl)
      go_wp2_with fail
      refine (clientOk_any _ _).mono ?_
      rintro e' w' ⟨rfl, rfl⟩
      cases h1 : inB s.client 1 8
      · go_wp2
        go_ret
        exact ⟨ret_b (HF.out (by rw [HE.out, h1]; simp)).symm, HM.out.bl⟩
      go_wp2_with fail
      refine (seqOk_any _ _).mono ?_
      rintro e' w' ⟨rfl, rfl⟩
      cases h2 : inB s.seq 1 1000000000
      · go_wp2
        go_ret
        exact ⟨ret_b (HF.out (by rw [HE.out, h1, h2]; simp)).symm, HM.out.bl⟩
      by_cases h3 : s.rev < 1
      · have h9 : inB s.rev 1 head = false := inB_f (by omega)
        have H9 := Lib.hid h9
        clear h9
        have g3 : decide (s.rev < 1) = true := decide_eq_true h3
        go_wp2
        go_ret
        exact ⟨ret_b (HF.out (by rw [HE.out, h1, h2, H9.out]; simp)).symm, HM.out.bl⟩
      have g3 : decide (s.rev < 1) = false := decide_eq_false h3
      by_cases h4 : head < s.rev
      · have h9 : inB s.rev 1 head = false := inB_f (by omega)
        have H9 := Lib.hid h9
        clear h9
        have g4 : decide (head < s.rev) = true := decide_eq_true h4
        go_wp2
        go_ret
        exact ⟨ret_b (HF.out (by rw [HE.out, h1, h2, H9.out]; simp)).symm, HM.out.bl⟩
      have g4 : decide (head < s.rev) = false := decide_eq_false h4
      have H9 := Lib.hid (show okSe head s = true by rw [HE.out, h1, h2, inB_t (by omega)]; rfl)
      go_wp2
      go_roundw
      case rel => exact ⟨j + 1, by omega, by go_num, by rw [HT.out, H9.out], HM.out.pick (ks := []) (by decide) rfl⟩
      case measure => simp [intOf]; omega
    · obtain rfl : j = l.length := by omega
      have HI2 := Lib.hid (show l.all (okSe head) = true by have := HI.out; rwa [List.take_length] at this)
      clear HI
      go_wp2_with fail
      refine (implRequestsOf_d _ l _ (HM.out.arg HR.out) hs).mono ?_
      rintro e' W1 ⟨g, es, c0, rfl, ho, hb, hg, b'⟩
      have HO := Lib.hid ho
      have HB := Lib.hid hb
      clear ho hb
      replace HM := Lib.hid (HM.out.past b')
      clear b'
      go_wp2_with fail
      refine (implInOrder_d g _ es c0 _ HB.out HO.out (by have := ded_len (l := l) (m := []); simp at this; unfold dedSe; omega)).mono ?_
      rintro e' W2 ⟨v', rfl, o', b'⟩
      obtain ⟨Ao, co, rfl⟩ := sliceSes o'.read
      obtain ⟨bo, hm⟩ := HM.out.got o' b'
      clear o' b'
      replace HM := Lib.hid hm
      clear hm
      go_wp2_with fail
      refine (equalSe_d _ _ l (ordSe (dedSe l)) _ (HM.out.arg HR.out) (HM.out.read (i := 0) rfl) hl (by have := ded_len (l := l) (m := []); have h9 := ordSe_perm (l := dedSe l); have h8 := h9.length_eq; simp at this; unfold dedSe at *; omega)).mono ?_
      rintro e' W3 ⟨rfl, b'⟩
      replace HM := Lib.hid (HM.out.past b')
      clear b'
      go_wp2
      go_ret
      exact ⟨ret_b (by unfold seenIB; rw [HI2.out, Bool.true_and]), HM.out.bl⟩
set_option maxRecDepth 100000 in
set_option maxHeartbeats 3200000 in
theorem implEntriesOk_d (v : Value) (l : List En) (w : World) (h : RdC w w.heap.size (encEns l) v) (hs : SmEns l) : Calls Tryz.prog 46 #[v] w (Tells (entriesIB l) w) := by
  obtain ⟨A, c, rfl⟩ := sliceEns h
  have hl := hs.len
  have HR := Lib.hid h
  clear h
  by_cases h8 : 8 < l.length
  · have HN := Lib.hid (show entriesIB l = false by unfold entriesIB; rw [decide_eq_false (by omega), Bool.false_and])
    have g8 : decide (8 < (l.length : Int)) = true := decide_eq_true (by omega)
    go_enter Tryz.func46, Tryz.ntmps46
    go_wp2
    go_ret
    exact ⟨ret_b HN.out.symm, Below.refl _ _⟩
  have HN := Lib.hid (show entriesIB l = l.all entryB by unfold entriesIB; rw [decide_eq_true (by omega), Bool.true_and])
  have g8 : decide (8 < (l.length : Int)) = false := decide_eq_false (by omega)
  have HM := Lib.hid (Ms.start w)
  go_enter Tryz.func46, Tryz.ntmps46
  go_wp2
  go_loopw [10] (fun i wr => ∃ j : Nat, j ≤ l.length ∧ i = .int .i64 (j : Int) ∧ (l.take j).all entryB = true ∧ Ms w [] wr) (fun i _ => l.length - (intOf i).toNat)
  case atStart => exact ⟨0, Nat.zero_le _, rfl, by simp, HM.out⟩
  case round =>
    obtain ⟨j, hj, rfl, hi, hm⟩ := hrel
    clear HM
    have HM := Lib.hid hm
    have HI := Lib.hid hi
    clear hm hi
    by_cases hlt : j < l.length
    · obtain ⟨b, off, e, A5, c5, rfl, hbb, hp, y0, y1, y2, q2⟩ := atEns HR.out hlt
      have x0 := (HM.out.bl.cell (p := ⟨b, off + j * 3, none⟩) hbb).trans y0
      have x1 := (HM.out.bl.cell (p := ⟨b, off + j * 3 + 1, none⟩) hbb).trans y1
      have x2 := (HM.out.bl.cell (p := ⟨b, off + j * 3 + 2, none⟩) hbb).trans y2
      clear y0 y1 y2
      have hse := hs.at_ (List.mem_of_getElem? hp)
      have HT := Lib.hid (show (l.take (j + 1)).all entryB = entryB e by rw [List.take_add_one, hp, List.all_append, HI.out]; simp)
      have HF := Lib.hid (show entryB e = false → l.all entryB = false from fun e1 => Bool.eq_false_iff.2 (fun e2 => by rw [List.all_eq_true.1 e2 e (List.mem_of_getElem? hp)] at e1; cases e1))
      clear hp
      replace HM := Lib.hid (HM.out.new #[.int .i64 e.client, .int .i64 e.seq, .slice A5 e.o.length c5] 67)
      go_wp2_with fail
      obtain ⟨W1, hW, hm⟩ := HM.out.name
      rw [← hW]
      replace HM := Lib.hid hm
      clear hm hW
      refine (implEntryOk_d _ e _ (rdEn e (HM.out.arg q2)) hse).mono ?_
      rintro e' W2 ⟨rfl, b'⟩
      replace HM := Lib.hid (HM.out.past b')
      clear b'
      clear x0 x1 x2 hse
      cases h1 : entryB e
      · go_wp2
        go_ret
        exact ⟨ret_b (by rw [HN.out, HF.out h1]), HM.out.bl⟩
      go_wp2
      go_roundw
      case rel => exact ⟨j + 1, by omega, by go_num, by rw [HT.out, h1], HM.out.pick (ks := []) (by decide) rfl⟩
      case measure => simp [intOf]; omega
    · obtain rfl : j = l.length := by omega
      have HI2 := Lib.hid (show l.all entryB = true by have := HI.out; rwa [List.take_length] at this)
      clear HI
      go_wp2
      go_ret
      exact ⟨ret_b (by rw [HN.out, HI2.out]), HM.out.bl⟩
end Go.Proofs.YtgfbcpcfdlnbhabGreat.low


/-
  Contracts of clones, impl.copyOp and opsOf. Written by mkimp8c.py.
-/
namespace Go.Proofs.YtgfbcpcfdlnbhabGreat.low
open Go.RowKit
set_option linter.unusedVariables false

set_option maxRecDepth 100000 in
set_option maxHeartbeats 3200000 in
theorem cloneI_d (v : Value) (zs : List Int) (w : World) (h : RdC w w.heap.size (encInts zs) v) (hs : zs.length ≤ 1048576) : Calls Tryz.prog 74 #[v] w (OwnPost (encInts zs) w) := by
  obtain ⟨A, c, rfl⟩ := sliceI h
  have hq : ∀ (w : World) (A : Option Addr) (n c n' c' : Nat), (binOp .eql 22 (.slice A n c) (.slice none n' c')).run Tryz.prog w = .ok (.bool A.isNone) w := fun w A n c n' c' => Lib.run_eql_slice_nil w _ _ A n c n' c' Tryz.underlying22
  cases A with
  | none =>
    obtain rfl : zs = [] := by
      obtain ⟨A9, c9, hv, _, h9⟩ := h
      injection hv with e1 e2 e3
      by_cases h0 : 0 < zs.length
      · obtain ⟨ad, e4, _⟩ := h9 (by simpa using h0)
        rw [← e1] at e4
        cases e4
      · exact List.eq_nil_of_length_eq_zero (by omega)
    clear h
    go_enter Tryz.func74, Tryz.ntmps74
    go_wp2
    go_ret
    exact ((Ms.start w).nil 3 1).post
  | some ad =>
    have HR := Lib.hid h
    clear h
    have HM := Lib.hid (Ms.start w)
    replace HM := Lib.hid (HM.out.empty 3 1)
    go_enter Tryz.func74, Tryz.ntmps74
    go_wp2_with (at_builtin; refine wpList_msAll rfl (.tmp 5) (.tmp 6) 22 rfl eltInt HM.out rfl (some ad) zs.length c rfl (HM.out.arg HR.out) (flatI _) (by simp; omega) ?_; intro A1 c1 w1 b1 hm)
    simp only [List.nil_append, List.length_nil, Nat.zero_add] at hm ⊢
    have HM1 := Lib.hid hm
    clear hm HM
    go_wp2
    go_ret
    exact (show Ms w (.dt (encInts zs) _ _ :: _) _ from HM1.out).post
theorem eltPt : Elt 65 88 (.agg #[.int .i64 0, .int .i64 0, .slice none 0 0]) 3 40 := elt_of (by kernel_rfl) (by kernel_rfl) rfl (by omega) (by omega)
set_option maxRecDepth 100000 in
set_option maxHeartbeats 3200000 in
theorem clonePs_d (v : Value) (ps : List Pt) (w : World) (h : RdC w w.heap.size (encPs ps) v) (hs : ps.length ≤ 1048576) : Calls Tryz.prog 73 #[v] w (RawPost 88 (ps.map encPt) w) := by
  obtain ⟨A, c, rfl⟩ := sliceP h
  have hq : ∀ (w : World) (A : Option Addr) (n c n' c' : Nat), (binOp .eql 65 (.slice A n c) (.slice none n' c')).run Tryz.prog w = .ok (.bool A.isNone) w := fun w A n c n' c' => Lib.run_eql_slice_nil w _ _ A n c n' c' Tryz.underlying65
  cases A with
  | none =>
    obtain rfl : ps = [] := by
      obtain ⟨A9, c9, hv, _, h9⟩ := h
      injection hv with e1 e2 e3
      by_cases h0 : 0 < ps.length
      · obtain ⟨ad, e4, _⟩ := h9 (by simpa using h0)
        rw [← e1] at e4
        cases e4
      · exact List.eq_nil_of_length_eq_zero (by omega)
    clear h
    go_enter Tryz.func73, Tryz.ntmps73
    go_wp2
    go_ret
    exact .inl ⟨rfl, rfl, rfl⟩
  | some ad =>
    have HR := Lib.hid h
    clear h
    have e0 : (ps.map encPt).length = ps.length := List.length_map _
    have E0 := Lib.hid e0
    clear e0
    have HM := Lib.hid (Ms.start w)
    replace HM := Lib.hid (HM.out.empty 88 3)
    go_enter Tryz.func73, Tryz.ntmps73
    go_wp2_with (at_builtin; refine wpList_raw (rs := ps.map encPt) rfl (.tmp 5) (.tmp 6) 65 rfl eltPt HM.out rfl (some ad) ps.length c rfl HR.out (fun r hr => by obtain ⟨q, _, rfl⟩ := List.mem_map.1 hr; exact ⟨rfl, fun d hd => by simp only [encPt, List.mem_cons, List.not_mem_nil, or_false] at hd; rcases hd with rfl | rfl | rfl <;> rfl⟩) (by rw [E0.out]; omega) ?_; intro g cap w1 b1 ys hcap hm hraw hcells)
    have HM1 := Lib.hid hm
    have HX := Lib.hid (And.intro hraw (And.intro hcells hcap))
    clear hm HM hraw hcells hcap
    go_wp2
    go_ret
    exact .inr ⟨g, cap, ys, by rw [E0.out]; rfl, by rw [E0.out]; exact HX.out.2.2, HM1.out.own (i := 0) rfl, HX.out.1, HX.out.2.1, HM1.out.bl⟩
set_option maxRecDepth 100000 in
set_option maxHeartbeats 3200000 in
theorem implCopyOp_d (v : Value) (ps : List Pt) (w : World) (h : RdC w w.heap.size (encPs ps) v) (hs : SmP ps) : Calls Tryz.prog 54 #[v] w (OwnPost (encPs ps) w) := by
  obtain ⟨A, c, rfl⟩ := sliceP h
  have hl : ps.length ≤ 1048576 := by have := hs.1; omega
  have HR := Lib.hid h
  clear h
  have HM := Lib.hid (Ms.start w)
  go_enter Tryz.func54, Tryz.ntmps54
  go_wp2_with fail
  refine (clonePs_d _ ps _ HR.out hl).mono ?_
  rintro e' W1 (⟨h0, rfl, rfl⟩ | ⟨g, cap, ys, rfl, hcap, o', hraw, hcells, b'⟩)
  · obtain rfl : ps = [] := List.map_eq_nil_iff.1 h0
    go_wp2
    refine wp_loop_rounds 1 ?_
    rw [rounds_succ]
    go_wp2
    go_ret
    exact (HM.out.nil 88 3).post
  · rw [show (ps.map encPt).length = ps.length from List.length_map _] at hcap ⊢
    have HW := Lib.hid hraw
    have HC := Lib.hid hcells
    clear hraw hcells
    obtain ⟨bp, hm⟩ := HM.out.got o' b'
    clear o' b'
    replace HM := Lib.hid hm
    clear hm
    go_wp2
    go_loopw [10] (fun i wr => ∃ (j : Nat) (bs : List Nat), j ≤ ps.length ∧ i = .int .i64 (j : Int) ∧ Ms w [.dt (.rows 88 3 ((ps.take j).map encPt)) (.slice (some ⟨g, 0, none⟩) j cap) bs] wr ∧ Raw wr g (j * 3) ys) (fun i _ => ps.length - (intOf i).toNat)
    case atStart => exact ⟨0, _, Nat.zero_le _, rfl, HM.out, by simpa using HW.out⟩
    case round =>
      obtain ⟨j, bs, hj, rfl, hm, hw⟩ := hrel
      clear HM HW
      have HM := Lib.hid hm
      have HW := Lib.hid hw
      clear hm hw
      by_cases hlt : j < ps.length
      · obtain ⟨p, hp⟩ : ∃ p, ps[j]? = some p := ⟨_, List.getElem?_eq_getElem hlt⟩
        obtain ⟨y, hy, hyl, hyk⟩ := HC.out j (encPt p) (by rw [List.getElem?_map, hp]; rfl)
        obtain ⟨_, _, rfl, rfl, _, _, rfl, rfl, v2, _, rfl, hr2, rfl⟩ := hy
        obtain ⟨A5, c5, rfl⟩ := sliceI hr2
        have x0 : wr.cell? ⟨g, j * 3, none⟩ = some (.int .i64 p.kind) := HW.out.cell (Nat.le_refl _) (hyk 0 _ rfl)
        have x1 : wr.cell? ⟨g, j * 3 + 1, none⟩ = some (.int .i64 p.n) := HW.out.cell (by omega) (hyk 1 _ rfl)
        have x2 : wr.cell? ⟨g, j * 3 + 2, none⟩ = some (.slice A5 p.signs.length c5) := HW.out.cell (by omega) (hyk 2 _ rfl)
        have HY := Lib.hid (show ys[j * 3]? = some (.int .i64 p.kind) ∧ ys[j * 3 + 1]? = some (.int .i64 p.n) from ⟨hyk 0 _ rfl, hyk 1 _ rfl⟩)
        have x3 : ys[j * 3 + 2]? = some (.slice A5 p.signs.length c5) := hyk 2 _ rfl
        have X3 := Lib.hid x3
        have HR2 := Lib.hid hr2
        have HT := Lib.hid (show (ps.take (j + 1)).map encPt = (ps.take j).map encPt ++ [[.int p.kind, .int p.n, encInts p.signs]] by rw [List.take_add_one, hp]; simp [encPt])
        have hsm := (show p.signs.length ≤ 1048576 from hs.all p (List.mem_of_getElem? hp))
        have hlj : j < cap := by omega
        have hlen : ((ps.take j).map encPt).length = j := by simp; omega
        have HLN := Lib.hid hlen
        clear hyk hyl hr2 x3 hp hlen
        have HW := Lib.hid (HW.out.past (alloc_below wr (.cells #[.int .i64 p.kind, .int .i64 p.n, .slice A5 p.signs.length c5] 88)))
        replace HM := Lib.hid (HM.out.new #[.int .i64 p.kind, .int .i64 p.n, .slice A5 p.signs.length c5] 88)
        go_wp2_with fail
        generalize (wr.alloc (.cells #[.int .i64 p.kind, .int .i64 p.n, .slice A5 p.signs.length c5] 88)) = W2 at HM HW ⊢
        refine (cloneI_d _ p.signs _ (HM.out.arg HR2.out) hsm).mono ?_
        rintro e' W3 ⟨v', rfl, o', b'⟩
        obtain ⟨A6, c6, rfl⟩ := sliceI o'.read
        have HW := Lib.hid (HW.out.past b')
        obtain ⟨b6, hm⟩ := HM.out.got o' b'
        clear o' b'
        replace HM := Lib.hid hm
        clear hm
        have y2 : W3.cell? ⟨g, j * 3 + 2, none⟩ = some (.slice A5 p.signs.length c5) := HW.out.cell (by omega) X3.out
        have f2 : W3.frozen? ⟨g, j * 3 + 2, none⟩ = false := HW.out.free
        clear x0 x1 x2
        have hm := HM.out.pk [2, 0, 1] (by decide) (by simp)
        simp only [low.pk, List.getElem?_cons_zero, List.getElem?_cons_succ] at hm
        replace HM := Lib.hid hm
        clear hm
        obtain ⟨b8, hm⟩ := HM.out.fill3 HLN.out.symm hlj HW.out HY.out.1 HY.out.2
        rw [← HT.out] at hm
        have HM8 := Lib.hid hm
        have HW8 := Lib.hid (HW.out.set (k' := (j + 1) * 3) (j * 3 + 2) (.slice A6 p.signs.length c6) (by omega) (by omega))
        clear hm HM HW HY X3 HT HR2
        go_wp2
        go_roundw
        case rel => exact ⟨j + 1, b8, by omega, by go_num, HM8.out.pick (ks := [0]) (by decide) rfl, HW8.out⟩
        case measure => simp [intOf]; omega
      · obtain rfl : j = ps.length := by omega
        have hm := HM.out
        rw [List.take_length] at hm
        have HM7 := Lib.hid hm
        clear hm HM
        go_wp2
        go_ret
        exact (show Ms w [.dt (encPs ps) _ _] _ from HM7.out).post
theorem eltPs : Elt 78 65 (.slice none 0 0) 1 24 := elt_of (by kernel_rfl) (by kernel_rfl) rfl (by omega) (by omega)
set_option maxRecDepth 100000 in
set_option maxHeartbeats 3200000 in
theorem implOpsOf_d (v : Value) (l : List En) (w : World) (h : RdC w w.heap.size (encEns l) v) (hs : SmEns l) : Calls Tryz.prog 50 #[v] w (OwnPost (encPss (l.map En.o)) w) := by
  obtain ⟨A, c, rfl⟩ := sliceEns h
  have hl := hs.len
  have HR := Lib.hid h
  clear h
  have HM := Lib.hid (Ms.start w)
  replace HM := Lib.hid (show Ms w [.dt (.rows 65 1 []) (.slice none 0 0) []] w from HM.out.nil 65 1)
  go_enter Tryz.func50, Tryz.ntmps50
  go_wp2
  go_loopw [3, 8] (fun ov i wr => ∃ (j : Nat) (A1 : Option Addr) (c1 : Nat) (bs : List Nat), j ≤ l.length ∧ i = .int .i64 (j : Int) ∧ ov = .slice A1 j c1 ∧ Ms w [.dt (.rows 65 1 (((l.take j).map En.o).map encPsL)) (.slice A1 j c1) bs] wr) (fun _ i _ => l.length - (intOf i).toNat)
  case atStart => exact ⟨0, _, _, _, Nat.zero_le _, rfl, rfl, HM.out⟩
  case round =>
    obtain ⟨j, A1, c1, bs, hj, rfl, rfl, hm⟩ := hrel
    clear HM
    have HM := Lib.hid hm
    clear hm
    by_cases hlt : j < l.length
    · obtain ⟨b, off, e, A5, c5, rfl, hbb, hp, y0, y1, y2, q2⟩ := atEns HR.out hlt
      have x0 := (HM.out.bl.cell (p := ⟨b, off + j * 3, none⟩) hbb).trans y0
      have x1 := (HM.out.bl.cell (p := ⟨b, off + j * 3 + 1, none⟩) hbb).trans y1
      have x2 := (HM.out.bl.cell (p := ⟨b, off + j * 3 + 2, none⟩) hbb).trans y2
      clear y0 y1 y2
      have hse := hs.at_ (List.mem_of_getElem? hp)
      have HT := Lib.hid (show ((l.take (j + 1)).map En.o).map encPsL = ((l.take j).map En.o).map encPsL ++ [[encPs e.o]] by rw [List.take_add_one, hp]; simp [encPsL])
      have HQ := Lib.hid q2
      clear hp q2
      replace HM := Lib.hid (HM.out.new #[.int .i64 e.client, .int .i64 e.seq, .slice A5 e.o.length c5] 67)
      go_wp2_with fail
      obtain ⟨W1, hW, hm⟩ := HM.out.name
      rw [← hW]
      replace HM := Lib.hid hm
      clear hm hW
      refine (implCopyOp_d _ e.o _ (HM.out.arg HQ.out) hse.o).mono ?_
      rintro e' W2 ⟨v', rfl, o', b'⟩
      obtain ⟨A6, c6, rfl⟩ := sliceP o'.read
      obtain ⟨b6, hm⟩ := HM.out.got o' b'
      clear o' b'
      replace HM := Lib.hid hm
      clear hm
      clear x0 x1 x2
      replace HM := Lib.hid (HM.out.new #[.slice A6 e.o.length c6] 65)
      have hm := HM.out.pk [1, 3, 0, 2] (by decide) (by simp)
      simp only [low.pk, List.getElem?_cons_zero, List.getElem?_cons_succ] at hm
      replace HM := Lib.hid hm
      clear hm
      replace HM := Lib.hid (show Ms w [.dt (.agg [encPs e.o]) (.agg ([.slice A6 e.o.length c6] : List Value).toArray) (b6 ++ []), .dt (.rows 65 1 (((l.take j).map En.o).map encPsL)) (.slice A1 j c1) bs, .bx W2.heap.size (.cells #[.slice A6 e.o.length c6] 65 (0, 0)), .bx wr.heap.size (.cells #[.int .i64 e.client, .int .i64 e.seq, .slice A5 e.o.length c5] 67 (0, 0))] (W2.alloc (.cells #[.slice A6 e.o.length c6] 65)) from HM.out.pk0.pkO)
      have hm := HM.out.pk [1, 0, 2, 3] (by decide) (by simp)
      simp only [low.pk, List.getElem?_cons_zero, List.getElem?_cons_succ] at hm
      replace HM := Lib.hid hm
      clear hm
      go_wp2_with (at_builtin; refine wpList_ms1 rfl (.tmp 12) (.tmp 16) 78 rfl eltPs HM.out rfl (by simp; omega) W2.heap.size _ rfl (HM.out.at_ (i := 2) rfl) rfl (by simp [Value.oneCell']) ?_; intro A7 c7 w7 b7 hm)
      have e1 : (((l.take j).map En.o).map encPsL).length = j := by simp; omega
      rw [e1] at hm
      try rw [e1]
      rw [HT.out.symm] at hm
      have HM7 := Lib.hid hm
      clear hm e1 HM
      go_wp2
      go_roundw
      case rel => exact ⟨j + 1, A7, c7, b7, by omega, by go_num, rfl, HM7.out.pick (ks := [0]) (by decide) rfl⟩
      case measure => simp [intOf]; omega
    · obtain rfl : j = l.length := by omega
      have hm := HM.out
      rw [List.take_length] at hm
      have HM7 := Lib.hid hm
      clear hm HM
      go_wp2
      go_ret
      exact (show Ms w [.dt (encPss (l.map En.o)) _ _] _ from HM7.out).post
end Go.Proofs.YtgfbcpcfdlnbhabGreat.low


/-
  Applying: the lengths; a row that is filled from the front by copies.
-/
namespace Go.Proofs.YtgfbcpcfdlnbhabGreat.low
open Go.RowKit
set_option linter.unusedVariables false

theorem foldA_len {t : List Int} {ps : List Pt} (h : fitsB ps t = true) : ∀ k, k ≤ ps.length → ((foldA t (ps.take k)).2.length : Int) = sumOf keepOf (ps.take k) + sumOf putOf (ps.take k)
  | 0, _ => by simp [foldA, sumOf]
  | k + 1, hk => by
    obtain ⟨p, hp⟩ := idx_some (l := ps) (i := k) (by omega)
    have i2 := foldA_len h k (by omega)
    have hok := (fits_of h).1
    have hp' := of_okPt (okPs_at hp hok)
    have hin := foldA_in h hp
    rw [foldA_snoc hp, sumOf_snoc hp, sumOf_snoc hp]
    generalize foldA t (ps.take k) = s at *
    generalize sumOf keepOf (ps.take k) = q1 at *
    generalize sumOf putOf (ps.take k) = q2 at *
    unfold stepA keepOf putOf
    rcases (show p.kind = 1 ∨ p.kind = 2 ∨ p.kind = 3 by omega) with e | e | e
    · have hin := hin (.inl e)
      simp only [e, if_true]
      rw [List.length_append, List.length_take, List.length_drop]
      simp
      omega
    · simp only [e]
      simp
      omega
    · simp only [e]
      simp
      omega
theorem foldA_upto {t : List Int} {ps : List Pt} {n : Nat} (h : fitsB ps t = true) (hn : sumK ps + sumP ps = (n : Int)) (k : Nat) (hk : k ≤ ps.length) : (foldA t (ps.take k)).2.length ≤ n := by
  have h1 := foldA_len h k hk
  obtain ⟨hok, _, _, _, _, _, ho⟩ := fits_of h
  have hp : partsB ps = true := by unfold okOp at ho; rw [Bool.and_eq_true, Bool.and_eq_true] at ho; exact ho.1.1
  obtain ⟨t1, t2, t3⟩ := sum_t hp
  rw [t1, t2] at hn
  have a1 := sumOf_take (f := keepOf) (ps := ps) (fun q hq => (ok_bd (okPs_mem' hok hq)).1.1) k
  have a2 := sumOf_take (f := putOf) (ps := ps) (fun q hq => (ok_bd (okPs_mem' hok hq)).2.1.1) k
  omega
theorem foldA_all {t : List Int} {ps : List Pt} {n : Nat} (h : fitsB ps t = true) (hn : sumK ps + sumP ps = (n : Int)) : (foldA t ps).2.length = n := by
  have h1 := foldA_len h ps.length (Nat.le_refl _)
  rw [List.take_length] at h1
  obtain ⟨hok, _, _, _, _, _, ho⟩ := fits_of h
  have hp : partsB ps = true := by unfold okOp at ho; rw [Bool.and_eq_true, Bool.and_eq_true] at ho; exact ho.1.1
  obtain ⟨t1, t2, t3⟩ := sum_t hp
  rw [t1, t2] at hn
  omega
theorem fits_n {t : List Int} {ps : List Pt} (h : fitsB ps t = true) : ∃ n : Nat, sumK ps + sumP ps = (n : Int) ∧ n ≤ 200 := by
  obtain ⟨hok, _, _, h4, _, _, ho⟩ := fits_of h
  have hp : partsB ps = true := by unfold okOp at ho; rw [Bool.and_eq_true, Bool.and_eq_true] at ho; exact ho.1.1
  obtain ⟨t1, t2, t3⟩ := sum_t hp
  have h1 := foldA_len h ps.length (Nat.le_refl _)
  rw [List.take_length] at h1
  exact ⟨(foldA t ps).2.length, by rw [t1, t2]; omega, by omega⟩
/-- a row of n cells of which the first are filled -/
def fillR (n : Nat) (out : List Int) : List Value := out.map (Value.int .i64) ++ List.replicate (n - out.length) (Value.int .i64 0)
theorem fill_len (n : Nat) (out : List Int) (h : out.length ≤ n) : (fillR n out).length = n := by unfold fillR; simp; omega
theorem fill_splice (n : Nat) (out ys : List Int) (h : out.length + ys.length ≤ n) : splice (fillR n out) out.length (ys.map (Value.int .i64)) = fillR n (out ++ ys) := by
  unfold splice fillR
  have e1 : (out.map (Value.int .i64) ++ List.replicate (n - out.length) (Value.int .i64 0)).take out.length = out.map (Value.int .i64) := by
    rw [List.take_append_of_le_length (by simp), List.take_of_length_le (by simp)]
  have e2 : (out.map (Value.int .i64) ++ List.replicate (n - out.length) (Value.int .i64 0)).drop (out.length + (ys.map (Value.int .i64)).length) = List.replicate (n - (out ++ ys).length) (Value.int .i64 0) := by
    rw [List.drop_append, List.drop_eq_nil_of_le (by simp), List.nil_append, List.drop_replicate]
    congr 1
    simp
    omega
  rw [e1, e2, List.map_append, List.append_assoc]
theorem fill_all (n : Nat) (out : List Int) (h : out.length = n) : fillR n out = out.map (Value.int .i64) := by
  unfold fillR
  rw [h]
  simp
theorem own_full {w : World} {base r n : Nat} {e : TypeId} {xs : List Value} (h : w.ownsRow base e 1 (.slice (some ⟨r, 0, none⟩) n n) n xs) : w.heap[r]? = some (.cells xs.toArray e (0, 0)) ∧ base ≤ r ∧ xs.length = n := by
  have hl := h.1
  rcases h.2 with ⟨h1, _⟩ | ⟨g, cap, cur, hv, hge, hh, h4, h5, h6, h7⟩
  · cases h1
  · injection hv with q1 q2 q3
    injection q1 with q1
    injection q1 with q1
    subst q1
    subst q3
    have : cur = xs.toArray := by
      rw [← h7, List.take_of_length_le (by simp; omega)]
    subst this
    exact ⟨hh, hge, by simpa using hl⟩
theorem full_own {w : World} {base r n : Nat} {e : TypeId} {xs : List Value} (h : w.heap[r]? = some (.cells xs.toArray e (0, 0))) (hb : base ≤ r) (hl : xs.length = n) (hn : n ≤ 4294967296) : w.ownsRow base e 1 (.slice (some ⟨r, 0, none⟩) n n) n xs := by
  refine ⟨by simpa using hl, .inr ⟨r, n, xs.toArray, rfl, hb, h, Nat.le_refl _, by unfold maxLen; omega, by simp [hl], ?_⟩⟩
  rw [List.take_of_length_le (by simp [hl])]
end Go.Proofs.YtgfbcpcfdlnbhabGreat.low

