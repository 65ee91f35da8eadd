/-
  Texts that the proofs over this seat rest on, one behind the other (3 of 4).
-/
import Derived.Test.YtninppjomdhnmaaM2
import Derived.Deep.RegionHeld
import Derived.Test.YtninppjomdhnmaaM1
import Derived.Deep.AppendLies

/-
  Short words for a walk through a region that draws its order: an operation taken first, one that is passed over, one that alone may come up.
-/
namespace Go.Proofs.Ytninppjomdhnmaa.low
open Go.RowKit
set_option linter.unusedVariables false
section
variable {P : Program} {ops : Array Oper} {Q : Exit → Act → World → Prop} {md : Region.Mode} {S : World → Prop} {fuel : Nat} {listed : Array Bool} {a : Act} {w : World}
theorem tk {v : Value} (i s : Nat) {o : Op} {t : TypeId} {p : String} {af : Array Edge} {gd : Option (Nat × Bool)} (hi : ops[i]? = some ⟨some s, o, t, p, af, gd⟩) (hy : ∀ w, S w → (execOp a.eval ⟨some s, o, t, p, af, gd⟩).run P w = .ok (.value v) w) (hS : S w)
    (h : wpAnyH P md ops Q S fuel (listed.setIfInBounds i true) (a.put (some s) v) w) (hs : Region.noSelect ops = true := by kernel_rfl) (hf : Region.free md ops listed i = true := by kernel_rfl) (hr : (Region.ready md ops listed).contains i = true := by kernel_rfl)
    (hq : ∀ c a w, Q (.panic c) (a.put (some s) v) w → Q (.panic c) a w := by exact fun _ _ _ h => h) (hw : Region.wanted ⟨some s, o, t, p, af, gd⟩ (yielded ops a.tmps) = true := by rfl) : wpAnyH P md ops Q S (fuel + 1) listed a w :=
  wpAnyH_take hi hs hf hr hq (.inl ⟨hw, hy⟩) hS h
theorem tu (i s : Nat) {o : Op} {t : TypeId} {p : String} {af : Array Edge} {gd : Option (Nat × Bool)} (hi : ops[i]? = some ⟨some s, o, t, p, af, gd⟩) (hS : S w)
    (h : wpAnyH P md ops Q S fuel (listed.setIfInBounds i true) (a.put (some s) undef) w) (hs : Region.noSelect ops = true := by kernel_rfl) (hf : Region.free md ops listed i = true := by kernel_rfl) (hr : (Region.ready md ops listed).contains i = true := by kernel_rfl)
    (hq : ∀ c a w, Q (.panic c) (a.put (some s) undef) w → Q (.panic c) a w := by exact fun _ _ _ h => h) (hw : Region.wanted ⟨some s, o, t, p, af, gd⟩ (yielded ops a.tmps) = false := by rfl) : wpAnyH P md ops Q S (fuel + 1) listed a w :=
  wpAnyH_take hi hs hf hr hq (.inr ⟨hw, rfl⟩) hS h
theorem r1 (i : Nat) (d : Option Nat) {o : Op} {t : TypeId} {p : String} {af : Array Edge} {gd : Option (Nat × Bool)} (hi : ops[i]? = some ⟨d, o, t, p, af, gd⟩)
    (h : ∀ K' : Act → World → Prop, Shut (∀ a w, S w → (S w → wpAnyH P md ops Q S fuel (listed.setIfInBounds i true) a w) → K' a w) → if Region.wanted ⟨d, o, t, p, af, gd⟩ (yielded ops a.tmps) = true then Oper.wp P ⟨d, o, t, p, af, gd⟩ a w K' Q else K' (a.put d undef) w)
    (hr : Region.ready md ops listed = [i] := by kernel_rfl) : wpAnyH P md ops Q S (fuel + 1) listed a w := wpAnyH_ready hr (by simp) (AllReadyH.cons hi h AllReadyH.nil)
theorem pa {α : Type} {l : List α} {i : Nat} {x : α} : l.toArray.setIfInBounds i x = (l.set i x).toArray := List.setIfInBounds_toArray ..
theorem pb {α : Type} {l : List α} {x y : α} : (y :: l).set 0 x = x :: l := rfl
theorem gz {α : Type} {l : List α} {x : α} : (x :: l)[0]? = some x := rfl
theorem gs {α : Type} {l : List α} {x : α} {i : Nat} : (x :: l)[i + 1]? = l[i]? := rfl
theorem pc {α : Type} {l : List α} {x y : α} {i : Nat} : (y :: l).set (i + 1) x = y :: l.set i x := rfl
end
section
variable {w0 W : World} {L : List It}
def pk (L : List It) : List Nat → List It
  | [] => []
  | k :: ks => match L[k]? with | some x => x :: pk L ks | none => pk L ks
theorem pk_ok {L : List It} : ∀ {ks : List Nat}, (∀ k ∈ ks, k < L.length) → ks.map (fun k => L[k]?) = (pk L ks).map some
  | [], _ => rfl
  | k :: ks, h => by
    have hk := h k (by simp)
    rw [pk, List.getElem?_eq_getElem hk]
    simp only [List.map_cons, List.getElem?_eq_getElem hk]
    rw [pk_ok (fun q hq => h q (by simp [hq]))]
theorem Ms.pk (h : Ms w0 L W) (ks : List Nat) (hn : ks.Nodup) (hl : ∀ k ∈ ks, k < L.length) : Ms w0 (low.pk L ks) W := h.pick hn (pk_ok hl)
theorem pk_nil {L : List It} : low.pk L [] = [] := rfl
theorem pk_cons {L : List It} {k : Nat} {ks : List Nat} {x : It} (h : L[k]? = some x) : low.pk L (k :: ks) = x :: low.pk L ks := by rw [low.pk, h]
theorem Ms.c1 {g : Nat} {T : TypeId} {a : Value} (h : Ms w0 L W) (i : Nat) (hi : L[i]? = some (.bx g (.cells #[a] T (0, 0)))) : W.cell? ⟨g, 0, none⟩ = some a := h.cell (j := 0) hi rfl
theorem Ms.f1 {g : Nat} {T : TypeId} {a : Value} (h : Ms w0 L W) (i : Nat) (hi : L[i]? = some (.bx g (.cells #[a] T (0, 0)))) : W.frozen? ⟨g, 0, none⟩ = false := h.free (j := 0) hi
theorem Ms.c2 {g : Nat} {T : TypeId} {a b : Value} (h : Ms w0 L W) (i : Nat) (hi : L[i]? = some (.bx g (.cells #[a, b] T (0, 0)))) : W.cell? ⟨g, 0, none⟩ = some a ∧ W.cell? ⟨g, 1, none⟩ = some b := ⟨h.cell (j := 0) hi rfl, h.cell (j := 1) hi rfl⟩
theorem Ms.f2 {g : Nat} {T : TypeId} {a b : Value} (h : Ms w0 L W) (i : Nat) (hi : L[i]? = some (.bx g (.cells #[a, b] T (0, 0)))) : W.frozen? ⟨g, 0, none⟩ = false ∧ W.frozen? ⟨g, 1, none⟩ = false := ⟨h.free (j := 0) hi, h.free (j := 1) hi⟩
theorem Ms.c3 {g : Nat} {T : TypeId} {a b c : Value} (h : Ms w0 L W) (i : Nat) (hi : L[i]? = some (.bx g (.cells #[a, b, c] T (0, 0)))) : W.cell? ⟨g, 0, none⟩ = some a ∧ W.cell? ⟨g, 1, none⟩ = some b ∧ W.cell? ⟨g, 2, none⟩ = some c := ⟨h.cell (j := 0) hi rfl, h.cell (j := 1) hi rfl, h.cell (j := 2) hi rfl⟩
theorem Ms.f3 {g : Nat} {T : TypeId} {a b c : Value} (h : Ms w0 L W) (i : Nat) (hi : L[i]? = some (.bx g (.cells #[a, b, c] T (0, 0)))) : W.frozen? ⟨g, 0, none⟩ = false ∧ W.frozen? ⟨g, 1, none⟩ = false ∧ W.frozen? ⟨g, 2, none⟩ = false := ⟨h.free (j := 0) hi, h.free (j := 1) hi, h.free (j := 2) hi⟩
theorem Ms.c4 {g : Nat} {T : TypeId} {a b c d : Value} (h : Ms w0 L W) (i : Nat) (hi : L[i]? = some (.bx g (.cells #[a, b, c, d] T (0, 0)))) : W.cell? ⟨g, 0, none⟩ = some a ∧ W.cell? ⟨g, 1, none⟩ = some b ∧ W.cell? ⟨g, 2, none⟩ = some c ∧ W.cell? ⟨g, 3, none⟩ = some d := ⟨h.cell (j := 0) hi rfl, h.cell (j := 1) hi rfl, h.cell (j := 2) hi rfl, h.cell (j := 3) hi rfl⟩
theorem Ms.f4 {g : Nat} {T : TypeId} {a b c d : Value} (h : Ms w0 L W) (i : Nat) (hi : L[i]? = some (.bx g (.cells #[a, b, c, d] T (0, 0)))) : W.frozen? ⟨g, 0, none⟩ = false ∧ W.frozen? ⟨g, 1, none⟩ = false ∧ W.frozen? ⟨g, 2, none⟩ = false ∧ W.frozen? ⟨g, 3, none⟩ = false := ⟨h.free (j := 0) hi, h.free (j := 1) hi, h.free (j := 2) hi, h.free (j := 3) hi⟩
theorem Ms.c5 {g : Nat} {T : TypeId} {a b c d e : Value} (h : Ms w0 L W) (i : Nat) (hi : L[i]? = some (.bx g (.cells #[a, b, c, d, e] T (0, 0)))) : W.cell? ⟨g, 0, none⟩ = some a ∧ W.cell? ⟨g, 1, none⟩ = some b ∧ W.cell? ⟨g, 2, none⟩ = some c ∧ W.cell? ⟨g, 3, none⟩ = some d ∧ W.cell? ⟨g, 4, none⟩ = some e := ⟨h.cell (j := 0) hi rfl, h.cell (j := 1) hi rfl, h.cell (j := 2) hi rfl, h.cell (j := 3) hi rfl, h.cell (j := 4) hi rfl⟩
theorem Ms.f5 {g : Nat} {T : TypeId} {a b c d e : Value} (h : Ms w0 L W) (i : Nat) (hi : L[i]? = some (.bx g (.cells #[a, b, c, d, e] T (0, 0)))) : W.frozen? ⟨g, 0, none⟩ = false ∧ W.frozen? ⟨g, 1, none⟩ = false ∧ W.frozen? ⟨g, 2, none⟩ = false ∧ W.frozen? ⟨g, 3, none⟩ = false ∧ W.frozen? ⟨g, 4, none⟩ = false := ⟨h.free (j := 0) hi, h.free (j := 1) hi, h.free (j := 2) hi, h.free (j := 3) hi, h.free (j := 4) hi⟩
theorem Ms.c6 {g : Nat} {T : TypeId} {a b c d e f : Value} (h : Ms w0 L W) (i : Nat) (hi : L[i]? = some (.bx g (.cells #[a, b, c, d, e, f] T (0, 0)))) : W.cell? ⟨g, 0, none⟩ = some a ∧ W.cell? ⟨g, 1, none⟩ = some b ∧ W.cell? ⟨g, 2, none⟩ = some c ∧ W.cell? ⟨g, 3, none⟩ = some d ∧ W.cell? ⟨g, 4, none⟩ = some e ∧ W.cell? ⟨g, 5, none⟩ = some f := ⟨h.cell (j := 0) hi rfl, h.cell (j := 1) hi rfl, h.cell (j := 2) hi rfl, h.cell (j := 3) hi rfl, h.cell (j := 4) hi rfl, h.cell (j := 5) hi rfl⟩
theorem Ms.f6 {g : Nat} {T : TypeId} {a b c d e f : Value} (h : Ms w0 L W) (i : Nat) (hi : L[i]? = some (.bx g (.cells #[a, b, c, d, e, f] T (0, 0)))) : W.frozen? ⟨g, 0, none⟩ = false ∧ W.frozen? ⟨g, 1, none⟩ = false ∧ W.frozen? ⟨g, 2, none⟩ = false ∧ W.frozen? ⟨g, 3, none⟩ = false ∧ W.frozen? ⟨g, 4, none⟩ = false ∧ W.frozen? ⟨g, 5, none⟩ = false := ⟨h.free (j := 0) hi, h.free (j := 1) hi, h.free (j := 2) hi, h.free (j := 3) hi, h.free (j := 4) hi, h.free (j := 5) hi⟩
theorem Ms.apart (h : Ms w0 L W) {i j : Nat} {x y : It} (hi : L[i]? = some x) (hj : L[j]? = some y) (hij : ¬ i = j) {q : Nat} (hq : q ∈ x.bs) (hq' : q ∈ y.bs) : False := by
  have key : ∀ (L : List It) (i j : Nat) (x y : It), i < j → (L.flatMap It.bs).Nodup → L[i]? = some x → L[j]? = some y → q ∈ x.bs → q ∈ y.bs → False := by
    intro L
    induction L with
    | nil => intro i j x y _ _ hi; simp at hi
    | cons z L ih =>
      intro i j x y hij hnd hi hj hq hq'
      rw [List.flatMap_cons, List.nodup_append] at hnd
      cases j with
      | zero => omega
      | succ j =>
        simp only [List.getElem?_cons_succ] at hj
        cases i with
        | zero =>
          simp only [List.getElem?_cons_zero, Option.some.injEq] at hi
          subst hi
          exact hnd.2.2 q hq q (List.mem_flatMap.2 ⟨_, List.mem_of_getElem? hj, hq'⟩) rfl
        | succ i =>
          simp only [List.getElem?_cons_succ] at hi
          exact ih i j x y (by omega) hnd.2.1 hi hj hq hq'
  rcases Nat.lt_or_gt_of_ne hij with hlt | hlt
  · exact key L i j x y hlt h.nd hi hj hq hq'
  · exact key L j i y x hlt h.nd hj hi hq' hq
/-- a slice's own block is no box -/
theorem Ms.neD (h : Ms w0 L W) {i j g n c sz : Nat} {e : TypeId} {ds : List (List Dat)} {ad : Addr} {b : List Nat} {o : Obj} (hi : L[i]? = some (.dt (.rows e sz ds) (.slice (some ad) n c) b)) (hj : L[j]? = some (.bx g o)) (hij : ¬ i = j) : ¬ ad.block = g := fun e => by
  obtain ⟨xs, cs, _, _, hb⟩ : OwC W (.rows _ sz ds) (.slice (some ad) n c) b := h.at_ hi
  exact h.apart hi hj hij (q := g) (by subst e; rw [show (It.dt (.rows _ sz ds) (.slice (some ad) n c) b).bs = b from rfl, hb]; simp [Value.ownBlock]) (by simp [It.bs])
/-- the world at hand gets a name -/
theorem Ms.name (h : Ms w0 L W) : ∃ W', W' = W ∧ Ms w0 L W' := ⟨W, rfl, h⟩
end
end Go.Proofs.Ytninppjomdhnmaa.low


/-
  A ring in memory taken apart and put together, in the words of Ms.
-/
namespace Go.Proofs.Ytninppjomdhnmaa.low
open Go.RowKit
set_option linter.unusedVariables false

section
variable {w0 W W' : World} {L L' : List It} {x y : It}
theorem Ms.joinH (h : Ms w0 L W) (h' : Ms W L' W') : Ms w0 (L' ++ L) W' := by
  refine ⟨fun q hq => ?_, ?_, fun q hq => ?_, h.bl.trans (h'.bl.mono h.size)⟩
  · rcases List.mem_append.1 hq with hq | hq
    · exact h'.ok q hq
    · exact It.keep (h.ok q hq) (fun b hb => h'.bl.block b (h.blt b (List.mem_flatMap.2 ⟨q, hq, hb⟩)))
  · rw [List.flatMap_append, List.nodup_append]
    refine ⟨h'.nd, h.nd, fun a ha b hb e => ?_⟩
    subst e
    have h1 := h'.rg a ha
    have h2 := h.blt a hb
    omega
  · rw [List.flatMap_append] at hq
    rcases List.mem_append.1 hq with hq | hq
    · exact Nat.le_trans h.size (h'.rg q hq)
    · exact h.rg q hq
end
theorem Ms.unRi9 {w0 W : World} {L : List It} {x : Ri} {v : Value} {b : List Nat} (h : Ms w0 (.dt (datRi x) (.agg #[.int .i64 x.cap, .int .i64 x.next, .bool x.out, v]) b :: L) W) : ∃ c, Ms w0 (.dt (encEns x.list) v c :: L) W := by
  obtain ⟨d1, d2, h1⟩ := (show Ms w0 (.dt (.agg (encRi x)) (.agg ([.int .i64 x.cap, .int .i64 x.next, .bool x.out, v] : List Value).toArray) b :: L) W from h).un
  obtain ⟨d3, d4, h2⟩ := h1.tail.un
  obtain ⟨d5, d6, h3⟩ := h2.tail.un
  obtain ⟨d7, d8, h4⟩ := h3.tail.un
  exact ⟨d7, (h4.perm (.swap _ _ _)).tail⟩
end Go.Proofs.Ytninppjomdhnmaa.low


/-
  The struct type Sub of the laws: its words, and the laws' own functions on it and on slices of it. Written by mkty.py.
-/
namespace Go.Proofs.Ytninppjomdhnmaa.low
open Go.RowKit
set_option linter.unusedVariables false

structure Su where
  id : Int
  doc : ByteArray
  cap : Int
  next : Int
  out : Bool
  list : List En
def encSu (x : Su) : List Dat := [.int x.id, .str x.doc, .int x.cap, .int x.next, .bool x.out, encEns x.list]
def datSu (x : Su) : Dat := .agg (encSu x)
def encSus (l : List Su) : Dat := .rows 61 6 (l.map encSu)
def totSu (x : Su) : Nat := x.doc.size + totEns x.list
def LimSu (x : Su) : Prop := x.doc.size ≤ maxLen ∧ LimEns x.list
def SmSu (x : Su) : Prop := totSu x ≤ 1048576
def totSus (l : List Su) : Nat := l.length + sumN totSu l
def LimSus (l : List Su) : Prop := l.length ≤ maxLen ∧ ∀ x ∈ l, LimSu x
def SmSus (l : List Su) : Prop := totSus l ≤ 1048576
theorem smSus_of {l : List Su} (h : totSus l ≤ 1048576) : SmSus l := h
theorem SmSus.len {l : List Su} (h : SmSus l) : l.length ≤ 1048576 := by unfold SmSus totSus at h; omega
theorem SmSus.at_ {l : List Su} (h : SmSus l) {x : Su} (hx : x ∈ l) : SmSu x := by
  unfold SmSus totSus at h
  have := sumN_at (f := totSu) hx
  unfold SmSu
  omega
theorem SmSu.list {x : Su} (h : SmSu x) : SmEns x.list := smEns_of (by unfold SmSu totSu at h; omega)
theorem aggSu {w : World} {B : Nat} {x : Su} {v : Value} (h : RdC w B (datSu x) v) : ∃ (A5 : Option Addr) (c5 : Nat), v = .agg #[.int .i64 x.id, .string x.doc, .int .i64 x.cap, .int .i64 x.next, .bool x.out, .slice A5 x.list.length c5] ∧ RdC w B (encEns x.list) (.slice A5 x.list.length c5) := by
  obtain ⟨vs, rfl, v0, _, rfl, rfl, v1, _, rfl, rfl, v2, _, rfl, rfl, v3, _, rfl, rfl, v4, _, rfl, rfl, v5, _, rfl, r5, rfl⟩ := h
  obtain ⟨A5, c5, rfl⟩ := sliceEns r5
  exact ⟨A5, c5, rfl, r5⟩
theorem rdSu {w : World} {B : Nat} (x : Su) {v5 : Value} (r5 : RdC w B (encEns x.list) v5) : RdC w B (datSu x) (.agg #[.int .i64 x.id, .string x.doc, .int .i64 x.cap, .int .i64 x.next, .bool x.out, v5]) := ⟨_, rfl, _, _, rfl, rfl, _, _, rfl, rfl, _, _, rfl, rfl, _, _, rfl, rfl, _, _, rfl, rfl, _, _, rfl, r5, rfl⟩
theorem sliceSus {w : World} {B : Nat} {l : List Su} {v : Value} (h : RdC w B (encSus l) v) : ∃ A c, v = .slice A l.length c := by
  obtain ⟨A, c, hv, _⟩ := RdC.len h
  exact ⟨A, c, by simpa using hv⟩
theorem atSus {w : World} {B : Nat} {A : Option Addr} {m c i : Nat} {l : List Su} (h : RdC w B (encSus l) (.slice A m c)) (hi : i < l.length) : ∃ (b off : Nat) (x : Su) (A5 : Option Addr) (c5 : Nat), A = some ⟨b, off, none⟩ ∧ b < B ∧ l[i]? = some x ∧ w.cell? ⟨b, off + i * 6, none⟩ = some (.int .i64 x.id) ∧ w.cell? ⟨b, off + i * 6 + 1, none⟩ = some (.string x.doc) ∧ w.cell? ⟨b, off + i * 6 + 2, none⟩ = some (.int .i64 x.cap) ∧ w.cell? ⟨b, off + i * 6 + 3, none⟩ = some (.int .i64 x.next) ∧ w.cell? ⟨b, off + i * 6 + 4, none⟩ = some (.bool x.out) ∧ w.cell? ⟨b, off + i * 6 + 5, none⟩ = some (.slice A5 x.list.length c5) ∧ RdC w B (encEns x.list) (.slice A5 x.list.length c5) := by
  obtain ⟨ad, r, hA, hb, hs, hr, hl⟩ := RdC.at_ (ds := l.map encSu) h (by simpa using hi)
  rw [List.getElem?_map, List.getElem?_eq_getElem hi] at hr
  obtain rfl : encSu l[i] = r := by simpa using hr
  obtain ⟨b, off, spot⟩ := ad
  obtain rfl : spot = none := by
    rcases hs with hs | hs
    · cases hs
    · exact hs
  obtain ⟨⟨v0, x0, rfl⟩, ⟨v1, x1, rfl⟩, ⟨v2, x2, rfl⟩, ⟨v3, x3, rfl⟩, ⟨v4, x4, rfl⟩, ⟨v5, x5, r5⟩, _⟩ := hl
  obtain ⟨A5, c5, rfl⟩ := sliceEns r5
  rw [add_at] at x0 x1 x2 x3 x4 x5
  exact ⟨b, off, l[i], A5, c5, hA, hb, List.getElem?_eq_getElem hi, by simpa [Nat.add_assoc] using x0, by simpa [Nat.add_assoc] using x1, by simpa [Nat.add_assoc] using x2, by simpa [Nat.add_assoc] using x3, by simpa [Nat.add_assoc] using x4, by simpa [Nat.add_assoc] using x5, r5⟩
theorem cntSu_l (x : Su) : cntL (encSu x) = 1 + 1 + 1 + 1 + 1 + cntC (encEns x.list) := by
  show cntL [.int x.id, .str x.doc, .int x.cap, .int x.next, .bool x.out, encEns x.list] = _
  simp only [cntL, cntC]
  try omega
theorem cntSu_row (x : Su) : cntL (encSu x) ≤ 5 * (1 + totSu x) := by
  rw [cntSu_l]
  unfold totSu
  have h5 := cntEns_le x.list
  omega
theorem cntSus_le : ∀ l : List Su, cntC (encSus l) ≤ 5 * totSus l
  | [] => by simp [encSus, cntC, cntR]
  | x :: l => by
    have ih := cntSus_le l
    have h1 := cntSu_row x
    have e1 : cntC (encSus (x :: l)) = cntL (encSu x) + cntC (encSus l) := rfl
    rw [e1]
    unfold totSus at ih ⊢
    rw [sumN_cons, List.length_cons]
    omega
theorem cntSus {l : List Su} (h : SmSus l) : cntC (encSus l) ≤ 5242880 := by have := cntSus_le l; unfold SmSus at h; omega
theorem cntSu_a (x : Su) : cntC (datSu x) = cntC (encEns x.list) := by
  show cntA [.int x.id, .str x.doc, .int x.cap, .int x.next, .bool x.out, encEns x.list] = _
  simp only [cntA, cntF, encEns, cntC]
  try omega
theorem mkSu_a (k : Int) (x : Su) : mkC k (datSu x) = .agg [.int x.id, .str x.doc, .int x.cap, .int x.next, .bool x.out, mkC (k) (encEns x.list)] := by
  show Dat.agg (mkA k [.int x.id, .str x.doc, .int x.cap, .int x.next, .bool x.out, encEns x.list]) = _
  simp [mkA, mkF, cntF, mkC, encEns]
theorem cntSu {x : Su} (h : SmSu x) : cntC (datSu x) ≤ 5242880 := by
  rw [cntSu_a]
  unfold SmSu totSu at h
  have h5 := cntEns_le x.list
  omega
def ringSu (x : Su) : Ri := ⟨x.cap, x.next, x.out, x.list⟩
theorem aggRSu {w : World} {B : Nat} {x : Su} {v : Value} (h : RdC w B (datRi (ringSu x)) v) : ∃ (A : Option Addr) (c : Nat), v = .agg #[.int .i64 x.cap, .int .i64 x.next, .bool x.out, .slice A x.list.length c] := by
  obtain ⟨A, c, rfl, -⟩ := aggRi h
  exact ⟨A, c, rfl⟩
theorem szRSu (v : Value) (x : Su) (left : Int) (w : World) (h : RdC w w.heap.size (datRi (ringSu x)) v) (h0 : 0 ≤ left) (h1 : left ≤ 1048576) (hl : LimEns x.list) : Calls Try.prog 50 #[v, .int .i64 left] w (Sized (totEns x.list) left w) := szRi v (ringSu x) left w h h0 h1 hl

set_option maxRecDepth 100000 in
set_option maxHeartbeats 1600000 in
theorem szSu (v : Value) (x : Su) (left : Int) (w : World) (h : RdC w w.heap.size (datSu x) v) (h0 : 0 ≤ left) (h1 : left ≤ 1048576) (hl : LimSu x) : Calls Try.prog 31 #[v, .int .i64 left] w (Sized (totSu x) left w) := by
  obtain ⟨A5, c5, rfl, r5⟩ := aggSu h
  have b0 := alloc_below w (.cells #[.int .i64 x.id, .string x.doc, .int .i64 x.cap, .int .i64 x.next, .bool x.out, .slice A5 x.list.length c5] 77)
  have hlt : w.heap.size < (w.alloc (.cells #[.int .i64 x.id, .string x.doc, .int .i64 x.cap, .int .i64 x.next, .bool x.out, .slice A5 x.list.length c5] 77)).heap.size := by rw [World.size_alloc]; omega
  have D0 : Below (w.alloc (.cells #[.int .i64 x.id, .string x.doc, .int .i64 x.cap, .int .i64 x.next, .bool x.out, .slice A5 x.list.length c5] 77)).heap.size (w.alloc (.cells #[.int .i64 x.id, .string x.doc, .int .i64 x.cap, .int .i64 x.next, .bool x.out, .slice A5 x.list.length c5] 77)) (w.alloc (.cells #[.int .i64 x.id, .string x.doc, .int .i64 x.cap, .int .i64 x.next, .bool x.out, .slice A5 x.list.length c5] 77)) := Below.refl _ _
  unfold LimSu at hl
  have HT := Lib.hid (show totSu x = x.doc.size + totEns x.list from rfl)
  unfold maxLen at hl
  by_cases hn1 : (x.doc.size : Int) ≤ left
  case neg =>
    have hn1' : left - (x.doc.size : Int) < 0 := by omega
    go_enter Try.func31, Try.ntmps31
    go_wp2
    go_ret
    exact ⟨_, rfl, .inl rfl, b0⟩
  go_enter Try.func31, Try.ntmps31
  go_wp2_with fail
  refine (szRSu _ x (left - (x.doc.size : Int)) _ (((rdRi (ringSu x) r5).past b0).past D0) (by omega) (by omega) hl.2).mono ?_
  rintro e w2 ⟨e2, rfl, hr2, k2⟩
  have D2 := D0.trans (k2.mono D0.size)
  rcases hr2 with rfl | ⟨p2, q2⟩
  · go_wp2
    go_ret
    exact ⟨_, rfl, .inl rfl, b0.trans (D2.mono b0.size)⟩
  have t2 : e2 ≤ 1048576 := by omega
  have Q2 := Lib.hid q2
  clear q2 k2
  go_wp2
  go_ret
  refine ⟨_, rfl, .inr ⟨by omega, ?_⟩, b0.trans (D2.mono b0.size)⟩
  rw [HT.out]
  have := Q2.out
  omega

set_option maxRecDepth 100000 in
set_option maxHeartbeats 1600000 in
theorem toSu (v : Value) (x : Su) (w : World) (h : RdC w w.heap.size (datSu x) v) (hs : SmSu x) : Calls Try.prog 33 #[v] w (OwnPost (datSu x) w) := by
  obtain ⟨A5, c5, rfl, r5⟩ := aggSu h
  have R5 := Lib.hid r5
  clear r5
  clear h
  have HM := Lib.hid (Ms.start w)
  replace HM := Lib.hid (HM.out.new #[.int .i64 x.id, .string x.doc, .int .i64 x.cap, .int .i64 x.next, .bool x.out, .slice A5 x.list.length c5] 77)
  have hm := HM.out.new #[.int .i64 0, .string ⟨#[]⟩, .int .i64 0, .int .i64 0, .bool false, .slice none 0 0] 61
  simp only [World.size_alloc] at hm
  replace HM := Lib.hid hm
  clear hm
  have hm := HM.out.new #[.int .i64 x.id, .string x.doc, .int .i64 0, .int .i64 0, .bool false, .slice none 0 0] 61
  simp only [World.size_alloc] at hm
  replace HM := Lib.hid hm
  clear hm
  go_enter Try.func33, Try.ntmps33
  go_wp2_with fail
  obtain ⟨W1, hW, hm⟩ := HM.out.name
  rw [← hW]
  replace HM := Lib.hid hm
  clear hm hW
  refine (toRi _ (ringSu x) _ (HM.out.arg (rdRi (ringSu x) R5.out)) (show SmRi (ringSu x) from hs.list)).mono ?_
  rintro e' W2 ⟨v', rfl, o', b'⟩
  obtain ⟨B, d, rfl⟩ := aggRSu o'.read
  obtain ⟨bl, hm⟩ := HM.out.got o' b'
  clear o' b'
  replace HM := Lib.hid hm
  clear hm
  have ko0 := HM.out.cell (i := 1) (j := 0) rfl rfl
  have ko1 := HM.out.cell (i := 1) (j := 1) rfl rfl
  have ko2 := HM.out.cell (i := 1) (j := 2) rfl rfl
  have ko3 := HM.out.cell (i := 1) (j := 3) rfl rfl
  have ko4 := HM.out.cell (i := 1) (j := 4) rfl rfl
  have ko5 := HM.out.cell (i := 1) (j := 5) rfl rfl
  have fo : ∀ j, _ := fun j => HM.out.free (i := 1) (j := j) rfl
  have fo0 := fo 0
  have fo1 := fo 1
  have fo2 := fo 2
  have fo3 := fo 3
  have fo4 := fo 4
  have fo5 := fo 5
  clear fo
  have hm := HM.out.pk [1, 0, 2, 3] (by decide) (by simp)
  simp only [low.pk, List.getElem?_cons_zero, List.getElem?_cons_succ] at hm
  replace HM := Lib.hid hm
  clear hm
  obtain ⟨nro, nor⟩ := HM.out.ne (i := 0) (j := 2) rfl rfl (by omega)
  have ko0 := HM.out.cell (i := 0) (j := 0) rfl rfl
  have ko1 := HM.out.cell (i := 0) (j := 1) rfl rfl
  have ko2 := HM.out.cell (i := 0) (j := 2) rfl rfl
  have ko3 := HM.out.cell (i := 0) (j := 3) rfl rfl
  have ko4 := HM.out.cell (i := 0) (j := 4) rfl rfl
  have ko5 := HM.out.cell (i := 0) (j := 5) rfl rfl
  have fo : ∀ j, _ := fun j => HM.out.free (i := 0) (j := j) rfl
  have fo0 := fo 0
  have fo1 := fo 1
  have fo2 := fo 2
  have fo3 := fo 3
  have fo4 := fo 4
  have fo5 := fo 5
  clear fo
  have kr0 := HM.out.cell (i := 2) (j := 0) rfl rfl
  have kr1 := HM.out.cell (i := 2) (j := 1) rfl rfl
  have kr2 := HM.out.cell (i := 2) (j := 2) rfl rfl
  have kr3 := HM.out.cell (i := 2) (j := 3) rfl rfl
  have kr4 := HM.out.cell (i := 2) (j := 4) rfl rfl
  have kr5 := HM.out.cell (i := 2) (j := 5) rfl rfl
  have fr : ∀ j, _ := fun j => HM.out.free (i := 2) (j := j) rfl
  have fr0 := fr 0
  have fr1 := fr 1
  have fr2 := fr 2
  have fr3 := fr 3
  have fr4 := fr 4
  have fr5 := fr 5
  clear fr
  go_wp2
  clear ko0 ko1 ko2 ko3 ko4 ko5 fo0 fo1 fo2 fo3 fo4 fo5 kr0 kr1 kr2 kr3 kr4 kr5 fr0 fr1 fr2 fr3 fr4 fr5
  have hm := HM.out.set (j := 2) (.int .i64 x.cap)
  simp only [pa, pb, pc] at hm
  replace HM := Lib.hid hm
  clear hm
  have hm := HM.out.set (j := 3) (.int .i64 x.next)
  simp only [pa, pb, pc] at hm
  replace HM := Lib.hid hm
  clear hm
  have hm := HM.out.set (j := 4) (.bool x.out)
  simp only [pa, pb, pc] at hm
  replace HM := Lib.hid hm
  clear hm
  have hm := HM.out.set (j := 5) (.slice B x.list.length d)
  simp only [pa, pb, pc] at hm
  replace HM := Lib.hid hm
  clear hm
  have hm := HM.out.pk [2, 0, 1, 3] (by decide) (by simp)
  simp only [low.pk, List.getElem?_cons_zero, List.getElem?_cons_succ] at hm
  replace HM := Lib.hid hm
  clear hm
  have hm := HM.out.putRow (ys := [.int .i64 x.id, .string x.doc, .int .i64 x.cap, .int .i64 x.next, .bool x.out, .slice B x.list.length d]) rfl
  simp only [low.putRow, Nat.zero_add, Nat.reduceAdd] at hm
  replace HM := Lib.hid hm
  clear hm
  obtain ⟨W3, hW, hm⟩ := HM.out.name
  rw [← hW]
  replace HM := Lib.hid hm
  clear hm hW
  have kr0 := HM.out.cell (i := 0) (j := 0) rfl rfl
  have kr1 := HM.out.cell (i := 0) (j := 1) rfl rfl
  have kr2 := HM.out.cell (i := 0) (j := 2) rfl rfl
  have kr3 := HM.out.cell (i := 0) (j := 3) rfl rfl
  have kr4 := HM.out.cell (i := 0) (j := 4) rfl rfl
  have kr5 := HM.out.cell (i := 0) (j := 5) rfl rfl
  have hm := HM.out.pk [2, 0, 1, 3] (by decide) (by simp)
  simp only [low.pk, List.getElem?_cons_zero, List.getElem?_cons_succ] at hm
  replace HM := Lib.hid hm
  clear hm
  obtain ⟨bl2, hm⟩ := Ms.unRi9 (x := ringSu x) HM.out
  replace HM := Lib.hid hm
  exact bodyPost_ret (v := .agg #[.int .i64 x.id, .string x.doc, .int .i64 x.cap, .int .i64 x.next, .bool x.out, .slice B x.list.length d]) (by simp [results, Try.results33, go_sem, kr0, kr1, kr2, kr3, kr4, kr5]) rfl (show Ms w (.dt (datSu x) (.agg #[.int .i64 x.id, .string x.doc, .int .i64 x.cap, .int .i64 x.next, .bool x.out, .slice B x.list.length d]) _ :: _) _ from (((((HM.out.pk0.pkO.pkF rfl).pkF rfl).pkF rfl).pkF rfl).pkF rfl)).post

set_option maxRecDepth 100000 in
set_option maxHeartbeats 1600000 in
theorem eqSu (v v' : Value) (x : Su) (w : World) (h : RdC w w.heap.size (datSu x) v) (h' : RdC w w.heap.size (datSu x) v') (hs : SmSu x) : Calls Try.prog 37 #[v, v'] w (Tells true w) := by
  obtain ⟨A5, c5, rfl, r5⟩ := aggSu h
  obtain ⟨B5, d5, rfl, s5⟩ := aggSu h'
  obtain ⟨g1, g2, b0⟩ := two_boxes w #[.int .i64 x.id, .string x.doc, .int .i64 x.cap, .int .i64 x.next, .bool x.out, .slice A5 x.list.length c5] #[.int .i64 x.id, .string x.doc, .int .i64 x.cap, .int .i64 x.next, .bool x.out, .slice B5 x.list.length d5] 61
  have D0 : Below ((w.alloc (.cells #[.int .i64 x.id, .string x.doc, .int .i64 x.cap, .int .i64 x.next, .bool x.out, .slice A5 x.list.length c5] 61)).alloc (.cells #[.int .i64 x.id, .string x.doc, .int .i64 x.cap, .int .i64 x.next, .bool x.out, .slice B5 x.list.length d5] 61)).heap.size ((w.alloc (.cells #[.int .i64 x.id, .string x.doc, .int .i64 x.cap, .int .i64 x.next, .bool x.out, .slice A5 x.list.length c5] 61)).alloc (.cells #[.int .i64 x.id, .string x.doc, .int .i64 x.cap, .int .i64 x.next, .bool x.out, .slice B5 x.list.length d5] 61)) ((w.alloc (.cells #[.int .i64 x.id, .string x.doc, .int .i64 x.cap, .int .i64 x.next, .bool x.out, .slice A5 x.list.length c5] 61)).alloc (.cells #[.int .i64 x.id, .string x.doc, .int .i64 x.cap, .int .i64 x.next, .bool x.out, .slice B5 x.list.length d5] 61)) := Below.refl _ _
  have lt2 := lt_of_some g2
  have lt1 := lt_of_some g1
  have n0 : (x.id != x.id) = false := by simp
  have n1 : (x.doc.toList == x.doc.toList) = true := by simp
  have n2 : (x.cap != x.cap) = false := by simp
  have n3 : (x.next != x.next) = false := by simp
  have n4 : (x.out != x.out) = false := by simp
  go_enter Try.func37, Try.ntmps37
  go_wp2_with fail
  refine (eqRi _ _ (ringSu x) _ (((rdRi (ringSu x) r5).past b0).past D0) (((rdRi (ringSu x) s5).past b0).past D0) (show SmRi (ringSu x) from hs.list)).mono ?_
  rintro e w1 ⟨rfl, k1⟩
  have D1 := D0.trans (k1.mono D0.size)
  clear k1
  go_wp2
  go_ret
  exact ⟨rfl, b0.trans (D1.mono b0.size)⟩

set_option maxRecDepth 100000 in
set_option maxHeartbeats 1600000 in
theorem szSus (v : Value) (l : List Su) (left : Int) (w : World) (h : RdC w w.heap.size (encSus l) v) (h0 : 0 ≤ left) (h1 : left ≤ 1048576) (hl : LimSus l) : Calls Try.prog 16 #[v, .int .i64 left] w (Sized (totSus l) left w) := by
  obtain ⟨A, c, rfl⟩ := sliceSus h
  have hl1 : l.length ≤ 9223372036854775807 := by have := hl.1; unfold maxLen at this; omega
  have HT := Lib.hid (show totSus l = l.length + sumN totSu l from rfl)
  by_cases hle : (l.length : Int) ≤ left
  · go_enter Try.func16, Try.ntmps16
    go_wp2
    go_loopw [1, 5] (fun x i wr => ∃ j : Nat, j ≤ l.length ∧ i = .int .i64 j ∧ x = .int .i64 (left - (l.length : Int) - (sumN totSu (l.take j) : Int)) ∧ 0 ≤ left - (l.length : Int) - (sumN totSu (l.take j) : Int) ∧ Below w.heap.size w wr) (fun _ i _ => l.length - (intOf i).toNat)
    case atStart => exact ⟨0, Nat.zero_le _, rfl, by simp [sumN], by simp [sumN]; omega, Below.refl _ _⟩
    case round =>
      obtain ⟨j, hj, rfl, rfl, hs, hbel⟩ := hrel
      by_cases hlt : j < l.length
      · obtain ⟨b, off, x, A5, c5, rfl, hb, hp, y0, y1, y2, y3, y4, y5, r5⟩ := atSus (h.below hbel) hlt
        have HS := Lib.hid (sumN_snoc (f := totSu) hp)
        have hlp := hl.2 x (List.mem_of_getElem? hp)
        have hb1 : left - (l.length : Int) - (sumN totSu (l.take j) : Int) ≤ 1048576 := by omega
        clear hp
        generalize hq : left - (l.length : Int) - (sumN totSu (l.take j) : Int) = q at *
        have HQ := Lib.hid hq
        clear hq
        go_wp2_with fail
        refine (szSu _ x q _ (rdSu x (RdC.more hbel.size _ _ r5)) hs hb1 hlp).mono ?_
        rintro e w1 ⟨r, rfl, hr', b1⟩
        rcases hr' with rfl | ⟨hr0, hr1⟩
        · go_wp2
          go_ret
          exact ⟨_, rfl, .inl rfl, hbel.trans (b1.mono hbel.size)⟩
        · have HR := Lib.hid hr1
          clear hr1
          go_wp2
          go_roundw
          case rel =>
            have e1 : r = left - (l.length : Int) - (sumN totSu (l.take (j + 1)) : Int) := by rw [HR.out, HS.out, ← HQ.out]; omega
            exact ⟨j + 1, by omega, by go_num, by rw [e1], by rw [← e1]; exact hr0, hbel.trans (b1.mono hbel.size)⟩
          case measure => simp [intOf]; omega
      · have hke : l.take j = l := List.take_of_length_le (by omega)
        rw [hke] at hs ⊢
        go_wp2
        go_ret
        exact ⟨_, rfl, .inr ⟨hs, by rw [HT.out]; omega⟩, hbel⟩
  · have h' : left - (l.length : Int) < 0 := by omega
    go_enter Try.func16, Try.ntmps16
    go_wp2
    go_ret
    exact ⟨_, rfl, .inl rfl, Below.refl _ _⟩
theorem infoSu : (Try.prog.info? 61).map (fun i => (i.zero, i.size, i.bytes)) = some (some (.agg #[.int .i64 0, .string ⟨#[]⟩, .int .i64 0, .int .i64 0, .bool false, .slice none 0 0]), 6, 72) := by kernel_rfl

set_option maxRecDepth 100000 in
set_option maxHeartbeats 1600000 in
theorem toSus (v : Value) (l : List Su) (w : World) (h : RdC w w.heap.size (encSus l) v) (hs : SmSus l) : Calls Try.prog 18 #[v] w (OwnPost (encSus l) w) := by
  obtain ⟨A, c, rfl⟩ := sliceSus h
  have hll := hs.len
  obtain ⟨i0, hi0, hz0, hz1, hz2⟩ := info_parts infoSu
  go_enter Try.func18, Try.ntmps18
  go_wp2_with (at_make; refine wpList_make_full _ rfl _ _ 29 rfl w.heap.size 61 i0 (.agg #[.int .i64 0, .string ⟨#[]⟩, .int .i64 0, .int .i64 0, .bool false, .slice none 0 0]) 6 Try.underlying29 hi0 hz0 hz1 _ _ _ _ l.length rfl rfl (by omega) (by omega) (by rw [hz2]; omega) (by unfold maxLen; omega) (Nat.le_refl _) ?_; intro w1 hown hg)
  have hbel : Below w.heap.size w w1 := (Below.refl _ _).grown hg (Nat.le_refl _) (fun _ h => by cases h)
  have HF0 := Lib.hid (Fil.start hown)
  clear hown hg
  go_loopw [4] (fun i wr => ∃ j : Nat, j ≤ l.length ∧ i = .int .i64 j ∧ Fil w.heap.size 61 6 l.length ((l.take j).map encSu) wr ∧ Below w.heap.size w wr) (fun i _ => l.length - (intOf i).toNat)
  case atStart => exact ⟨0, Nat.zero_le _, rfl, by simpa using HF0.out, hbel⟩
  case round =>
    obtain ⟨j, hj, rfl, hf, hb⟩ := hrel
    clear HF0 hbel
    have HF := Lib.hid hf
    clear hf
    by_cases hlt : j < l.length
    · obtain ⟨b, off, x, A5, c5, rfl, hbb, hp, y0, y1, y2, y3, y4, y5, r5⟩ := atSus (h.below hb) hlt
      have hsx := hs.at_ (List.mem_of_getElem? hp)
      have HP := Lib.hid hp
      clear hp
      go_wp2_with fail
      refine (toSu _ x wr (rdSu x (RdC.more hb.size _ _ r5)) hsx).mono ?_
      rintro e w2 ⟨v2, rfl, o2, b2⟩
      obtain ⟨B5, d5, rfl, _⟩ := aggSu o2.read
      have OL := Lib.hid (o2.aggV (vs := [.int .i64 x.id, .string x.doc, .int .i64 x.cap, .int .i64 x.next, .bool x.out, .slice B5 x.list.length d5]))
      have F2 := HF.out.past b2
      obtain ⟨u0, hu0⟩ := F2.cell (o := j * 6) (by omega)
      have f0 := F2.free (j * 6)
      obtain ⟨u1, hu1⟩ := F2.cell (o := j * 6 + 1) (by omega)
      have f1 := F2.free (j * 6 + 1)
      obtain ⟨u2, hu2⟩ := F2.cell (o := j * 6 + 2) (by omega)
      have f2 := F2.free (j * 6 + 2)
      obtain ⟨u3, hu3⟩ := F2.cell (o := j * 6 + 3) (by omega)
      have f3 := F2.free (j * 6 + 3)
      obtain ⟨u4, hu4⟩ := F2.cell (o := j * 6 + 4) (by omega)
      have f4 := F2.free (j * 6 + 4)
      obtain ⟨u5, hu5⟩ := F2.cell (o := j * 6 + 5) (by omega)
      have f5 := F2.free (j * 6 + 5)
      clear F2 o2
      go_wp2
      go_roundw
      case rel =>
        have key := HF.out.push (r := encSu x) (ys := [.int .i64 x.id, .string x.doc, .int .i64 x.cap, .int .i64 x.next, .bool x.out, .slice B5 x.list.length d5]) (by simp; omega) rfl b2 OL.out
        have e1 : ((l.take j).map encSu).length = j := by simp; omega
        have e2 : (l.take (j + 1)).map encSu = (l.take j).map encSu ++ [encSu x] := by rw [List.take_add_one, HP.out]; simp
        rw [e1] at key
        refine ⟨j + 1, by omega, by go_num, by rw [e2]; exact key, ?_⟩
        exact putRow_below (Nat.le_refl _) [.int .i64 x.id, .string x.doc, .int .i64 x.cap, .int .i64 x.next, .bool x.out, .slice B5 x.list.length d5] w2 (j * 6) (hb.trans (b2.mono hb.size))
      case measure => simp [intOf]; omega
    · obtain rfl : j = l.length := by omega
      go_wp2
      go_ret
      have k1 := HF.out
      rw [List.take_length] at k1
      exact ⟨_, rfl, by have := k1.done (by simp); exact this, hb⟩

set_option maxRecDepth 100000 in
set_option maxHeartbeats 1600000 in
theorem eqSus (v v' : Value) (l : List Su) (w : World) (h : RdC w w.heap.size (encSus l) v) (h' : RdC w w.heap.size (encSus l) v') (hs : SmSus l) : Calls Try.prog 22 #[v, v'] w (Tells true w) := by
  obtain ⟨A, c, rfl⟩ := sliceSus h
  obtain ⟨A', c', rfl⟩ := sliceSus h'
  have hll := hs.len
  go_enter Try.func22, Try.ntmps22
  have hb : ((l.length : Int) != (l.length : Int)) = false := by simp
  go_wp2
  go_loopw [5] (fun i wr => ∃ k : Nat, k ≤ l.length ∧ i = .int .i64 k ∧ Below w.heap.size w wr) (fun i _ => l.length - (intOf i).toNat)
  case atStart => exact ⟨0, Nat.zero_le _, rfl, Below.refl _ _⟩
  case round =>
    obtain ⟨k, hk, rfl, hbel⟩ := hrel
    by_cases hlt : k < l.length
    · obtain ⟨b, off, x, A5, c5, rfl, hb1, hp, y0, y1, y2, y3, y4, y5, r5⟩ := atSus (h.below hbel) hlt
      obtain ⟨b', off', x', B5, d5, rfl, hb2, hq, z0, z1, z2, z3, z4, z5, s5⟩ := atSus (h'.below hbel) hlt
      obtain rfl : x = x' := by rw [hp] at hq; injection hq
      have hsx := hs.at_ (List.mem_of_getElem? hp)
      clear hp hq
      have q1 := Lib.hid (show RdC wr.drew wr.drew.heap.size (datSu x) (.agg #[.int .i64 x.id, .string x.doc, .int .i64 x.cap, .int .i64 x.next, .bool x.out, .slice A5 x.list.length c5]) from (rdSu x (RdC.more hbel.size _ _ r5)).drewS)
      have q2 := Lib.hid (show RdC wr.drew wr.drew.heap.size (datSu x) (.agg #[.int .i64 x.id, .string x.doc, .int .i64 x.cap, .int .i64 x.next, .bool x.out, .slice B5 x.list.length d5]) from (rdSu x (RdC.more hbel.size _ _ s5)).drewS)
      clear r5 s5
      go_wp2
      go_region_with (go_at_call 37; refine (eqSu _ _ x _ (by exact q1.out) (by exact q2.out) hsx).mono ?_; rintro e w2 ⟨rfl, b2⟩)
      all_goals
        go_wp2
        go_roundw
        case rel => exact ⟨k + 1, by omega, by go_num, hbel.drew.trans (b2.mono hbel.size)⟩
        case measure => simp [intOf]; omega
    · go_wp2
      go_ret
      exact ⟨rfl, hbel⟩
theorem mklSus {w : World} {B : Nat} {k : Int} {l : List Su} {v : Value} (h : RdC w B (mkC k (encSus l)) v) : ∃ A c, v = .slice A l.length c := by
  have h' : RdC w B (.rows 61 6 (mkR k (l.map encSu))) v := h
  obtain ⟨A, c, hv, _⟩ := h'.len
  exact ⟨A, c, by simpa [mkR_len] using hv⟩
theorem owSu {w : World} {x : Su} {v : Value} {bs : List Nat} (h : OwC w (datSu x) v bs) : ∃ (A5 : Option Addr) (c5 : Nat) (b5 : List Nat), v = .agg #[.int .i64 x.id, .string x.doc, .int .i64 x.cap, .int .i64 x.next, .bool x.out, .slice A5 x.list.length c5] ∧ bs = b5 ∧ OwC w (encEns x.list) (.slice A5 x.list.length c5) b5 := by
  obtain ⟨vs, rfl, v0, _, b0, t0, rfl, rfl, ⟨rfl, rfl⟩, v1, _, b1, t1, rfl, rfl, ⟨rfl, rfl⟩, v2, _, b2, t2, rfl, rfl, ⟨rfl, rfl⟩, v3, _, b3, t3, rfl, rfl, ⟨rfl, rfl⟩, v4, _, b4, t4, rfl, rfl, ⟨rfl, rfl⟩, v5, _, b5, t5, rfl, rfl, q5, rfl, rfl⟩ := h
  obtain ⟨A5, c5, rfl⟩ := sliceEns (q5.read _ _ _ (fun b hb => q5.lt _ _ _ b hb))
  exact ⟨A5, c5, b5, rfl, by simp, q5⟩

end Go.Proofs.Ytninppjomdhnmaa.low


/-
  The struct type Hub of the laws: its words, and the laws' own functions on it and on slices of it. Written by mkty.py.
-/
namespace Go.Proofs.Ytninppjomdhnmaa.low
open Go.RowKit
set_option linter.unusedVariables false

structure Hu where
  shut : Bool
  docs : List Do
  subs : List Su
  last : Int
def encHu (x : Hu) : List Dat := [.bool x.shut, encDos x.docs, encSus x.subs, .int x.last]
def datHu (x : Hu) : Dat := .agg (encHu x)
def encHus (l : List Hu) : Dat := .rows 31 4 (l.map encHu)
def totHu (x : Hu) : Nat := totDos x.docs + totSus x.subs
def LimHu (x : Hu) : Prop := LimDos x.docs ∧ LimSus x.subs
def SmHu (x : Hu) : Prop := totHu x ≤ 1048576
def totHus (l : List Hu) : Nat := l.length + sumN totHu l
def LimHus (l : List Hu) : Prop := l.length ≤ maxLen ∧ ∀ x ∈ l, LimHu x
def SmHus (l : List Hu) : Prop := totHus l ≤ 1048576
theorem smHus_of {l : List Hu} (h : totHus l ≤ 1048576) : SmHus l := h
theorem SmHus.len {l : List Hu} (h : SmHus l) : l.length ≤ 1048576 := by unfold SmHus totHus at h; omega
theorem SmHus.at_ {l : List Hu} (h : SmHus l) {x : Hu} (hx : x ∈ l) : SmHu x := by
  unfold SmHus totHus at h
  have := sumN_at (f := totHu) hx
  unfold SmHu
  omega
theorem SmHu.docs {x : Hu} (h : SmHu x) : SmDos x.docs := smDos_of (by unfold SmHu totHu at h; omega)
theorem SmHu.subs {x : Hu} (h : SmHu x) : SmSus x.subs := smSus_of (by unfold SmHu totHu at h; omega)
theorem aggHu {w : World} {B : Nat} {x : Hu} {v : Value} (h : RdC w B (datHu x) v) : ∃ (A1 : Option Addr) (c1 : Nat) (A2 : Option Addr) (c2 : Nat), v = .agg #[.bool x.shut, .slice A1 x.docs.length c1, .slice A2 x.subs.length c2, .int .i64 x.last] ∧ RdC w B (encDos x.docs) (.slice A1 x.docs.length c1) ∧ RdC w B (encSus x.subs) (.slice A2 x.subs.length c2) := by
  obtain ⟨vs, rfl, v0, _, rfl, rfl, v1, _, rfl, r1, v2, _, rfl, r2, v3, _, rfl, rfl, rfl⟩ := h
  obtain ⟨A1, c1, rfl⟩ := sliceDos r1
  obtain ⟨A2, c2, rfl⟩ := sliceSus r2
  exact ⟨A1, c1, A2, c2, rfl, r1, r2⟩
theorem rdHu {w : World} {B : Nat} (x : Hu) {v1 : Value} {v2 : Value} (r1 : RdC w B (encDos x.docs) v1) (r2 : RdC w B (encSus x.subs) v2) : RdC w B (datHu x) (.agg #[.bool x.shut, v1, v2, .int .i64 x.last]) := ⟨_, rfl, _, _, rfl, rfl, _, _, rfl, r1, _, _, rfl, r2, _, _, rfl, rfl, rfl⟩
theorem sliceHus {w : World} {B : Nat} {l : List Hu} {v : Value} (h : RdC w B (encHus l) v) : ∃ A c, v = .slice A l.length c := by
  obtain ⟨A, c, hv, _⟩ := RdC.len h
  exact ⟨A, c, by simpa using hv⟩
theorem atHus {w : World} {B : Nat} {A : Option Addr} {m c i : Nat} {l : List Hu} (h : RdC w B (encHus l) (.slice A m c)) (hi : i < l.length) : ∃ (b off : Nat) (x : Hu) (A1 : Option Addr) (c1 : Nat) (A2 : Option Addr) (c2 : Nat), A = some ⟨b, off, none⟩ ∧ b < B ∧ l[i]? = some x ∧ w.cell? ⟨b, off + i * 4, none⟩ = some (.bool x.shut) ∧ w.cell? ⟨b, off + i * 4 + 1, none⟩ = some (.slice A1 x.docs.length c1) ∧ w.cell? ⟨b, off + i * 4 + 2, none⟩ = some (.slice A2 x.subs.length c2) ∧ w.cell? ⟨b, off + i * 4 + 3, none⟩ = some (.int .i64 x.last) ∧ RdC w B (encDos x.docs) (.slice A1 x.docs.length c1) ∧ RdC w B (encSus x.subs) (.slice A2 x.subs.length c2) := by
  obtain ⟨ad, r, hA, hb, hs, hr, hl⟩ := RdC.at_ (ds := l.map encHu) h (by simpa using hi)
  rw [List.getElem?_map, List.getElem?_eq_getElem hi] at hr
  obtain rfl : encHu l[i] = r := by simpa using hr
  obtain ⟨b, off, spot⟩ := ad
  obtain rfl : spot = none := by
    rcases hs with hs | hs
    · cases hs
    · exact hs
  obtain ⟨⟨v0, x0, rfl⟩, ⟨v1, x1, r1⟩, ⟨v2, x2, r2⟩, ⟨v3, x3, rfl⟩, _⟩ := hl
  obtain ⟨A1, c1, rfl⟩ := sliceDos r1
  obtain ⟨A2, c2, rfl⟩ := sliceSus r2
  rw [add_at] at x0 x1 x2 x3
  exact ⟨b, off, l[i], A1, c1, A2, c2, hA, hb, List.getElem?_eq_getElem hi, by simpa [Nat.add_assoc] using x0, by simpa [Nat.add_assoc] using x1, by simpa [Nat.add_assoc] using x2, by simpa [Nat.add_assoc] using x3, r1, r2⟩
theorem cntHu_l (x : Hu) : cntL (encHu x) = 1 + cntC (encDos x.docs) + cntC (encSus x.subs) + 1 := by
  show cntL [.bool x.shut, encDos x.docs, encSus x.subs, .int x.last] = _
  simp only [cntL, cntC]
  try omega
theorem cntHu_row (x : Hu) : cntL (encHu x) ≤ 5 * (1 + totHu x) := by
  rw [cntHu_l]
  unfold totHu
  have h1 := cntDos_le x.docs
  have h2 := cntSus_le x.subs
  omega
theorem cntHus_le : ∀ l : List Hu, cntC (encHus l) ≤ 5 * totHus l
  | [] => by simp [encHus, cntC, cntR]
  | x :: l => by
    have ih := cntHus_le l
    have h1 := cntHu_row x
    have e1 : cntC (encHus (x :: l)) = cntL (encHu x) + cntC (encHus l) := rfl
    rw [e1]
    unfold totHus at ih ⊢
    rw [sumN_cons, List.length_cons]
    omega
theorem cntHus {l : List Hu} (h : SmHus l) : cntC (encHus l) ≤ 5242880 := by have := cntHus_le l; unfold SmHus at h; omega
theorem cntHu_a (x : Hu) : cntC (datHu x) = cntC (encDos x.docs) + cntC (encSus x.subs) := by
  show cntA [.bool x.shut, encDos x.docs, encSus x.subs, .int x.last] = _
  simp only [cntA, cntF, encDos, encSus, cntC]
  try omega
theorem mkHu_a (k : Int) (x : Hu) : mkC k (datHu x) = .agg [.bool x.shut, mkC (k) (encDos x.docs), mkC (k + (cntC (encDos x.docs) : Int)) (encSus x.subs), .int x.last] := by
  show Dat.agg (mkA k [.bool x.shut, encDos x.docs, encSus x.subs, .int x.last]) = _
  simp [mkA, mkF, cntF, mkC, cntC, encDos, encSus]
theorem cntHu {x : Hu} (h : SmHu x) : cntC (datHu x) ≤ 5242880 := by
  rw [cntHu_a]
  unfold SmHu totHu at h
  have h1 := cntDos_le x.docs
  have h2 := cntSus_le x.subs
  omega

set_option maxRecDepth 100000 in
set_option maxHeartbeats 1600000 in
theorem szHu (v : Value) (x : Hu) (left : Int) (w : World) (h : RdC w w.heap.size (datHu x) v) (h0 : 0 ≤ left) (h1 : left ≤ 1048576) (hl : LimHu x) : Calls Try.prog 6 #[v, .int .i64 left] w (Sized (totHu x) left w) := by
  obtain ⟨A1, c1, A2, c2, rfl, r1, r2⟩ := aggHu h
  have b0 := alloc_below w (.cells #[.bool x.shut, .slice A1 x.docs.length c1, .slice A2 x.subs.length c2, .int .i64 x.last] 25)
  have hlt : w.heap.size < (w.alloc (.cells #[.bool x.shut, .slice A1 x.docs.length c1, .slice A2 x.subs.length c2, .int .i64 x.last] 25)).heap.size := by rw [World.size_alloc]; omega
  have D0 : Below (w.alloc (.cells #[.bool x.shut, .slice A1 x.docs.length c1, .slice A2 x.subs.length c2, .int .i64 x.last] 25)).heap.size (w.alloc (.cells #[.bool x.shut, .slice A1 x.docs.length c1, .slice A2 x.subs.length c2, .int .i64 x.last] 25)) (w.alloc (.cells #[.bool x.shut, .slice A1 x.docs.length c1, .slice A2 x.subs.length c2, .int .i64 x.last] 25)) := Below.refl _ _
  unfold LimHu at hl
  have HT := Lib.hid (show totHu x = totDos x.docs + totSus x.subs from rfl)
  go_enter Try.func6, Try.ntmps6
  go_wp2_with fail
  refine (szDos _ x.docs left _ ((r1.past b0).past D0) (by omega) (by omega) hl.1).mono ?_
  rintro e w1 ⟨e1, rfl, hr1, k1⟩
  have D1 := D0.trans (k1.mono D0.size)
  rcases hr1 with rfl | ⟨p1, q1⟩
  · go_wp2
    go_ret
    exact ⟨_, rfl, .inl rfl, b0.trans (D1.mono b0.size)⟩
  have t1 : e1 ≤ 1048576 := by omega
  have Q1 := Lib.hid q1
  clear q1 k1
  have y2 := (D1.cell (p := ⟨w.heap.size, 2, none⟩) hlt).trans (bxnew (w := w) (cs := #[.bool x.shut, .slice A1 x.docs.length c1, .slice A2 x.subs.length c2, .int .i64 x.last]) (j := 2) rfl)
  go_wp2_with fail
  refine (szSus _ x.subs e1 _ ((r2.past b0).past D1) (by omega) (by omega) hl.2).mono ?_
  rintro e w2 ⟨e2, rfl, hr2, k2⟩
  have D2 := D1.trans (k2.mono D1.size)
  rcases hr2 with rfl | ⟨p2, q2⟩
  · go_wp2
    go_ret
    exact ⟨_, rfl, .inl rfl, b0.trans (D2.mono b0.size)⟩
  have t2 : e2 ≤ 1048576 := by omega
  have Q2 := Lib.hid q2
  clear q2 k2
  go_wp2
  go_ret
  refine ⟨_, rfl, .inr ⟨by omega, ?_⟩, b0.trans (D2.mono b0.size)⟩
  rw [HT.out]
  have := Q1.out
  have := Q2.out
  omega

set_option maxRecDepth 100000 in
set_option maxHeartbeats 1600000 in
theorem toHu (v : Value) (x : Hu) (w : World) (h : RdC w w.heap.size (datHu x) v) (hs : SmHu x) : Calls Try.prog 8 #[v] w (OwnPost (datHu x) w) := by
  obtain ⟨A1, c1, A2, c2, rfl, r1, r2⟩ := aggHu h
  have R1 := Lib.hid r1
  clear r1
  have R2 := Lib.hid r2
  clear r2
  clear h
  have HM := Lib.hid (Ms.start w)
  replace HM := Lib.hid (HM.out.new #[.bool x.shut, .slice A1 x.docs.length c1, .slice A2 x.subs.length c2, .int .i64 x.last] 25)
  have hm := HM.out.new #[.bool false, .slice none 0 0, .slice none 0 0, .int .i64 0] 31
  simp only [World.size_alloc] at hm
  replace HM := Lib.hid hm
  clear hm
  have hm := HM.out.new #[.bool x.shut, .slice none 0 0, .slice none 0 0, .int .i64 0] 31
  simp only [World.size_alloc] at hm
  replace HM := Lib.hid hm
  clear hm
  go_enter Try.func8, Try.ntmps8
  go_wp2_with fail
  obtain ⟨W1, hW, hm⟩ := HM.out.name
  rw [← hW]
  replace HM := Lib.hid hm
  clear hm hW
  refine (toDos _ x.docs _ (HM.out.arg R1.out) hs.docs).mono ?_
  rintro e' W2 ⟨v', rfl, o', b'⟩
  obtain ⟨B1, d1, rfl⟩ := sliceDos o'.read
  obtain ⟨bl1, hm⟩ := HM.out.got o' b'
  clear o' b'
  replace HM := Lib.hid hm
  clear hm
  obtain ⟨nao, noa⟩ := HM.out.ne (i := 1) (j := 3) rfl rfl (by omega)
  have ka0 := HM.out.cell (i := 3) (j := 0) rfl rfl
  have ka1 := HM.out.cell (i := 3) (j := 1) rfl rfl
  have ka2 := HM.out.cell (i := 3) (j := 2) rfl rfl
  have ka3 := HM.out.cell (i := 3) (j := 3) rfl rfl
  have ko0 := HM.out.cell (i := 1) (j := 0) rfl rfl
  have ko1 := HM.out.cell (i := 1) (j := 1) rfl rfl
  have ko2 := HM.out.cell (i := 1) (j := 2) rfl rfl
  have ko3 := HM.out.cell (i := 1) (j := 3) rfl rfl
  have fo : ∀ j, _ := fun j => HM.out.free (i := 1) (j := j) rfl
  have fo0 := fo 0
  have fo1 := fo 1
  have fo2 := fo 2
  have fo3 := fo 3
  clear fo
  go_wp2_with fail
  clear ka0 ka1 ka2 ka3 ko0 ko1 ko2 ko3 fo0 fo1 fo2 fo3
  have hm := HM.out.pk [1, 0, 2, 3] (by decide) (by simp)
  simp only [low.pk, List.getElem?_cons_zero, List.getElem?_cons_succ] at hm
  replace HM := Lib.hid hm
  clear hm
  have hm := HM.out.set (j := 1) (.slice B1 x.docs.length d1)
  simp only [pa, pb, pc] at hm
  replace HM := Lib.hid hm
  clear hm
  obtain ⟨W3, hW, hm⟩ := HM.out.name
  rw [← hW]
  replace HM := Lib.hid hm
  clear hm hW
  refine (toSus _ x.subs _ (HM.out.arg R2.out) hs.subs).mono ?_
  rintro e' W4 ⟨v', rfl, o', b'⟩
  obtain ⟨B2, d2, rfl⟩ := sliceSus o'.read
  obtain ⟨bl2, hm⟩ := HM.out.got o' b'
  clear o' b'
  replace HM := Lib.hid hm
  clear hm
  have ka0 := HM.out.cell (i := 4) (j := 0) rfl rfl
  have ka1 := HM.out.cell (i := 4) (j := 1) rfl rfl
  have ka2 := HM.out.cell (i := 4) (j := 2) rfl rfl
  have ka3 := HM.out.cell (i := 4) (j := 3) rfl rfl
  have ko0 := HM.out.cell (i := 1) (j := 0) rfl rfl
  have ko1 := HM.out.cell (i := 1) (j := 1) rfl rfl
  have ko2 := HM.out.cell (i := 1) (j := 2) rfl rfl
  have ko3 := HM.out.cell (i := 1) (j := 3) rfl rfl
  have fo : ∀ j, _ := fun j => HM.out.free (i := 1) (j := j) rfl
  have fo0 := fo 0
  have fo1 := fo 1
  have fo2 := fo 2
  have fo3 := fo 3
  clear fo
  obtain ⟨nro, nor⟩ := HM.out.ne (i := 1) (j := 3) rfl rfl (by omega)
  have kr0 := HM.out.cell (i := 3) (j := 0) rfl rfl
  have kr1 := HM.out.cell (i := 3) (j := 1) rfl rfl
  have kr2 := HM.out.cell (i := 3) (j := 2) rfl rfl
  have kr3 := HM.out.cell (i := 3) (j := 3) rfl rfl
  have fr : ∀ j, _ := fun j => HM.out.free (i := 3) (j := j) rfl
  have fr0 := fr 0
  have fr1 := fr 1
  have fr2 := fr 2
  have fr3 := fr 3
  clear fr
  go_wp2
  clear ka0 ka1 ka2 ka3 ko0 ko1 ko2 ko3 fo0 fo1 fo2 fo3 kr0 kr1 kr2 kr3 fr0 fr1 fr2 fr3
  have hm := HM.out.pk [1, 0, 2, 3, 4] (by decide) (by simp)
  simp only [low.pk, List.getElem?_cons_zero, List.getElem?_cons_succ] at hm
  replace HM := Lib.hid hm
  clear hm
  have hm := HM.out.set (j := 2) (.slice B2 x.subs.length d2)
  simp only [pa, pb, pc] at hm
  replace HM := Lib.hid hm
  clear hm
  have hm := HM.out.set (j := 3) (.int .i64 x.last)
  simp only [pa, pb, pc] at hm
  replace HM := Lib.hid hm
  clear hm
  have hm := HM.out.pk [3, 0, 1, 2, 4] (by decide) (by simp)
  simp only [low.pk, List.getElem?_cons_zero, List.getElem?_cons_succ] at hm
  replace HM := Lib.hid hm
  clear hm
  have hm := HM.out.putRow (ys := [.bool x.shut, .slice B1 x.docs.length d1, .slice B2 x.subs.length d2, .int .i64 x.last]) rfl
  simp only [low.putRow, Nat.zero_add, Nat.reduceAdd] at hm
  replace HM := Lib.hid hm
  clear hm
  obtain ⟨W5, hW, hm⟩ := HM.out.name
  rw [← hW]
  replace HM := Lib.hid hm
  clear hm hW
  have kr0 := HM.out.cell (i := 0) (j := 0) rfl rfl
  have kr1 := HM.out.cell (i := 0) (j := 1) rfl rfl
  have kr2 := HM.out.cell (i := 0) (j := 2) rfl rfl
  have kr3 := HM.out.cell (i := 0) (j := 3) rfl rfl
  have hm := HM.out.pk [2, 3, 0, 1, 4] (by decide) (by simp)
  simp only [low.pk, List.getElem?_cons_zero, List.getElem?_cons_succ] at hm
  replace HM := Lib.hid hm
  clear hm
  exact bodyPost_ret (v := .agg #[.bool x.shut, .slice B1 x.docs.length d1, .slice B2 x.subs.length d2, .int .i64 x.last]) (by simp [results, Try.results8, go_sem, kr0, kr1, kr2, kr3]) rfl (show Ms w (.dt (datHu x) (.agg #[.bool x.shut, .slice B1 x.docs.length d1, .slice B2 x.subs.length d2, .int .i64 x.last]) _ :: _) _ from ((HM.out.pk0.pkF rfl).pkO.pkO.pkF rfl)).post

set_option maxRecDepth 100000 in
set_option maxHeartbeats 1600000 in
theorem eqHu (v v' : Value) (x : Hu) (w : World) (h : RdC w w.heap.size (datHu x) v) (h' : RdC w w.heap.size (datHu x) v') (hs : SmHu x) : Calls Try.prog 10 #[v, v'] w (Tells true w) := by
  obtain ⟨A1, c1, A2, c2, rfl, r1, r2⟩ := aggHu h
  obtain ⟨B1, d1, B2, d2, rfl, s1, s2⟩ := aggHu h'
  obtain ⟨g1, g2, b0⟩ := two_boxes w #[.bool x.shut, .slice A1 x.docs.length c1, .slice A2 x.subs.length c2, .int .i64 x.last] #[.bool x.shut, .slice B1 x.docs.length d1, .slice B2 x.subs.length d2, .int .i64 x.last] 31
  have D0 : Below ((w.alloc (.cells #[.bool x.shut, .slice A1 x.docs.length c1, .slice A2 x.subs.length c2, .int .i64 x.last] 31)).alloc (.cells #[.bool x.shut, .slice B1 x.docs.length d1, .slice B2 x.subs.length d2, .int .i64 x.last] 31)).heap.size ((w.alloc (.cells #[.bool x.shut, .slice A1 x.docs.length c1, .slice A2 x.subs.length c2, .int .i64 x.last] 31)).alloc (.cells #[.bool x.shut, .slice B1 x.docs.length d1, .slice B2 x.subs.length d2, .int .i64 x.last] 31)) ((w.alloc (.cells #[.bool x.shut, .slice A1 x.docs.length c1, .slice A2 x.subs.length c2, .int .i64 x.last] 31)).alloc (.cells #[.bool x.shut, .slice B1 x.docs.length d1, .slice B2 x.subs.length d2, .int .i64 x.last] 31)) := Below.refl _ _
  have lt2 := lt_of_some g2
  have lt1 := lt_of_some g1
  have n0 : (x.shut != x.shut) = false := by simp
  have n3 : (x.last != x.last) = false := by simp
  go_enter Try.func10, Try.ntmps10
  go_wp2_with fail
  refine (eqDos _ _ x.docs _ ((r1.past b0).past D0) ((s1.past b0).past D0) hs.docs).mono ?_
  rintro e w1 ⟨rfl, k1⟩
  have D1 := D0.trans (k1.mono D0.size)
  clear k1
  have y2 : w1.cell? ⟨w.heap.size, 2, none⟩ = some (.slice A2 x.subs.length c2) := (D1.cell (p := ⟨w.heap.size, 2, none⟩) lt1).trans (bxcell g1 rfl)
  have z2 : w1.cell? ⟨w.heap.size + 1, 2, none⟩ = some (.slice B2 x.subs.length d2) := (D1.cell (p := ⟨w.heap.size + 1, 2, none⟩) lt2).trans (bxcell g2 rfl)
  go_wp2_with fail
  refine (eqSus _ _ x.subs _ ((r2.past b0).past D1) ((s2.past b0).past D1) hs.subs).mono ?_
  rintro e w2 ⟨rfl, k2⟩
  have D2 := D1.trans (k2.mono D1.size)
  clear k2
  have y3 : w2.cell? ⟨w.heap.size, 3, none⟩ = some (.int .i64 x.last) := (D2.cell (p := ⟨w.heap.size, 3, none⟩) lt1).trans (bxcell g1 rfl)
  have z3 : w2.cell? ⟨w.heap.size + 1, 3, none⟩ = some (.int .i64 x.last) := (D2.cell (p := ⟨w.heap.size + 1, 3, none⟩) lt2).trans (bxcell g2 rfl)
  go_wp2
  go_ret
  exact ⟨rfl, b0.trans (D2.mono b0.size)⟩

theorem infoHu : (Try.prog.info? 31).map (fun i => (i.zero, i.size, i.bytes)) = some (some (.agg #[.bool false, .slice none 0 0, .slice none 0 0, .int .i64 0]), 4, 64) := by kernel_rfl

theorem mklHus {w : World} {B : Nat} {k : Int} {l : List Hu} {v : Value} (h : RdC w B (mkC k (encHus l)) v) : ∃ A c, v = .slice A l.length c := by
  have h' : RdC w B (.rows 31 4 (mkR k (l.map encHu))) v := h
  obtain ⟨A, c, hv, _⟩ := h'.len
  exact ⟨A, c, by simpa [mkR_len] using hv⟩
theorem owHu {w : World} {x : Hu} {v : Value} {bs : List Nat} (h : OwC w (datHu x) v bs) : ∃ (A1 : Option Addr) (c1 : Nat) (A2 : Option Addr) (c2 : Nat) (b1 : List Nat) (b2 : List Nat), v = .agg #[.bool x.shut, .slice A1 x.docs.length c1, .slice A2 x.subs.length c2, .int .i64 x.last] ∧ bs = b1 ++ (b2) ∧ OwC w (encDos x.docs) (.slice A1 x.docs.length c1) b1 ∧ OwC w (encSus x.subs) (.slice A2 x.subs.length c2) b2 := by
  obtain ⟨vs, rfl, v0, _, b0, t0, rfl, rfl, ⟨rfl, rfl⟩, v1, _, b1, t1, rfl, rfl, q1, v2, _, b2, t2, rfl, rfl, q2, v3, _, b3, t3, rfl, rfl, ⟨rfl, rfl⟩, rfl, rfl⟩ := h
  obtain ⟨A1, c1, rfl⟩ := sliceDos (q1.read _ _ _ (fun b hb => q1.lt _ _ _ b hb))
  obtain ⟨A2, c2, rfl⟩ := sliceSus (q2.read _ _ _ (fun b hb => q2.lt _ _ _ b hb))
  exact ⟨A1, c1, A2, c2, b1, b2, rfl, by simp, q1, q2⟩

end Go.Proofs.Ytninppjomdhnmaa.low


/-
  A law's argument of the struct type Entry, and a slice of them, opened. Written by mkty.py.
-/
namespace Go.Proofs.Ytninppjomdhnmaa.low
open Go.RowKit Go.ChangeShapes Go.WideShapes Go.Deep
set_option linter.unusedVariables false
theorem cellsLEn : Try.prog.cellsOf 108 = 3 := by kernel_rfl
theorem cellsLEns : Try.prog.cellsOf 69 = 1 := by kernel_rfl
section
variable {H : Type} {enc : TypeId × Value → H} {w : World} {base : Nat} {spare : Nat → Bool} {held : Bool}
set_option maxRecDepth 100000 in
theorem open_dEn {fuel : Nat} {cs : List Value} {x : DataW H × List MemPlace} (h : DataW.trod enc Try.prog w base spare held fuel 108 cs = some x) :
    ∃ (r : En) (A2 : Option Addr) (c2 : Nat), cs = [.int .i64 r.client, .int .i64 r.seq, .slice A2 r.o.length c2] ∧ RdC w w.heap.size (encPs r.o) (.slice A2 r.o.length c2) ∧ LimEn r := by
  obtain ⟨xs, n, _, _, hl, hxl, hf⟩ := DataW.trod_struct Try.underlying108 h
  rw [cellsLEn] at hl
  match cs, hl with
  | [k0, k1, k2], _ =>
    match xs, hxl with
    | [y0, y1, y2], _ =>
      have h0 := hf 0 _ rfl
      have h1 := hf 1 _ rfl
      have h2 := hf 2 _ rfl
      simp [cellsInt] at h0
      simp [cellsInt] at h1
      simp [cellsParts] at h2
      obtain ⟨z0, e0, _, _⟩ := DataW.trod_int Try.underlying3 h0
      obtain ⟨z1, e1, _, _⟩ := DataW.trod_int Try.underlying3 h1
      obtain ⟨z2, A2, c2, e2, r2, l2⟩ := open_dparts h2
      simp at e0 e1 e2
      subst e0
      subst e1
      subst e2
      exact ⟨⟨z0, z1, z2⟩, A2, c2, rfl, r2, l2⟩
set_option maxRecDepth 100000 in
theorem open_dEns {fuel : Nat} {cs : List Value} {x : DataW H × List MemPlace} (h : DataW.trod enc Try.prog w base spare held fuel 69 cs = some x) :
    ∃ (l : List En) (A : Option Addr) (c : Nat), cs = [.slice A l.length c] ∧ RdC w w.heap.size (encEns l) (.slice A l.length c) ∧ LimEns l := by
  rcases open_slice Try.underlying69 h with ⟨hcs, _⟩ | ⟨a, len, cap, m, n, D, Pl, hcs, _, hl, hm, hmm, _, hi⟩
  · exact ⟨[], none, 0, hcs, ⟨none, 0, rfl, Nat.le_refl _, fun hn => absurd hn (by simp)⟩, Nat.zero_le _, by simp⟩
  · have hlm : len ≤ m := by rw [hmm]; split <;> omega
    have hrow : ∀ i, i < len → ∃ p : En, a.block < w.heap.size ∧ (0 < len → a.spot = none) ∧ RdL w w.heap.size a (i * 3) (encEn p) ∧ LimEn p := fun i hil => by
      have hs : a.spot = none := by
        obtain ⟨cs', hc, ht⟩ := hi 0 (by omega)
        obtain ⟨p, A2, c2, rfl, _⟩ := open_dEn ht
        rw [cellsLEn] at hc
        obtain ⟨_, _, hcell⟩ := World.cells?_some hc
        have k0 := hcell 0 (by omega)
        simp only [List.getElem?_cons_zero] at k0
        simpa [Addr.add] using World.cell?_spot k0
      obtain ⟨b, off, spot⟩ := a
      simp only at hs
      subst hs
      obtain ⟨cs', hc, ht⟩ := hi i (by omega)
      obtain ⟨p, A2, c2, rfl, r2, hz⟩ := open_dEn ht
      rw [cellsLEn] at hc
      obtain ⟨_, _, hcell⟩ := World.cells?_some hc
      have k0 := hcell 0 (by omega)
      have k1 := hcell 1 (by omega)
      have k2 := hcell 2 (by omega)
      simp only [List.getElem?_cons_zero, List.getElem?_cons_succ] at k0 k1 k2
      rw [add_at, add_at] at k0 k1 k2
      have hb := cell_lt k0
      refine ⟨p, hb, fun _ => rfl, ⟨⟨_, ?_, rfl⟩, ⟨_, ?_, rfl⟩, ⟨_, ?_, r2⟩, trivial⟩, hz⟩
      · rw [add_at]; exact k0
      · rw [add_at]; exact k1
      · rw [add_at]; exact k2
    obtain ⟨ps, e1, e2, e3⟩ := open_rows (α := En) (f := encEn) (P := fun p => LimEn p ∧ (0 < len → a.spot = none)) (sz := 3) (e := 89) (w := w) (a := a) hl (fun hd => by
      rcases hd with hd | hd
      · cases hd
      · obtain ⟨p, _, hs, _⟩ := hrow 0 hd
        exact .inl (hs hd)) (fun i hil => by
      obtain ⟨p, h1, h2, h3, h4⟩ := hrow i hil
      exact ⟨p, h1, h3, h4, h2⟩)
    subst e1
    exact ⟨ps, some a, cap, hcs, e2, by omega, fun p hp => (e3 p hp).1⟩
end
end Go.Proofs.Ytninppjomdhnmaa.low


/-
  A law's argument of the struct type Seen, and a slice of them, opened. Written by mkty.py.
-/
namespace Go.Proofs.Ytninppjomdhnmaa.low
open Go.RowKit Go.ChangeShapes Go.WideShapes Go.Deep
set_option linter.unusedVariables false
theorem cellsLSe : Try.prog.cellsOf 111 = 3 := by kernel_rfl
theorem cellsLSes : Try.prog.cellsOf 70 = 1 := by kernel_rfl
section
variable {H : Type} {enc : TypeId × Value → H} {w : World} {base : Nat} {spare : Nat → Bool} {held : Bool}
set_option maxRecDepth 100000 in
theorem open_dSe {fuel : Nat} {cs : List Value} {x : DataW H × List MemPlace} (h : DataW.trod enc Try.prog w base spare held fuel 111 cs = some x) :
    ∃ (r : Se), cs = [.int .i64 r.client, .int .i64 r.seq, .int .i64 r.rev] ∧ LimSe r := by
  obtain ⟨xs, n, _, _, hl, hxl, hf⟩ := DataW.trod_struct Try.underlying111 h
  rw [cellsLSe] at hl
  match cs, hl with
  | [k0, k1, k2], _ =>
    match xs, hxl with
    | [y0, y1, y2], _ =>
      have h0 := hf 0 _ rfl
      have h1 := hf 1 _ rfl
      have h2 := hf 2 _ rfl
      simp [cellsInt] at h0
      simp [cellsInt] at h1
      simp [cellsInt] at h2
      obtain ⟨z0, e0, _, _⟩ := DataW.trod_int Try.underlying3 h0
      obtain ⟨z1, e1, _, _⟩ := DataW.trod_int Try.underlying3 h1
      obtain ⟨z2, e2, _, _⟩ := DataW.trod_int Try.underlying3 h2
      simp at e0 e1 e2
      subst e0
      subst e1
      subst e2
      exact ⟨⟨z0, z1, z2⟩, rfl, trivial⟩
set_option maxRecDepth 100000 in
theorem open_dSes {fuel : Nat} {cs : List Value} {x : DataW H × List MemPlace} (h : DataW.trod enc Try.prog w base spare held fuel 70 cs = some x) :
    ∃ (l : List Se) (A : Option Addr) (c : Nat), cs = [.slice A l.length c] ∧ RdC w w.heap.size (encSes l) (.slice A l.length c) ∧ LimSes l := by
  rcases open_slice Try.underlying70 h with ⟨hcs, _⟩ | ⟨a, len, cap, m, n, D, Pl, hcs, _, hl, hm, hmm, _, hi⟩
  · exact ⟨[], none, 0, hcs, ⟨none, 0, rfl, Nat.le_refl _, fun hn => absurd hn (by simp)⟩, Nat.zero_le _, by simp⟩
  · have hlm : len ≤ m := by rw [hmm]; split <;> omega
    have hrow : ∀ i, i < len → ∃ p : Se, a.block < w.heap.size ∧ (0 < len → a.spot = none) ∧ RdL w w.heap.size a (i * 3) (encSe p) ∧ LimSe p := fun i hil => by
      have hs : a.spot = none := by
        obtain ⟨cs', hc, ht⟩ := hi 0 (by omega)
        obtain ⟨p, rfl, _⟩ := open_dSe ht
        rw [cellsLSe] at hc
        obtain ⟨_, _, hcell⟩ := World.cells?_some hc
        have k0 := hcell 0 (by omega)
        simp only [List.getElem?_cons_zero] at k0
        simpa [Addr.add] using World.cell?_spot k0
      obtain ⟨b, off, spot⟩ := a
      simp only at hs
      subst hs
      obtain ⟨cs', hc, ht⟩ := hi i (by omega)
      obtain ⟨p, rfl, hz⟩ := open_dSe ht
      rw [cellsLSe] at hc
      obtain ⟨_, _, hcell⟩ := World.cells?_some hc
      have k0 := hcell 0 (by omega)
      have k1 := hcell 1 (by omega)
      have k2 := hcell 2 (by omega)
      simp only [List.getElem?_cons_zero, List.getElem?_cons_succ] at k0 k1 k2
      rw [add_at, add_at] at k0 k1 k2
      have hb := cell_lt k0
      refine ⟨p, hb, fun _ => rfl, ⟨⟨_, ?_, rfl⟩, ⟨_, ?_, rfl⟩, ⟨_, ?_, rfl⟩, trivial⟩, hz⟩
      · rw [add_at]; exact k0
      · rw [add_at]; exact k1
      · rw [add_at]; exact k2
    obtain ⟨ps, e1, e2, e3⟩ := open_rows (α := Se) (f := encSe) (P := fun p => LimSe p ∧ (0 < len → a.spot = none)) (sz := 3) (e := 92) (w := w) (a := a) hl (fun hd => by
      rcases hd with hd | hd
      · cases hd
      · obtain ⟨p, _, hs, _⟩ := hrow 0 hd
        exact .inl (hs hd)) (fun i hil => by
      obtain ⟨p, h1, h2, h3, h4⟩ := hrow i hil
      exact ⟨p, h1, h3, h4, h2⟩)
    subst e1
    exact ⟨ps, some a, cap, hcs, e2, by omega, fun p hp => (e3 p hp).1⟩
end
end Go.Proofs.Ytninppjomdhnmaa.low


/-
  A law's argument of the struct type Doc, and a slice of them, opened. Written by mkty.py.
-/
namespace Go.Proofs.Ytninppjomdhnmaa.low
open Go.RowKit Go.ChangeShapes Go.WideShapes Go.Deep
set_option linter.unusedVariables false
theorem cellsLDo : Try.prog.cellsOf 72 = 5 := by kernel_rfl
theorem cellsLDos : Try.prog.cellsOf 22 = 1 := by kernel_rfl
section
variable {H : Type} {enc : TypeId × Value → H} {w : World} {base : Nat} {spare : Nat → Bool} {held : Bool}
set_option maxRecDepth 100000 in
theorem open_dDo {fuel : Nat} {cs : List Value} {x : DataW H × List MemPlace} (h : DataW.trod enc Try.prog w base spare held fuel 72 cs = some x) :
    ∃ (r : Do) (A2 : Option Addr) (c2 : Nat) (A3 : Option Addr) (c3 : Nat) (A4 : Option Addr) (c4 : Nat), cs = [.string r.name, .int .i64 r.from_, .slice A2 r.text.length c2, .slice A3 r.list.length c3, .slice A4 r.seen.length c4] ∧ RdC w w.heap.size (encInts r.text) (.slice A2 r.text.length c2) ∧ RdC w w.heap.size (encEns r.list) (.slice A3 r.list.length c3) ∧ RdC w w.heap.size (encSes r.seen) (.slice A4 r.seen.length c4) ∧ LimDo r := by
  obtain ⟨xs, n, _, _, hl, hxl, hf⟩ := DataW.trod_struct Try.underlying72 h
  rw [cellsLDo] at hl
  match cs, hl with
  | [k0, k1, k2, k3, k4], _ =>
    match xs, hxl with
    | [y0, y1, y2, y3, y4], _ =>
      have h0 := hf 0 _ rfl
      have h1 := hf 1 _ rfl
      have h2 := hf 2 _ rfl
      have h3 := hf 3 _ rfl
      have h4 := hf 4 _ rfl
      simp [cellsStr] at h0
      simp [cellsInt] at h1
      simp [cellsInts] at h2
      simp [cellsLEns] at h3
      simp [cellsLSes] at h4
      obtain ⟨z0, e0, _, l0⟩ := DataW.trod_string Try.underlying9 h0
      obtain ⟨z1, e1, _, _⟩ := DataW.trod_int Try.underlying3 h1
      obtain ⟨A2, c2, z2, e2, r2, l2⟩ := open_dints h2
      obtain ⟨z3, A3, c3, e3, r3, l3⟩ := open_dEns h3
      obtain ⟨z4, A4, c4, e4, r4, l4⟩ := open_dSes h4
      simp at e0 e1 e2 e3 e4
      subst e0
      subst e1
      subst e2
      subst e3
      subst e4
      exact ⟨⟨z0, z1, z2, z3, z4⟩, A2, c2, A3, c3, A4, c4, rfl, r2, r3, r4, ⟨l0, l2, l3, l4⟩⟩
set_option maxRecDepth 100000 in
theorem open_dDos {fuel : Nat} {cs : List Value} {x : DataW H × List MemPlace} (h : DataW.trod enc Try.prog w base spare held fuel 22 cs = some x) :
    ∃ (l : List Do) (A : Option Addr) (c : Nat), cs = [.slice A l.length c] ∧ RdC w w.heap.size (encDos l) (.slice A l.length c) ∧ LimDos l := by
  rcases open_slice Try.underlying22 h with ⟨hcs, _⟩ | ⟨a, len, cap, m, n, D, Pl, hcs, _, hl, hm, hmm, _, hi⟩
  · exact ⟨[], none, 0, hcs, ⟨none, 0, rfl, Nat.le_refl _, fun hn => absurd hn (by simp)⟩, Nat.zero_le _, by simp⟩
  · have hlm : len ≤ m := by rw [hmm]; split <;> omega
    have hrow : ∀ i, i < len → ∃ p : Do, a.block < w.heap.size ∧ (0 < len → a.spot = none) ∧ RdL w w.heap.size a (i * 5) (encDo p) ∧ LimDo p := fun i hil => by
      have hs : a.spot = none := by
        obtain ⟨cs', hc, ht⟩ := hi 0 (by omega)
        obtain ⟨p, A2, c2, A3, c3, A4, c4, rfl, _⟩ := open_dDo ht
        rw [cellsLDo] at hc
        obtain ⟨_, _, hcell⟩ := World.cells?_some hc
        have k0 := hcell 0 (by omega)
        simp only [List.getElem?_cons_zero] at k0
        simpa [Addr.add] using World.cell?_spot k0
      obtain ⟨b, off, spot⟩ := a
      simp only at hs
      subst hs
      obtain ⟨cs', hc, ht⟩ := hi i (by omega)
      obtain ⟨p, A2, c2, A3, c3, A4, c4, rfl, r2, r3, r4, hz⟩ := open_dDo ht
      rw [cellsLDo] at hc
      obtain ⟨_, _, hcell⟩ := World.cells?_some hc
      have k0 := hcell 0 (by omega)
      have k1 := hcell 1 (by omega)
      have k2 := hcell 2 (by omega)
      have k3 := hcell 3 (by omega)
      have k4 := hcell 4 (by omega)
      simp only [List.getElem?_cons_zero, List.getElem?_cons_succ] at k0 k1 k2 k3 k4
      rw [add_at, add_at] at k0 k1 k2 k3 k4
      have hb := cell_lt k0
      refine ⟨p, hb, fun _ => rfl, ⟨⟨_, ?_, rfl⟩, ⟨_, ?_, rfl⟩, ⟨_, ?_, r2⟩, ⟨_, ?_, r3⟩, ⟨_, ?_, r4⟩, trivial⟩, hz⟩
      · rw [add_at]; exact k0
      · rw [add_at]; exact k1
      · rw [add_at]; exact k2
      · rw [add_at]; exact k3
      · rw [add_at]; exact k4
    obtain ⟨ps, e1, e2, e3⟩ := open_rows (α := Do) (f := encDo) (P := fun p => LimDo p ∧ (0 < len → a.spot = none)) (sz := 5) (e := 44) (w := w) (a := a) hl (fun hd => by
      rcases hd with hd | hd
      · cases hd
      · obtain ⟨p, _, hs, _⟩ := hrow 0 hd
        exact .inl (hs hd)) (fun i hil => by
      obtain ⟨p, h1, h2, h3, h4⟩ := hrow i hil
      exact ⟨p, h1, h3, h4, h2⟩)
    subst e1
    exact ⟨ps, some a, cap, hcs, e2, by omega, fun p hp => (e3 p hp).1⟩
end
end Go.Proofs.Ytninppjomdhnmaa.low


/-
  A law's argument of the struct type Ring, and a slice of them, opened. Written by mkty.py.
-/
namespace Go.Proofs.Ytninppjomdhnmaa.low
open Go.RowKit Go.ChangeShapes Go.WideShapes Go.Deep
set_option linter.unusedVariables false
theorem cellsLRi : Try.prog.cellsOf 75 = 4 := by kernel_rfl
section
variable {H : Type} {enc : TypeId × Value → H} {w : World} {base : Nat} {spare : Nat → Bool} {held : Bool}
set_option maxRecDepth 100000 in
theorem open_dRi {fuel : Nat} {cs : List Value} {x : DataW H × List MemPlace} (h : DataW.trod enc Try.prog w base spare held fuel 75 cs = some x) :
    ∃ (r : Ri) (A3 : Option Addr) (c3 : Nat), cs = [.int .i64 r.cap, .int .i64 r.next, .bool r.out, .slice A3 r.list.length c3] ∧ RdC w w.heap.size (encEns r.list) (.slice A3 r.list.length c3) ∧ LimRi r := by
  obtain ⟨xs, n, _, _, hl, hxl, hf⟩ := DataW.trod_struct Try.underlying75 h
  rw [cellsLRi] at hl
  match cs, hl with
  | [k0, k1, k2, k3], _ =>
    match xs, hxl with
    | [y0, y1, y2, y3], _ =>
      have h0 := hf 0 _ rfl
      have h1 := hf 1 _ rfl
      have h2 := hf 2 _ rfl
      have h3 := hf 3 _ rfl
      simp [cellsInt] at h0
      simp [cellsInt] at h1
      simp [cellsBool] at h2
      simp [cellsLEns] at h3
      obtain ⟨z0, e0, _, _⟩ := DataW.trod_int Try.underlying3 h0
      obtain ⟨z1, e1, _, _⟩ := DataW.trod_int Try.underlying3 h1
      obtain ⟨z2, e2, _⟩ := DataW.trod_bool Try.underlying4 h2
      obtain ⟨z3, A3, c3, e3, r3, l3⟩ := open_dEns h3
      simp at e0 e1 e2 e3
      subst e0
      subst e1
      subst e2
      subst e3
      exact ⟨⟨z0, z1, z2, z3⟩, A3, c3, rfl, r3, l3⟩
end
end Go.Proofs.Ytninppjomdhnmaa.low


/-
  A law's argument of the struct type Sub, and a slice of them, opened. Written by mkty.py.
-/
namespace Go.Proofs.Ytninppjomdhnmaa.low
open Go.RowKit Go.ChangeShapes Go.WideShapes Go.Deep
set_option linter.unusedVariables false
theorem cellsLSu : Try.prog.cellsOf 77 = 6 := by kernel_rfl
theorem cellsLSus : Try.prog.cellsOf 23 = 1 := by kernel_rfl
section
variable {H : Type} {enc : TypeId × Value → H} {w : World} {base : Nat} {spare : Nat → Bool} {held : Bool}
set_option maxRecDepth 100000 in
theorem open_dSu {fuel : Nat} {cs : List Value} {x : DataW H × List MemPlace} (h : DataW.trod enc Try.prog w base spare held fuel 77 cs = some x) :
    ∃ (r : Su) (A5 : Option Addr) (c5 : Nat), cs = [.int .i64 r.id, .string r.doc, .int .i64 r.cap, .int .i64 r.next, .bool r.out, .slice A5 r.list.length c5] ∧ RdC w w.heap.size (encEns r.list) (.slice A5 r.list.length c5) ∧ LimSu r := by
  obtain ⟨xs, n, _, _, hl, hxl, hf⟩ := DataW.trod_struct Try.underlying77 h
  rw [cellsLSu] at hl
  match cs, hl with
  | [k0, k1, k2, k3, k4, k5], _ =>
    match xs, hxl with
    | [y0, y1, y2], _ =>
      have h0 := hf 0 _ rfl
      have h1 := hf 1 _ rfl
      have h2 := hf 2 _ rfl
      simp [cellsInt] at h0
      simp [cellsStr] at h1
      simp [cellsLRi] at h2
      obtain ⟨z0, e0, _, _⟩ := DataW.trod_int Try.underlying3 h0
      obtain ⟨z1, e1, _, l1⟩ := DataW.trod_string Try.underlying9 h1
      obtain ⟨z2, A5, c5, e2, r5, l5⟩ := open_dRi h2
      simp at e0 e1 e2
      obtain ⟨rfl, rfl, rfl, rfl⟩ := e2
      subst e0
      subst e1
      exact ⟨⟨z0, z1, z2.cap, z2.next, z2.out, z2.list⟩, A5, c5, rfl, r5, ⟨l1, l5⟩⟩
set_option maxRecDepth 100000 in
theorem open_dSus {fuel : Nat} {cs : List Value} {x : DataW H × List MemPlace} (h : DataW.trod enc Try.prog w base spare held fuel 23 cs = some x) :
    ∃ (l : List Su) (A : Option Addr) (c : Nat), cs = [.slice A l.length c] ∧ RdC w w.heap.size (encSus l) (.slice A l.length c) ∧ LimSus l := by
  rcases open_slice Try.underlying23 h with ⟨hcs, _⟩ | ⟨a, len, cap, m, n, D, Pl, hcs, _, hl, hm, hmm, _, hi⟩
  · exact ⟨[], none, 0, hcs, ⟨none, 0, rfl, Nat.le_refl _, fun hn => absurd hn (by simp)⟩, Nat.zero_le _, by simp⟩
  · have hlm : len ≤ m := by rw [hmm]; split <;> omega
    have hrow : ∀ i, i < len → ∃ p : Su, a.block < w.heap.size ∧ (0 < len → a.spot = none) ∧ RdL w w.heap.size a (i * 6) (encSu p) ∧ LimSu p := fun i hil => by
      have hs : a.spot = none := by
        obtain ⟨cs', hc, ht⟩ := hi 0 (by omega)
        obtain ⟨p, A5, c5, rfl, _⟩ := open_dSu ht
        rw [cellsLSu] at hc
        obtain ⟨_, _, hcell⟩ := World.cells?_some hc
        have k0 := hcell 0 (by omega)
        simp only [List.getElem?_cons_zero] at k0
        simpa [Addr.add] using World.cell?_spot k0
      obtain ⟨b, off, spot⟩ := a
      simp only at hs
      subst hs
      obtain ⟨cs', hc, ht⟩ := hi i (by omega)
      obtain ⟨p, A5, c5, rfl, r5, hz⟩ := open_dSu ht
      rw [cellsLSu] at hc
      obtain ⟨_, _, hcell⟩ := World.cells?_some hc
      have k0 := hcell 0 (by omega)
      have k1 := hcell 1 (by omega)
      have k2 := hcell 2 (by omega)
      have k3 := hcell 3 (by omega)
      have k4 := hcell 4 (by omega)
      have k5 := hcell 5 (by omega)
      simp only [List.getElem?_cons_zero, List.getElem?_cons_succ] at k0 k1 k2 k3 k4 k5
      rw [add_at, add_at] at k0 k1 k2 k3 k4 k5
      have hb := cell_lt k0
      refine ⟨p, hb, fun _ => rfl, ⟨⟨_, ?_, rfl⟩, ⟨_, ?_, rfl⟩, ⟨_, ?_, rfl⟩, ⟨_, ?_, rfl⟩, ⟨_, ?_, rfl⟩, ⟨_, ?_, r5⟩, trivial⟩, hz⟩
      · rw [add_at]; exact k0
      · rw [add_at]; exact k1
      · rw [add_at]; exact k2
      · rw [add_at]; exact k3
      · rw [add_at]; exact k4
      · rw [add_at]; exact k5
    obtain ⟨ps, e1, e2, e3⟩ := open_rows (α := Su) (f := encSu) (P := fun p => LimSu p ∧ (0 < len → a.spot = none)) (sz := 6) (e := 61) (w := w) (a := a) hl (fun hd => by
      rcases hd with hd | hd
      · cases hd
      · obtain ⟨p, _, hs, _⟩ := hrow 0 hd
        exact .inl (hs hd)) (fun i hil => by
      obtain ⟨p, h1, h2, h3, h4⟩ := hrow i hil
      exact ⟨p, h1, h3, h4, h2⟩)
    subst e1
    exact ⟨ps, some a, cap, hcs, e2, by omega, fun p hp => (e3 p hp).1⟩
end
end Go.Proofs.Ytninppjomdhnmaa.low


/-
  A law's argument of the struct type Hub, and a slice of them, opened. Written by mkty.py.
-/
namespace Go.Proofs.Ytninppjomdhnmaa.low
open Go.RowKit Go.ChangeShapes Go.WideShapes Go.Deep
set_option linter.unusedVariables false
theorem cellsLHu : Try.prog.cellsOf 25 = 4 := by kernel_rfl
section
variable {H : Type} {enc : TypeId × Value → H} {w : World} {base : Nat} {spare : Nat → Bool} {held : Bool}
set_option maxRecDepth 100000 in
theorem open_dHu {fuel : Nat} {cs : List Value} {x : DataW H × List MemPlace} (h : DataW.trod enc Try.prog w base spare held fuel 25 cs = some x) :
    ∃ (r : Hu) (A1 : Option Addr) (c1 : Nat) (A2 : Option Addr) (c2 : Nat), cs = [.bool r.shut, .slice A1 r.docs.length c1, .slice A2 r.subs.length c2, .int .i64 r.last] ∧ RdC w w.heap.size (encDos r.docs) (.slice A1 r.docs.length c1) ∧ RdC w w.heap.size (encSus r.subs) (.slice A2 r.subs.length c2) ∧ LimHu r := by
  obtain ⟨xs, n, _, _, hl, hxl, hf⟩ := DataW.trod_struct Try.underlying25 h
  rw [cellsLHu] at hl
  match cs, hl with
  | [k0, k1, k2, k3], _ =>
    match xs, hxl with
    | [y0, y1, y2, y3], _ =>
      have h0 := hf 0 _ rfl
      have h1 := hf 1 _ rfl
      have h2 := hf 2 _ rfl
      have h3 := hf 3 _ rfl
      simp [cellsBool] at h0
      simp [cellsLDos] at h1
      simp [cellsLSus] at h2
      simp [cellsInt] at h3
      obtain ⟨z0, e0, _⟩ := DataW.trod_bool Try.underlying4 h0
      obtain ⟨z1, A1, c1, e1, r1, l1⟩ := open_dDos h1
      obtain ⟨z2, A2, c2, e2, r2, l2⟩ := open_dSus h2
      obtain ⟨z3, e3, _, _⟩ := DataW.trod_int Try.underlying3 h3
      simp at e0 e1 e2 e3
      subst e0
      subst e1
      subst e2
      subst e3
      exact ⟨⟨z0, z1, z2, z3⟩, A1, c1, A2, c2, rfl, r1, r2, ⟨l1, l2⟩⟩
end
end Go.Proofs.Ytninppjomdhnmaa.low


/-
  Contracts of spec.NameOk, spec.EntryOk, spec.EntrySame, spec.HeadRev, spec.SeenOf.
-/
namespace Go.Proofs.Ytninppjomdhnmaa.low
open Go.RowKit
set_option linter.unusedVariables false

theorem ret_b {a b : Bool} (h : a = b) : Ending.returned (.bool a) = .returned (.bool b) := by rw [h]
/-- a small letter at place i -/
def lowerAt (s : ByteArray) (i : Nat) : Bool := if h : i < s.size then decide (97 ≤ (s[i]'h).toNat ∧ (s[i]'h).toNat ≤ 122) else true
def lowersTo (s : ByteArray) : Nat → Bool
  | 0 => true
  | k + 1 => lowersTo s k && lowerAt s k
def nameB (s : ByteArray) : Bool := lowersTo s s.size && inB (s.size : Int) 1 8
theorem lowersTo_f {s : ByteArray} {k : Nat} (h : lowerAt s k = false) : ∀ n, k < n → lowersTo s n = false
  | 0, hk => by omega
  | n + 1, hk => by
    rw [lowersTo]
    by_cases e : k = n
    · rw [e] at h
      rw [h]
      simp
    · rw [lowersTo_f h n (by omega)]
      rfl
/-- an entry is valid -/
def entryB (x : En) : Bool := inB x.client 1 8 && inB x.seq 1 1000000000 && isNormL x.o
/-- two entries are the same -/
def entrySameB (x y : En) : Bool := decide (x.client = y.client) && decide (x.seq = y.seq) && samePs x.o y.o
set_option maxRecDepth 100000 in
set_option maxHeartbeats 1600000 in
theorem specEntrySame_d (v v' : Value) (x y : En) (w : World) (h : RdC w w.heap.size (datEn x) v) (h' : RdC w w.heap.size (datEn y) v') (hs : SmEn x) (hs' : SmEn y) : Calls Try.prog 41 #[v, v'] w (Tells (entrySameB x y) w) := by
  obtain ⟨A2, c2, rfl, r2⟩ := aggEn h
  obtain ⟨B2, d2, rfl, s2⟩ := aggEn h'
  obtain ⟨_, _, b0⟩ := two_boxes w #[.int .i64 x.client, .int .i64 x.seq, .slice A2 x.o.length c2] #[.int .i64 y.client, .int .i64 y.seq, .slice B2 y.o.length d2] 89
  have HE := Lib.hid (show entrySameB x y = (decide (x.client = y.client) && decide (x.seq = y.seq) && samePs x.o y.o) from rfl)
  by_cases h1 : x.client = y.client
  · have g1 : (x.client == y.client) = true := by simp [h1]
    by_cases h2 : x.seq = y.seq
    · have g2 : (x.seq == y.seq) = true := by simp [h2]
      obtain ⟨A, c, e2, hr, _⟩ := parts_rd r2
      injection e2 with e2 _ e3
      subst e2 e3
      obtain ⟨B, d, e2, hr', _⟩ := parts_rd s2
      injection e2 with e2 _ e3
      subst e2 e3
      have q1 := hs.o.1
      have q2 := hs'.o.1
      have H12 := Lib.hid (And.intro h1 h2)
      clear h1 h2
      go_enter Try.func41, Try.ntmps41
      go_wp2_with fail
      refine (specOpSame_any A2 B2 c2 d2 x.o y.o _ (hr.past b0) (hr'.past b0) (by omega) (by omega) hs.o.all4 hs'.o.all4).mono ?_
      rintro e w1 ⟨rfl, b1⟩
      go_wp2
      go_ret
      exact ⟨ret_b (by rw [HE.out, decide_eq_true H12.out.1, decide_eq_true H12.out.2]; rfl), b0.trans (b1.mono b0.size)⟩
    · have g2 : (x.seq == y.seq) = false := by simp [h2]
      have H12 := Lib.hid (And.intro h1 h2)
      clear h1 h2
      go_enter Try.func41, Try.ntmps41
      go_wp2
      go_ret
      exact ⟨ret_b (by rw [HE.out, decide_eq_true H12.out.1, decide_eq_false H12.out.2]; rfl), b0⟩
  · have g1 : (x.client == y.client) = false := by simp [h1]
    have H12 := Lib.hid h1
    clear h1
    go_enter Try.func41, Try.ntmps41
    go_wp2
    go_ret
    exact ⟨ret_b (by rw [HE.out, decide_eq_false H12.out]; rfl), b0⟩

/-- the newest revision -/
def headRevT (x : Do) : Int := wrap64 (x.from_ + (x.list.length : Int))
/-- the first row of that client -/
def seenGo (c : Int) : List Se → Option Se
  | [] => none
  | s :: l => if s.client = c then some s else seenGo c l
def seenOfT (x : Do) (c : Int) : Se := (seenGo c x.seen).getD ⟨0, 0, 0⟩
def seenOfB (x : Do) (c : Int) : Bool := (seenGo c x.seen).isSome
theorem seenGo_step {c : Int} {l : List Se} {j : Nat} {s : Se} (h : l[j]? = some s) : seenGo c (l.drop j) = if s.client = c then some s else seenGo c (l.drop (j + 1)) := by
  obtain ⟨hlt, e⟩ := List.getElem?_eq_some_iff.1 h
  rw [List.drop_eq_getElem_cons hlt, e]
  rfl
theorem own_se {lo : Nat} {w : World} (s : Se) (h : lo ≤ w.heap.size) : Own lo w.heap.size w (datSe s) (.agg #[.int .i64 s.client, .int .i64 s.seq, .int .i64 s.rev]) := OwnL.agg (OwnL.flat rfl (OwnL.flat rfl (OwnL.flat rfl (OwnL.nil (Nat.le_refl _) h))))
end Go.Proofs.Ytninppjomdhnmaa.low


/-
  Contract of spec.DocOk.
-/
namespace Go.Proofs.Ytninppjomdhnmaa.low
open Go.RowKit
set_option linter.unusedVariables false

/-- the entries apply one behind the other, each is valid -/
def chainGo : List En → List Int → Bool
  | [], _ => true
  | e :: l, t => fitsB e.o t && entryB e && okText (applyT e.o t) && chainGo l (applyT e.o t)
theorem chainGo_step {l : List En} {j : Nat} {e : En} (h : l[j]? = some e) (t : List Int) : chainGo (l.drop j) t = (fitsB e.o t && entryB e && okText (applyT e.o t) && chainGo (l.drop (j + 1)) (applyT e.o t)) := by
  obtain ⟨hlt, e'⟩ := List.getElem?_eq_some_iff.1 h
  rw [List.drop_eq_getElem_cons hlt, e']
  rfl
/-- the rows of clients, in ascending order -/
def seenOneB (h : Int) (prev : Option Int) (s : Se) : Bool := inB s.client 1 8 && inB s.seq 1 1000000000 && inB s.rev 1 h && (match prev with | none => true | some p => decide (p < s.client))
def seenAllB (h : Int) : Option Int → List Se → Bool
  | _, [] => true
  | prev, s :: l => seenOneB h prev s && seenAllB h (some s.client) l
def prevOf (l : List Se) : Nat → Option Int
  | 0 => none
  | k + 1 => (l[k]?).map Se.client
theorem seenAllB_step {h : Int} {l : List Se} {j : Nat} {s : Se} (hs : l[j]? = some s) : seenAllB h (prevOf l j) (l.drop j) = (seenOneB h (prevOf l j) s && seenAllB h (prevOf l (j + 1)) (l.drop (j + 1))) := by
  obtain ⟨hlt, e'⟩ := List.getElem?_eq_some_iff.1 hs
  rw [List.drop_eq_getElem_cons hlt, e']
  have : prevOf l (j + 1) = some s.client := by rw [prevOf, hs]; rfl
  rw [this]
  rfl
/-- a document is valid -/
def docB (x : Do) : Bool := nameB x.name && inB x.from_ 0 999999000 && okText x.text && decide (x.list.length ≤ 8) && chainGo x.list x.text && seenAllB (headRevT x) none x.seen
theorem okText_small {t : List Int} (h : okText t = true) : SmI t := by
  unfold okText at h
  rw [Bool.and_eq_true] at h
  have := of_decide_eq_true h.2
  unfold SmI
  omega
theorem SmDo.nameL {x : Do} (h : SmDo x) : x.name.size ≤ 1048576 := by unfold SmDo totDo at h; omega
/-- a document each of whose fields is small -/
structure SmD4 (x : Do) : Prop where
  nameL : x.name.size ≤ 1048576
  text : SmI x.text
  list : SmEns x.list
  seen : SmSes x.seen
theorem SmDo.four {x : Do} (h : SmDo x) : SmD4 x := ⟨h.nameL, h.text, h.list, h.seen⟩
end Go.Proofs.Ytninppjomdhnmaa.low


/-
  Contract of spec.TextAt. Written by mkdoc3.py.
-/
namespace Go.Proofs.Ytninppjomdhnmaa.low
open Go.RowKit
set_option linter.unusedVariables false

/-- the text behind the entries -/
def endT (l : List En) (t : List Int) : List Int := l.foldl (fun t e => applyT e.o t) t
theorem endT_snoc {l : List En} {j : Nat} {e : En} (h : l[j]? = some e) (t : List Int) : endT (l.take (j + 1)) t = applyT e.o (endT (l.take j) t) := by
  unfold endT
  rw [List.take_add_one, h]
  simp
def textAtB (x : Do) (r : Int) : Bool := docB x && inB r x.from_ (headRevT x)
def textAtT (x : Do) (r : Int) : List Int := if textAtB x r = true then endT (x.list.take (r - x.from_).toNat) x.text else []
theorem textAt_f {x : Do} {r : Int} (h : textAtB x r = false) : textAtB x r = false ∧ textAtT x r = [] := ⟨h, by unfold textAtT; rw [h]; rfl⟩
theorem docB_of {x : Do} (h : docB x = true) : 0 ≤ x.from_ ∧ x.from_ ≤ 999999000 ∧ x.list.length ≤ 8 ∧ headRevT x = x.from_ + (x.list.length : Int) := by
  unfold docB at h
  simp only [Bool.and_eq_true] at h
  have h1 := of_decide_eq_true h.1.1.1.1.2
  have h2 := of_decide_eq_true h.1.1.2
  refine ⟨h1.1, h1.2, h2, ?_⟩
  unfold headRevT
  exact IntWalk.wrap64_in _ (by omega)
theorem endT_small {l : List En} {t : List Int} (hl : ∀ e ∈ l, SmP e.o) (ht : SmI t) : SmI (endT l t) := by
  induction l generalizing t with
  | nil => exact ht
  | cons e l ih => exact ih (fun q hq => hl q (by simp [hq])) (apply_small (hl e (by simp)) ht)
theorem textAt_small {x : Do} {r : Int} (hs : SmDo x) : SmI (textAtT x r) := by
  unfold textAtT
  split
  · exact endT_small (fun e he => (hs.list.at_ (List.mem_of_mem_take he)).o) hs.text
  · unfold SmI; simp
end Go.Proofs.Ytninppjomdhnmaa.low


/-
  Contracts of spec.HeadText and spec.DocNew.
-/
namespace Go.Proofs.Ytninppjomdhnmaa.low
open Go.RowKit
set_option linter.unusedVariables false

def headTextT (x : Do) : List Int := textAtT x (headRevT x)
theorem headText_small {x : Do} (hs : SmDo x) : SmI (headTextT x) := textAt_small hs
def newDo (s : ByteArray) (t : List Int) : Do := ⟨s, 0, t, [], []⟩
def noDo : Do := ⟨⟨#[]⟩, 0, [], [], []⟩
def docNewB (s : ByteArray) (t : List Int) : Bool := docB (newDo s t)
def docNewT (s : ByteArray) (t : List Int) : Do := if docNewB s t = true then newDo s t else noDo
theorem newDo_four {s : ByteArray} {t : List Int} (hss : s.size ≤ 1048576) (hs : SmI t) : SmD4 (newDo s t) := ⟨hss, hs, by unfold SmEns totEns sumN newDo; simp, by unfold SmSes totSes sumN newDo; simp⟩
theorem docNew_small {s : ByteArray} {t : List Int} (hss : s.size ≤ 1048576) (hs : SmI t) : SmDo (docNewT s t) := by
  unfold docNewT
  split
  · rename_i h
    unfold docNewB docB at h
    simp only [Bool.and_eq_true] at h
    have h1 : nameB (newDo s t).name = true := h.1.1.1.1.1
    have h2 : okText (newDo s t).text = true := h.1.1.1.2
    unfold nameB at h1
    rw [Bool.and_eq_true] at h1
    have h3 := of_decide_eq_true h1.2
    unfold okText at h2
    rw [Bool.and_eq_true] at h2
    have h4 := of_decide_eq_true h2.2
    have h5 : ((newDo s t).name.size : Int) ≤ 8 := h3.2
    unfold SmDo totDo totI totEns totSes sumN
    have e1 : (newDo s t).list = [] := rfl
    have e2 : (newDo s t).seen = [] := rfl
    rw [e1, e2]
    simp
    omega
  · have e : totDo noDo = 0 := rfl
    unfold SmDo
    rw [e]
    omega
theorem nilOwn0 {lo mid : Nat} {w : World} {e : TypeId} {sz : Nat} (h : lo ≤ mid) (h2 : mid ≤ w.heap.size) : Own lo mid w (.rows e sz []) (.slice none 0 0) := ⟨[], ⟨[], [], World.ownsRow_nil _ _ _ _, ⟨rfl, rfl⟩, rfl⟩, by simp, fun b hb => by simp at hb, h2, h⟩
theorem rd_nil {w : World} {B : Nat} {e : TypeId} {sz : Nat} : RdC w B (.rows e sz []) (.slice none 0 0) := ⟨none, 0, rfl, Nat.le_refl _, fun h => by simp at h⟩
end Go.Proofs.Ytninppjomdhnmaa.low


/-
  Contract of spec.DocSame. Written by mkdoc5.py.
-/
namespace Go.Proofs.Ytninppjomdhnmaa.low
open Go.RowKit
set_option linter.unusedVariables false

def entriesB : List En → List En → Bool
  | [], [] => true
  | e :: l, e' :: l' => entrySameB e e' && entriesB l l'
  | _, _ => false
theorem entriesB_step {l l' : List En} {j : Nat} {e e' : En} (h : l[j]? = some e) (h' : l'[j]? = some e') : entriesB (l.drop j) (l'.drop j) = (entrySameB e e' && entriesB (l.drop (j + 1)) (l'.drop (j + 1))) := by
  obtain ⟨h1, e1⟩ := List.getElem?_eq_some_iff.1 h
  obtain ⟨h2, e2⟩ := List.getElem?_eq_some_iff.1 h'
  rw [List.drop_eq_getElem_cons h1, List.drop_eq_getElem_cons h2, e1, e2]
  rfl
def seSameB (s s' : Se) : Bool := decide (s.client = s'.client) && decide (s.seq = s'.seq) && decide (s.rev = s'.rev)
def seensB : List Se → List Se → Bool
  | [], [] => true
  | e :: l, e' :: l' => seSameB e e' && seensB l l'
  | _, _ => false
theorem seensB_step {l l' : List Se} {j : Nat} {e e' : Se} (h : l[j]? = some e) (h' : l'[j]? = some e') : seensB (l.drop j) (l'.drop j) = (seSameB e e' && seensB (l.drop (j + 1)) (l'.drop (j + 1))) := by
  obtain ⟨h1, e1⟩ := List.getElem?_eq_some_iff.1 h
  obtain ⟨h2, e2⟩ := List.getElem?_eq_some_iff.1 h'
  rw [List.drop_eq_getElem_cons h1, List.drop_eq_getElem_cons h2, e1, e2]
  rfl
/-- two documents are the same -/
def docSameB (x y : Do) : Bool := (x.name.toList == y.name.toList) && decide (x.from_ = y.from_) && sameB x.text y.text && decide (x.list.length = y.list.length) && decide (x.seen.length = y.seen.length) && entriesB x.list y.list && seensB x.seen y.seen
set_option maxRecDepth 100000 in
set_option maxHeartbeats 3200000 in
theorem specDocSame_d (v v' : Value) (x y : Do) (w : World) (h : RdC w w.heap.size (datDo x) v) (h' : RdC w w.heap.size (datDo y) v') (hs : SmDo x) (hs' : SmDo y) : Calls Try.prog 24 #[v, v'] w (Tells (docSameB x y) w) := by
  obtain ⟨A2, c2, A3, c3, A4, c4, rfl, r2, r3, r4⟩ := aggDo h
  obtain ⟨B2, d2, B3, d3, B4, d4, rfl, s2, s3, s4⟩ := aggDo h'
  obtain ⟨g1, g2, b0⟩ := two_boxes w #[.string x.name, .int .i64 x.from_, .slice A2 x.text.length c2, .slice A3 x.list.length c3, .slice A4 x.seen.length c4] #[.string y.name, .int .i64 y.from_, .slice B2 y.text.length d2, .slice B3 y.list.length d3, .slice B4 y.seen.length d4] 44
  have bx : Bx ((w.alloc (.cells #[.string x.name, .int .i64 x.from_, .slice A2 x.text.length c2, .slice A3 x.list.length c3, .slice A4 x.seen.length c4] 44)).alloc (.cells #[.string y.name, .int .i64 y.from_, .slice B2 y.text.length d2, .slice B3 y.list.length d3, .slice B4 y.seen.length d4] 44)) w.heap.size #[.string x.name, .int .i64 x.from_, .slice A2 x.text.length c2, .slice A3 x.list.length c3, .slice A4 x.seen.length c4] 44 := g1
  have by_ : Bx ((w.alloc (.cells #[.string x.name, .int .i64 x.from_, .slice A2 x.text.length c2, .slice A3 x.list.length c3, .slice A4 x.seen.length c4] 44)).alloc (.cells #[.string y.name, .int .i64 y.from_, .slice B2 y.text.length d2, .slice B3 y.list.length d3, .slice B4 y.seen.length d4] 44)) (w.heap.size + 1) #[.string y.name, .int .i64 y.from_, .slice B2 y.text.length d2, .slice B3 y.list.length d3, .slice B4 y.seen.length d4] 44 := g2
  clear g1 g2
  have HD := Lib.hid (show docSameB x y = ((x.name.toList == y.name.toList) && decide (x.from_ = y.from_) && sameB x.text y.text && decide (x.list.length = y.list.length) && decide (x.seen.length = y.seen.length) && entriesB x.list y.list && seensB x.seen y.seen) from rfl)
  have hl3 := hs.list.len
  have hl4 := hs.seen.len
  have hm3 := hs'.list.len
  have hm4 := hs'.seen.len
  have ht1 : x.text.length ≤ 1048576 := hs.text
  have ht2 : y.text.length ≤ 1048576 := hs'.text
  cases hn : (x.name.toList == y.name.toList)
  · go_enter Try.func24, Try.ntmps24
    go_wp2
    go_ret
    exact ⟨ret_b (by rw [HD.out, hn]; rfl), b0⟩
  by_cases hf : x.from_ = y.from_
  case neg =>
    have gf : (x.from_ != y.from_) = true := by simp [hf]
    have HF := Lib.hid hf
    clear hf
    go_enter Try.func24, Try.ntmps24
    go_wp2
    go_ret
    exact ⟨ret_b (by rw [HD.out, hn, decide_eq_false HF.out]; rfl), b0⟩
  have gf : (x.from_ != y.from_) = false := by simp [hf]
  have HF := Lib.hid hf
  clear hf
  obtain ⟨_, _, e2, hr2, _⟩ := ints_rd (r2.past b0)
  injection e2 with e2 _ e3
  subst e2 e3
  obtain ⟨_, _, e2, hq2, _⟩ := ints_rd (s2.past b0)
  injection e2 with e2 _ e3
  subst e2 e3
  go_enter Try.func24, Try.ntmps24
  go_wp2_with fail
  generalize ((w.alloc (.cells #[.string x.name, .int .i64 x.from_, .slice A2 x.text.length c2, .slice A3 x.list.length c3, .slice A4 x.seen.length c4] 44)).alloc (.cells #[.string y.name, .int .i64 y.from_, .slice B2 y.text.length d2, .slice B3 y.list.length d3, .slice B4 y.seen.length d4] 44)) = W0 at b0 bx by_ hr2 hq2 ⊢
  refine (specSignsSame_any A2 B2 c2 d2 x.text y.text _ hr2 hq2 (by omega) (by omega)).mono ?_
  intro e w1 hsay
  obtain ⟨rfl, k1⟩ := says_tells hsay
  clear hsay hr2 hq2
  have bx := bx.past k1
  have by_ := by_.past k1
  have d1 := b0.trans (k1.mono b0.size)
  clear k1 b0
  cases ht : sameB x.text y.text
  · go_wp2
    go_ret
    exact ⟨ret_b (by rw [HD.out, hn, decide_eq_true HF.out, ht]; rfl), d1⟩
  have y3 : w1.cell? ⟨w.heap.size, 3, none⟩ = some (.slice A3 x.list.length c3) := bx.cell rfl
  have z3 : w1.cell? ⟨w.heap.size + 1, 3, none⟩ = some (.slice B3 y.list.length d3) := by_.cell rfl
  have y4 : w1.cell? ⟨w.heap.size, 4, none⟩ = some (.slice A4 x.seen.length c4) := bx.cell rfl
  have z4 : w1.cell? ⟨w.heap.size + 1, 4, none⟩ = some (.slice B4 y.seen.length d4) := by_.cell rfl
  by_cases h3 : x.list.length = y.list.length
  case neg =>
    have g3 : ((x.list.length : Int) != (y.list.length : Int)) = true := by simp; omega
    have H3 := Lib.hid h3
    clear h3
    go_wp2
    go_ret
    exact ⟨ret_b (by rw [HD.out, hn, decide_eq_true HF.out, ht, decide_eq_false H3.out]; rfl), d1⟩
  have g3 : ((x.list.length : Int) != (y.list.length : Int)) = false := by simp; omega
  by_cases h4 : x.seen.length = y.seen.length
  case neg =>
    have g4 : ((x.seen.length : Int) != (y.seen.length : Int)) = true := by simp; omega
    have H3 := Lib.hid h3
    have H4 := Lib.hid h4
    clear h4 h3
    go_wp2
    go_ret
    exact ⟨ret_b (by rw [HD.out, hn, decide_eq_true HF.out, ht, decide_eq_true H3.out, decide_eq_false H4.out]; rfl), d1⟩
  have g4 : ((x.seen.length : Int) != (y.seen.length : Int)) = false := by simp; omega
  have HD2 := Lib.hid (show docSameB x y = (entriesB x.list y.list && seensB x.seen y.seen) by rw [HD.out, hn, decide_eq_true HF.out, ht, decide_eq_true h3, decide_eq_true h4]; rfl)
  have H3 := Lib.hid h3
  have H4 := Lib.hid h4
  have BX := Lib.hid bx
  have BY := Lib.hid by_
  clear h3 h4 bx by_ HD hn ht HF gf
  go_wp2
  go_loopw [50] (fun i wr => ∃ j : Nat, j ≤ x.list.length ∧ i = .int .i64 (j : Int) ∧ docSameB x y = (entriesB (x.list.drop j) (y.list.drop j) && seensB x.seen y.seen) ∧ Bx wr w.heap.size #[.string x.name, .int .i64 x.from_, .slice A2 x.text.length c2, .slice A3 x.list.length c3, .slice A4 x.seen.length c4] 44 ∧ Bx wr (w.heap.size + 1) #[.string y.name, .int .i64 y.from_, .slice B2 y.text.length d2, .slice B3 y.list.length d3, .slice B4 y.seen.length d4] 44 ∧ Below w.heap.size w wr) (fun i _ => x.list.length - (intOf i).toNat)
  case atStart => exact ⟨0, Nat.zero_le _, rfl, by simpa using HD2.out, BX.out, BY.out, d1⟩
  case round =>
    obtain ⟨j, hj, rfl, hdc, hbx, hby, hbel⟩ := hrel
    clear BX BY d1 y3 z3 y4 z4 g3 g4
    have HDC := Lib.hid hdc
    have HBX := Lib.hid hbx
    have HBY := Lib.hid hby
    clear hdc hbx hby
    by_cases hlt : j < x.list.length
    · obtain ⟨b, off, e, A5, c5, rfl, hbb, hp, x0, x1, x2, q2⟩ := atEns (r3.below hbel) hlt
      obtain ⟨b', off', e', B5, d5, rfl, hbb', hp', x0', x1', x2', p2⟩ := atEns (s3.below hbel) (i := j) (by rw [← H3.out]; exact hlt)
      have HS := Lib.hid (entriesB_step hp hp')
      have hse := hs.list.at_ (List.mem_of_getElem? hp)
      have hse' := hs'.list.at_ (List.mem_of_getElem? hp')
      have hj2 : j < y.list.length := by rw [← H3.out]; exact hlt
      clear hp hp'
      have bA := alloc_below wr (.cells #[.int .i64 e.client, .int .i64 e.seq, .slice A5 e.o.length c5] 89)
      have bxE := Bx.new wr #[.int .i64 e.client, .int .i64 e.seq, .slice A5 e.o.length c5] 89
      have bY := HBY.out.past bA
      have q2 := RdC.more hbel.size _ _ q2
      have p2 := RdC.more hbel.size _ _ p2
      have hbq : b' < wr.heap.size := Nat.lt_of_lt_of_le hbb' hbel.size
      go_wp2
      generalize wr.alloc (.cells #[.int .i64 e.client, .int .i64 e.seq, .slice A5 e.o.length c5] 89) = W1 at bA bxE bY ⊢
      have w0 : W1.cell? ⟨wr.heap.size, 0, none⟩ = some (.int .i64 e.client) := bxE.cell rfl
      have w1 : W1.cell? ⟨wr.heap.size, 1, none⟩ = some (.int .i64 e.seq) := bxE.cell rfl
      have w2 : W1.cell? ⟨wr.heap.size, 2, none⟩ = some (.slice A5 e.o.length c5) := bxE.cell rfl
      have w3 : W1.cell? ⟨w.heap.size + 1, 3, none⟩ = some (.slice (some ⟨b', off', none⟩) y.list.length d3) := bY.cell rfl
      have w4 : W1.cell? ⟨b', off' + j * 3, none⟩ = some (.int .i64 e'.client) := (bA.cell (p := ⟨b', off' + j * 3, none⟩) hbq).trans x0'
      have w5 : W1.cell? ⟨b', off' + j * 3 + 1, none⟩ = some (.int .i64 e'.seq) := (bA.cell (p := ⟨b', off' + j * 3 + 1, none⟩) hbq).trans x1'
      have w6 : W1.cell? ⟨b', off' + j * 3 + 2, none⟩ = some (.slice B5 e'.o.length d5) := (bA.cell (p := ⟨b', off' + j * 3 + 2, none⟩) hbq).trans x2'
      have lE := bxE.lt
      have lY := bY.lt
      have lQ : b' < W1.heap.size := Nat.lt_of_lt_of_le hbq bA.size
      have SX := Lib.hid (show ∀ (W W' : World), (W.cell? ⟨wr.heap.size, 0, none⟩ = some (.int .i64 e.client) ∧ W.cell? ⟨wr.heap.size, 1, none⟩ = some (.int .i64 e.seq) ∧ W.cell? ⟨wr.heap.size, 2, none⟩ = some (.slice A5 e.o.length c5) ∧ W.cell? ⟨w.heap.size + 1, 3, none⟩ = some (.slice (some ⟨b', off', none⟩) y.list.length d3) ∧ W.cell? ⟨b', off' + j * 3, none⟩ = some (.int .i64 e'.client) ∧ W.cell? ⟨b', off' + j * 3 + 1, none⟩ = some (.int .i64 e'.seq) ∧ W.cell? ⟨b', off' + j * 3 + 2, none⟩ = some (.slice B5 e'.o.length d5) ∧ KS W1 W) → Below W.heap.size W W' → (W'.cell? ⟨wr.heap.size, 0, none⟩ = some (.int .i64 e.client) ∧ W'.cell? ⟨wr.heap.size, 1, none⟩ = some (.int .i64 e.seq) ∧ W'.cell? ⟨wr.heap.size, 2, none⟩ = some (.slice A5 e.o.length c5) ∧ W'.cell? ⟨w.heap.size + 1, 3, none⟩ = some (.slice (some ⟨b', off', none⟩) y.list.length d3) ∧ W'.cell? ⟨b', off' + j * 3, none⟩ = some (.int .i64 e'.client) ∧ W'.cell? ⟨b', off' + j * 3 + 1, none⟩ = some (.int .i64 e'.seq) ∧ W'.cell? ⟨b', off' + j * 3 + 2, none⟩ = some (.slice B5 e'.o.length d5) ∧ KS W1 W') from fun W W' h hb => by have hk := h.2.2.2.2.2.2.2; have hkk : KS W1 W' := hk.trans (hb.mono hk.size); exact ⟨(hkk.cell (p := ⟨wr.heap.size, 0, none⟩) lE).trans w0, (hkk.cell (p := ⟨wr.heap.size, 1, none⟩) lE).trans w1, (hkk.cell (p := ⟨wr.heap.size, 2, none⟩) lE).trans w2, (hkk.cell (p := ⟨w.heap.size + 1, 3, none⟩) lY).trans w3, (hkk.cell (p := ⟨b', off' + j * 3, none⟩) lQ).trans w4, (hkk.cell (p := ⟨b', off' + j * 3 + 1, none⟩) lQ).trans w5, (hkk.cell (p := ⟨b', off' + j * 3 + 2, none⟩) lQ).trans w6, hkk⟩)
      have hS0 : W1.drew.cell? ⟨wr.heap.size, 0, none⟩ = some (.int .i64 e.client) ∧ W1.drew.cell? ⟨wr.heap.size, 1, none⟩ = some (.int .i64 e.seq) ∧ W1.drew.cell? ⟨wr.heap.size, 2, none⟩ = some (.slice A5 e.o.length c5) ∧ W1.drew.cell? ⟨w.heap.size + 1, 3, none⟩ = some (.slice (some ⟨b', off', none⟩) y.list.length d3) ∧ W1.drew.cell? ⟨b', off' + j * 3, none⟩ = some (.int .i64 e'.client) ∧ W1.drew.cell? ⟨b', off' + j * 3 + 1, none⟩ = some (.int .i64 e'.seq) ∧ W1.drew.cell? ⟨b', off' + j * 3 + 2, none⟩ = some (.slice B5 e'.o.length d5) ∧ KS W1 W1.drew := ⟨w0, w1, w2, w3, w4, w5, w6, KS.start _⟩
      clear w0 w1 w2 w3 w4 w5 w6
      have R1 := Lib.hid (show ∀ W : World, (W.cell? ⟨wr.heap.size, 0, none⟩ = some (.int .i64 e.client) ∧ W.cell? ⟨wr.heap.size, 1, none⟩ = some (.int .i64 e.seq) ∧ W.cell? ⟨wr.heap.size, 2, none⟩ = some (.slice A5 e.o.length c5) ∧ W.cell? ⟨w.heap.size + 1, 3, none⟩ = some (.slice (some ⟨b', off', none⟩) y.list.length d3) ∧ W.cell? ⟨b', off' + j * 3, none⟩ = some (.int .i64 e'.client) ∧ W.cell? ⟨b', off' + j * 3 + 1, none⟩ = some (.int .i64 e'.seq) ∧ W.cell? ⟨b', off' + j * 3 + 2, none⟩ = some (.slice B5 e'.o.length d5) ∧ KS W1 W) → RdC W W.heap.size (datEn e) (.agg #[.int .i64 e.client, .int .i64 e.seq, .slice A5 e.o.length c5]) from fun W h => by have hk : Below W1.heap.size W1 W := h.2.2.2.2.2.2.2; exact rdEn e ((q2.past bA).past hk))
      have R2 := Lib.hid (show ∀ W : World, (W.cell? ⟨wr.heap.size, 0, none⟩ = some (.int .i64 e.client) ∧ W.cell? ⟨wr.heap.size, 1, none⟩ = some (.int .i64 e.seq) ∧ W.cell? ⟨wr.heap.size, 2, none⟩ = some (.slice A5 e.o.length c5) ∧ W.cell? ⟨w.heap.size + 1, 3, none⟩ = some (.slice (some ⟨b', off', none⟩) y.list.length d3) ∧ W.cell? ⟨b', off' + j * 3, none⟩ = some (.int .i64 e'.client) ∧ W.cell? ⟨b', off' + j * 3 + 1, none⟩ = some (.int .i64 e'.seq) ∧ W.cell? ⟨b', off' + j * 3 + 2, none⟩ = some (.slice B5 e'.o.length d5) ∧ KS W1 W) → RdC W W.heap.size (datEn e') (.agg #[.int .i64 e'.client, .int .i64 e'.seq, .slice B5 e'.o.length d5]) from fun W h => by have hk : Below W1.heap.size W1 W := h.2.2.2.2.2.2.2; exact rdEn e' ((p2.past bA).past hk))
      go_region_held3 (fun W => W.cell? ⟨wr.heap.size, 0, none⟩ = some (.int .i64 e.client) ∧ W.cell? ⟨wr.heap.size, 1, none⟩ = some (.int .i64 e.seq) ∧ W.cell? ⟨wr.heap.size, 2, none⟩ = some (.slice A5 e.o.length c5) ∧ W.cell? ⟨w.heap.size + 1, 3, none⟩ = some (.slice (some ⟨b', off', none⟩) y.list.length d3) ∧ W.cell? ⟨b', off' + j * 3, none⟩ = some (.int .i64 e'.client) ∧ W.cell? ⟨b', off' + j * 3 + 1, none⟩ = some (.int .i64 e'.seq) ∧ W.cell? ⟨b', off' + j * 3 + 2, none⟩ = some (.slice B5 e'.o.length d5) ∧ KS W1 W)
        (first | assumption | exact hS0 | (exact SX.out _ _ (by assumption) b2))
        (first | (go_at_call 41; refine (specEntrySame_d _ _ e e' _ (by exact R1.out _ (by assumption)) (by exact R2.out _ (by assumption)) hse hse').mono ?_; rintro e_ w2 ⟨rfl, b2⟩))
      rename_i hS2
      have HK := Lib.hid (bA.trans (hS2.2.2.2.2.2.2.2.mono bA.size))
      clear hS2 hS0 SX R1 R2
      cases hee : entrySameB e e'
      · go_wp2
        go_ret
        exact ⟨ret_b (by rw [HDC.out, HS.out, hee]; rfl), hbel.trans (HK.out.mono hbel.size)⟩
      · have HN := Lib.hid (show docSameB x y = (entriesB (x.list.drop (j + 1)) (y.list.drop (j + 1)) && seensB x.seen y.seen) by rw [HDC.out, HS.out, hee]; rfl)
        go_wp2
        go_roundw
        case rel => exact ⟨j + 1, by omega, by go_num, HN.out, HBX.out.past HK.out, HBY.out.past HK.out, hbel.trans (HK.out.mono hbel.size)⟩
        case measure => simp [intOf]; omega
    · have HD3 := Lib.hid (show docSameB x y = seensB x.seen y.seen by rw [HDC.out, List.drop_eq_nil_of_le (by omega), List.drop_eq_nil_of_le (by rw [← H3.out]; omega)]; rfl)
      have y4 : wr.cell? ⟨w.heap.size, 4, none⟩ = some (.slice A4 x.seen.length c4) := HBX.out.cell rfl
      have HBE := Lib.hid hbel
      go_wp2
      go_loopw [67] (fun i wr => ∃ j : Nat, j ≤ x.seen.length ∧ i = .int .i64 (j : Int) ∧ docSameB x y = seensB (x.seen.drop j) (y.seen.drop j) ∧ Bx wr (w.heap.size + 1) #[.string y.name, .int .i64 y.from_, .slice B2 y.text.length d2, .slice B3 y.list.length d3, .slice B4 y.seen.length d4] 44 ∧ Below w.heap.size w wr) (fun i _ => x.seen.length - (intOf i).toNat)
      case atStart => exact ⟨0, Nat.zero_le _, rfl, by simpa using HD3.out, HBY.out, HBE.out⟩
      case round =>
        obtain ⟨j, hj, rfl, hdc, hby, hbel⟩ := hrel
        clear HBX HBY HBE HD3 y4
        have HDC := Lib.hid hdc
        have HBY := Lib.hid hby
        clear hdc hby
        by_cases hlt : j < x.seen.length
        · obtain ⟨b, off, s, rfl, hbb, hp, x0, x1, x2⟩ := atSes (r4.below hbel) hlt
          obtain ⟨b', off', s', rfl, hbb', hp', x0', x1', x2'⟩ := atSes (s4.below hbel) (i := j) (by rw [← H4.out]; exact hlt)
          have HS := Lib.hid (seensB_step hp hp')
          have hj2 : j < y.seen.length := by rw [← H4.out]; exact hlt
          clear hp hp'
          have bA := alloc_below wr (.cells #[.int .i64 s.client, .int .i64 s.seq, .int .i64 s.rev] 92)
          have bxE := Bx.new wr #[.int .i64 s.client, .int .i64 s.seq, .int .i64 s.rev] 92
          have bY := HBY.out.past bA
          have hbq : b' < wr.heap.size := Nat.lt_of_lt_of_le hbb' hbel.size
          go_wp2
          generalize wr.alloc (.cells #[.int .i64 s.client, .int .i64 s.seq, .int .i64 s.rev] 92) = W1 at bA bxE bY ⊢
          have w0 : W1.cell? ⟨wr.heap.size, 0, none⟩ = some (.int .i64 s.client) := bxE.cell rfl
          have w1 : W1.cell? ⟨wr.heap.size, 1, none⟩ = some (.int .i64 s.seq) := bxE.cell rfl
          have w2 : W1.cell? ⟨wr.heap.size, 2, none⟩ = some (.int .i64 s.rev) := bxE.cell rfl
          have w3 : W1.cell? ⟨w.heap.size + 1, 4, none⟩ = some (.slice (some ⟨b', off', none⟩) y.seen.length d4) := bY.cell rfl
          have w4 : W1.cell? ⟨b', off' + j * 3, none⟩ = some (.int .i64 s'.client) := (bA.cell (p := ⟨b', off' + j * 3, none⟩) hbq).trans x0'
          have w5 : W1.cell? ⟨b', off' + j * 3 + 1, none⟩ = some (.int .i64 s'.seq) := (bA.cell (p := ⟨b', off' + j * 3 + 1, none⟩) hbq).trans x1'
          have w6 : W1.cell? ⟨b', off' + j * 3 + 2, none⟩ = some (.int .i64 s'.rev) := (bA.cell (p := ⟨b', off' + j * 3 + 2, none⟩) hbq).trans x2'
          have lE := bxE.lt
          have lY := bY.lt
          have lQ : b' < W1.heap.size := Nat.lt_of_lt_of_le hbq bA.size
          have SX := Lib.hid (show ∀ (W W' : World), (W.cell? ⟨wr.heap.size, 0, none⟩ = some (.int .i64 s.client) ∧ W.cell? ⟨wr.heap.size, 1, none⟩ = some (.int .i64 s.seq) ∧ W.cell? ⟨wr.heap.size, 2, none⟩ = some (.int .i64 s.rev) ∧ W.cell? ⟨w.heap.size + 1, 4, none⟩ = some (.slice (some ⟨b', off', none⟩) y.seen.length d4) ∧ W.cell? ⟨b', off' + j * 3, none⟩ = some (.int .i64 s'.client) ∧ W.cell? ⟨b', off' + j * 3 + 1, none⟩ = some (.int .i64 s'.seq) ∧ W.cell? ⟨b', off' + j * 3 + 2, none⟩ = some (.int .i64 s'.rev) ∧ KS W1 W) → Below W.heap.size W W' → (W'.cell? ⟨wr.heap.size, 0, none⟩ = some (.int .i64 s.client) ∧ W'.cell? ⟨wr.heap.size, 1, none⟩ = some (.int .i64 s.seq) ∧ W'.cell? ⟨wr.heap.size, 2, none⟩ = some (.int .i64 s.rev) ∧ W'.cell? ⟨w.heap.size + 1, 4, none⟩ = some (.slice (some ⟨b', off', none⟩) y.seen.length d4) ∧ W'.cell? ⟨b', off' + j * 3, none⟩ = some (.int .i64 s'.client) ∧ W'.cell? ⟨b', off' + j * 3 + 1, none⟩ = some (.int .i64 s'.seq) ∧ W'.cell? ⟨b', off' + j * 3 + 2, none⟩ = some (.int .i64 s'.rev) ∧ KS W1 W') from fun W W' h hb => by have hk := h.2.2.2.2.2.2.2; have hkk : KS W1 W' := hk.trans (hb.mono hk.size); exact ⟨(hkk.cell (p := ⟨wr.heap.size, 0, none⟩) lE).trans w0, (hkk.cell (p := ⟨wr.heap.size, 1, none⟩) lE).trans w1, (hkk.cell (p := ⟨wr.heap.size, 2, none⟩) lE).trans w2, (hkk.cell (p := ⟨w.heap.size + 1, 4, none⟩) lY).trans w3, (hkk.cell (p := ⟨b', off' + j * 3, none⟩) lQ).trans w4, (hkk.cell (p := ⟨b', off' + j * 3 + 1, none⟩) lQ).trans w5, (hkk.cell (p := ⟨b', off' + j * 3 + 2, none⟩) lQ).trans w6, hkk⟩)
          have hS0 : W1.drew.cell? ⟨wr.heap.size, 0, none⟩ = some (.int .i64 s.client) ∧ W1.drew.cell? ⟨wr.heap.size, 1, none⟩ = some (.int .i64 s.seq) ∧ W1.drew.cell? ⟨wr.heap.size, 2, none⟩ = some (.int .i64 s.rev) ∧ W1.drew.cell? ⟨w.heap.size + 1, 4, none⟩ = some (.slice (some ⟨b', off', none⟩) y.seen.length d4) ∧ W1.drew.cell? ⟨b', off' + j * 3, none⟩ = some (.int .i64 s'.client) ∧ W1.drew.cell? ⟨b', off' + j * 3 + 1, none⟩ = some (.int .i64 s'.seq) ∧ W1.drew.cell? ⟨b', off' + j * 3 + 2, none⟩ = some (.int .i64 s'.rev) ∧ KS W1 W1.drew := ⟨w0, w1, w2, w3, w4, w5, w6, KS.start _⟩
          clear w0 w1 w2 w3 w4 w5 w6
          by_cases h_client : s.client = s'.client
          case neg =>
            have c_client : (s.client == s'.client) = false := by simp [h_client]
            have H_client := Lib.hid h_client
            clear h_client
            go_region_held3 (fun W => W.cell? ⟨wr.heap.size, 0, none⟩ = some (.int .i64 s.client) ∧ W.cell? ⟨wr.heap.size, 1, none⟩ = some (.int .i64 s.seq) ∧ W.cell? ⟨wr.heap.size, 2, none⟩ = some (.int .i64 s.rev) ∧ W.cell? ⟨w.heap.size + 1, 4, none⟩ = some (.slice (some ⟨b', off', none⟩) y.seen.length d4) ∧ W.cell? ⟨b', off' + j * 3, none⟩ = some (.int .i64 s'.client) ∧ W.cell? ⟨b', off' + j * 3 + 1, none⟩ = some (.int .i64 s'.seq) ∧ W.cell? ⟨b', off' + j * 3 + 2, none⟩ = some (.int .i64 s'.rev) ∧ KS W1 W)
              (first | assumption | exact hS0)
              (fail)
            rename_i hS2
            have HK := Lib.hid (bA.trans (hS2.2.2.2.2.2.2.2.mono bA.size))
            clear hS2 hS0 SX
            go_wp2
            go_ret
            exact ⟨ret_b (by rw [HDC.out, HS.out]; unfold seSameB; rw [decide_eq_false H_client.out]; rfl), hbel.trans (HK.out.mono hbel.size)⟩
          by_cases h_seq : s.seq = s'.seq
          case neg =>
            have c_client : (s.client == s'.client) = true := by simp [h_client]
            have H_client := Lib.hid h_client
            clear h_client
            have c_seq : (s.seq == s'.seq) = false := by simp [h_seq]
            have H_seq := Lib.hid h_seq
            clear h_seq
            go_region_held3 (fun W => W.cell? ⟨wr.heap.size, 0, none⟩ = some (.int .i64 s.client) ∧ W.cell? ⟨wr.heap.size, 1, none⟩ = some (.int .i64 s.seq) ∧ W.cell? ⟨wr.heap.size, 2, none⟩ = some (.int .i64 s.rev) ∧ W.cell? ⟨w.heap.size + 1, 4, none⟩ = some (.slice (some ⟨b', off', none⟩) y.seen.length d4) ∧ W.cell? ⟨b', off' + j * 3, none⟩ = some (.int .i64 s'.client) ∧ W.cell? ⟨b', off' + j * 3 + 1, none⟩ = some (.int .i64 s'.seq) ∧ W.cell? ⟨b', off' + j * 3 + 2, none⟩ = some (.int .i64 s'.rev) ∧ KS W1 W)
              (first | assumption | exact hS0)
              (fail)
            rename_i hS2
            have HK := Lib.hid (bA.trans (hS2.2.2.2.2.2.2.2.mono bA.size))
            clear hS2 hS0 SX
            go_wp2
            go_ret
            exact ⟨ret_b (by rw [HDC.out, HS.out]; unfold seSameB; rw [decide_eq_true H_client.out, decide_eq_false H_seq.out]; rfl), hbel.trans (HK.out.mono hbel.size)⟩
          by_cases h_rev : s.rev = s'.rev
          case neg =>
            have c_client : (s.client == s'.client) = true := by simp [h_client]
            have H_client := Lib.hid h_client
            clear h_client
            have c_seq : (s.seq == s'.seq) = true := by simp [h_seq]
            have H_seq := Lib.hid h_seq
            clear h_seq
            have c_rev : (s.rev == s'.rev) = false := by simp [h_rev]
            have H_rev := Lib.hid h_rev
            clear h_rev
            go_region_held3 (fun W => W.cell? ⟨wr.heap.size, 0, none⟩ = some (.int .i64 s.client) ∧ W.cell? ⟨wr.heap.size, 1, none⟩ = some (.int .i64 s.seq) ∧ W.cell? ⟨wr.heap.size, 2, none⟩ = some (.int .i64 s.rev) ∧ W.cell? ⟨w.heap.size + 1, 4, none⟩ = some (.slice (some ⟨b', off', none⟩) y.seen.length d4) ∧ W.cell? ⟨b', off' + j * 3, none⟩ = some (.int .i64 s'.client) ∧ W.cell? ⟨b', off' + j * 3 + 1, none⟩ = some (.int .i64 s'.seq) ∧ W.cell? ⟨b', off' + j * 3 + 2, none⟩ = some (.int .i64 s'.rev) ∧ KS W1 W)
              (first | assumption | exact hS0)
              (fail)
            rename_i hS2
            have HK := Lib.hid (bA.trans (hS2.2.2.2.2.2.2.2.mono bA.size))
            clear hS2 hS0 SX
            go_wp2
            go_ret
            exact ⟨ret_b (by rw [HDC.out, HS.out]; unfold seSameB; rw [decide_eq_true H_client.out, decide_eq_true H_seq.out, decide_eq_false H_rev.out]; rfl), hbel.trans (HK.out.mono hbel.size)⟩
          have c_client : (s.client == s'.client) = true := by simp [h_client]
          have H_client := Lib.hid h_client
          clear h_client
          have c_seq : (s.seq == s'.seq) = true := by simp [h_seq]
          have H_seq := Lib.hid h_seq
          clear h_seq
          have c_rev : (s.rev == s'.rev) = true := by simp [h_rev]
          have H_rev := Lib.hid h_rev
          clear h_rev
          go_region_held3 (fun W => W.cell? ⟨wr.heap.size, 0, none⟩ = some (.int .i64 s.client) ∧ W.cell? ⟨wr.heap.size, 1, none⟩ = some (.int .i64 s.seq) ∧ W.cell? ⟨wr.heap.size, 2, none⟩ = some (.int .i64 s.rev) ∧ W.cell? ⟨w.heap.size + 1, 4, none⟩ = some (.slice (some ⟨b', off', none⟩) y.seen.length d4) ∧ W.cell? ⟨b', off' + j * 3, none⟩ = some (.int .i64 s'.client) ∧ W.cell? ⟨b', off' + j * 3 + 1, none⟩ = some (.int .i64 s'.seq) ∧ W.cell? ⟨b', off' + j * 3 + 2, none⟩ = some (.int .i64 s'.rev) ∧ KS W1 W)
            (first | assumption | exact hS0)
            (fail)
          rename_i hS2
          have HK := Lib.hid (bA.trans (hS2.2.2.2.2.2.2.2.mono bA.size))
          clear hS2 hS0 SX
          have HN := Lib.hid (show docSameB x y = seensB (x.seen.drop (j + 1)) (y.seen.drop (j + 1)) by rw [HDC.out, HS.out]; unfold seSameB; rw [decide_eq_true H_client.out, decide_eq_true H_seq.out, decide_eq_true H_rev.out]; rfl)
          go_wp2
          go_roundw
          case rel => exact ⟨j + 1, by omega, by go_num, HN.out, HBY.out.past HK.out, hbel.trans (HK.out.mono hbel.size)⟩
          case measure => simp [intOf]; omega
        · have HE := Lib.hid (show docSameB x y = true by rw [HDC.out, List.drop_eq_nil_of_le (by omega), List.drop_eq_nil_of_le (by rw [← H4.out]; omega)]; rfl)
          go_wp2
          go_ret
          exact ⟨ret_b HE.out.symm, hbel⟩
end Go.Proofs.Ytninppjomdhnmaa.low


/-
  The loop of spec.Compose: its body, taken out of the translation; its invariant over the frame.
-/
namespace Go.Proofs.Ytninppjomdhnmaa.low
open Go.RowKit
set_option linter.unusedVariables false

/-- the bodies of the loops in a piece of code, those inside a loop left out -/
def loopsOf : Code → List Code
  | .loop c => [c]
  | .seq a b => loopsOf a ++ loopsOf b
  | .cond _ a b => loopsOf a ++ loopsOf b
  | .block _ c => loopsOf c
  | .scope c => loopsOf c
  | _ => []
end Go.Proofs.Ytninppjomdhnmaa.low


/-
  The loop of spec.Compose: the cases of a round, each a theorem over the frame; the round; the loop.
-/
namespace Go.Proofs.Ytninppjomdhnmaa.low
open Go.RowKit
set_option linter.unusedVariables false

end Go.Proofs.Ytninppjomdhnmaa.low


/-
  Contract of spec.Compose.
-/
namespace Go.Proofs.Ytninppjomdhnmaa.low
open Go.RowKit
set_option linter.unusedVariables false

theorem heap_old (w : World) (o : Obj) {g : Nat} {x : Obj} (h : w.heap[g]? = some x) : (w.alloc o).heap[g]? = some x := by
  rw [Below.heap_alloc _ _ _ (lt_of_some h)]
  exact h
theorem cur_new {w : World} {g : Nat} {T : TypeId} {A : Option Addr} {c : Nat} {ps : List Pt} (h : w.heap[g]? = some (.cells #[.slice A ps.length c, .int .i64 0, .int .i64 0] T (0, 0))) : ∃ i d, Cur g T w A c ps i d ∧ rem ps i d = units ps ∧ Sett ps i d none :=
  ⟨0, 0, ⟨h, Nat.zero_le _, fun _ _ => Nat.zero_le _, fun _ => rfl⟩, by simp [rem], trivial⟩
/-- two cursors as they are made, at w.heap.size and behind it -/
theorem Cs.new {w w' : World} {A B : Option Addr} {ca cb lo : Nat} {a b : List Pt} {TC : TypeId} (hlo : lo ≤ w.heap.size) (ra : RdC w lo (encPs a) (.slice A a.length ca)) (rb : RdC w lo (encPs b) (.slice B b.length cb)) (sa : ∀ p ∈ a, szP_ p) (sb : ∀ p ∈ b, szP_ p) (na : a.length ≤ 1048576) (nb : b.length ≤ 1048576)
    (hx : w'.heap[w.heap.size]? = some (.cells #[.slice A a.length ca, .int .i64 0, .int .i64 0] TC (0, 0))) (hy : w'.heap[w.heap.size + 1]? = some (.cells #[.slice B b.length cb, .int .i64 0, .int .i64 0] TC (0, 0))) (hb : Below lo w w') : Cs ⟨lo, w.heap.size, w.heap.size + 1, TC, A, ca, a, B, cb, b⟩ w' none none (units a) (units b) :=
  ⟨cur_new hx, cur_new hy, ra.below hb, rb.below hb, by simp, hlo, Nat.le_succ_of_le hlo, sa, sb, na, nb⟩

theorem CB.new {w : World} {A B : Option Addr} {ca cb lo : Nat} {a b : List Pt} {TC TB : TypeId} (hlo : lo ≤ w.heap.size) (ra : RdC w lo (encPs a) (.slice A a.length ca)) (rb : RdC w lo (encPs b) (.slice B b.length cb)) (sa : ∀ p ∈ a, szP_ p) (sb : ∀ p ∈ b, szP_ p) (na : a.length ≤ 1048576) (nb : b.length ≤ 1048576) :
    CB ⟨lo, w.heap.size, w.heap.size + 1, TC, A, ca, a, B, cb, b⟩ (w.heap.size + 1 + 1) TB (fun q => q = w.heap.size + 1 + 1) [] (((w.alloc (.cells #[.slice A a.length ca, .int .i64 0, .int .i64 0] TC)).alloc (.cells #[.slice B b.length cb, .int .i64 0, .int .i64 0] TC)).alloc (.cells #[.slice none 0 0, .slice none 0 0, .int .i64 0] TB)) none none (units a) (units b) ∧
    Below lo w (((w.alloc (.cells #[.slice A a.length ca, .int .i64 0, .int .i64 0] TC)).alloc (.cells #[.slice B b.length cb, .int .i64 0, .int .i64 0] TC)).alloc (.cells #[.slice none 0 0, .slice none 0 0, .int .i64 0] TB)) := by
  have s1 : (w.alloc (.cells #[.slice A a.length ca, .int .i64 0, .int .i64 0] TC)).heap.size = w.heap.size + 1 := Array.size_push ..
  have s2 : ((w.alloc (.cells #[.slice A a.length ca, .int .i64 0, .int .i64 0] TC)).alloc (.cells #[.slice B b.length cb, .int .i64 0, .int .i64 0] TC)).heap.size = w.heap.size + 1 + 1 := by rw [← s1]; exact Array.size_push ..
  have b1 := (((alloc_below w (.cells #[.slice A a.length ca, .int .i64 0, .int .i64 0] TC)).mono hlo).alloc (by rw [s1]; omega) (.cells #[.slice B b.length cb, .int .i64 0, .int .i64 0] TC)).alloc (by rw [s2]; omega) (.cells #[.slice none 0 0, .slice none 0 0, .int .i64 0] TB)
  have hb := Bld.new lo TB ((w.alloc (.cells #[.slice A a.length ca, .int .i64 0, .int .i64 0] TC)).alloc (.cells #[.slice B b.length cb, .int .i64 0, .int .i64 0] TC)) (by rw [s2]; omega)
  rw [s2] at hb
  exact ⟨⟨Cs.new hlo ra rb sa sb na nb (heap_old _ _ (heap_old _ _ (heap_alloc_new w _))) (heap_old _ _ (by rw [← s1]; exact heap_alloc_new _ _)) b1, hb, by show ¬ w.heap.size = _; omega, by show ¬ w.heap.size + 1 = _; omega⟩, b1⟩
theorem cinv0 {a b : List Pt} (hoa : okOp a = true) (hob : okOp b = true) (hbal : sumK a + sumP a = sumK b + sumD b) : CInv a b (units a) (units b) [] := by
  obtain ⟨ua, hsa, _⟩ := okOp_units hoa
  obtain ⟨ub, hsb, _⟩ := okOp_units hob
  refine ⟨by simp [units_nil], ?_, by simp; omega⟩
  have s1 := (src_units hsa).2
  have s2 := (src_units hsb).1
  obtain ⟨t1, t2, t3⟩ := sum_t (okOp_partsB hoa)
  obtain ⟨u1, u2, u3⟩ := sum_t (okOp_partsB hob)
  rw [t1, t2, u1, u3] at hbal
  omega

theorem composeB_f {a b : List Pt} (h : (okOp a && okOp b && (sumK a + sumP a == sumK b + sumD b)) = false) : composeB a b = false ∧ composeT a b = [] := by
  have e : composeB a b = false := by unfold composeB; rw [h]; rfl
  exact ⟨e, by unfold composeT; rw [e]; rfl⟩
theorem compose_small {a b : List Pt} (h0 : SmP a) (h1 : SmP b) : SmP (composeT a b) := by
  unfold composeT
  split
  · rename_i h
    unfold composeB at h
    rw [Bool.and_eq_true] at h
    obtain ⟨_, h2, h3⟩ := okOp_units h.2
    refine ⟨by omega, ?_⟩
    have := signsIn_le h2
    omega
  · exact ⟨by simp, by simp [signsIn]⟩
end Go.Proofs.Ytninppjomdhnmaa.low


/-
  Composing several operations, and counting parts: the functions on lists, and the contracts of spec.ComposeAll and spec.PartCount.
-/
namespace Go.Proofs.Ytninppjomdhnmaa.low
open Go.RowKit
set_option linter.unusedVariables false

def stepCo (s : Option (List Pt)) (ps : List Pt) : Option (List Pt) := match s with
  | none => none
  | some o => if composeB o ps = true then some (composeT o ps) else none
def foldCo (l : List (List Pt)) (n : Int) : Option (List Pt) := l.foldl stepCo (some (keepL n))
def composeAllB (l : List (List Pt)) (n : Int) : Bool := inB n 0 200 && (foldCo l n).isSome
def composeAllT (l : List (List Pt)) (n : Int) : List Pt := if composeAllB l n = true then (foldCo l n).getD [] else []
theorem foldCo_snoc {l : List (List Pt)} {n : Int} {k : Nat} {ps : List Pt} (h : l[k]? = some ps) : foldCo (l.take (k + 1)) n = stepCo (foldCo (l.take k) n) ps := by
  unfold foldCo
  rw [List.take_add_one, h]
  simp
theorem foldlCo_none (l : List (List Pt)) : l.foldl stepCo none = none := by
  induction l with
  | nil => rfl
  | cons p l ih => exact ih
theorem foldCo_none {l : List (List Pt)} {n : Int} {k : Nat} (h : foldCo (l.take k) n = none) : foldCo l n = none := by
  have e : foldCo l n = (l.drop k).foldl stepCo (foldCo (l.take k) n) := by
    unfold foldCo
    rw [← List.foldl_append, List.take_append_drop]
  rw [e, h, foldlCo_none]
theorem composeT_small (a b : List Pt) : SmP (composeT a b) := by
  unfold composeT
  split
  · rename_i h
    unfold composeB at h
    rw [Bool.and_eq_true] at h
    obtain ⟨_, h2, h3⟩ := okOp_units h.2
    refine ⟨by omega, ?_⟩
    have := signsIn_le h2
    omega
  · exact ⟨by simp, by simp [signsIn]⟩
theorem keepL_small (n : Int) : SmP (keepL n) := ⟨by have := keepL_len n; omega, by rw [keepL_signs]; omega⟩
theorem foldCo_small {l : List (List Pt)} {n : Int} {cur : List Pt} {k : Nat} (hk : k ≤ l.length) (h : foldCo (l.take k) n = some cur) : SmP cur := by
  cases k with
  | zero =>
    have : cur = keepL n := by simpa [foldCo] using h.symm
    rw [this]
    exact keepL_small n
  | succ k =>
    obtain ⟨ps, hp⟩ := idx_some (l := l) (i := k) (by omega)
    rw [foldCo_snoc hp] at h
    cases hq : foldCo (l.take k) n with
    | none => rw [hq] at h; cases h
    | some u =>
      rw [hq] at h
      unfold stepCo at h
      simp only at h
      split at h
      · injection h with h
        rw [← h]
        exact composeT_small _ _
      · cases h
theorem composeAll_small {l : List (List Pt)} {n : Int} (h0 : SmPP l) : SmP (composeAllT l n) := by
  unfold composeAllT
  split
  · cases h : foldCo l n with
    | none => exact ⟨by simp, by simp [signsIn]⟩
    | some cur =>
      simp only [Option.getD_some]
      exact foldCo_small (l := l) (k := l.length) (Nat.le_refl _) (by rw [List.take_length]; exact h)
  · exact ⟨by simp, by simp [signsIn]⟩
theorem composeAll_f {l : List (List Pt)} {n : Int} (h : composeAllB l n = false) : composeAllT l n = [] := by unfold composeAllT; rw [h]; rfl

/-- how many parts are of this kind -/
def countK (ps : List Pt) (k : Int) : Int := ((ps.filter (fun p => p.kind == k)).length : Int)
theorem countK_snoc {ps : List Pt} {k : Int} {i : Nat} {p : Pt} (h : ps[i]? = some p) : countK (ps.take (i + 1)) k = countK (ps.take i) k + (if p.kind = k then 1 else 0) := by
  unfold countK
  rw [List.take_add_one, h]
  by_cases e : p.kind = k <;> simp [List.filter_append, e]
theorem countK_le (ps : List Pt) (k : Int) (i : Nat) : 0 ≤ countK (ps.take i) k ∧ countK (ps.take i) k ≤ ps.length := by
  unfold countK
  have := List.length_filter_le (fun p : Pt => p.kind == k) (ps.take i)
  rw [List.length_take] at this
  omega
end Go.Proofs.Ytninppjomdhnmaa.low


/-
  The algebra of operations: what is made of units is valid and normal; applying, composing, inverting and transforming valid operations, in the words of the contracts.
-/
namespace Go.Proofs.Ytninppjomdhnmaa.low
open Go.RowKit
set_option linter.unusedVariables false

/-- all that is inserted are characters -/
def goodU (us : List U) : Prop := ∀ x, U.p x ∈ us → signB x = true
def part1 : U → Pt
  | .k => ⟨1, 1, []⟩
  | .p x => ⟨2, 0, [x]⟩
  | .d => ⟨3, 1, []⟩
def made (us : List U) : List Pt := doneN (foldU us)
theorem units_part1 : ∀ us : List U, units (us.map part1) = us
  | [] => rfl
  | u :: us => by
    rw [List.map_cons, units_cons, units_part1 us]
    cases u <;> rfl
theorem part1_sz (us : List U) : ∀ p ∈ us.map part1, szP_ p := fun p hp => by
  obtain ⟨u, _, rfl⟩ := List.mem_map.1 hp
  cases u
  · exact ⟨.inl rfl, by simp [part1], by simp [part1], by simp [part1]⟩
  · exact ⟨.inr (.inl rfl), by simp [part1], by simp [part1], by simp [part1]⟩
  · exact ⟨.inr (.inr rfl), by simp [part1], by simp [part1], by simp [part1]⟩
theorem made_eq (us : List U) : made us = doneN (foldN (us.map part1)) := by unfold made; rw [foldN_units (part1_sz us), units_part1]
theorem units_made (us : List U) : units (made us) = nfU us := units_norm us
theorem len_st : ∀ us : List U, us.length ≤ src us + tgt us
  | [] => by simp
  | u :: us => by
    have := len_st us
    cases u <;> simp [src, tgt] <;> omega
/-- what is made of few good units is valid and normal -/
theorem made_ok {us : List U} (hs : src us ≤ 200) (ht : tgt us ≤ 200) (hz : goodU us) : okOp (made us) = true ∧ normal (made us) ∧ sumK (made us) + sumD (made us) = (src us : Int) ∧ sumK (made us) + sumP (made us) = (tgt us : Int) := by
  have hsz := part1_sz us
  have hn : normal (made us) := by rw [made_eq]; exact normal_fold hsz
  obtain ⟨s1, s2, s3⟩ := sum_norm hsz
  rw [← made_eq] at s1 s2 s3
  obtain ⟨u1, u2⟩ := src_units hsz
  rw [units_part1] at u1 u2
  have hall : ∀ p ∈ made us, allB p.signs = true := by
    rw [made_eq]
    refine norm_allB (fun p hp => ?_)
    obtain ⟨u, hu, rfl⟩ := List.mem_map.1 hp
    cases u
    · rfl
    · rename_i x
      simp [part1, allB, hz x hu]
    · rfl
  have n1 : ∀ f : Pt → Int, (∀ p, tidy p → 0 ≤ f p) → 0 ≤ sumOf f (made us) := fun f hf => by
    unfold sumOf
    have : ∀ (L : List Pt), (∀ p ∈ L, tidy p) → 0 ≤ (L.map f).sum := by
      intro L
      induction L with
      | nil => simp
      | cons p L ih =>
        intro h
        have a := hf p (h p (by simp))
        have b := ih (fun q hq => h q (by simp [hq]))
        simp
        omega
    exact this _ hn.1
  have k1 := n1 keepOf (fun p h => (tidy_nonneg h).1)
  have k2 := n1 putOf (fun p h => (tidy_nonneg h).2.1)
  have k3 := n1 dropOf (fun p h => (tidy_nonneg h).2.2)
  have hok : okPs (made us) = true := tidy_ok hn.1 hall (by omega) (by omega) (by omega)
  have hlen : (made us).length ≤ 600 := by
    have h1 := norm_length hsz
    rw [← made_eq, List.length_map] at h1
    have := len_st us
    omega
  have hop : okOp (made us) = true := of_okOp hok hlen (by omega) (by omega)
  obtain ⟨t1, t2, t3⟩ := sum_t (okOp_partsB hop)
  exact ⟨hop, hn, by rw [t1, t3]; omega, by rw [t1, t2]; omega⟩
theorem nf_of_fold (us : List U) : doneN (foldU (nfU us)) = doneN (foldU us) := by
  have key : ∀ (us : List U) (q : List Pt) (ps : List Int) (n : Nat) (qs : List Pt × List Int × Int), qs = (q, [], 0) → doneN ((nfGo us ps n).foldl stepU qs) = doneN (us.foldl stepU (q, ps, (n : Int))) := by
    intro us
    induction us with
    | nil =>
      intro q ps n qs e
      subst e
      rw [nfGo, List.foldl_append, fold_p, fold_d]
      simp
    | cons u us ih =>
      intro q ps n qs e
      subst e
      cases u with
      | k =>
        rw [nfGo, List.foldl_append, fold_p, List.foldl_append, fold_d, List.foldl_cons]
        have := ih (stepU (q, ps, (n : Int)) .k).1 [] 0 (stepU (q, ps, (n : Int)) .k) (by simp [stepU])
        simpa [stepU] using this
      | p x => rw [nfGo]; have := ih q (ps ++ [x]) n (q, [], 0) rfl; simpa [stepU] using this
      | d => rw [nfGo]; have := ih q ps (n + 1) (q, [], 0) rfl; simpa [stepU] using this
  have := key us [] [] 0 ([], [], 0) rfl
  simpa [foldU, nfU] using this
theorem made_nf (us : List U) : made (nfU us) = made us := nf_of_fold us
theorem made_ext {us vs : List U} (h : nfU us = nfU vs) : made us = made vs := by rw [← made_nf us, h, made_nf]
theorem norm_made {a : List Pt} (h : okOp a = true) : normL a = made (units a) := by
  unfold normL made
  rw [if_pos h, foldN_units (okOp_units h).2.1]
theorem normal_same {us : List U} (hs : src us ≤ 200) (ht : tgt us ≤ 200) (hz : goodU us) : normL (made us) = made us := by
  obtain ⟨h1, h2, _⟩ := made_ok hs ht hz
  exact norm_normal h2 h1
/-- a valid operation's units -/
theorem op_units {a : List Pt} (h : okOp a = true) : (src (units a) : Int) = sumK a + sumD a ∧ (tgt (units a) : Int) = sumK a + sumP a ∧ src (units a) ≤ 200 ∧ tgt (units a) ≤ 200 ∧ goodU (units a) := by
  obtain ⟨h1, h2, h3, h4, h5, h6, h7⟩ := okOp_of h
  obtain ⟨t1, t2, t3⟩ := sum_t (okOp_partsB h)
  obtain ⟨s1, s2⟩ := src_units (okPs_sz h1)
  refine ⟨by rw [t1, t3]; exact s1, by rw [t1, t2]; exact s2, by omega, by omega, fun x hx => ?_⟩
  unfold units at hx
  obtain ⟨p, hp, hx⟩ := List.mem_flatMap.1 hx
  have ha := okPs_allB h1 p hp
  unfold unitsP at hx
  split at hx
  · have := List.eq_of_mem_replicate hx; cases this
  · split at hx
    · obtain ⟨z, hz, e⟩ := List.mem_map.1 hx
      injection e with e
      subst e
      unfold allB at ha
      exact List.all_eq_true.1 ha z hz
    · have := List.eq_of_mem_replicate hx; cases this
theorem apply_mem : ∀ (us : List U) (t : List Int) (x : Int), x ∈ applyU us t → x ∈ t ∨ U.p x ∈ us
  | [], t, x, h => by simp [applyU] at h
  | .k :: us, t, x, h => by
    rw [applyU] at h
    rcases List.mem_append.1 h with h | h
    · exact .inl (List.mem_of_mem_take h)
    · rcases apply_mem us _ x h with h | h
      · exact .inl (List.mem_of_mem_drop h)
      · exact .inr (by simp [h])
  | .p y :: us, t, x, h => by
    rw [applyU] at h
    rcases List.mem_cons.1 h with rfl | h
    · exact .inr (by simp)
    · rcases apply_mem us _ x h with h | h
      · exact .inl h
      · exact .inr (by simp [h])
  | .d :: us, t, x, h => by
    rw [applyU] at h
    rcases apply_mem us _ x h with h | h
    · exact .inl (List.mem_of_mem_drop h)
    · exact .inr (by simp [h])
theorem okText_mem {t : List Int} (h : okText t = true) : ∀ x ∈ t, signB x = true := fun x hx => by
  unfold okText at h
  rw [Bool.and_eq_true] at h
  exact List.all_eq_true.1 h.1 x hx
theorem okText_mk {t : List Int} (h : ∀ x ∈ t, signB x = true) (hl : t.length ≤ 200) : okText t = true := by
  unfold okText allB
  rw [decide_eq_true hl, List.all_eq_true.2 h]
  rfl
theorem okText_len' {t : List Int} (h : okText t = true) : t.length ≤ 200 := by
  unfold okText at h
  rw [Bool.and_eq_true] at h
  exact of_decide_eq_true h.2
theorem fits_mk {a : List Pt} {t : List Int} (ha : okOp a = true) (ht : okText t = true) (hs : sumK a + sumD a = (t.length : Int)) : fitsB a t = true := by
  unfold fitsB
  rw [ha, ht, decide_eq_true hs]
  rfl
/-- applying a valid operation to a text that fits -/
theorem apply_ok {a : List Pt} {t : List Int} (ha : okOp a = true) (ht : okText t = true) (hs : sumK a + sumD a = (t.length : Int)) : fitsB a t = true ∧ applyT a t = applyU (units a) t ∧ okText (applyT a t) = true ∧ ((applyT a t).length : Int) = sumK a + sumP a ∧ src (units a) = t.length := by
  have hf := fits_mk ha ht hs
  obtain ⟨u1, u2, u3, u4, u5⟩ := op_units ha
  have hsrc : src (units a) = t.length := by omega
  have he := applyT_units hf
  have hl := apply_len_u (units a) t hsrc
  refine ⟨hf, he, ?_, by rw [he, hl]; exact u2, hsrc⟩
  rw [he]
  refine okText_mk (fun x hx => ?_) (by omega)
  rcases apply_mem _ _ _ hx with h | h
  · exact okText_mem ht x h
  · exact u5 x h
theorem comp_mem (a b : List U) : ∀ x, U.p x ∈ comp a b → U.p x ∈ a ∨ U.p x ∈ b := by
  induction a, b using comp.induct with
  | case1 => intro x h; simp [comp] at h
  | case2 y b ih => intro x h; rw [comp] at h; rcases List.mem_cons.1 h with h | h; exact .inr (by rw [h]; simp); rcases ih x h with h | h; exact .inl h; exact .inr (by simp [h])
  | case3 b => intro x h; simp [comp] at h
  | case4 b => intro x h; simp [comp] at h
  | case5 a b ih => intro x h; rw [comp] at h; rcases List.mem_cons.1 h with h | h; cases h; rcases ih x h with h | h; exact .inl (by simp [h]); exact .inr h
  | case6 a => intro x h; simp [comp] at h
  | case7 a y b ih => intro x h; rw [comp] at h; rcases List.mem_cons.1 h with h | h; exact .inr (by rw [h]; simp); rcases ih x h with h | h; exact .inl h; exact .inr (by simp [h])
  | case8 a b ih => intro x h; rw [comp] at h; rcases List.mem_cons.1 h with h | h; cases h; rcases ih x h with h | h; exact .inl (by simp [h]); exact .inr (by simp [h])
  | case9 a b ih => intro x h; rw [comp] at h; rcases List.mem_cons.1 h with h | h; cases h; rcases ih x h with h | h; exact .inl (by simp [h]); exact .inr (by simp [h])
  | case10 y a => intro x h; simp [comp] at h
  | case11 y a z b ih => intro x h; rw [comp] at h; rcases List.mem_cons.1 h with h | h; exact .inr (by rw [h]; simp); rcases ih x h with h | h; exact .inl h; exact .inr (by simp [h])
  | case12 y a b ih => intro x h; rw [comp] at h; rcases List.mem_cons.1 h with h | h; exact .inl (by rw [h]; simp); rcases ih x h with h | h; exact .inl (by simp [h]); exact .inr (by simp [h])
  | case13 y a b ih => intro x h; rw [comp] at h; rcases ih x h with h | h; exact .inl (by simp [h]); exact .inr (by simp [h])
/-- composing valid operations that fit one another -/
theorem compose_ok {a b : List Pt} (ha : okOp a = true) (hb : okOp b = true) (hs : sumK a + sumP a = sumK b + sumD b) : composeB a b = true ∧ composeT a b = made (comp (units a) (units b)) ∧ okOp (composeT a b) = true ∧ normL (composeT a b) = composeT a b ∧ units (composeT a b) = nfU (comp (units a) (units b)) ∧ sumK (composeT a b) + sumD (composeT a b) = sumK a + sumD a ∧ sumK (composeT a b) + sumP (composeT a b) = sumK b + sumP b ∧ tgt (units a) = src (units b) := by
  obtain ⟨u1, u2, u3, u4, u5⟩ := op_units ha
  obtain ⟨v1, v2, v3, v4, v5⟩ := op_units hb
  have hbal : tgt (units a) = src (units b) := by omega
  obtain ⟨e1, e2⟩ := comp_ends hbal
  have hg : goodU (comp (units a) (units b)) := fun x hx => by
    rcases comp_mem _ _ x hx with h | h
    · exact u5 x h
    · exact v5 x h
  obtain ⟨m1, m2, m3, m4⟩ := made_ok (us := comp (units a) (units b)) (by omega) (by omega) hg
  have hB : composeB a b = true := by
    unfold composeB
    rw [ha, hb]
    have : okOp (compL a b) = true := m1
    rw [this]
    simp [hs]
  have hT : composeT a b = made (comp (units a) (units b)) := by unfold composeT; rw [if_pos hB]; rfl
  rw [hT]
  exact ⟨hB, rfl, m1, norm_normal m2 m1, units_made _, by rw [m3, e1]; exact u1, by rw [m4, e2]; exact v2, hbal⟩
theorem compose_apply {a b : List Pt} {t : List Int} (ha : okOp a = true) (hb : okOp b = true) (hs : sumK a + sumP a = sumK b + sumD b) (ht : okText t = true) (hf : sumK a + sumD a = (t.length : Int)) : applyT (composeT a b) t = applyT b (applyT a t) := by
  obtain ⟨c1, c2, c3, c4, c5, c6, c7, c8⟩ := compose_ok ha hb hs
  obtain ⟨a1, a2, a3, a4, a5⟩ := apply_ok ha ht hf
  obtain ⟨b1, b2, _⟩ := apply_ok hb a3 (by omega)
  obtain ⟨k1, k2, _⟩ := apply_ok c3 ht (by omega)
  rw [k2, c5, apply_nf, b2, a2]
  exact (apply_comp (units a) (units b) t a5 c8).1
/-- associativity -/
theorem compose_assoc {a b c : List Pt} (ha : okOp a = true) (hb : okOp b = true) (hc : okOp c = true) (h1 : sumK a + sumP a = sumK b + sumD b) (h2 : sumK b + sumP b = sumK c + sumD c) : composeT (composeT a b) c = composeT a (composeT b c) := by
  obtain ⟨p1, p2, p3, p4, p5, p6, p7, p8⟩ := compose_ok ha hb h1
  obtain ⟨q1, q2, q3, q4, q5, q6, q7, q8⟩ := compose_ok hb hc h2
  obtain ⟨r1, r2, r3, r4, r5, r6, r7, r8⟩ := compose_ok p3 hc (by omega)
  obtain ⟨s1, s2, s3, s4, s5, s6, s7, s8⟩ := compose_ok ha q3 (by omega)
  rw [r2, s2]
  apply made_ext
  rw [p5, q5]
  have e1 : nfU (comp (nfU (comp (units a) (units b))) (units c)) = nfU (comp (comp (units a) (units b)) (units c)) := by
    have hb' : tgt (comp (units a) (units b)) = src (units c) := by rw [(comp_ends p8).2]; exact q8
    have hb'' : tgt (nfU (comp (units a) (units b))) = src (units c) := by rw [(nf_ends _).2]; exact hb'
    have x1 := comp_nf hb'
    have x2 := comp_nf hb''
    rw [nf_idem] at x2
    rw [← x2, x1]
  have e2 : nfU (comp (units a) (nfU (comp (units b) (units c)))) = nfU (comp (units a) (comp (units b) (units c))) := by
    have hb' : tgt (units a) = src (comp (units b) (units c)) := by rw [(comp_ends q8).1]; exact p8
    have hb'' : tgt (units a) = src (nfU (comp (units b) (units c))) := by rw [(nf_ends _).1]; exact hb'
    have x1 := comp_nf hb'
    have x2 := comp_nf hb''
    rw [nf_idem] at x2
    rw [← x2, x1]
  rw [e1, e2]
  exact comp_assoc p8 q8

theorem nf_ds : ∀ {n : Nat} {us : List U} {qs : List Int} {m : Nat}, nfGo (List.replicate n U.d ++ us) qs m = nfGo us qs (m + n)
  | 0, us, qs, m => by simp
  | n + 1, us, qs, m => by rw [List.replicate_succ, List.cons_append, nfGo, nf_ds]; congr 1; omega
theorem nf_ps : ∀ {zs : List Int} {us : List U} {qs : List Int} {m : Nat}, nfGo (zs.map U.p ++ us) qs m = nfGo us (qs ++ zs) m
  | [], us, qs, m => by simp
  | z :: zs, us, qs, m => by rw [List.map_cons, List.cons_append, nfGo, nf_ps]; simp
theorem inv_ps : ∀ (ps : List Int) (us : List U) (t : List Int), invU (ps.map U.p ++ us) t = List.replicate ps.length U.d ++ invU us t
  | [], us, t => by simp
  | p :: ps, us, t => by rw [List.map_cons, List.cons_append, invU, inv_ps ps us t]; simp [List.replicate_succ]
theorem inv_ds : ∀ (n : Nat) (us : List U) (t : List Int), invU (List.replicate n U.d ++ us) t = (t.take n).map U.p ++ invU us (t.drop n)
  | 0, us, t => by simp
  | n + 1, us, t => by
    rw [List.replicate_succ, List.cons_append, invU, inv_ds n us (t.drop 1), List.drop_drop, ← List.append_assoc, ← List.map_append]
    congr 2
    · rw [show n + 1 = 1 + n by omega, List.take_add]
    · rw [Nat.add_comm]
theorem inv_pd (ps : List Int) (n : Nat) (t : List Int) : invU (ps.map U.p ++ List.replicate n U.d) t = List.replicate ps.length U.d ++ (t.take n).map U.p := by
  have := inv_ds n [] t
  rw [List.append_nil] at this
  rw [inv_ps, this]
  simp [invU]
theorem inv_app_pd {ps : List Int} {n : Nat} {us : List U} {t : List Int} : invU ((ps.map U.p ++ List.replicate n U.d) ++ us) t = List.replicate ps.length U.d ++ ((t.take n).map U.p ++ invU us (t.drop n)) := by
  rw [List.append_assoc, inv_ps, inv_ds]
/-- the inverse on units: of the normal form, up to the normal form -/
theorem inv_go : ∀ (us : List U) (ps : List Int) (n : Nat) (t : List Int) (qs : List Int) (m : Nat), src us + n = t.length → nfGo (invU (nfGo us ps n) t) qs m = nfGo (invU us (t.drop n)) (qs ++ t.take n) (m + ps.length)
  | [], ps, n, t, qs, m, h => by
    have e : invU (ps.map U.p ++ List.replicate n U.d) t = List.replicate ps.length U.d ++ (t.take n).map U.p := inv_pd ps n t
    have e2 := nf_ps (zs := t.take n) (us := []) (qs := qs) (m := m + ps.length)
    rw [List.append_nil] at e2
    rw [nfGo, e, nf_ds, e2]
    simp [invU]
  | .k :: us, ps, n, t, qs, m, h => by
    have hl : src us + 0 = (t.drop (n + 1)).length := by simp [src] at h ⊢; omega
    rw [nfGo, ← List.append_assoc, inv_app_pd, nf_ds, nf_ps]
    simp only [invU]
    rw [nfGo, List.drop_drop, inv_go us [] 0 (t.drop (n + 1)) [] 0 hl]
    simp [nfGo]
  | .p x :: us, ps, n, t, qs, m, h => by
    rw [nfGo, inv_go us (ps ++ [x]) n t qs m (by simpa [src] using h)]
    simp only [invU, nfGo]
    simp [Nat.add_assoc]
  | .d :: us, ps, n, t, qs, m, h => by
    have hlt : n < t.length := by simp [src] at h; omega
    rw [nfGo, inv_go us ps (n + 1) t qs m (by simp [src] at h ⊢; omega)]
    simp only [invU]
    rw [List.drop_drop, nf_ps]
    congr 1
    rw [List.append_assoc]
    congr 1
    rw [List.take_add_one, List.take_one, List.head?_drop]
theorem inv_nf {us : List U} {t : List Int} (h : src us = t.length) : nfU (invU (nfU us) t) = nfU (invU us t) := by
  have := inv_go us [] 0 t [] 0 (by omega)
  simpa [nfU] using this
theorem inv_ks : ∀ (n : Nat) (us : List U) (t : List Int), invU (List.replicate n U.k ++ us) t = List.replicate n U.k ++ invU us (t.drop n)
  | 0, us, t => by simp
  | n + 1, us, t => by rw [List.replicate_succ, List.cons_append, invU, inv_ks n us (t.drop 1), List.drop_drop, List.cons_append, Nat.add_comm 1 n]
theorem foldI_units (t : List Int) : ∀ (L : List Pt) (s : Nat × List Pt), (∀ p ∈ L, szP_ p) → units (L.foldl (stepI t) s).2 = units s.2 ++ invU (units L) (t.drop s.1)
  | [], s, _ => by simp [units_nil, invU]
  | p :: L, s, h => by
    rw [List.foldl_cons, foldI_units t L (stepI t s p) (fun q hq => h q (by simp [hq])), units_cons]
    obtain ⟨hk, h0, h1, h2⟩ := h p (by simp)
    have e1 : (stepI t s p).2 = s.2 ++ [invP t s.1 p] := rfl
    rw [e1, units_app, List.append_assoc]
    congr 1
    have e3 : units [invP t s.1 p] = unitsP (invP t s.1 p) := by simp [units]
    rw [e3]
    obtain ⟨pk, pn, pz⟩ := p
    simp only at hk h0
    rcases hk with rfl | rfl | rfl
    · have u1 : unitsP ⟨1, pn, pz⟩ = List.replicate pn.toNat .k := by simp [unitsP]
      have u2 : unitsP (invP t s.1 ⟨1, pn, pz⟩) = List.replicate pn.toNat .k := by simp [unitsP, invP]
      rw [u1, u2, inv_ks, List.drop_drop]
      simp [stepI]
    · have u1 : unitsP ⟨2, pn, pz⟩ = pz.map .p := by simp [unitsP]
      have u2 : unitsP (invP t s.1 ⟨2, pn, pz⟩) = List.replicate pz.length .d := by simp [unitsP, invP]
      rw [u1, u2, inv_ps]
      simp [stepI]
    · have u1 : unitsP ⟨3, pn, pz⟩ = List.replicate pn.toNat .d := by simp [unitsP]
      have u2 : unitsP (invP t s.1 ⟨3, pn, pz⟩) = ((t.drop s.1).take pn.toNat).map .p := by simp [unitsP, invP]
      rw [u1, u2, inv_ds, List.drop_drop]
      simp [stepI]
theorem inv_mem : ∀ (us : List U) (t : List Int) (x : Int), U.p x ∈ invU us t → x ∈ t
  | [], t, x, h => by simp [invU] at h
  | .k :: us, t, x, h => by
    rw [invU] at h
    rcases List.mem_cons.1 h with h | h
    · cases h
    · exact List.mem_of_mem_drop (inv_mem us _ x h)
  | .p y :: us, t, x, h => by
    rw [invU] at h
    rcases List.mem_cons.1 h with h | h
    · cases h
    · exact inv_mem us _ x h
  | .d :: us, t, x, h => by
    rw [invU] at h
    rcases List.mem_append.1 h with h | h
    · obtain ⟨z, hz, e⟩ := List.mem_map.1 h
      injection e with e
      subst e
      exact List.mem_of_mem_take hz
    · exact List.mem_of_mem_drop (inv_mem us _ x h)
/-- the inverse of a valid operation -/
theorem invert_eq {a : List Pt} {t : List Int} (ha : okOp a = true) (ht : okText t = true) (hs : sumK a + sumD a = (t.length : Int)) : invertT a t = made (invU (units a) t) ∧ okOp (invertT a t) = true ∧ normL (invertT a t) = invertT a t ∧ sumK (invertT a t) + sumD (invertT a t) = sumK a + sumP a ∧ sumK (invertT a t) + sumP (invertT a t) = sumK a + sumD a := by
  obtain ⟨a1, a2, a3, a4, a5⟩ := apply_ok ha ht hs
  obtain ⟨u1, u2, u3, u4, u5⟩ := op_units ha
  obtain ⟨n1, n2, n3⟩ := fits_norm a1
  have hsz := okPs_sz n1
  have hf := foldI_fit (t := t) n1 (normL a).length (Nat.le_refl _)
  rw [List.take_length] at hf
  have hu := foldI_units t (normL a) (0, []) hsz
  have e1 : invertT a t = made (invU (nfU (units a)) t) := by
    unfold invertT
    rw [if_pos a1, foldN_units hf.2.2]
    unfold made
    congr 2
    have : units (foldI t (normL a)).2 = invU (units (normL a)) t := by simpa [foldI, units_nil] using hu
    rw [this, norm_made ha, units_made]
  have e2 : invertT a t = made (invU (units a) t) := by rw [e1]; exact made_ext (inv_nf a5)
  obtain ⟨i1, i2, i3⟩ := inv_back (units a) t a5
  obtain ⟨m1, m2, m3, m4⟩ := made_ok (us := invU (units a) t) (by omega) (by omega) (fun x hx => okText_mem ht x (inv_mem _ _ x hx))
  rw [e2]
  exact ⟨rfl, m1, norm_normal m2 m1, by rw [m3, i2]; exact u2, by rw [m4, i3]; exact u1⟩
theorem invert_ok {a : List Pt} {t : List Int} (ha : okOp a = true) (ht : okText t = true) (hs : sumK a + sumD a = (t.length : Int)) : applyT (invertT a t) (applyT a t) = t ∧ invertT (invertT a t) (applyT a t) = normL a := by
  obtain ⟨a1, a2, a3, a4, a5⟩ := apply_ok ha ht hs
  obtain ⟨x1, x2, x3, x4, x5⟩ := invert_eq ha ht hs
  obtain ⟨b1, b2, b3, b4, b5⟩ := apply_ok x2 a3 (by omega)
  obtain ⟨y1, _⟩ := invert_eq x2 a3 (by omega)
  obtain ⟨i1, i2, i3⟩ := inv_back (units a) t a5
  have hu : units (invertT a t) = nfU (invU (units a) t) := by rw [x1, units_made]
  constructor
  · rw [b2, hu, apply_nf, a2, i1]
  · rw [y1, norm_made ha]
    apply made_ext
    have hsrc : src (invU (units a) t) = (applyT a t).length := by
      have : ((applyT a t).length : Int) = (tgt (units a) : Int) := by rw [a4]; exact (op_units ha).2.1.symm
      omega
    rw [hu, inv_nf hsrc, a2, inv_inv (units a) t a5]
/-- how many characters are inserted -/
def np : List U → Nat
  | [] => 0
  | .p _ :: us => np us + 1
  | _ :: us => np us
theorem np_app : ∀ a b : List U, np (a ++ b) = np a + np b
  | [], b => by simp [np]
  | u :: a, b => by
    have := np_app a b
    cases u <;> simp [np, this] <;> omega
theorem np_rk : ∀ n : Nat, np (List.replicate n U.k) = 0
  | 0 => rfl
  | n + 1 => by rw [List.replicate_succ]; simp [np, np_rk n]
theorem np_rd : ∀ n : Nat, np (List.replicate n U.d) = 0
  | 0 => rfl
  | n + 1 => by rw [List.replicate_succ]; simp [np, np_rd n]
theorem np_mp : ∀ zs : List Int, np (zs.map U.p) = zs.length
  | [] => rfl
  | z :: zs => by rw [List.map_cons]; simp [np, np_mp zs]
theorem np_units {L : List Pt} (h : ∀ p ∈ L, szP_ p) : (np (units L) : Int) = sumOf putOf L := by
  induction L with
  | nil => simp [units_nil, np, sumOf]
  | cons p L ih =>
    have i := ih (fun q hq => h q (by simp [hq]))
    obtain ⟨hk, _⟩ := h p (by simp)
    rw [units_cons, np_app, sumOf_cons]
    have : (np (unitsP p) : Int) = putOf p := by
      obtain ⟨pk, pn, pz⟩ := p
      simp only at hk
      rcases hk with rfl | rfl | rfl
      · simp [unitsP, putOf, np_rk]
      · simp [unitsP, putOf, np_mp]
      · simp [unitsP, putOf, np_rd]
    omega
theorem np_op {a : List Pt} (h : okOp a = true) : (np (units a) : Int) = sumP a := by
  obtain ⟨t1, t2, t3⟩ := sum_t (okOp_partsB h)
  rw [np_units (okPs_sz (okOp_of h).1), t2]
theorem np_go : ∀ (us : List U) (ps : List Int) (n : Nat), np (nfGo us ps n) = np us + ps.length
  | [], ps, n => by rw [nfGo, np_app, np_mp, np_rd]; simp [np]
  | .k :: us, ps, n => by rw [nfGo, np_app, np_mp, np_app, np_rd]; simp [np, np_go us [] 0]; omega
  | .p x :: us, ps, n => by rw [nfGo, np_go us (ps ++ [x]) n]; simp [np]; omega
  | .d :: us, ps, n => by rw [nfGo, np_go us ps (n + 1)]; simp [np]
theorem np_nf (us : List U) : np (nfU us) = np us := by unfold nfU; rw [np_go]; simp
theorem xf_np (a b : List U) : src a = src b → np (xf a b).1 = np a ∧ np (xf a b).2 = np b ∧ tgt (xf a b).1 ≤ tgt b + np a ∧ (∀ x, U.p x ∈ (xf a b).1 → U.p x ∈ a) ∧ (∀ x, U.p x ∈ (xf a b).2 → U.p x ∈ b) := by
  induction a, b using xf.induct with
  | case1 => intro h; simp [xf, np, tgt]
  | case2 x a b ih =>
    intro h
    obtain ⟨i1, i2, i3, i4, i5⟩ := ih (by simpa [src] using h)
    rw [xf]
    refine ⟨by simp [np, i1], by simp [np, i2], by simp [np, tgt]; omega, fun y hy => ?_, fun y hy => ?_⟩
    · rcases List.mem_cons.1 hy with e | hy
      · rw [e]; simp
      · simp [i4 y hy]
    · rcases List.mem_cons.1 hy with e | hy
      · cases e
      · exact i5 y hy
  | case3 x b ih =>
    intro h
    obtain ⟨i1, i2, i3, i4, i5⟩ := ih (by simpa [src] using h)
    rw [xf]
    refine ⟨by simp [np, i1], by simp [np, i2], by simp [np, tgt] at i3 ⊢; omega, fun y hy => ?_, fun y hy => ?_⟩
    · rcases List.mem_cons.1 hy with e | hy
      · cases e
      · exact i4 y hy
    · rcases List.mem_cons.1 hy with e | hy
      · rw [e]; simp
      · simp [i5 y hy]
  | case4 b => intro h; simp [src] at h
  | case5 b => intro h; simp [src] at h
  | case6 a => intro h; simp [src] at h
  | case7 a x b ih =>
    intro h
    obtain ⟨i1, i2, i3, i4, i5⟩ := ih (by simpa [src] using h)
    rw [xf]
    refine ⟨by simp [np, i1], by simp [np, i2], by simp [np, tgt] at i3 ⊢; omega, fun y hy => ?_, fun y hy => ?_⟩
    · rcases List.mem_cons.1 hy with e | hy
      · cases e
      · exact i4 y hy
    · rcases List.mem_cons.1 hy with e | hy
      · rw [e]; simp
      · simp [i5 y hy]
  | case8 a b ih =>
    intro h
    obtain ⟨i1, i2, i3, i4, i5⟩ := ih (by simpa [src] using h)
    rw [xf]
    refine ⟨by simp [np, i1], by simp [np, i2], by simp [np, tgt] at i3 ⊢; omega, fun y hy => ?_, fun y hy => ?_⟩
    · rcases List.mem_cons.1 hy with e | hy
      · cases e
      · simp [i4 y hy]
    · rcases List.mem_cons.1 hy with e | hy
      · cases e
      · simp [i5 y hy]
  | case9 a b ih =>
    intro h
    obtain ⟨i1, i2, i3, i4, i5⟩ := ih (by simpa [src] using h)
    rw [xf]
    refine ⟨by simp [np, i1], by simp [np, i2], by simp [np, tgt] at i3 ⊢; omega, fun y hy => by simp [i4 y hy], fun y hy => ?_⟩
    rcases List.mem_cons.1 hy with e | hy
    · cases e
    · simp [i5 y hy]
  | case10 a => intro h; simp [src] at h
  | case11 a x b ih =>
    intro h
    obtain ⟨i1, i2, i3, i4, i5⟩ := ih (by simpa [src] using h)
    rw [xf]
    refine ⟨by simp [np, i1], by simp [np, i2], by simp [np, tgt] at i3 ⊢; omega, fun y hy => ?_, fun y hy => ?_⟩
    · rcases List.mem_cons.1 hy with e | hy
      · cases e
      · exact i4 y hy
    · rcases List.mem_cons.1 hy with e | hy
      · rw [e]; simp
      · simp [i5 y hy]
  | case12 a b ih =>
    intro h
    obtain ⟨i1, i2, i3, i4, i5⟩ := ih (by simpa [src] using h)
    rw [xf]
    refine ⟨by simp [np, i1], by simp [np, i2], by simp [np, tgt] at i3 ⊢; omega, fun y hy => ?_, fun y hy => by simp [i5 y hy]⟩
    rcases List.mem_cons.1 hy with e | hy
    · cases e
    · simp [i4 y hy]
  | case13 a b ih =>
    intro h
    obtain ⟨i1, i2, i3, i4, i5⟩ := ih (by simpa [src] using h)
    rw [xf]
    exact ⟨by simp [np, i1], by simp [np, i2], by simp [np, tgt] at i3 ⊢; omega, fun y hy => by simp [i4 y hy], fun y hy => by simp [i5 y hy]⟩
/-- transforming valid operations on one text -/
theorem xform_ok {a b : List Pt} {t : List Int} (ha : okOp a = true) (hb : okOp b = true) (ht : okText t = true) (h1 : sumK a + sumD a = (t.length : Int)) (h2 : sumK b + sumD b = (t.length : Int)) (hp : sumK b + sumP b + sumP a ≤ 200) :
    xformOk a b = true ∧ okOp (xformA a b) = true ∧ okOp (xformB a b) = true ∧ normL (xformA a b) = xformA a b ∧ normL (xformB a b) = xformB a b ∧ sumK (xformA a b) + sumD (xformA a b) = sumK b + sumP b ∧ sumK (xformB a b) + sumD (xformB a b) = sumK a + sumP a ∧ sumP (xformA a b) = sumP a ∧ sumP (xformB a b) = sumP b ∧ sumK (xformA a b) + sumP (xformA a b) = sumK (xformB a b) + sumP (xformB a b) ∧ sumK (xformA a b) + sumP (xformA a b) ≤ sumK b + sumP b + sumP a ∧ applyT (xformB a b) (applyT a t) = applyT (xformA a b) (applyT b t) := by
  obtain ⟨u1, u2, u3, u4, u5⟩ := op_units ha
  obtain ⟨v1, v2, v3, v4, v5⟩ := op_units hb
  obtain ⟨a1, a2, a3, a4, a5⟩ := apply_ok ha ht h1
  obtain ⟨b1, b2, b3, b4, b5⟩ := apply_ok hb ht h2
  obtain ⟨m1, m2, m3, m4⟩ := xf_meet (units a) (units b) t a5 b5
  obtain ⟨n1, n2, n3, n4, n5⟩ := xf_np (units a) (units b) (by omega)
  have pa := np_op ha
  have pb := np_op hb
  obtain ⟨p1, p2, p3, p4⟩ := made_ok (us := (xf (units a) (units b)).1) (by omega) (by omega) (fun x hx => u5 x (n4 x hx))
  obtain ⟨q1, q2, q3, q4⟩ := made_ok (us := (xf (units a) (units b)).2) (by omega) (by omega) (fun x hx => v5 x (n5 x hx))
  have hO : xformOk a b = true := by
    unfold xformOk
    have e1 : okOp (xfA a b) = true := p1
    have e2 : okOp (xfB a b) = true := q1
    rw [ha, hb, e1, e2]
    simp
    omega
  have eA : xformA a b = made (xf (units a) (units b)).1 := by unfold xformA; rw [if_pos hO]; rfl
  have eB : xformB a b = made (xf (units a) (units b)).2 := by unfold xformB; rw [if_pos hO]; rfl
  have sA := np_op p1
  have sB := np_op q1
  rw [units_made, np_nf] at sA sB
  rw [eA, eB]
  obtain ⟨c1, c2, _⟩ := apply_ok q1 a3 (by rw [q3, m3]; omega)
  obtain ⟨d1, d2, _⟩ := apply_ok p1 b3 (by rw [p3, m2]; omega)
  refine ⟨hO, p1, q1, norm_normal p2 p1, norm_normal q2 q1, by rw [p3, m2]; exact v2, by rw [q3, m3]; exact u2, by omega, by omega, by rw [p4, q4, m4], by rw [p4]; omega, ?_⟩
  rw [c2, d2, units_made, units_made, apply_nf, apply_nf, a2, b2, m1]
end Go.Proofs.Ytninppjomdhnmaa.low


/-
  A valid document is small: bounds read off its validity.
-/
namespace Go.Proofs.Ytninppjomdhnmaa.low
open Go.RowKit
set_option linter.unusedVariables false

theorem signs_put : ∀ {ps : List Pt}, okPs ps = true → (signsIn ps : Int) = sumOf putOf ps
  | [], _ => by simp [signsIn, sumOf]
  | p :: ps, h => by
    unfold okPs at h
    rw [List.all_cons, Bool.and_eq_true] at h
    have ih := signs_put (ps := ps) h.2
    have e1 : signsIn (p :: ps) = p.signs.length + signsIn ps := by simp [signsIn]
    have e2 : sumOf putOf (p :: ps) = putOf p + sumOf putOf ps := by simp [sumOf]
    rw [e1, e2, ← ih]
    have := of_okPt h.1
    unfold putOf
    split <;> omega
theorem op_800 {o : List Pt} (h : okOp o = true) : o.length + signsIn o ≤ 800 := by
  have hh := h
  unfold okOp at h
  rw [Bool.and_eq_true, Bool.and_eq_true] at h
  obtain ⟨⟨h1, _⟩, h3⟩ := h
  have h3 := of_decide_eq_true h3
  obtain ⟨t1, t2, _⟩ := sum_t h1
  unfold partsB at h1
  rw [Bool.and_eq_true] at h1
  have h4 := of_decide_eq_true h1.2
  have hb := sums_bd h1.1 h4
  have hs := signs_put h1.1
  rw [t1, t2] at h3
  omega
theorem isNorm_800 {o : List Pt} (h : isNormL o = true) : o.length + signsIn o ≤ 800 := by
  unfold isNormL at h
  rw [Bool.and_eq_true] at h
  exact op_800 h.1
theorem chain_tot : ∀ {l : List En} {t : List Int}, chainGo l t = true → sumN totEn l ≤ 800 * l.length
  | [], _, _ => by simp [sumN]
  | e :: l, t, h => by
    unfold chainGo at h
    simp only [Bool.and_eq_true] at h
    have ih := chain_tot h.2
    have he : entryB e = true := h.1.1.2
    unfold entryB at he
    rw [Bool.and_eq_true] at he
    have := isNorm_800 he.2
    have e1 : totEn e = e.o.length + signsIn e.o := rfl
    rw [sumN_cons, List.length_cons, e1]
    omega
theorem seen_le : ∀ {l : List Se} {h : Int} {p : Int}, seenAllB h (some p) l = true → 0 ≤ p → p ≤ 8 → (l.length : Int) + p ≤ 8
  | [], _, _, _, _, _ => by simp; omega
  | s :: l, hh, p, h, h0, h8 => by
    unfold seenAllB seenOneB at h
    simp only [Bool.and_eq_true] at h
    have h1 := h.1.1.1.1
    have h2 := h.1.2
    unfold inB at h1
    have h1 := of_decide_eq_true h1
    have h2 : p < s.client := of_decide_eq_true h2
    have ih := seen_le h.2 (by omega) (by omega)
    rw [List.length_cons]
    omega
theorem seen_8 {l : List Se} {h : Int} (hs : seenAllB h none l = true) : l.length ≤ 8 := by
  cases l with
  | nil => simp
  | cons s l =>
    unfold seenAllB seenOneB at hs
    simp only [Bool.and_eq_true] at hs
    have h1 := hs.1.1.1.1
    unfold inB at h1
    have h1 := of_decide_eq_true h1
    have ih := seen_le hs.2 (by omega) (by omega)
    rw [List.length_cons]
    omega
structure DocIn (x : Do) : Prop where
  name : x.name.size ≤ 8
  from0 : 0 ≤ x.from_
  from1 : x.from_ ≤ 999999000
  text : x.text.length ≤ 200
  list : x.list.length ≤ 8
  ops : sumN totEn x.list ≤ 6400
  seen : x.seen.length ≤ 8
  head : headRevT x = x.from_ + (x.list.length : Int)
theorem docB_in {x : Do} (h : docB x = true) : DocIn x := by
  have hh := docB_of h
  unfold docB at h
  simp only [Bool.and_eq_true] at h
  obtain ⟨⟨⟨⟨⟨h1, h2⟩, h3⟩, h4⟩, h5⟩, h6⟩ := h
  unfold nameB inB at h1
  rw [Bool.and_eq_true] at h1
  have h1 := of_decide_eq_true h1.2
  unfold okText at h3
  rw [Bool.and_eq_true] at h3
  have h3 := of_decide_eq_true h3.2
  have h4 := of_decide_eq_true h4
  have h5 := chain_tot h5
  exact ⟨by omega, hh.1, hh.2.1, h3, h4, by omega, seen_8 h6, hh.2.2.2⟩
theorem sumSe (l : List Se) : sumN totSe l = 0 := by
  induction l with
  | nil => rfl
  | cons s l ih => rw [sumN_cons, ih]; rfl
theorem do_tot {x : Do} (h1 : x.name.size ≤ 8) (h2 : x.text.length ≤ 200) (h3 : x.list.length ≤ 9) (h4 : sumN totEn x.list ≤ 100000) (h5 : x.seen.length ≤ 9) : totDo x ≤ 100300 := by
  unfold totDo totI totEns totSes
  rw [sumSe]
  omega
theorem sumN_drop {α : Type} (f : α → Nat) : ∀ (l : List α) (k : Nat), sumN f (l.drop k) ≤ sumN f l
  | _, 0 => by simp
  | [], k + 1 => by simp
  | x :: l, k + 1 => by
    have := sumN_drop f l k
    rw [List.drop_succ_cons, sumN_cons]
    omega
theorem docB_chain {x : Do} (h : docB x = true) : chainGo x.list x.text = true := by
  unfold docB at h
  simp only [Bool.and_eq_true] at h
  exact h.1.2
theorem chain_all : ∀ {l : List En} {t : List Int}, chainGo l t = true → ∀ e ∈ l, okOp e.o = true
  | [], _, _, e, he => by simp at he
  | e :: l, t, h, x, hx => by
    unfold chainGo at h
    simp only [Bool.and_eq_true] at h
    rcases List.mem_cons.1 hx with rfl | hx
    · have he : entryB x = true := h.1.1.2
      unfold entryB isNormL at he
      simp only [Bool.and_eq_true] at he
      exact he.2.1
    · exact chain_all h.2 x hx
theorem apply_200 {o : List Pt} {t : List Int} : (applyT o t).length ≤ 200 := by
  by_cases h : fitsB o t = true
  · have h' := h
    unfold fitsB at h'
    simp only [Bool.and_eq_true] at h'
    have h2 := (apply_ok h'.1.1 h'.1.2 (of_decide_eq_true h'.2)).2.2.1
    unfold okText at h2
    rw [Bool.and_eq_true] at h2
    exact of_decide_eq_true h2.2
  · unfold applyT
    rw [if_neg h]
    simp
theorem endT_200 : ∀ {l : List En} {t : List Int}, (∀ e ∈ l, okOp e.o = true) → t.length ≤ 200 → (endT l t).length ≤ 200
  | [], _, _, ht => ht
  | e :: l, t, h, _ => endT_200 (l := l) (t := applyT e.o t) (fun x hx => h x (by simp [hx])) apply_200
theorem smEns_drop {l : List En} (h : SmEns l) (m : Nat) : SmEns (l.drop m) := by
  unfold SmEns totEns at *
  have := sumN_drop totEn l m
  rw [List.length_drop]
  omega
end Go.Proofs.Ytninppjomdhnmaa.low


/-
  What a ring of waiting entries answers, as mathematics.
-/
namespace Go.Proofs.Ytninppjomdhnmaa.low
open Go.RowKit
set_option linter.unusedVariables false

def noRi : Ri := ⟨0, 0, false, []⟩
/-- a ring is valid -/
def ringB (x : Ri) : Bool := x.list.all entryB && (inB x.cap 1 6 && (inB x.next 1 1000000000 && (decide ((x.list.length : Int) ≤ x.cap) && (!x.out || decide ((x.list.length : Int) = 0)))))
def ringNewB (room rev : Int) : Bool := inB room 1 6 && inB rev 0 999999999
def ringNewT (room rev : Int) : Ri := if ringNewB room rev = true then ⟨room, rev + 1, false, []⟩ else noRi
def ringPushT (x : Ri) (e : En) : Ri := if ringB x = true ∧ entryB e = true ∧ x.out = false then (if (x.list.length : Int) = x.cap then ⟨x.cap, x.next, true, []⟩ else ⟨x.cap, x.next, x.out, x.list ++ [e]⟩) else x
def ringPollC (x : Ri) (n : Int) : Int := if ringB x = false ∨ n < 1 then 1 else if x.out = true then 9 else 0
def takeN (x : Ri) (n : Int) : Nat := min n.toNat x.list.length
def ringPollT (x : Ri) (n : Int) : Ri := if ringPollC x n = 0 then ⟨x.cap, x.next + (takeN x n : Int), x.out, x.list.drop (takeN x n)⟩ else x
def ringPollL (x : Ri) (n : Int) : List En := if ringPollC x n = 0 then x.list.take (takeN x n) else []
def ringResyncB (x : Ri) (rev : Int) : Bool := ringB x && ringNewB x.cap rev
def ringResyncT (x : Ri) (rev : Int) : Ri := if ringResyncB x rev = true then ⟨x.cap, rev + 1, false, []⟩ else noRi
def ringLagT (x : Ri) : Int := if x.out = true then -1 else (x.list.length : Int)
def ringSameB (x y : Ri) : Bool := decide (x.cap = y.cap) && (decide (x.next = y.next) && (x.out == y.out && entriesB x.list y.list))

theorem ringB_of {x : Ri} (h : ringB x = true) : x.list.all entryB = true ∧ 1 ≤ x.cap ∧ x.cap ≤ 6 ∧ 1 ≤ x.next ∧ x.next ≤ 1000000000 ∧ (x.list.length : Int) ≤ x.cap ∧ (x.out = true → x.list = []) := by
  unfold ringB inB at h
  simp only [Bool.and_eq_true, decide_eq_true_eq, Bool.or_eq_true, Bool.not_eq_true'] at h
  obtain ⟨h1, h2, h3, h4, h5⟩ := h
  refine ⟨h1, by omega, by omega, by omega, by omega, h4, fun ho => ?_⟩
  rcases h5 with h5 | h5
  · rw [ho] at h5; cases h5
  · exact List.eq_nil_of_length_eq_zero (by omega)
theorem ringNew_small {room rev : Int} : SmRi (ringNewT room rev) := by
  unfold ringNewT
  split <;> simp [SmRi, totRi, totEns, sumN, noRi]
theorem smEns_take2 {l : List En} (h : SmEns l) (m : Nat) : SmEns (l.take m) := by
  have h1 := sumN_take totEn l m
  have h2 : (l.take m).length ≤ l.length := by simp; omega
  unfold SmEns totEns at *
  omega
theorem smEns_drop2 {l : List En} (h : SmEns l) (m : Nat) : SmEns (l.drop m) := by
  have h1 := sumN_drop totEn l m
  have h2 : (l.drop m).length ≤ l.length := by simp
  unfold SmEns totEns at *
  omega
theorem entry_800 {e : En} (h : entryB e = true) : totEn e ≤ 800 := by
  unfold entryB at h
  rw [Bool.and_eq_true] at h
  exact isNorm_800 h.2
theorem all_800 : ∀ {l : List En}, l.all entryB = true → sumN totEn l ≤ 800 * l.length
  | [], _ => by simp [sumN]
  | e :: l, h => by
    rw [List.all_cons, Bool.and_eq_true] at h
    have h1 := entry_800 h.1
    have h2 := all_800 h.2
    rw [sumN_cons, List.length_cons]
    omega
theorem ringPush_small {x : Ri} {e : En} (hs : SmRi x) (he : SmEn e) : SmRi (ringPushT x e) := by
  unfold ringPushT
  split
  · rename_i h
    obtain ⟨h1, h2, h3⟩ := h
    have hr := ringB_of h1
    split
    · simp [SmRi, totRi, totEns, sumN]
    · have := all_800 (l := x.list ++ [e]) (by rw [List.all_append, hr.1]; simp [h2])
      show totEns (x.list ++ [e]) ≤ 1048576
      unfold totEns
      rw [List.length_append] at this ⊢
      simp only [List.length_singleton] at this ⊢
      omega
  · exact hs
theorem ringPoll_small0 {x : Ri} {n : Int} (hs : SmRi x) : SmRi (ringPollT x n) := by
  unfold ringPollT
  split
  · have := smEns_drop2 hs.list (takeN x n)
    exact this
  · exact hs
theorem ringPoll_small1 {x : Ri} {n : Int} (hs : SmRi x) : SmEns (ringPollL x n) := by
  unfold ringPollL
  split
  · exact smEns_take2 hs.list _
  · simp [SmEns, totEns, sumN]
theorem ringResync_small {x : Ri} {rev : Int} (hs : SmRi x) : SmRi (ringResyncT x rev) := by
  unfold ringResyncT
  split <;> simp [SmRi, totRi, totEns, sumN, noRi]
theorem two_boxes2 (w : World) (c1 c2 : Array Value) (T T' : TypeId) : ((w.alloc (.cells c1 T)).alloc (.cells c2 T')).heap[w.heap.size]? = some (.cells c1 T (0, 0)) ∧ ((w.alloc (.cells c1 T)).alloc (.cells c2 T')).heap[w.heap.size + 1]? = some (.cells c2 T' (0, 0)) ∧ Below w.heap.size w ((w.alloc (.cells c1 T)).alloc (.cells c2 T')) := by
  have s1 : (w.alloc (.cells c1 T)).heap.size = w.heap.size + 1 := World.size_alloc _ _
  exact ⟨heap_kept _ _ (heap_alloc_new w _), by rw [← s1]; exact heap_alloc_new _ _, ((Below.refl _ _).alloc (Nat.le_refl _) _).alloc (by omega) _⟩
/-- two results of one's own and a number -/
def Res2N (d d' : Dat) (n : Int) (w : World) (e : Ending) (w' : World) : Prop :=
  ∃ v v' b b', e = .returned (.tuple #[v, v', .int .i64 n]) ∧ OwB w.heap.size w'.heap.size w' d v b ∧ OwB w.heap.size w'.heap.size w' d' v' b' ∧ (∀ x ∈ b, x ∉ b') ∧ Below w.heap.size w w'
end Go.Proofs.Ytninppjomdhnmaa.low


/-
  What a hub of documents and subscribers answers, as mathematics.
-/
namespace Go.Proofs.Ytninppjomdhnmaa.low
open Go.RowKit
set_option linter.unusedVariables false

def noHu : Hu := ⟨false, [], [], 0⟩
/-- strings that are the same, and the order of strings, as the model says them -/
def eqSt (a b : ByteArray) : Bool := a.toList == b.toList
def ltSt (a b : ByteArray) : Bool := decide (a.data.toList < b.data.toList)
def ixInt : Option Nat → Int
  | none => -1
  | some i => (i : Int)
/-- the first document of a name, the first subscriber of a number -/
def docIx (l : List Do) (s : ByteArray) : Option Nat := l.findIdx? (fun d => eqSt d.name s)
def subIx (l : List Su) (id : Int) : Option Nat := l.findIdx? (fun s => decide (s.id = id))
def hubDocT (x : Hu) (s : ByteArray) : Int := ixInt (docIx x.docs s)
def hubSubT (x : Hu) (id : Int) : Int := ixInt (subIx x.subs id)
theorem ix_step {α : Type} {p : α → Bool} {l : List α} {j : Nat} {x : α} (h : l[j]? = some x) (hp : p x = false) (hi : ∀ i, i < j → ∀ y, l[i]? = some y → p y = false) : ∀ i, i < j + 1 → ∀ y, l[i]? = some y → p y = false := fun i hi' y hy => by
  rcases Nat.lt_or_ge i j with h1 | h1
  · exact hi i h1 y hy
  · obtain rfl : i = j := by omega
    rw [h] at hy
    injection hy with hy
    subst hy
    exact hp
theorem ix_found {α : Type} {p : α → Bool} : ∀ {l : List α} {j : Nat} {x : α}, l[j]? = some x → p x = true → (∀ i, i < j → ∀ y, l[i]? = some y → p y = false) → l.findIdx? p = some j
  | [], j, x, h, _, _ => by simp at h
  | y :: l, 0, x, h, hp, _ => by
    obtain rfl : y = x := by simpa using h
    rw [List.findIdx?_cons, if_pos hp]
  | y :: l, j + 1, x, h, hp, hi => by
    have h0 := hi 0 (by omega) y rfl
    rw [List.findIdx?_cons, if_neg (by rw [h0]; simp), ix_found (l := l) (j := j) (x := x) (by simpa using h) hp (fun i hi' z hz => hi (i + 1) (by omega) z (by simpa using hz))]
    rfl
theorem ix_none {α : Type} {p : α → Bool} {l : List α} (hi : ∀ i, i < l.length → ∀ y, l[i]? = some y → p y = false) : l.findIdx? p = none := by
  rw [List.findIdx?_eq_none_iff]
  intro x hx
  obtain ⟨i, hi', e⟩ := List.mem_iff_getElem.1 hx
  exact hi i hi' x (by rw [List.getElem?_eq_getElem hi', e])
theorem ix_lt {α : Type} {p : α → Bool} {l : List α} {k : Nat} (h : l.findIdx? p = some k) : k < l.length := by
  obtain ⟨h1, -⟩ := List.findIdx?_eq_some_iff_getElem.1 h
  exact h1
/-- the documents, behind one of the name p -/
def docsB : Option ByteArray → List Do → Bool
  | _, [] => true
  | p, d :: l => docB d && ((match p with | none => true | some q => ltSt q d.name) && docsB (some d.name) l)
/-- what a subscriber's ring is to its document -/
def fitB (docs : List Do) (s : Su) : Bool := match docIx docs s.doc with
  | none => false
  | some k => s.out || (match docs[k]? with | none => false | some d => decide (s.next + (s.list.length : Int) = headRevT d + 1))
def subsB (docs : List Do) (last : Int) : Int → List Su → Bool
  | _, [] => true
  | p, s :: l => inB s.id 1 last && (ringB (ringSu s) && (fitB docs s && (decide (p < s.id) && subsB docs last s.id l)))
def hubB (x : Hu) : Bool := decide (x.docs.length ≤ 5) && (decide (x.subs.length ≤ 6) && (inB x.last 0 1000000000 && (docsB none x.docs && subsB x.docs x.last 0 x.subs)))
def allDo : List Do → List Do → Bool
  | [], [] => true
  | e :: l, e' :: l' => docSameB e e' && allDo l l'
  | _, _ => false
def suSameB (s t : Su) : Bool := decide (s.id = t.id) && (eqSt s.doc t.doc && ringSameB (ringSu s) (ringSu t))
def allSu : List Su → List Su → Bool
  | [], [] => true
  | e :: l, e' :: l' => suSameB e e' && allSu l l'
  | _, _ => false
def hubSameB (x y : Hu) : Bool := (x.shut == y.shut) && (decide (x.last = y.last) && (decide (x.docs.length = y.docs.length) && (decide (x.subs.length = y.subs.length) && (allDo x.docs y.docs && allSu x.subs y.subs))))
theorem allDo_step {l l' : List Do} {j : Nat} {e e' : Do} (h : l[j]? = some e) (h' : l'[j]? = some e') : allDo (l.drop j) (l'.drop j) = (docSameB e e' && allDo (l.drop (j + 1)) (l'.drop (j + 1))) := by
  obtain ⟨h1, e1⟩ := List.getElem?_eq_some_iff.1 h
  obtain ⟨h2, e2⟩ := List.getElem?_eq_some_iff.1 h'
  rw [List.drop_eq_getElem_cons h1, List.drop_eq_getElem_cons h2, e1, e2]
  rfl
theorem allSu_step {l l' : List Su} {j : Nat} {e e' : Su} (h : l[j]? = some e) (h' : l'[j]? = some e') : allSu (l.drop j) (l'.drop j) = (suSameB e e' && allSu (l.drop (j + 1)) (l'.drop (j + 1))) := by
  obtain ⟨h1, e1⟩ := List.getElem?_eq_some_iff.1 h
  obtain ⟨h2, e2⟩ := List.getElem?_eq_some_iff.1 h'
  rw [List.drop_eq_getElem_cons h1, List.drop_eq_getElem_cons h2, e1, e2]
  rfl
/-- the name in front of the j-th document -/
def nameAt (l : List Do) : Nat → Option ByteArray
  | 0 => none
  | j + 1 => (l[j]?).map (·.name)
def idAt (l : List Su) : Nat → Int
  | 0 => 0
  | j + 1 => ((l[j]?).map (·.id)).getD 0
theorem docsB_step {l : List Do} {p : Option ByteArray} {j : Nat} {d : Do} (h : l[j]? = some d) : docsB p (l.drop j) = (docB d && ((match p with | none => true | some q => ltSt q d.name) && docsB (nameAt l (j + 1)) (l.drop (j + 1)))) := by
  obtain ⟨h1, e1⟩ := List.getElem?_eq_some_iff.1 h
  rw [List.drop_eq_getElem_cons h1, e1]
  show _ = (docB d && (_ && docsB ((l[j]?).map (·.name)) _))
  rw [h]
  rfl
theorem subsB_step {docs : List Do} {last p : Int} {l : List Su} {j : Nat} {s : Su} (h : l[j]? = some s) : subsB docs last p (l.drop j) = (inB s.id 1 last && (ringB (ringSu s) && (fitB docs s && (decide (p < s.id) && subsB docs last (idAt l (j + 1)) (l.drop (j + 1)))))) := by
  obtain ⟨h1, e1⟩ := List.getElem?_eq_some_iff.1 h
  rw [List.drop_eq_getElem_cons h1, e1]
  show _ = (_ && (_ && (_ && (_ && subsB docs last (((l[j]?).map (·.id)).getD 0) _))))
  rw [h]
  rfl
end Go.Proofs.Ytninppjomdhnmaa.low


/-
  Contract of spec.l02Copy, and the laws of append in a region that draws its order. Written by mkdoc6.py.
-/
namespace Go.Proofs.Ytninppjomdhnmaa.low
open Go.RowKit
set_option linter.unusedVariables false

theorem OwB.apartG {lo hi : Nat} {w w' : World} {d : Dat} {v : Value} {b : List Nat} {r : Option Nat} (h : OwB lo hi w d v b) (hg : w.grownBy w' r) (hr : ∀ k, r = some k → k < lo ∨ hi ≤ k) : OwB lo hi w' d v b :=
  ⟨OwC.keep d v b h.ow (fun x hx => hg.block x (OwC.lt d v b h.ow x hx) (fun e => by have := h.rng x hx; have := hr x e.symm; omega)), h.nd, h.rng, Nat.le_trans h.top hg.size, h.le⟩
theorem Grew.cellOut {O O' : Nat → Prop} {w w' : World} (h : Grew O O' w w') {p : Addr} (hb : p.block < w.heap.size) (hn : ¬ O p.block) : w'.cell? p = w.cell? p := World.cell?_of_block (w := w) (h.block p.block hb hn)
theorem step_append_zero {P : Program} {w : World} {ops : Array Oper} {o : Oper} {a : Act} {KN : Act → World → Prop} {Q : Exit → Act → World → Prop} {E : Prop} (hgd : o.guard = none) (s x : Operand) (t : TypeId)
    (ho : o.op = .call { callee := .builtin .append, args := #[s, x], argTypes := #[t, t] })
    (base : Nat) (e : TypeId) (i : TypeInfo) (size : Nat) (ht : P.underlying t = some (.slice e)) (hi : P.info? e = some i)
    (v : Value) (n : Nat) (xs : List Value) (hs : a.eval s = v) (hown : w.ownsRow base e size v n xs) (A : Option Addr) (c : Nat) (hx : a.eval x = .slice A 0 c)
    (h : KN (a.put o.dst v) w) : if Region.wanted o (yielded ops a.tmps) = true then Oper.wp P o a w KN Q else E := by
  have hw : Region.wanted o (yielded ops a.tmps) = true := by simp [Region.wanted, hgd]
  rw [if_pos hw]
  have hrun := run_append_zero (P := P) (w := w) base t o.type e i size ht hi v n xs hown A c
  unfold Oper.wp
  simp [execOp, ho, resolve, invoke, builtin, hs, hx, hrun, Result.andThen]
  exact h
theorem step_append_ints {w : World} {ops : Array Oper} {o : Oper} {a : Act} {KN : Act → World → Prop} {Q : Exit → Act → World → Prop} {E : Prop} (hgd : o.guard = none) (s x : Operand)
    (ho : o.op = .call { callee := .builtin .append, args := #[s, x], argTypes := #[40, 40] })
    (base : Nat) (v : Value) (zs : List Int) (hs : a.eval s = v) (hown : w.ownsRow base 3 1 v zs.length (zs.map (Value.int .i64)))
    (A : Option Addr) (m c : Nat) (ys : List Int) (hx : a.eval x = .slice A m c) (hm : ys.length = m) (hr : Row (Value.int .i64) w w.heap.size A ys)
    (h63 : zs.length + m ≤ 1000000000) (hbase : base ≤ w.heap.size)
    (h : ∀ A' c' w', w'.ownsRow base 3 1 (.slice A' (zs.length + m) c') (zs ++ ys).length ((zs ++ ys).map (Value.int .i64)) → w.grownBy w' v.ownBlock → KN (a.put o.dst (.slice A' (zs.length + m) c')) w') : if Region.wanted o (yielded ops a.tmps) = true then Oper.wp Try.prog o a w KN Q else E := by
  obtain ⟨i0, hi0, hz0, hz1, hz2⟩ := info_parts ints_info
  by_cases h0 : 0 < m
  · obtain ⟨ad, rfl, hbk, hcs⟩ := hr (by omega)
    refine step_append_lies _ hgd s x 40 ho base 3 i0 (.int .i64 0) 1 8 Try.underlying40 hi0 hz0 hz1 hz2 rfl (by decide) v zs.length (zs.map (Value.int .i64)) hs hown ad m c (ys.map (Value.int .i64)) hx (by simp [hm]) (fun j u hu => ?_) (by simp [Value.oneCell']) h0 (by unfold maxLen; omega) (by omega) hbase w.heap.size rfl ?_
    · rw [List.getElem?_map] at hu
      obtain ⟨z, hz, rfl⟩ := Option.map_eq_some_iff.1 hu
      exact hcs j z hz
    · intro g cap w' hown' hg _ _
      exact h _ cap w' (by simpa [hm] using hown') hg
  · have e0 : ys = [] := List.eq_nil_of_length_eq_zero (by omega)
    subst e0
    obtain rfl : m = 0 := by omega
    refine step_append_zero hgd s x 40 ho base 3 i0 1 Try.underlying40 hi0 v zs.length (zs.map (Value.int .i64)) hs hown A c hx ?_
    obtain ⟨Av, cv, rfl⟩ := own_form hown
    exact h Av cv w (by simpa using hown) (grown_refl _ _)
theorem step_append_row {w : World} {ops : Array Oper} {o : Oper} {a : Act} {KN : Act → World → Prop} {Q : Exit → Act → World → Prop} {E : Prop} (hgd : o.guard = none) (s x : Operand) (t : TypeId)
    (ho : o.op = .call { callee := .builtin .append, args := #[s, x], argTypes := #[t, t] }) (e : TypeId) (i : TypeInfo) (z : Value) (sz bytes : Nat) (ht : Try.prog.underlying t = some (.slice e)) (hi : Try.prog.info? e = some i) (hz : i.zero = some z) (hsize : i.size = sz) (hby : i.bytes = bytes) (hzs : z.cells.size = sz) (hsz : 0 < sz) (hbm : bytes ≤ 100000)
    (lo hi' : Nat) (v : Value) (ds : List (List Dat)) (b : List Nat) (h : OwB lo hi' w (.rows e sz ds) v b) (hs : a.eval s = v) (hlen : ds.length ≤ 2000000)
    (ad : Addr) (c0 : Nat) (ys : List Value) (hx : a.eval x = .slice (some ad) 1 c0) (hl : ys.length = sz) (hnews : ∀ j u, ys[j]? = some u → w.cell? (ad.add j) = some u) (h1 : ∀ u ∈ ys, u.oneCell' = true)
    (r : List Dat) (c : List Nat) (hr : OwL w r ys c) (hcn : c.Nodup) (hbc : ∀ q ∈ b, q ∉ c) (hcr : ∀ q ∈ c, lo ≤ q)
    (K : ∀ A' c' w' b', OwB lo w'.heap.size w' (.rows e sz (ds ++ [r])) (.slice A' (ds.length + 1) c') b' → (∀ q ∈ b', q ∈ b ∨ q ∈ c ∨ w.heap.size ≤ q) → Grew (fun q => q ∈ b) (fun q => q ∈ b ∨ w.heap.size ≤ q) w w' → Below lo w w' → KN (a.put o.dst (.slice A' (ds.length + 1) c')) w') : if Region.wanted o (yielded ops a.tmps) = true then Oper.wp Try.prog o a w KN Q else E := by
  have hnd := h.nd
  have hrg := h.rng
  obtain ⟨xs, cs, ho', hor, hb⟩ := h.ow
  refine step_append_lies _ hgd s x t ho 0 e i z sz bytes ht hi hz hsize hby hzs hsz v ds.length xs hs ho' ad 1 c0 ys hx (by simp [hl]) hnews h1 (by omega) (by unfold maxLen; omega) ?_ (Nat.zero_le _) _ rfl ?_
  · have : (ds.length + 1) * bytes ≤ 2000001 * 100000 := Nat.mul_le_mul (by omega) hbm
    omega
  intro g cap w' hown hg hat hlt
  rw [hb] at hnd
  obtain ⟨n1, n2, n3⟩ := List.nodup_append.1 hnd
  have own_mem : ∀ q, v.ownBlock = some q → q ∈ b := fun q hq => by rw [hb, hq]; simp
  have hcs : ∀ q ∈ cs, w'.heap[q]? = w.heap[q]? := fun q hq => hg.block q (OwR.lt sz _ _ _ hor q hq) (fun e => n3 q (by rw [← e]; simp) q hq rfl)
  have hcc : ∀ q ∈ c, w'.heap[q]? = w.heap[q]? := fun q hq => hg.block q (OwL.lt _ _ _ hr q hq) (fun e => hbc q (own_mem q e.symm) hq)
  have hor' := (OwR.keep sz _ _ _ hor hcs).append (OwR.one (OwL.keep _ _ _ hr hcc) hl)
  have g1 : g ∉ cs := fun hq => by
    rcases hat with e | e
    · exact n3 g (by rw [e]; simp) g hq rfl
    · have := OwR.lt sz _ _ _ hor g hq; omega
  have g2 : g ∉ c := fun hq => by
    rcases hat with e | e
    · exact hbc g (own_mem g e) hq
    · have := OwL.lt _ _ _ hr g hq; omega
  have g3 : lo ≤ g ∧ (g ∈ b ∨ w.heap.size ≤ g) := by
    rcases hat with e | e
    · exact ⟨(hrg g (own_mem g e)).1, .inl (own_mem g e)⟩
    · have := h.top; have := h.le; exact ⟨by omega, .inr (by omega)⟩
  have hsz' := hg.size
  have ht' := h.top
  refine K _ cap w' (g :: (cs ++ c)) ⟨⟨xs ++ ys, cs ++ c, by rw [List.length_append]; exact hown, hor', rfl⟩, ?_, ?_, Nat.le_refl _, by have := h.le; omega⟩ ?_ ⟨hg.size, fun q hq hn => hg.block q hq (fun e => hn (own_mem q e.symm)), fun q hq => hq⟩ ?_
  · refine List.nodup_cons.2 ⟨fun hq => ?_, List.nodup_append.2 ⟨n2, hcn, fun q hq q' hq' e => ?_⟩⟩
    · rcases List.mem_append.1 hq with hq | hq
      · exact g1 hq
      · exact g2 hq
    · subst e
      exact hbc q (by rw [hb]; simp [hq]) hq'
  · intro q hq
    rcases List.mem_cons.1 hq with rfl | hq
    · exact ⟨g3.1, hlt⟩
    · rcases List.mem_append.1 hq with hq | hq
      · have := hrg q (by rw [hb]; simp [hq]); exact ⟨this.1, by omega⟩
      · have := OwL.lt _ _ _ hr q hq; exact ⟨hcr q hq, by omega⟩
  · intro q hq
    rcases List.mem_cons.1 hq with rfl | hq
    · rcases g3.2 with h | h
      · exact .inl h
      · exact .inr (.inr h)
    · rcases List.mem_append.1 hq with hq | hq
      · exact .inl (by rw [hb]; simp [hq])
      · exact .inr (.inl hq)
  · exact (Below.refl lo w).grown hg (by have := h.le; omega) (fun k hk => (hrg k (own_mem k hk)).1)
end Go.Proofs.Ytninppjomdhnmaa.low


/-
  Contract of spec.OpsSince. Written by mkdoc7.py.
-/
namespace Go.Proofs.Ytninppjomdhnmaa.low
open Go.RowKit
set_option linter.unusedVariables false

def opsSinceT (x : Do) (r : Int) : List (List Pt) := if textAtB x r = true then (x.list.drop (r - x.from_).toNat).map En.o else []
theorem opsSince_f {x : Do} {r : Int} (h : textAtB x r = false) : textAtB x r = false ∧ opsSinceT x r = [] := ⟨h, by unfold opsSinceT; rw [h]; rfl⟩
theorem opsSince_small {x : Do} {r : Int} (hs : SmDo x) : SmQ (opsSinceT x r) := by
  unfold opsSinceT
  have hl := hs.list.len
  split
  · refine ⟨by simp; omega, fun ps hp => ?_⟩
    obtain ⟨e, he, rfl⟩ := List.mem_map.1 hp
    exact (hs.list.at_ (List.mem_of_mem_drop he)).o
  · exact ⟨by simp, fun ps hp => by simp at hp⟩
theorem pssInfo : (Try.prog.info? 87).map (fun i => (i.zero, i.size, i.bytes)) = some (some (.slice none 0 0), 1, 24) := by kernel_rfl
end Go.Proofs.Ytninppjomdhnmaa.low


/-
  The specification's side of stage 8 (documents), gathered; spec.Forget is wanted.
-/
namespace Go.Proofs.Ytninppjomdhnmaa.low
set_option linter.unusedVariables false
theorem seenOf_small {x : Do} {r : Int} (hs : SmDo x) : SmSe (seenOfT x r) := by
  have e : totSe (seenOfT x r) = 0 := rfl
  unfold SmSe
  rw [e]
  omega
end Go.Proofs.Ytninppjomdhnmaa.low


/-
  Contracts of spec.l08Entry, l08Entries, l08Copy and Forget, in the words of Ms. Written by mkdoc8.py.
-/
namespace Go.Proofs.Ytninppjomdhnmaa.low
open Go.RowKit
set_option linter.unusedVariables false

theorem elt_of {t e : TypeId} {z : Value} {sz bytes : Nat} (hu : Try.prog.underlying t = some (.slice e)) (hi : (Try.prog.info? e).map (fun i => (i.zero, i.size, i.bytes)) = some (some z, sz, bytes)) (h1 : z.cells.size = sz) (h2 : 0 < sz) (h3 : bytes ≤ 100000) : Elt t e z sz bytes := by
  obtain ⟨i, k1, k2⟩ := Option.map_eq_some_iff.1 hi
  simp only [Prod.mk.injEq] at k2
  exact ⟨i, hu, k1, k2.1, k2.2.1, k2.2.2, h1, h2, h3⟩
theorem eltInt : Elt 40 3 (.int .i64 0) 1 8 := elt_of (by kernel_rfl) (by kernel_rfl) rfl (by omega) (by omega)
theorem eltEn : Elt 41 89 (.agg #[.int .i64 0, .int .i64 0, .slice none 0 0]) 3 40 := elt_of (by kernel_rfl) (by kernel_rfl) rfl (by omega) (by omega)
theorem eltSe : Elt 42 92 (.agg #[.int .i64 0, .int .i64 0, .int .i64 0]) 3 24 := elt_of (by kernel_rfl) (by kernel_rfl) rfl (by omega) (by omega)
theorem flatI (zs : List Int) : FlatR (zs.map fun z => [.int z]) 1 := fun r hr => by
  obtain ⟨z, _, rfl⟩ := List.mem_map.1 hr
  exact ⟨rfl, fun d hd => by rw [List.mem_singleton] at hd; subst hd; exact ⟨_, rfl, rfl⟩⟩
theorem flatSe (l : List Se) : FlatR (l.map encSe) 3 := fun r hr => by
  obtain ⟨z, _, rfl⟩ := List.mem_map.1 hr
  refine ⟨rfl, fun d hd => ?_⟩
  unfold encSe at hd
  simp only [List.mem_cons, List.not_mem_nil, or_false] at hd
  rcases hd with rfl | rfl | rfl <;> exact ⟨_, rfl, rfl⟩

end Go.Proofs.Ytninppjomdhnmaa.low


/-
  Contracts of spec.RingOk, RingNew, RingLag, RingResync and l10Copy. Written by mkring.py.
-/
namespace Go.Proofs.Ytninppjomdhnmaa.low
open Go.RowKit
set_option linter.unusedVariables false

theorem ring_new {room rev : Int} (h : rev ≤ 1000000000) : ringB ⟨room, rev + 1, false, []⟩ = ringNewB room rev := by
  unfold ringB ringNewB inB
  simp only [List.all_nil, Bool.true_and, List.length_nil, Bool.not_false, Bool.true_or, Bool.and_true]
  rw [Bool.eq_iff_iff]
  simp only [Bool.and_eq_true, decide_eq_true_eq]
  omega
theorem ringNew_f {room rev : Int} (h : ringNewB room rev = false) : ringNewB room rev = false ∧ ringNewT room rev = noRi := ⟨h, by unfold ringNewT; rw [h]; rfl⟩
theorem smNew (room next : Int) : SmRi ⟨room, next, false, []⟩ := by simp [SmRi, totRi, totEns, sumN]
theorem rdNew (w : World) (B : Nat) (room next : Int) : RdC w B (datRi ⟨room, next, false, []⟩) (.agg #[.int .i64 room, .int .i64 next, .bool false, .slice none 0 0]) := rdRi ⟨room, next, false, []⟩ ⟨none, 0, rfl, Nat.le_refl _, fun hn => absurd hn (by simp)⟩
theorem Ms.noRi {w0 W : World} {L : List It} (h : Ms w0 L W) : Ms w0 (.dt (datRi noRi) (.agg #[.int .i64 0, .int .i64 0, .bool false, .slice none 0 0]) [] :: L) W := ((h.nil 89 3).pk0.pkO.pkF rfl |>.pkF rfl).pkF rfl
theorem Ms.newRi {w0 W : World} {L : List It} (h : Ms w0 L W) (room next : Int) : Ms w0 (.dt (datRi ⟨room, next, false, []⟩) (.agg #[.int .i64 room, .int .i64 next, .bool false, .slice none 0 0]) [] :: L) W := ((h.nil 89 3).pk0.pkO.pkF rfl |>.pkF rfl).pkF rfl
theorem ringNew_t {room rev : Int} (h : ringNewB room rev = true) : ringNewB room rev = true ∧ ringNewT room rev = ⟨room, rev + 1, false, []⟩ := ⟨h, by unfold ringNewT; rw [if_pos h]⟩
theorem ringNew_big {room rev : Int} (h : 1000000000 < rev) : ringNewB room rev = false := by unfold ringNewB; rw [inB_f (n := rev) (by omega), Bool.and_false]
theorem ringNew_cap {room rev : Int} (h : ringNewB room rev = false) : ringNewT room rev = noRi := (ringNew_f h).2
theorem ringRes_f {x : Ri} {rev : Int} (h : ringB x = false) : ringResyncB x rev = false ∧ ringResyncT x rev = noRi := by
  have h1 : ringResyncB x rev = false := by unfold ringResyncB; rw [h]; rfl
  exact ⟨h1, by unfold ringResyncT; rw [h1]; rfl⟩
theorem ringRes_t {x : Ri} {rev : Int} (h : ringB x = true) : ringResyncB x rev = ringNewB x.cap rev ∧ ringResyncT x rev = ringNewT x.cap rev := by
  have h1 : ringResyncB x rev = ringNewB x.cap rev := by unfold ringResyncB; rw [h]; rfl
  exact ⟨h1, by unfold ringResyncT ringNewT; rw [h1]⟩

end Go.Proofs.Ytninppjomdhnmaa.low


/-
  Contract of spec.RingSame. Written by mkring3.py.
-/
namespace Go.Proofs.Ytninppjomdhnmaa.low
open Go.RowKit
set_option linter.unusedVariables false

theorem entriesB_ln : ∀ {l m : List En}, ¬ l.length = m.length → entriesB l m = false
  | [], [], h => absurd rfl h
  | [], _ :: _, _ => rfl
  | _ :: _, [], _ => rfl
  | a :: l, b :: m, h => by
    rw [entriesB, entriesB_ln (l := l) (m := m) (by simpa using h), Bool.and_false]
set_option maxRecDepth 100000 in
set_option maxHeartbeats 3200000 in
theorem specRingSame_d (v v' : Value) (x y : Ri) (w : World) (h : RdC w w.heap.size (datRi x) v) (h' : RdC w w.heap.size (datRi y) v') (hs : SmRi x) (hs' : SmRi y) : Calls Try.prog 25 #[v, v'] w (Tells (ringSameB x y) w) := by
  have HR := Lib.hid h
  have HS := Lib.hid h'
  obtain ⟨A3, c3, rfl, r3⟩ := aggRi h
  obtain ⟨B3, d3, rfl, s3⟩ := aggRi h'
  have R3 := Lib.hid r3
  have S3 := Lib.hid s3
  have hl := hs.list.len
  have hl' := hs'.list.len
  clear h h' r3 s3
  generalize hY : y.out = oy
  have HY := Lib.hid hY
  clear hY
  have HB := Lib.hid (show ringSameB x y = (decide (x.cap = y.cap) && (decide (x.next = y.next) && (x.out == y.out && entriesB x.list y.list))) from rfl)
  by_cases h0 : x.cap = y.cap
  rotate_left
  · have g0 : (x.cap != y.cap) = true := by simp [h0]
    have H9 := Lib.hid (show decide (x.cap = y.cap) = false from decide_eq_false h0)
    clear h0
    have HM := Lib.hid (Ms.start w)
    replace HM := Lib.hid (HM.out.new #[.int .i64 x.cap, .int .i64 x.next, .bool x.out, .slice A3 x.list.length c3] 59)
    have hm := HM.out.new #[.int .i64 y.cap, .int .i64 y.next, .bool oy, .slice B3 y.list.length d3] 59
    simp only [World.size_alloc] at hm
    replace HM := Lib.hid hm
    clear hm
    go_enter Try.func25, Try.ntmps25
    go_wp2
    go_ret
    exact ⟨ret_b (show false = ringSameB x y by rw [HB.out, H9.out]; simp), HM.out.bl⟩
  have g0 : (x.cap != y.cap) = false := by simp [h0]
  have H0 := Lib.hid h0
  clear h0
  by_cases h1 : x.next = y.next
  rotate_left
  · have g1 : (x.next != y.next) = true := by simp [h1]
    have H9 := Lib.hid (show decide (x.next = y.next) = false from decide_eq_false h1)
    clear h1
    have HM := Lib.hid (Ms.start w)
    replace HM := Lib.hid (HM.out.new #[.int .i64 x.cap, .int .i64 x.next, .bool x.out, .slice A3 x.list.length c3] 59)
    have hm := HM.out.new #[.int .i64 y.cap, .int .i64 y.next, .bool oy, .slice B3 y.list.length d3] 59
    simp only [World.size_alloc] at hm
    replace HM := Lib.hid hm
    clear hm
    go_enter Try.func25, Try.ntmps25
    go_wp2
    go_ret
    exact ⟨ret_b (show false = ringSameB x y by rw [HB.out, H9.out]; simp), HM.out.bl⟩
  have g1 : (x.next != y.next) = false := by simp [h1]
  have H1 := Lib.hid h1
  clear h1
  by_cases h2 : x.out = oy
  rotate_left
  · obtain rfl : oy = !x.out := by revert h2; cases x.out <;> cases oy <;> simp
    have H9 := Lib.hid (show (x.out == y.out) = false by rw [HY.out]; cases x.out <;> rfl)
    clear h2
    have HM := Lib.hid (Ms.start w)
    replace HM := Lib.hid (HM.out.new #[.int .i64 x.cap, .int .i64 x.next, .bool x.out, .slice A3 x.list.length c3] 59)
    have hm := HM.out.new #[.int .i64 y.cap, .int .i64 y.next, .bool (!x.out), .slice B3 y.list.length d3] 59
    simp only [World.size_alloc] at hm
    replace HM := Lib.hid hm
    clear hm
    go_enter Try.func25, Try.ntmps25
    go_wp2
    go_ret
    exact ⟨ret_b (show false = ringSameB x y by rw [HB.out, H9.out]; simp), HM.out.bl⟩
  subst h2
  have H2 := Lib.hid (show (x.out == y.out) = true by rw [HY.out]; simp)
  have HM := Lib.hid (Ms.start w)
  replace HM := Lib.hid (HM.out.new #[.int .i64 x.cap, .int .i64 x.next, .bool x.out, .slice A3 x.list.length c3] 59)
  have hm := HM.out.new #[.int .i64 y.cap, .int .i64 y.next, .bool x.out, .slice B3 y.list.length d3] 59
  simp only [World.size_alloc] at hm
  replace HM := Lib.hid hm
  clear hm
  have HQ := Lib.hid (show ringSameB x y = entriesB x.list y.list by rw [HB.out, decide_eq_true H0.out, decide_eq_true H1.out, H2.out]; rfl)
  by_cases hlen : x.list.length = y.list.length
  rotate_left
  · have gl : ((x.list.length : Int) != (y.list.length : Int)) = true := by simp; omega
    have HQ2 := Lib.hid (show ringSameB x y = false by rw [HQ.out]; exact entriesB_ln hlen)
    clear hlen
    go_enter Try.func25, Try.ntmps25
    go_wp2
    go_ret
    exact ⟨ret_b HQ2.out.symm, HM.out.bl⟩
  have gl : ((x.list.length : Int) != (y.list.length : Int)) = false := by simp [hlen]
  have HL := Lib.hid hlen
  clear hlen
  go_enter Try.func25, Try.ntmps25
  go_wp2
  obtain ⟨W1, hW, hm⟩ := HM.out.name
  rw [← hW]
  replace HM := Lib.hid hm
  clear hm hW
  go_loopw [38] (fun i wr => ∃ j : Nat, j ≤ x.list.length ∧ i = .int .i64 (j : Int) ∧ ringSameB x y = entriesB (x.list.drop j) (y.list.drop j) ∧ Ms w [.bx (w.heap.size + 1) (.cells #[.int .i64 y.cap, .int .i64 y.next, .bool x.out, .slice B3 y.list.length d3] 59 (0, 0)), .bx w.heap.size (.cells #[.int .i64 x.cap, .int .i64 x.next, .bool x.out, .slice A3 x.list.length c3] 59 (0, 0))] wr) (fun i _ => x.list.length - (intOf i).toNat)
  case atStart => exact ⟨0, Nat.zero_le _, rfl, by simpa using HQ.out, HM.out⟩
  case round =>
    obtain ⟨j, hj, rfl, hi, hm⟩ := hrel
    clear HM g0 g1 gl
    have HM := Lib.hid hm
    have HI := Lib.hid hi
    clear hm hi
    by_cases hlt : j < x.list.length
    · have hlt2 : j < y.list.length := by have := HL.out; omega
      obtain ⟨b, off, e, A5, c5, rfl, hbb, hp, y0, y1, y2, q2⟩ := atEns R3.out hlt
      obtain ⟨b', off', u, B5, d5, rfl, hbb', hp', z0, z1, z2, p2⟩ := atEns S3.out hlt2
      have x0 := (HM.out.bl.cell (p := ⟨b, off + j * 3, none⟩) hbb).trans y0
      have x1 := (HM.out.bl.cell (p := ⟨b, off + j * 3 + 1, none⟩) hbb).trans y1
      have x2 := (HM.out.bl.cell (p := ⟨b, off + j * 3 + 2, none⟩) hbb).trans y2
      clear y0 y1 y2
      have hse := hs.list.at_ (List.mem_of_getElem? hp)
      have hse' := hs'.list.at_ (List.mem_of_getElem? hp')
      have HSt := Lib.hid (entriesB_step hp hp')
      clear hp hp'
      have Q2 := Lib.hid q2
      have P2 := Lib.hid p2
      have Z := Lib.hid (And.intro z0 (And.intro z1 z2))
      clear q2 p2 z0 z1 z2
      replace HM := Lib.hid (HM.out.new #[.int .i64 e.client, .int .i64 e.seq, .slice A5 e.o.length c5] 89)
      go_wp2
      clear x0 x1 x2
      obtain ⟨W2, hW, hm⟩ := HM.out.name
      rw [← hW]
      replace HM := Lib.hid hm
      clear hm hW
      replace HM := Lib.hid (HM.out.drew)
      refine wp_region_held_drew (S := fun W => Ms w [.bx wr.heap.size (.cells #[.int .i64 e.client, .int .i64 e.seq, .slice A5 e.o.length c5] 89 (0, 0)), .bx (w.heap.size + 1) (.cells #[.int .i64 y.cap, .int .i64 y.next, .bool x.out, .slice (some ⟨b', off', none⟩) y.list.length d3] 59 (0, 0))] W ∧ W.cell? ⟨b', off' + j * 3, none⟩ = some (.int .i64 u.client) ∧ W.cell? ⟨b', off' + j * 3 + 1, none⟩ = some (.int .i64 u.seq) ∧ W.cell? ⟨b', off' + j * 3 + 2, none⟩ = some (.slice B5 u.o.length d5)) (by kernel_rfl) ⟨HM.out.pick (ks := [0, 1]) (by decide) rfl, ⟨(HM.out.bl.cell (p := ⟨b', off' + j * 3, none⟩) hbb').trans Z.out.1, (HM.out.bl.cell (p := ⟨b', off' + j * 3 + 1, none⟩) hbb').trans Z.out.2.1, (HM.out.bl.cell (p := ⟨b', off' + j * 3 + 2, none⟩) hbb').trans Z.out.2.2⟩⟩ (fun hS => ?_)
      generalize W2.drew = W3 at HM hS  ⊢
      refine tk (v := ?_) 0 43 rfl (fun w' hS' => ?_) hS ?_
      rotate_left
      · (try dsimp only at hS'); obtain ⟨p0, p1, p2⟩ := hS'.1.c3 0 rfl; obtain ⟨q0, q1, q2, q3⟩ := hS'.1.c4 1 rfl; obtain ⟨u0, u1, u2⟩ := hS'.2; go_simp; all_goals (with_reducible rfl)
      try simp only [Act.put, pa, pb, pc]
      refine tk (v := ?_) 1 44 rfl (fun w' hS' => ?_) hS ?_
      rotate_left
      · go_simp; all_goals (with_reducible rfl)
      try simp only [Act.put, pa, pb, pc]
      refine tk (v := ?_) 2 45 rfl (fun w' hS' => ?_) hS ?_
      rotate_left
      · (try dsimp only at hS'); obtain ⟨p0, p1, p2⟩ := hS'.1.c3 0 rfl; obtain ⟨q0, q1, q2, q3⟩ := hS'.1.c4 1 rfl; obtain ⟨u0, u1, u2⟩ := hS'.2; go_simp; all_goals (with_reducible rfl)
      try simp only [Act.put, pa, pb, pc]
      refine tk (v := ?_) 3 46 rfl (fun w' hS' => ?_) hS ?_
      rotate_left
      · go_simp; all_goals (with_reducible rfl)
      try simp only [Act.put, pa, pb, pc]
      refine tk (v := ?_) 4 47 rfl (fun w' hS' => ?_) hS ?_
      rotate_left
      · go_simp; all_goals (with_reducible rfl)
      try simp only [Act.put, pa, pb, pc]
      refine tk (v := ?_) 5 48 rfl (fun w' hS' => ?_) hS ?_
      rotate_left
      · (try dsimp only at hS'); obtain ⟨p0, p1, p2⟩ := hS'.1.c3 0 rfl; obtain ⟨q0, q1, q2, q3⟩ := hS'.1.c4 1 rfl; obtain ⟨u0, u1, u2⟩ := hS'.2; go_simp; all_goals (with_reducible rfl)
      try simp only [Act.put, pa, pb, pc]
      refine r1 6 (some 49) rfl (fun K hK => ?_)
      go_simp
      refine (specEntrySame_d _ _ e u _ (rdEn e (HM.out.arg Q2.out)) (rdEn u (HM.out.arg P2.out)) hse hse').mono ?_
      rintro e' W4 ⟨rfl, b9'⟩
      replace HM := Lib.hid (HM.out.past b9')
      clear b9'
      clear hS
      refine hK.out _ _ ⟨HM.out.pick (ks := [0, 1]) (by decide) rfl, ⟨(HM.out.bl.cell (p := ⟨b', off' + j * 3, none⟩) hbb').trans Z.out.1, (HM.out.bl.cell (p := ⟨b', off' + j * 3 + 1, none⟩) hbb').trans Z.out.2.1, (HM.out.bl.cell (p := ⟨b', off' + j * 3 + 2, none⟩) hbb').trans Z.out.2.2⟩⟩ (fun hS => ?_)
      clear hK K
      try simp only [Act.put, pa, pb, pc]
      refine tk (v := ?_) 7 50 rfl (fun w' hS' => ?_) hS ?_
      rotate_left
      · go_simp; all_goals (with_reducible rfl)
      try simp only [Act.put, pa, pb, pc]
      refine wpAnyH_done (by kernel_rfl) ?_ _
      clear hS
      cases hee : entrySameB e u
      · go_wp2
        go_ret
        exact ⟨ret_b (by rw [HI.out, HSt.out, hee]; rfl), HM.out.bl⟩
      have HN := Lib.hid (show ringSameB x y = entriesB (x.list.drop (j + 1)) (y.list.drop (j + 1)) by rw [HI.out, HSt.out, hee]; rfl)
      clear hee
      go_wp2
      go_roundw
      case rel => exact ⟨j + 1, by omega, by go_num, HN.out, HM.out.pick (ks := [1, 2]) (by decide) rfl⟩
      case measure => simp [intOf]; omega
    · obtain rfl : j = x.list.length := by omega
      have HN := Lib.hid (show ringSameB x y = true by rw [HI.out, List.drop_eq_nil_of_le (Nat.le_refl _), List.drop_eq_nil_of_le (by have := HL.out; omega)]; rfl)
      go_wp2
      go_ret
      exact ⟨ret_b HN.out.symm, HM.out.bl⟩
end Go.Proofs.Ytninppjomdhnmaa.low


/-
  Contracts of spec.HubDoc, HubSub and HubSame. Written by mkhub1.py.
-/
namespace Go.Proofs.Ytninppjomdhnmaa.low
open Go.RowKit
set_option linter.unusedVariables false

set_option maxRecDepth 100000 in
set_option maxHeartbeats 3200000 in
theorem specHubDoc_d (v : Value) (x : Hu) (s : ByteArray) (w : World) (h : RdC w w.heap.size (datHu x) v) (hs : SmHu x) : Calls Try.prog 7 #[v, .string s] w (Nums1 (hubDocT x s) w) := by
  have HR := Lib.hid h
  obtain ⟨A1, ca, A2, cb, rfl, r1, r2⟩ := aggHu h
  have R1 := Lib.hid r1
  have R2 := Lib.hid r2
  have hl1 := hs.docs.len
  have hl2 := hs.subs.len
  clear h r1 r2
  have HM := Lib.hid (Ms.start w)
  replace HM := Lib.hid (HM.out.new #[.bool x.shut, .slice A1 x.docs.length ca, .slice A2 x.subs.length cb, .int .i64 x.last] 31)
  go_enter Try.func7, Try.ntmps7
  go_wp2_with fail
  obtain ⟨W1, hW, hm⟩ := HM.out.name
  rw [← hW]
  replace HM := Lib.hid hm
  clear hm hW
  go_loopw [10] (fun i wr => ∃ j : Nat, j ≤ x.docs.length ∧ i = .int .i64 (j : Int) ∧ (∀ i, i < j → ∀ y, x.docs[i]? = some y → eqSt y.name s = false) ∧ Ms w [.bx w.heap.size (.cells #[.bool x.shut, .slice A1 x.docs.length ca, .slice A2 x.subs.length cb, .int .i64 x.last] 31 (0, 0))] wr) (fun i _ => x.docs.length - (intOf i).toNat)
  case atStart => exact ⟨0, Nat.zero_le _, rfl, fun i hi => absurd hi (Nat.not_lt_zero _), HM.out⟩
  case round =>
    obtain ⟨j, hj, rfl, hi, hm⟩ := hrel
    clear HM
    have HM := Lib.hid hm
    have HI := Lib.hid hi
    clear hm hi
    by_cases hlt : j < x.docs.length
    · obtain ⟨b, off, y, C2, c2, C3, c3, C4, c4, rfl, hbb, hp, y0, y1, y2, y3, y4, q2, q3, q4⟩ := atDos R1.out hlt
      have x0 := (HM.out.bl.cell (p := ⟨b, off + j * 5, none⟩) hbb).trans y0
      have x1 := (HM.out.bl.cell (p := ⟨b, off + j * 5 + 1, none⟩) hbb).trans y1
      have x2 := (HM.out.bl.cell (p := ⟨b, off + j * 5 + 2, none⟩) hbb).trans y2
      have x3 := (HM.out.bl.cell (p := ⟨b, off + j * 5 + 3, none⟩) hbb).trans y3
      have x4 := (HM.out.bl.cell (p := ⟨b, off + j * 5 + 4, none⟩) hbb).trans y4
      clear y0 y1 y2 y3 y4
      have HP := Lib.hid hp
      clear hp
      replace HM := Lib.hid (HM.out.new #[.string y.name, .int .i64 y.from_, .slice C2 y.text.length c2, .slice C3 y.list.length c3, .slice C4 y.seen.length c4] 44)
      rcases (show (y.name.toList == s.toList) = true ∨ (y.name.toList == s.toList) = false by cases (y.name.toList == s.toList) <;> simp) with h1 | h1
      · have HF := Lib.hid (show docIx x.docs s = some j from ix_found HP.out h1 HI.out)
        go_wp2
        go_ret
        exact ⟨ret_i (by show _ = ixInt (docIx x.docs s); rw [HF.out]; rfl), (HM.out).bl⟩
      have HI2 := Lib.hid (ix_step (p := fun y : Do => eqSt y.name s) HP.out h1 HI.out)
      go_wp2
      go_roundw
      case rel => exact ⟨j + 1, by omega, by go_num, HI2.out, HM.out.pick (ks := [1]) (by decide) rfl⟩
      case measure => simp [intOf]; omega
    · have HF := Lib.hid (show docIx x.docs s = none from ix_none (fun i hi y hy => HI.out i (by omega) y hy))
      go_wp2
      go_ret
      exact ⟨ret_i (by show _ = ixInt (docIx x.docs s); rw [HF.out]; rfl), HM.out.bl⟩
set_option maxRecDepth 100000 in
set_option maxHeartbeats 3200000 in
theorem specHubSub_d (v : Value) (x : Hu) (z : Int) (w : World) (h : RdC w w.heap.size (datHu x) v) (hs : SmHu x) : Calls Try.prog 11 #[v, .int .i64 z] w (Nums1 (hubSubT x z) w) := by
  have HR := Lib.hid h
  obtain ⟨A1, ca, A2, cb, rfl, r1, r2⟩ := aggHu h
  have R1 := Lib.hid r1
  have R2 := Lib.hid r2
  have hl1 := hs.docs.len
  have hl2 := hs.subs.len
  clear h r1 r2
  have HM := Lib.hid (Ms.start w)
  replace HM := Lib.hid (HM.out.new #[.bool x.shut, .slice A1 x.docs.length ca, .slice A2 x.subs.length cb, .int .i64 x.last] 31)
  go_enter Try.func11, Try.ntmps11
  go_wp2_with fail
  obtain ⟨W1, hW, hm⟩ := HM.out.name
  rw [← hW]
  replace HM := Lib.hid hm
  clear hm hW
  go_loopw [10] (fun i wr => ∃ j : Nat, j ≤ x.subs.length ∧ i = .int .i64 (j : Int) ∧ (∀ i, i < j → ∀ y, x.subs[i]? = some y → decide (y.id = z) = false) ∧ Ms w [.bx w.heap.size (.cells #[.bool x.shut, .slice A1 x.docs.length ca, .slice A2 x.subs.length cb, .int .i64 x.last] 31 (0, 0))] wr) (fun i _ => x.subs.length - (intOf i).toNat)
  case atStart => exact ⟨0, Nat.zero_le _, rfl, fun i hi => absurd hi (Nat.not_lt_zero _), HM.out⟩
  case round =>
    obtain ⟨j, hj, rfl, hi, hm⟩ := hrel
    clear HM
    have HM := Lib.hid hm
    have HI := Lib.hid hi
    clear hm hi
    by_cases hlt : j < x.subs.length
    · obtain ⟨b, off, y, C5, c5, rfl, hbb, hp, y0, y1, y2, y3, y4, y5, q5⟩ := atSus R2.out hlt
      have x0 := (HM.out.bl.cell (p := ⟨b, off + j * 6, none⟩) hbb).trans y0
      have x1 := (HM.out.bl.cell (p := ⟨b, off + j * 6 + 1, none⟩) hbb).trans y1
      have x2 := (HM.out.bl.cell (p := ⟨b, off + j * 6 + 2, none⟩) hbb).trans y2
      have x3 := (HM.out.bl.cell (p := ⟨b, off + j * 6 + 3, none⟩) hbb).trans y3
      have x4 := (HM.out.bl.cell (p := ⟨b, off + j * 6 + 4, none⟩) hbb).trans y4
      have x5 := (HM.out.bl.cell (p := ⟨b, off + j * 6 + 5, none⟩) hbb).trans y5
      clear y0 y1 y2 y3 y4 y5
      have HP := Lib.hid hp
      clear hp
      replace HM := Lib.hid (HM.out.new #[.int .i64 y.id, .string y.doc, .int .i64 y.cap, .int .i64 y.next, .bool y.out, .slice C5 y.list.length c5] 61)
      rcases (show (y.id == z) = true ∨ (y.id == z) = false by cases (y.id == z) <;> simp) with h1 | h1
      · have HF := Lib.hid (show subIx x.subs z = some j from ix_found HP.out (by simpa using h1) HI.out)
        go_wp2
        go_ret
        exact ⟨ret_i (by show _ = ixInt (subIx x.subs z); rw [HF.out]; rfl), (HM.out).bl⟩
      have HI2 := Lib.hid (ix_step (p := fun y : Su => decide (y.id = z)) HP.out (by simpa using h1) HI.out)
      go_wp2
      go_roundw
      case rel => exact ⟨j + 1, by omega, by go_num, HI2.out, HM.out.pick (ks := [1]) (by decide) rfl⟩
      case measure => simp [intOf]; omega
    · have HF := Lib.hid (show subIx x.subs z = none from ix_none (fun i hi y hy => HI.out i (by omega) y hy))
      go_wp2
      go_ret
      exact ⟨ret_i (by show _ = ixInt (subIx x.subs z); rw [HF.out]; rfl), HM.out.bl⟩
set_option maxRecDepth 100000 in
set_option maxHeartbeats 3200000 in
theorem specHubSame_d (v v' : Value) (x y : Hu) (w : World) (h : RdC w w.heap.size (datHu x) v) (h' : RdC w w.heap.size (datHu y) v') (hs : SmHu x) (hs2 : SmHu y) : Calls Try.prog 13 #[v, v'] w (Tells (hubSameB x y) w) := by
  obtain ⟨A1, ca, A2, cb, rfl, r1, r2⟩ := aggHu h
  obtain ⟨B1, da, B2, db, rfl, s1, s2⟩ := aggHu h'
  have hl1 := hs.docs.len
  have hl2 := hs.subs.len
  have hl3 := hs2.docs.len
  have hl4 := hs2.subs.len
  clear h h'
  generalize hsx : x.shut = sx
  have HSX := Lib.hid hsx
  clear hsx
  generalize hsy : y.shut = sy
  have HSY := Lib.hid hsy
  clear hsy
  generalize hlx : x.last = lx
  have HLX := Lib.hid hlx
  clear hlx
  generalize hly : y.last = ly
  have HLY := Lib.hid hly
  clear hly
  generalize hnx : x.docs.length = nx at r1 hl1 ⊢
  have HNX := Lib.hid hnx
  clear hnx
  generalize hny : y.docs.length = ny at s1 hl3 ⊢
  have HNY := Lib.hid hny
  clear hny
  generalize hmx : x.subs.length = mx at r2 hl2 ⊢
  have HMX := Lib.hid hmx
  clear hmx
  generalize hmy : y.subs.length = my at s2 hl4 ⊢
  have HMY := Lib.hid hmy
  clear hmy
  have R1 := Lib.hid r1
  have R2 := Lib.hid r2
  have S1 := Lib.hid s1
  have S2 := Lib.hid s2
  clear r1 r2 s1 s2
  have HM := Lib.hid (Ms.start w)
  replace HM := Lib.hid (HM.out.new #[.bool sx, .slice A1 nx ca, .slice A2 mx cb, .int .i64 lx] 31)
  have hm := HM.out.new #[.bool sy, .slice B1 ny da, .slice B2 my db, .int .i64 ly] 31
  simp only [World.size_alloc] at hm
  replace HM := Lib.hid hm
  clear hm
  go_enter Try.func13, Try.ntmps13
  have HD := Lib.hid (show hubSameB x y = ((sx == sy) && (decide (lx = ly) && (decide (nx = ny) && (decide (mx = my) && (allDo x.docs y.docs && allSu x.subs y.subs))))) by rw [← HSX.out, ← HSY.out, ← HLX.out, ← HLY.out, ← HNX.out, ← HNY.out, ← HMX.out, ← HMY.out]; rfl)
  by_cases e1 : sx = sy
  rotate_left
  · have HE := Lib.hid (show hubSameB x y = false by rw [HD.out, show (sx == sy) = false from by simpa using e1]; rfl)
    cases sx <;> cases sy
    all_goals first | exact absurd rfl e1 | skip
    all_goals
      clear e1
      go_wp2
      go_ret
      exact ⟨ret_b HE.out.symm, HM.out.bl⟩
  subst e1
  have g1 : (sx != sx) = false := by cases sx <;> rfl
  by_cases e2 : lx = ly
  rotate_left
  · have g2 : (lx != ly) = true := by rw [bne_iff_ne]; omega
    have HE := Lib.hid (show hubSameB x y = false by rw [HD.out, show (sx == sx) = true from by simp, Bool.true_and, decide_eq_false e2]; rfl)
    clear e2
    go_wp2
    go_ret
    exact ⟨ret_b HE.out.symm, HM.out.bl⟩
  subst e2
  have g2 : ((lx) != lx) = false := by simp
  by_cases e3 : nx = ny
  rotate_left
  · have g3 : ((nx : Int) != (ny : Int)) = true := by rw [bne_iff_ne]; omega
    have HE := Lib.hid (show hubSameB x y = false by rw [HD.out, show (sx == sx) = true from by simp, show decide (lx = lx) = true from decide_eq_true rfl, Bool.true_and, Bool.true_and, decide_eq_false e3]; rfl)
    clear e3
    go_wp2
    go_ret
    exact ⟨ret_b HE.out.symm, HM.out.bl⟩
  subst e3
  have g3 : ((nx : Int) != nx) = false := by simp
  by_cases e4 : mx = my
  rotate_left
  · have g4 : ((mx : Int) != (my : Int)) = true := by rw [bne_iff_ne]; omega
    have HE := Lib.hid (show hubSameB x y = false by rw [HD.out, show (sx == sx) = true from by simp, show decide (lx = lx) = true from decide_eq_true rfl, show decide (nx = nx) = true from decide_eq_true rfl, Bool.true_and, Bool.true_and, Bool.true_and, decide_eq_false e4]; rfl)
    clear e4
    go_wp2
    go_ret
    exact ⟨ret_b HE.out.symm, HM.out.bl⟩
  subst e4
  have g4 : ((mx : Int) != mx) = false := by simp
  have HD2 := Lib.hid (show hubSameB x y = (allDo x.docs y.docs && allSu x.subs y.subs) by rw [HD.out]; simp)
  clear HD
  go_wp2_with fail
  clear g1 g2 g3 g4
  obtain ⟨W1, hW, hm⟩ := HM.out.name
  rw [← hW]
  replace HM := Lib.hid hm
  clear hm hW
  go_loopw [43] (fun i wr => ∃ j : Nat, j ≤ nx ∧ i = .int .i64 (j : Int) ∧ allDo x.docs y.docs = allDo (x.docs.drop j) (y.docs.drop j) ∧ Ms w [.bx (w.heap.size + 1) (.cells #[.bool sx, .slice B1 nx da, .slice B2 mx db, .int .i64 lx] 31 (0, 0)), .bx w.heap.size (.cells #[.bool sx, .slice A1 nx ca, .slice A2 mx cb, .int .i64 lx] 31 (0, 0))] wr) (fun i _ => nx - (intOf i).toNat)
  case atStart => exact ⟨0, Nat.zero_le _, rfl, by simp, HM.out⟩
  case round =>
    obtain ⟨j, hj, rfl, hi, hm⟩ := hrel
    clear HM
    have HM := Lib.hid hm
    have HI := Lib.hid hi
    clear hm hi
    by_cases hlt : j < nx
    · have hlt1 : j < x.docs.length := by have := HNX.out; omega
      have hlt2 : j < y.docs.length := by have := HNY.out; omega
      obtain ⟨b, off, e, C2, c2, C3, c3, C4, c4, rfl, hbb, hp, y0, y1, y2, y3, y4, q2, q3, q4⟩ := atDos R1.out hlt1
      obtain ⟨b', off', u, D2, d2, D3, d3, D4, d4, rfl, hbb', hp', z0, z1, z2, z3, z4, p2, p3, p4⟩ := atDos S1.out hlt2
      clear hlt1 hlt2
      have x0 := (HM.out.bl.cell (p := ⟨b, off + j * 5, none⟩) hbb).trans y0
      have x1 := (HM.out.bl.cell (p := ⟨b, off + j * 5 + 1, none⟩) hbb).trans y1
      have x2 := (HM.out.bl.cell (p := ⟨b, off + j * 5 + 2, none⟩) hbb).trans y2
      have x3 := (HM.out.bl.cell (p := ⟨b, off + j * 5 + 3, none⟩) hbb).trans y3
      have x4 := (HM.out.bl.cell (p := ⟨b, off + j * 5 + 4, none⟩) hbb).trans y4
      clear y0 y1 y2 y3 y4
      have hse := hs.docs.at_ (List.mem_of_getElem? hp)
      have hsu := hs2.docs.at_ (List.mem_of_getElem? hp')
      have HS := Lib.hid (allDo_step hp hp')
      clear hp hp'
      have Q2h := Lib.hid q2
      clear q2
      have Q3h := Lib.hid q3
      clear q3
      have Q4h := Lib.hid q4
      clear q4
      have P2h := Lib.hid p2
      clear p2
      have P3h := Lib.hid p3
      clear p3
      have P4h := Lib.hid p4
      clear p4
      replace HM := Lib.hid (HM.out.new #[.string e.name, .int .i64 e.from_, .slice C2 e.text.length c2, .slice C3 e.list.length c3, .slice C4 e.seen.length c4] 44)
      go_wp2
      clear x0 x1 x2 x3 x4
      obtain ⟨W2, hW, hm⟩ := HM.out.name
      rw [← hW]
      replace HM := Lib.hid hm
      clear hm hW
      replace HM := Lib.hid (HM.out.drew)
      refine wp_region_held_drew (S := fun W => Ms w [.bx wr.heap.size (.cells #[.string e.name, .int .i64 e.from_, .slice C2 e.text.length c2, .slice C3 e.list.length c3, .slice C4 e.seen.length c4] 44 (0, 0)), .bx (w.heap.size + 1) (.cells #[.bool sx, .slice (some ⟨b', off', none⟩) nx da, .slice B2 mx db, .int .i64 lx] 31 (0, 0))] W) (by kernel_rfl) (HM.out.pick (ks := [0, 1]) (by decide) rfl) (fun hS => ?_)
      generalize W2.drew = W3 at HM hS  ⊢
      refine tk (v := ?_) 0 48 rfl (fun w' hS' => ?_) hS ?_
      rotate_left
      · (try dsimp only at hS'); obtain ⟨q0, q1, q2, q3, q4⟩ := hS'.c5 0 rfl; obtain ⟨p0, p1, p2, p3⟩ := hS'.c4 1 rfl; have t0 := (hS'.bl.cell (p := ⟨b', off' + j * 5, none⟩) hbb').trans z0; have t1 := (hS'.bl.cell (p := ⟨b', off' + j * 5 + 1, none⟩) hbb').trans z1; have t2 := (hS'.bl.cell (p := ⟨b', off' + j * 5 + 2, none⟩) hbb').trans z2; have t3 := (hS'.bl.cell (p := ⟨b', off' + j * 5 + 3, none⟩) hbb').trans z3; have t4 := (hS'.bl.cell (p := ⟨b', off' + j * 5 + 4, none⟩) hbb').trans z4; go_simp; all_goals (with_reducible rfl)
      try simp only [Act.put, pa, pb, pc]
      refine tk (v := ?_) 1 49 rfl (fun w' hS' => ?_) hS ?_
      rotate_left
      · go_simp; all_goals (with_reducible rfl)
      try simp only [Act.put, pa, pb, pc]
      refine tk (v := ?_) 2 50 rfl (fun w' hS' => ?_) hS ?_
      rotate_left
      · (try dsimp only at hS'); obtain ⟨q0, q1, q2, q3, q4⟩ := hS'.c5 0 rfl; obtain ⟨p0, p1, p2, p3⟩ := hS'.c4 1 rfl; have t0 := (hS'.bl.cell (p := ⟨b', off' + j * 5, none⟩) hbb').trans z0; have t1 := (hS'.bl.cell (p := ⟨b', off' + j * 5 + 1, none⟩) hbb').trans z1; have t2 := (hS'.bl.cell (p := ⟨b', off' + j * 5 + 2, none⟩) hbb').trans z2; have t3 := (hS'.bl.cell (p := ⟨b', off' + j * 5 + 3, none⟩) hbb').trans z3; have t4 := (hS'.bl.cell (p := ⟨b', off' + j * 5 + 4, none⟩) hbb').trans z4; go_simp; all_goals (with_reducible rfl)
      try simp only [Act.put, pa, pb, pc]
      refine tk (v := ?_) 3 51 rfl (fun w' hS' => ?_) hS ?_
      rotate_left
      · go_simp; all_goals (with_reducible rfl)
      try simp only [Act.put, pa, pb, pc]
      refine tk (v := ?_) 4 52 rfl (fun w' hS' => ?_) hS ?_
      rotate_left
      · go_simp; all_goals (with_reducible rfl)
      try simp only [Act.put, pa, pb, pc]
      refine tk (v := ?_) 5 53 rfl (fun w' hS' => ?_) hS ?_
      rotate_left
      · (try dsimp only at hS'); obtain ⟨q0, q1, q2, q3, q4⟩ := hS'.c5 0 rfl; obtain ⟨p0, p1, p2, p3⟩ := hS'.c4 1 rfl; have t0 := (hS'.bl.cell (p := ⟨b', off' + j * 5, none⟩) hbb').trans z0; have t1 := (hS'.bl.cell (p := ⟨b', off' + j * 5 + 1, none⟩) hbb').trans z1; have t2 := (hS'.bl.cell (p := ⟨b', off' + j * 5 + 2, none⟩) hbb').trans z2; have t3 := (hS'.bl.cell (p := ⟨b', off' + j * 5 + 3, none⟩) hbb').trans z3; have t4 := (hS'.bl.cell (p := ⟨b', off' + j * 5 + 4, none⟩) hbb').trans z4; go_simp; all_goals (with_reducible rfl)
      try simp only [Act.put, pa, pb, pc]
      refine r1 6 (some 54) rfl (fun K hK => ?_)
      go_simp
      refine (specDocSame_d _ _ e u _ (rdDo e (HM.out.arg Q2h.out) (HM.out.arg Q3h.out) (HM.out.arg Q4h.out)) (rdDo u (HM.out.arg P2h.out) (HM.out.arg P3h.out) (HM.out.arg P4h.out)) hse hsu).mono ?_
      rintro e' W4 ⟨rfl, b'⟩
      replace HM := Lib.hid (HM.out.past b')
      clear b'
      clear hS
      refine hK.out _ _ (HM.out.pick (ks := [0, 1]) (by decide) rfl) (fun hS => ?_)
      clear hK K
      try simp only [Act.put, pa, pb, pc]
      refine tk (v := ?_) 7 55 rfl (fun w' hS' => ?_) hS ?_
      rotate_left
      · go_simp; all_goals (with_reducible rfl)
      try simp only [Act.put, pa, pb, pc]
      refine wpAnyH_done (by kernel_rfl) ?_ _
      clear hS
      cases h1 : docSameB e u
      · have HE := Lib.hid (show hubSameB x y = false by rw [HD2.out, HI.out, HS.out, h1, Bool.false_and, Bool.false_and])
        go_wp2
        go_ret
        exact ⟨ret_b HE.out.symm, HM.out.bl⟩
      have HE := Lib.hid (show allDo x.docs y.docs = allDo (x.docs.drop (j + 1)) (y.docs.drop (j + 1)) by rw [HI.out, HS.out, h1, Bool.true_and])
      go_wp2
      go_roundw
      case rel => exact ⟨j + 1, by omega, by go_num, HE.out, HM.out.pick (ks := [1, 2]) (by decide) rfl⟩
      case measure => simp [intOf]; omega
    · have h9 : x.docs.drop j = [] := List.drop_eq_nil_of_le (by have := HNX.out; omega)
      have h8 : y.docs.drop j = [] := List.drop_eq_nil_of_le (by have := HNY.out; omega)
      have HD3 := Lib.hid (show hubSameB x y = allSu x.subs y.subs by rw [HD2.out, HI.out, h9, h8]; rfl)
      clear h9 h8 HI HD2
      obtain ⟨kx0, kx1, kx2, kx3⟩ := HM.out.c4 1 rfl
      obtain ⟨ky0, ky1, ky2, ky3⟩ := HM.out.c4 0 rfl
      go_wp2_with fail
      clear kx0 kx1 kx2 kx3 ky0 ky1 ky2 ky3
      have HD2 := HD3
      clear HD3 hlt hj
      go_loopw [60] (fun i wr => ∃ j : Nat, j ≤ mx ∧ i = .int .i64 (j : Int) ∧ allSu x.subs y.subs = allSu (x.subs.drop j) (y.subs.drop j) ∧ Ms w [.bx (w.heap.size + 1) (.cells #[.bool sx, .slice B1 nx da, .slice B2 mx db, .int .i64 lx] 31 (0, 0)), .bx w.heap.size (.cells #[.bool sx, .slice A1 nx ca, .slice A2 mx cb, .int .i64 lx] 31 (0, 0))] wr) (fun i _ => mx - (intOf i).toNat)
      case atStart => exact ⟨0, Nat.zero_le _, rfl, by simp, HM.out⟩
      case round =>
        obtain ⟨j, hj, rfl, hi, hm⟩ := hrel
        clear HM
        have HM := Lib.hid hm
        have HI := Lib.hid hi
        clear hm hi
        by_cases hlt : j < mx
        · have hlt1 : j < x.subs.length := by have := HMX.out; omega
          have hlt2 : j < y.subs.length := by have := HMY.out; omega
          obtain ⟨b, off, e, C5, c5, rfl, hbb, hp, y0, y1, y2, y3, y4, y5, q5⟩ := atSus R2.out hlt1
          obtain ⟨b', off', u, D5, d5, rfl, hbb', hp', z0, z1, z2, z3, z4, z5, p5⟩ := atSus S2.out hlt2
          clear hlt1 hlt2
          have x0 := (HM.out.bl.cell (p := ⟨b, off + j * 6, none⟩) hbb).trans y0
          have x1 := (HM.out.bl.cell (p := ⟨b, off + j * 6 + 1, none⟩) hbb).trans y1
          have x2 := (HM.out.bl.cell (p := ⟨b, off + j * 6 + 2, none⟩) hbb).trans y2
          have x3 := (HM.out.bl.cell (p := ⟨b, off + j * 6 + 3, none⟩) hbb).trans y3
          have x4 := (HM.out.bl.cell (p := ⟨b, off + j * 6 + 4, none⟩) hbb).trans y4
          have x5 := (HM.out.bl.cell (p := ⟨b, off + j * 6 + 5, none⟩) hbb).trans y5
          clear y0 y1 y2 y3 y4 y5
          have hse := hs.subs.at_ (List.mem_of_getElem? hp)
          have hsu := hs2.subs.at_ (List.mem_of_getElem? hp')
          have HS := Lib.hid (allSu_step hp hp')
          clear hp hp'
          have Q5h := Lib.hid q5
          clear q5
          have P5h := Lib.hid p5
          clear p5
          replace HM := Lib.hid (HM.out.new #[.int .i64 e.id, .string e.doc, .int .i64 e.cap, .int .i64 e.next, .bool e.out, .slice C5 e.list.length c5] 61)
          obtain ⟨ky0, ky1, ky2, ky3⟩ := HM.out.c4 1 rfl
          have t0 := (HM.out.bl.cell (p := ⟨b', off' + j * 6, none⟩) hbb').trans z0
          have t1 := (HM.out.bl.cell (p := ⟨b', off' + j * 6 + 1, none⟩) hbb').trans z1
          have t2 := (HM.out.bl.cell (p := ⟨b', off' + j * 6 + 2, none⟩) hbb').trans z2
          have t3 := (HM.out.bl.cell (p := ⟨b', off' + j * 6 + 3, none⟩) hbb').trans z3
          have t4 := (HM.out.bl.cell (p := ⟨b', off' + j * 6 + 4, none⟩) hbb').trans z4
          have t5 := (HM.out.bl.cell (p := ⟨b', off' + j * 6 + 5, none⟩) hbb').trans z5
          have hm := HM.out.new #[.int .i64 u.id, .string u.doc, .int .i64 u.cap, .int .i64 u.next, .bool u.out, .slice D5 u.list.length d5] 61
          simp only [World.size_alloc] at hm
          replace HM := Lib.hid hm
          clear hm
          have HU := Lib.hid (show suSameB e u = (decide (e.id = u.id) && (eqSt e.doc u.doc && ringSameB (ringSu e) (ringSu u))) from rfl)
          by_cases f1 : e.id = u.id
          rotate_left
          · have h1 : suSameB e u = false := by rw [HU.out, decide_eq_false f1]; rfl
            have HE := Lib.hid (show hubSameB x y = false by rw [HD2.out, HI.out, HS.out, h1, Bool.false_and])
            clear h1
            have g1 : (e.id != u.id) = true := by rw [bne_iff_ne]; exact f1
            clear f1
            go_wp2
            go_ret
            exact ⟨ret_b HE.out.symm, HM.out.bl⟩
          have g1 : (e.id != u.id) = false := by rw [bne_eq_false_iff_eq]; exact f1
          have F1 := Lib.hid (decide_eq_true f1)
          clear f1
          cases f2 : eqSt e.doc u.doc
          · have h1 : suSameB e u = false := by rw [HU.out, F1.out, f2]; rfl
            have HE := Lib.hid (show hubSameB x y = false by rw [HD2.out, HI.out, HS.out, h1, Bool.false_and])
            clear h1
            have g2 : (e.doc.toList == u.doc.toList) = false := f2
            have g3 : (e.doc.toList != u.doc.toList) = true := by rw [bne, g2]; rfl
            clear f2
            go_wp2
            go_ret
            exact ⟨ret_b HE.out.symm, HM.out.bl⟩
          have g2 : (e.doc.toList == u.doc.toList) = true := f2
          have g3 : (e.doc.toList != u.doc.toList) = false := by rw [bne, g2]; rfl
          have F2 := Lib.hid f2
          clear f2
          go_wp2_with fail
          clear g1 g2 g3 t0 x0 t1 x1 t2 x2 t3 x3 t4 x4 t5 x5 ky0 ky1 ky2 ky3
          obtain ⟨W5, hW, hm⟩ := HM.out.name
          rw [← hW]
          replace HM := Lib.hid hm
          clear hm hW
          refine (specRingSame_d _ _ (ringSu e) (ringSu u) _ (rdRi (ringSu e) (HM.out.arg Q5h.out)) (rdRi (ringSu u) (HM.out.arg P5h.out)) (show SmRi (ringSu e) from hse.list) (show SmRi (ringSu u) from hsu.list)).mono ?_
          rintro e' W6 ⟨rfl, b'⟩
          replace HM := Lib.hid (HM.out.past b')
          clear b'
          cases f3 : ringSameB (ringSu e) (ringSu u)
          · have h1 : suSameB e u = false := by rw [HU.out, F1.out, F2.out, f3]; rfl
            have HE := Lib.hid (show hubSameB x y = false by rw [HD2.out, HI.out, HS.out, h1, Bool.false_and])
            clear h1
            go_wp2
            go_ret
            exact ⟨ret_b HE.out.symm, HM.out.bl⟩
          have h1 : suSameB e u = true := by rw [HU.out, F1.out, F2.out, f3]; rfl
          have HE := Lib.hid (show allSu x.subs y.subs = allSu (x.subs.drop (j + 1)) (y.subs.drop (j + 1)) by rw [HI.out, HS.out, h1, Bool.true_and])
          clear h1
          go_wp2
          go_roundw
          case rel => exact ⟨j + 1, by omega, by go_num, HE.out, HM.out.pick (ks := [2, 3]) (by decide) rfl⟩
          case measure => simp [intOf]; omega
        · have h9 : x.subs.drop j = [] := List.drop_eq_nil_of_le (by have := HMX.out; omega)
          have h8 : y.subs.drop j = [] := List.drop_eq_nil_of_le (by have := HMY.out; omega)
          have HE := Lib.hid (show hubSameB x y = true by rw [HD2.out, HI.out, h9, h8]; rfl)
          clear h9 h8
          go_wp2
          go_ret
          exact ⟨ret_b HE.out.symm, HM.out.bl⟩
end Go.Proofs.Ytninppjomdhnmaa.low


/-
  Contracts of the program's builder: endRun, drop, put, done, keep.
-/
namespace Go.Proofs.Ytninppjomdhnmaa.low
open Go.RowKit
set_option linter.unusedVariables false

end Go.Proofs.Ytninppjomdhnmaa.low


/-
  Contracts of the program's functions on operations that only read: impl.PartOk, partsOk, size, sizeOf, OpFrom, OpTo, OpOk, Puts, Drops.
-/
namespace Go.Proofs.Ytninppjomdhnmaa.low
open Go.RowKit
set_option linter.unusedVariables false

/-- the size of a part of the kind -/
def sizeK (kind : Int) (p : Pt) : Int := if p.kind = kind then p.n + (p.signs.length : Int) else 0
theorem sumOf_congr {f g : Pt → Int} : ∀ {ps : List Pt}, (∀ p ∈ ps, f p = g p) → sumOf f ps = sumOf g ps
  | [], _ => rfl
  | p :: ps, h => by
    have h1 := h p (List.mem_cons_self ..)
    have h2 := sumOf_congr (f := f) (g := g) (ps := ps) fun q hq => h q (List.mem_cons_of_mem _ hq)
    have e : ∀ f : Pt → Int, sumOf f (p :: ps) = f p + sumOf f ps := fun f => by simp [sumOf]
    rw [e, e, h1, h2]
theorem okPs_mem {ps : List Pt} (h : okPs ps = true) {p : Pt} (hp : p ∈ ps) : okPt p = true := by unfold okPs at h; exact List.all_eq_true.1 h p hp
theorem sizeK_keep {ps : List Pt} (h : okPs ps = true) : sumOf (sizeK 1) ps = sumOf keepOf ps := sumOf_congr fun p hp => by
  have := of_okPt (okPs_mem h hp)
  unfold sizeK keepOf
  split <;> omega
theorem sizeK_put {ps : List Pt} (h : okPs ps = true) : sumOf (sizeK 2) ps = sumOf putOf ps := sumOf_congr fun p hp => by
  have := of_okPt (okPs_mem h hp)
  unfold sizeK putOf
  split <;> omega
theorem sizeK_drop {ps : List Pt} (h : okPs ps = true) : sumOf (sizeK 3) ps = sumOf dropOf ps := sumOf_congr fun p hp => by
  have := of_okPt (okPs_mem h hp)
  unfold sizeK dropOf
  split <;> omega
theorem sizeK_bd {kind : Int} {ps : List Pt} (h : okPs ps = true) (hl : ps.length ≤ 600) : 0 ≤ sumOf (sizeK kind) ps ∧ sumOf (sizeK kind) ps ≤ 120000 := by
  have := sumOf_bd (f := sizeK kind) ps fun p hq => by
    have := of_okPt (okPs_mem h hq)
    unfold sizeK
    split <;> omega
  omega

theorem okOp_parts {ps : List Pt} (h : okOp ps = true) : partsB ps = true := by
  unfold okOp at h
  cases hp : partsB ps
  · rw [hp] at h; simp at h
  · rfl

end Go.Proofs.Ytninppjomdhnmaa.low


/-
  Contracts of impl.partSame, of the library's slices.EqualFunc at parts with impl.partSame, and of impl.OpSame.
-/
namespace Go.Proofs.Ytninppjomdhnmaa.low
open Go.RowKit
set_option linter.unusedVariables false

set_option maxHeartbeats 800000 in
theorem implPartSame_any (p q : Pt) (A A' : Option Addr) (c c' : Nat) (w : World) (hp : Row (Value.int .i64) w w.heap.size A p.signs) (hq : Row (Value.int .i64) w w.heap.size A' q.signs) (h1 : p.signs.length ≤ 4294967296) (h2 : q.signs.length ≤ 4294967296) :
    Calls Try.prog 68 #[.agg #[.int .i64 p.kind, .int .i64 p.n, .slice A p.signs.length c], .agg #[.int .i64 q.kind, .int .i64 q.n, .slice A' q.signs.length c']] w (Tells (samePt p q) w) := by
  obtain ⟨k, n, zs⟩ := p
  obtain ⟨k', n', zs'⟩ := q
  have hbb : ∀ o o' : Obj, Below w.heap.size w ((w.alloc o).alloc o') := fun o o' => ((Below.refl _ _).alloc (Nat.le_refl _) _).alloc (by simp) _
  by_cases hk : k = k'
  · by_cases hn : n = n'
    · have HS := Lib.hid (show samePt ⟨k, n, zs⟩ ⟨k', n', zs'⟩ = sameB zs zs' by unfold samePt; simp [hk, hn])
      have hk1 : (k == k') = true := by simp [hk]
      have hn1 : (n == n') = true := by simp [hn]
      clear hk hn
      go_enter Try.func68, Try.ntmps68
      go_wp2_with fail
      refine (implSignsSame_any A A' c c' zs zs' _ ((hp.past_alloc _).past_alloc _) ((hq.past_alloc _).past_alloc _) h1 h2).mono ?_
      intro e w1 hsay
      obtain ⟨rfl, b1⟩ := says_tells hsay
      go_wp2
      go_ret
      refine ⟨ret_bool (by rw [HS.out]), (hbb _ _).trans (b1.mono (by simp; omega))⟩
    · have HS := Lib.hid (show samePt ⟨k, n, zs⟩ ⟨k', n', zs'⟩ = false by unfold samePt; simp [hn])
      have hk1 : (k == k') = true := by simp [hk]
      have hn1 : (n == n') = false := by simp [hn]
      clear hk hn
      go_enter Try.func68, Try.ntmps68
      go_wp2
      go_ret
      exact ⟨ret_bool (by rw [HS.out]), hbb _ _⟩
  · have HS := Lib.hid (show samePt ⟨k, n, zs⟩ ⟨k', n', zs'⟩ = false by unfold samePt; simp [hk])
    have hk1 : (k == k') = false := by simp [hk]
    clear hk
    go_enter Try.func68, Try.ntmps68
    go_wp2
    go_ret
    exact ⟨ret_bool (by rw [HS.out]), hbb _ _⟩

set_option maxRecDepth 100000 in
set_option maxHeartbeats 1600000 in
theorem equalFunc_any (A B : Option Addr) (c d : Nat) (ps qs : List Pt) (w : World) (hx : PRow w w.heap.size A ps) (hy : PRow w w.heap.size B qs)
    (hl : ps.length ≤ 4294967296) (hl2 : qs.length ≤ 4294967296) (hs : ∀ p ∈ ps, p.signs.length ≤ 4294967296) (hs2 : ∀ p ∈ qs, p.signs.length ≤ 4294967296) :
    Calls Try.prog 67 #[.slice A ps.length c, .slice B qs.length d, .func (.func 68) #[] #[]] w (Tells (samePs ps qs) w) := by
  by_cases hlen : ps.length = qs.length
  · have HL := Lib.hid hlen
    have hb : ((ps.length : Int) != (qs.length : Int)) = false := by simp [hlen]
    clear hlen
    go_enter Try.func67, Try.ntmps67
    go_wp2
    go_loopw [17] (fun i wr => ∃ k : Nat, k ≤ ps.length ∧ i = .int .i64 k ∧ samePs (ps.take k) (qs.take k) = true ∧ Below w.heap.size w wr) (fun i _ => ps.length - (intOf i).toNat)
    case atStart => exact ⟨0, Nat.zero_le _, rfl, rfl, Below.refl _ _⟩
    case round =>
      obtain ⟨k, hk, rfl, ht, hbel⟩ := hrel
      have HT := Lib.hid ht
      clear ht
      by_cases hlt : k < ps.length
      · have hlt2 : k < qs.length := by have := HL.out; omega
        obtain ⟨b1, o1, p, rfl, hb1, hp, hc1⟩ := hx.at_ hlt
        obtain ⟨b2, o2, q, rfl, hb2, hq, hc2⟩ := hy.at_ (k := k) hlt2
        obtain ⟨x0, x1, A1, e1, x2, r1⟩ := hc1.keep (w' := wr) hb1 (fun _ hq => hbel.cell hq)
        have hsp := hs p (List.mem_of_getElem? hp)
        have hsq := hs2 q (List.mem_of_getElem? hq)
        have HP := Lib.hid hp
        have HQ := Lib.hid hq
        clear hp hq hc1
        have bW := alloc_below wr (.cells #[.int .i64 p.kind, .int .i64 p.n, .slice A1 p.signs.length e1] 114)
        have dW := hbel.trans (bW.mono hbel.size)
        obtain ⟨y0, y1, A2, e2, y2, r2⟩ := hc2.keep (w' := wr.alloc (.cells #[.int .i64 p.kind, .int .i64 p.n, .slice A1 p.signs.length e1] 114)) hb2 (fun _ hq => dW.cell hq)
        have dV := dW.trans ((alloc_below (wr.alloc (.cells #[.int .i64 p.kind, .int .i64 p.n, .slice A1 p.signs.length e1] 114)) (.cells #[.int .i64 q.kind, .int .i64 q.n, .slice A2 q.signs.length e2] 114)).mono dW.size)
        have R1 := Lib.hid (Row.past_alloc ((r1.more hbel.size).past bW) (.cells #[.int .i64 q.kind, .int .i64 q.n, .slice A2 q.signs.length e2] 114))
        have R2 := Lib.hid (Row.past_alloc (r2.more dW.size) (.cells #[.int .i64 q.kind, .int .i64 q.n, .slice A2 q.signs.length e2] 114))
        clear hc2 r1 r2
        cases hsame : samePt p q
        · go_wp2_with fail
          refine (implPartSame_any p q A1 A2 e1 e2 _ R1.out R2.out hsp hsq).mono ?_
          rintro e w2 ⟨rfl, b2⟩
          go_wp2
          go_ret
          exact ⟨ret_bool (by rw [samePs_at ps qs k p q HP.out HQ.out hsame]), dV.trans (b2.mono dV.size)⟩
        · go_wp2_with fail
          refine (implPartSame_any p q A1 A2 e1 e2 _ R1.out R2.out hsp hsq).mono ?_
          rintro e w2 ⟨rfl, b2⟩
          go_wp2
          go_roundw
          case rel => exact ⟨k + 1, by omega, by go_num, samePs_snoc ps qs k p q HP.out HQ.out hsame HT.out, dV.trans (b2.mono dV.size)⟩
          case measure => simp [intOf]; omega
      · have H := Lib.hid (show samePs ps qs = true by have := HT.out; rwa [List.take_of_length_le (by omega), List.take_of_length_le (by have := HL.out; omega)] at this)
        go_wp2
        go_ret
        exact ⟨ret_bool (by rw [H.out]), hbel⟩
  · have hb : ((ps.length : Int) != (qs.length : Int)) = true := by simp; omega
    have H := Lib.hid (show samePs ps qs = false by cases h : samePs ps qs; rfl; exact absurd (samePs_len ps qs h) hlen)
    clear hlen
    go_enter Try.func67, Try.ntmps67
    go_wp2
    go_ret
    exact ⟨ret_bool (by rw [H.out]), Below.refl _ _⟩

set_option maxHeartbeats 400000 in
theorem implOpSame_any (A B : Option Addr) (c d : Nat) (ps qs : List Pt) (w : World) (hx : PRow w w.heap.size A ps) (hy : PRow w w.heap.size B qs)
    (hl : ps.length ≤ 4294967296) (hl2 : qs.length ≤ 4294967296) (hs : ∀ p ∈ ps, p.signs.length ≤ 4294967296) (hs2 : ∀ p ∈ qs, p.signs.length ≤ 4294967296) :
    Calls Try.prog 61 #[.slice A ps.length c, .slice B qs.length d] w (Tells (samePs ps qs) w) := by
  go_enter Try.func61, Try.ntmps61
  go_wp2_with fail
  refine (equalFunc_any A B c d ps qs _ hx hy hl hl2 hs hs2).mono ?_
  rintro e w1 ⟨rfl, b1⟩
  go_wp2
  go_ret
  exact ⟨rfl, b1⟩
end Go.Proofs.Ytninppjomdhnmaa.low


/-
  Contracts of the program's add, of impl.OpNorm, impl.IsNorm and impl.Keeping.
-/
namespace Go.Proofs.Ytninppjomdhnmaa.low
open Go.RowKit
set_option linter.unusedVariables false

theorem sameB_comm (a b : List Int) : sameB a b = sameB b a := by
  by_cases h : a = b
  · subst h; rfl
  · have h' : ¬ b = a := fun e => h e.symm
    unfold sameB
    simp [h, h']
theorem samePt_comm (p q : Pt) : samePt p q = samePt q p := by
  unfold samePt
  rw [sameB_comm p.signs q.signs, Bool.beq_comm (a := p.kind), Bool.beq_comm (a := p.n)]
theorem samePs_comm : ∀ ps qs : List Pt, samePs ps qs = samePs qs ps
  | [], [] => rfl
  | [], _ :: _ => rfl
  | _ :: _, [] => rfl
  | p :: ps, q :: qs => by
    show (samePt p q && samePs ps qs) = (samePt q p && samePs qs ps)
    rw [samePt_comm p q, samePs_comm ps qs]

end Go.Proofs.Ytninppjomdhnmaa.low


/-
  Contracts of impl.NameOk, EntryOk, EntrySame, HeadRev, entriesOk.
-/
namespace Go.Proofs.Ytninppjomdhnmaa.low
open Go.RowKit
set_option linter.unusedVariables false

set_option maxRecDepth 100000 in
set_option maxHeartbeats 1600000 in
theorem implEntrySame_d (v v' : Value) (x y : En) (w : World) (h : RdC w w.heap.size (datEn x) v) (h' : RdC w w.heap.size (datEn y) v') (hs : SmEn x) (hs' : SmEn y) : Calls Try.prog 44 #[v, v'] w (Tells (entrySameB x y) w) := by
  obtain ⟨A2, c2, rfl, r2⟩ := aggEn h
  obtain ⟨B2, d2, rfl, s2⟩ := aggEn h'
  obtain ⟨_, _, b0⟩ := two_boxes w #[.int .i64 x.client, .int .i64 x.seq, .slice A2 x.o.length c2] #[.int .i64 y.client, .int .i64 y.seq, .slice B2 y.o.length d2] 89
  have HE := Lib.hid (show entrySameB x y = (decide (x.client = y.client) && decide (x.seq = y.seq) && samePs x.o y.o) from rfl)
  by_cases h1 : x.client = y.client
  · have g1 : (x.client == y.client) = true := by simp [h1]
    by_cases h2 : x.seq = y.seq
    · have g2 : (x.seq == y.seq) = true := by simp [h2]
      obtain ⟨A, c, e2, hr, _⟩ := parts_rd r2
      injection e2 with e2 _ e3
      subst e2 e3
      obtain ⟨B, d, e2, hr', _⟩ := parts_rd s2
      injection e2 with e2 _ e3
      subst e2 e3
      have q1 := hs.o.1
      have q2 := hs'.o.1
      have H12 := Lib.hid (And.intro h1 h2)
      clear h1 h2
      go_enter Try.func44, Try.ntmps44
      go_wp2_with fail
      refine (implOpSame_any A2 B2 c2 d2 x.o y.o _ (hr.past b0) (hr'.past b0) (by omega) (by omega) hs.o.all4 hs'.o.all4).mono ?_
      rintro e w1 ⟨rfl, b1⟩
      go_wp2
      go_ret
      exact ⟨ret_b (by rw [HE.out, decide_eq_true H12.out.1, decide_eq_true H12.out.2]; rfl), b0.trans (b1.mono b0.size)⟩
    · have g2 : (x.seq == y.seq) = false := by simp [h2]
      have H12 := Lib.hid (And.intro h1 h2)
      clear h1 h2
      go_enter Try.func44, Try.ntmps44
      go_wp2
      go_ret
      exact ⟨ret_b (by rw [HE.out, decide_eq_true H12.out.1, decide_eq_false H12.out.2]; rfl), b0⟩
  · have g1 : (x.client == y.client) = false := by simp [h1]
    have H12 := Lib.hid h1
    clear h1
    go_enter Try.func44, Try.ntmps44
    go_wp2
    go_ret
    exact ⟨ret_b (by rw [HE.out, decide_eq_false H12.out]; rfl), b0⟩
end Go.Proofs.Ytninppjomdhnmaa.low


/-
  Lists of rows of clients: the first row of each client, a row put in, rows in order.
-/
namespace Go.Proofs.Ytninppjomdhnmaa.low
open Go.RowKit
set_option linter.unusedVariables false

def putSe : List Se → Se → List Se
  | [], s => [s]
  | t :: l, s => if t.client = s.client then s :: l else t :: putSe l s
def OneSe (l : List Se) : Prop := (l.map (·.client)).Nodup
theorem seenGo_none {k : Int} : ∀ {l : List Se}, seenGo k l = none ↔ ∀ s ∈ l, ¬ s.client = k
  | [] => by simp [seenGo]
  | t :: l => by
    unfold seenGo
    by_cases h : t.client = k
    · simp [h]
    · rw [if_neg h, seenGo_none (l := l)]
      simp [h]
theorem seenGo_some {k : Int} {s : Se} : ∀ {l : List Se}, seenGo k l = some s → s ∈ l ∧ s.client = k
  | [], h => by simp [seenGo] at h
  | t :: l, h => by
    unfold seenGo at h
    by_cases e : t.client = k
    · rw [if_pos e] at h
      injection h with h
      subst h
      exact ⟨by simp, e⟩
    · rw [if_neg e] at h
      have := seenGo_some h
      exact ⟨by simp [this.1], this.2⟩
theorem seenGo_at {k : Int} {s : Se} : ∀ {l : List Se} {j : Nat}, OneSe l → l[j]? = some s → s.client = k → seenGo k l = some s ∧ ∀ s', s'.client = k → putSe l s' = l.set j s'
  | [], j, _, h, _ => by simp at h
  | t :: l, 0, hn, h, e => by
    obtain rfl : t = s := by simpa using h
    refine ⟨by unfold seenGo; rw [if_pos e], fun s' h' => ?_⟩
    unfold putSe
    rw [if_pos (by rw [e, h'])]
    rfl
  | t :: l, j + 1, hn, h, e => by
    unfold OneSe at hn
    rw [List.map_cons, List.nodup_cons] at hn
    have h1 : l[j]? = some s := by simpa using h
    have hne : ¬ t.client = k := fun h2 => hn.1 (by rw [h2, ← e]; exact List.mem_map.2 ⟨s, List.mem_of_getElem? h1, rfl⟩)
    have ih := seenGo_at (l := l) hn.2 h1 e
    refine ⟨by unfold seenGo; rw [if_neg hne]; exact ih.1, fun s' h' => ?_⟩
    unfold putSe
    rw [if_neg (by rw [h']; exact hne), ih.2 s' h']
    rfl
theorem putSe_new {s : Se} : ∀ {l : List Se}, (∀ t ∈ l, ¬ t.client = s.client) → putSe l s = l ++ [s]
  | [], _ => rfl
  | t :: l, h => by
    unfold putSe
    rw [if_neg (h t (by simp)), putSe_new (fun u hu => h u (by simp [hu]))]
    rfl
theorem putSe_mem {s t : Se} : ∀ {l : List Se}, t ∈ putSe l s → t = s ∨ t ∈ l
  | [], h => by simp [putSe] at h; exact .inl h
  | u :: l, h => by
    unfold putSe at h
    by_cases e : u.client = s.client
    · rw [if_pos e] at h
      rcases List.mem_cons.1 h with h | h
      · exact .inl h
      · exact .inr (by simp [h])
    · rw [if_neg e] at h
      rcases List.mem_cons.1 h with h | h
      · exact .inr (by simp [h])
      · rcases putSe_mem h with h | h
        · exact .inl h
        · exact .inr (by simp [h])
theorem putSe_clients {s : Se} : ∀ {l : List Se}, (putSe l s).map (·.client) = if s.client ∈ l.map (·.client) then l.map (·.client) else l.map (·.client) ++ [s.client]
  | [] => by simp [putSe]
  | u :: l => by
    unfold putSe
    by_cases e : u.client = s.client
    · rw [if_pos e]
      simp [e]
    · rw [if_neg e, List.map_cons, putSe_clients (l := l), List.map_cons]
      have e' : ¬ s.client = u.client := fun h => e h.symm
      by_cases h : s.client ∈ l.map (·.client)
      · rw [if_pos h, if_pos (List.mem_cons_of_mem _ h)]
      · rw [if_neg h, if_neg (by simp only [List.mem_cons, not_or]; exact ⟨e', h⟩)]
        rfl
theorem OneSe.put {l : List Se} (h : OneSe l) (s : Se) : OneSe (putSe l s) := by
  unfold OneSe at *
  rw [putSe_clients]
  split
  · exact h
  · rename_i hn
    rw [List.nodup_append]
    refine ⟨h, by simp, fun a ha b hb e => ?_⟩
    obtain rfl : b = s.client := by simpa using hb
    exact hn (e ▸ ha)
theorem putSe_len {l : List Se} {s : Se} : (putSe l s).length ≤ l.length + 1 := by
  have h := congrArg List.length (putSe_clients (l := l) (s := s))
  rw [List.length_map] at h
  rw [h]
  split <;> simp
/-- the first row of each client -/
def firstSe (m : List Se) (s : Se) : List Se := if (seenGo s.client m).isSome then m else putSe m s
def dedSe (l : List Se) : List Se := l.foldl firstSe []
theorem OneSe.nil : OneSe [] := by simp [OneSe]
theorem OneSe.first {l : List Se} (h : OneSe l) (s : Se) : OneSe (firstSe l s) := by
  unfold firstSe
  split
  · exact h
  · exact h.put s
theorem ded_snoc {l : List Se} {j : Nat} {s : Se} (h : l[j]? = some s) : dedSe (l.take (j + 1)) = firstSe (dedSe (l.take j)) s := by
  obtain ⟨hlt, e⟩ := List.getElem?_eq_some_iff.1 h
  rw [List.take_succ_eq_append_getElem hlt, e, dedSe, List.foldl_append]
  rfl
theorem foldFirst_one : ∀ {l m : List Se}, OneSe m → OneSe (l.foldl firstSe m)
  | [], m, h => h
  | s :: l, m, h => foldFirst_one (l := l) (h.first s)
theorem one_ded (l : List Se) : OneSe (dedSe l) := foldFirst_one OneSe.nil
theorem seenGo_append {k : Int} : ∀ {l m : List Se}, seenGo k (l ++ m) = (seenGo k l).or (seenGo k m)
  | [], m => rfl
  | t :: l, m => by
    show (if t.client = k then some t else seenGo k (l ++ m)) = ((if t.client = k then some t else seenGo k l).or (seenGo k m))
    by_cases e : t.client = k
    · simp [e]
    · rw [if_neg e, if_neg e, seenGo_append]
theorem seenGo_first {k : Int} (m : List Se) (s : Se) : seenGo k (firstSe m s) = (seenGo k m).or (seenGo k [s]) := by
  unfold firstSe
  cases h : seenGo s.client m with
  | some t =>
    rw [if_pos (by simp)]
    by_cases e : s.client = k
    · subst e
      rw [h]
      rfl
    · have : seenGo k [s] = none := by simp [seenGo, e]
      rw [this]
      cases seenGo k m <;> rfl
  | none =>
    rw [if_neg (by simp), putSe_new (seenGo_none.1 h), seenGo_append]
theorem seenGo_fold {k : Int} : ∀ {l m : List Se}, seenGo k (l.foldl firstSe m) = (seenGo k m).or (seenGo k l)
  | [], m => by cases h : seenGo k m <;> simp [seenGo, h]
  | s :: l, m => by
    rw [List.foldl_cons, seenGo_fold (l := l), seenGo_first, show s :: l = [s] ++ l from rfl, seenGo_append]
    cases seenGo k m <;> simp
theorem seenGo_ded {k : Int} {l : List Se} : seenGo k (dedSe l) = seenGo k l := by
  rw [dedSe, seenGo_fold]
  rfl
theorem ded_mem : ∀ {l m : List Se} {t : Se}, t ∈ l.foldl firstSe m → t ∈ m ∨ t ∈ l
  | [], m, t, h => .inl h
  | s :: l, m, t, h => by
    rcases ded_mem (l := l) h with h | h
    · unfold firstSe at h
      split at h
      · exact .inl h
      · rcases putSe_mem h with h | h
        · exact .inr (by simp [h])
        · exact .inl h
    · exact .inr (by simp [h])
theorem ded_len : ∀ {l m : List Se}, (l.foldl firstSe m).length ≤ m.length + l.length
  | [], m => by simp
  | s :: l, m => by
    have := ded_len (l := l) (m := firstSe m s)
    have h2 : (firstSe m s).length ≤ m.length + 1 := by
      unfold firstSe
      split
      · omega
      · exact putSe_len
    rw [List.foldl_cons, List.length_cons]
    omega
/-- rows in the order of their clients -/
def AscSe (l : List Se) : Prop := l.Pairwise (fun a b => a.client < b.client)
def insSe (s : Se) : List Se → List Se
  | [] => [s]
  | t :: l => if s.client < t.client then s :: t :: l else t :: insSe s l
def ordSe : List Se → List Se
  | [] => []
  | s :: l => insSe s (ordSe l)
theorem insSe_perm {s : Se} : ∀ {l : List Se}, (insSe s l).Perm (s :: l)
  | [] => List.Perm.refl _
  | t :: l => by
    unfold insSe
    split
    · exact List.Perm.refl _
    · exact ((insSe_perm (l := l)).cons t).trans (List.Perm.swap s t l)
theorem ordSe_perm : ∀ {l : List Se}, (ordSe l).Perm l
  | [] => List.Perm.refl _
  | s :: l => insSe_perm.trans ((ordSe_perm (l := l)).cons s)
theorem insSe_asc {s : Se} : ∀ {l : List Se}, AscSe l → (∀ t ∈ l, ¬ t.client = s.client) → AscSe (insSe s l)
  | [], _, _ => by simp [insSe, AscSe]
  | t :: l, h, hn => by
    unfold insSe
    have ht := hn t (by simp)
    unfold AscSe at h
    rw [List.pairwise_cons] at h
    split
    · rename_i hlt
      refine List.pairwise_cons.2 ⟨fun u hu => ?_, List.pairwise_cons.2 h⟩
      rcases List.mem_cons.1 hu with rfl | hu
      · exact hlt
      · have := h.1 u hu; omega
    · rename_i hlt
      refine List.pairwise_cons.2 ⟨fun u hu => ?_, insSe_asc h.2 (fun u hu => hn u (by simp [hu]))⟩
      rcases List.mem_cons.1 (insSe_perm.mem_iff.1 hu) with rfl | hu
      · omega
      · exact h.1 u hu
theorem ordSe_asc : ∀ {l : List Se}, OneSe l → AscSe (ordSe l)
  | [], _ => List.Pairwise.nil
  | s :: l, h => by
    unfold OneSe at h
    rw [List.map_cons, List.nodup_cons] at h
    refine insSe_asc (ordSe_asc (l := l) h.2) (fun t ht e => h.1 ?_)
    rw [← e]
    exact List.mem_map.2 ⟨t, ordSe_perm.mem_iff.1 ht, rfl⟩
theorem asc_eq : ∀ {l m : List Se}, AscSe l → AscSe m → l.Perm m → l = m
  | [], m, _, _, h => (List.Perm.nil_eq h)
  | s :: l, m, h1, h2, h => by
    cases m with
    | nil => exact absurd h.symm.nil_eq (by simp)
    | cons t m =>
      have hs : s ∈ t :: m := h.mem_iff.1 (by simp)
      have ht : t ∈ s :: l := h.mem_iff.2 (by simp)
      unfold AscSe at h1 h2
      rw [List.pairwise_cons] at h1 h2
      obtain rfl : s = t := by
        rcases List.mem_cons.1 hs with e | hs
        · exact e
        · rcases List.mem_cons.1 ht with e | ht
          · exact e.symm
          · have := h1.1 t ht
            have := h2.1 s hs
            omega
      rw [asc_eq h1.2 h2.2 ((List.perm_cons s).1 h)]
theorem AscSe.one {l : List Se} (h : AscSe l) : OneSe l := by
  unfold OneSe List.Nodup
  rw [List.pairwise_map]
  exact List.Pairwise.imp (fun h => by omega) h
theorem one_ordered {l c : List Se} (h : OneSe l) (hp : c.Perm l) (ha : AscSe c) : c = ordSe l := asc_eq ha (ordSe_asc h) (hp.trans ordSe_perm.symm)
theorem foldFirst_new : ∀ {l m : List Se}, OneSe (m ++ l) → l.foldl firstSe m = m ++ l
  | [], m, _ => by simp
  | s :: l, m, h => by
    have h1 : firstSe m s = m ++ [s] := by
      have hn : ∀ t ∈ m, ¬ t.client = s.client := fun t ht e => by
        unfold OneSe at h
        rw [List.map_append, List.nodup_append] at h
        exact h.2.2 t.client (List.mem_map.2 ⟨t, ht, rfl⟩) s.client (by simp) e
      unfold firstSe
      rw [seenGo_none.2 hn, if_neg (by simp), putSe_new hn]
    rw [List.foldl_cons, h1, foldFirst_new (l := l) (m := m ++ [s]) (by rw [List.append_assoc]; exact h), List.append_assoc]
    rfl
theorem ded_one {l : List Se} (h : OneSe l) : dedSe l = l := foldFirst_new (m := []) h
/-- a list is what its rows in order are just when it ascends -/
theorem ord_ded {l : List Se} : l = ordSe (dedSe l) ↔ AscSe l :=
  ⟨fun h => by rw [h]; exact ordSe_asc (one_ded l), fun h => by rw [ded_one h.one]; exact one_ordered h.one (List.Perm.refl _) h⟩
end Go.Proofs.Ytninppjomdhnmaa.low


/-
  What the program asks of a document is what the specification asks.
-/
namespace Go.Proofs.Ytninppjomdhnmaa.low
open Go.RowKit
set_option linter.unusedVariables false

def okSe (h : Int) (s : Se) : Bool := inB s.client 1 8 && inB s.seq 1 1000000000 && inB s.rev 1 h
def seenIB (h : Int) (l : List Se) : Bool := l.all (okSe h) && seensB l (ordSe (dedSe l))
def entriesIB (l : List En) : Bool := decide (l.length ≤ 8) && l.all entryB
theorem seSame_eq {a b : Se} : seSameB a b = true ↔ a = b := by
  obtain ⟨a1, a2, a3⟩ := a
  obtain ⟨b1, b2, b3⟩ := b
  simp [seSameB, and_assoc]
theorem seens_eq : ∀ {l m : List Se}, seensB l m = true ↔ l = m
  | [], [] => by simp [seensB]
  | [], _ :: _ => by simp [seensB]
  | _ :: _, [] => by simp [seensB]
  | a :: l, b :: m => by simp [seensB, seSame_eq, seens_eq (l := l) (m := m)]
theorem seenAll_some {h : Int} : ∀ {l : List Se} {p : Int}, seenAllB h (some p) l = true ↔ (l.all (okSe h) = true ∧ (∀ s ∈ l, p < s.client) ∧ AscSe l)
  | [], p => by simp [seenAllB, AscSe]
  | s :: l, p => by
    have ih := seenAll_some (h := h) (l := l) (p := s.client)
    rw [seenAllB, Bool.and_eq_true, ih, List.all_cons, Bool.and_eq_true]
    have e : seenOneB h (some p) s = (okSe h s && decide (p < s.client)) := rfl
    rw [e, Bool.and_eq_true, decide_eq_true_eq]
    unfold AscSe
    rw [List.pairwise_cons]
    constructor
    · rintro ⟨⟨h1, h2⟩, h3, h4, h5⟩
      refine ⟨⟨h1, h3⟩, fun t ht => ?_, h4, h5⟩
      rcases List.mem_cons.1 ht with rfl | ht
      · exact h2
      · have := h4 t ht; omega
    · rintro ⟨⟨h1, h3⟩, h4, h5, h6⟩
      exact ⟨⟨h1, h4 s (by simp)⟩, h3, h5, h6⟩
theorem seenAll_none {h : Int} {l : List Se} : seenAllB h none l = true ↔ (l.all (okSe h) = true ∧ AscSe l) := by
  cases l with
  | nil => simp [seenAllB, AscSe]
  | cons s l =>
    rw [seenAllB, Bool.and_eq_true, seenAll_some, List.all_cons, Bool.and_eq_true]
    have e : seenOneB h none s = okSe h s := by simp [seenOneB, okSe]
    rw [e]
    unfold AscSe
    rw [List.pairwise_cons]
    constructor
    · rintro ⟨h1, h3, h4, h5⟩
      exact ⟨⟨h1, h3⟩, h4, h5⟩
    · rintro ⟨⟨h1, h3⟩, h5, h6⟩
      exact ⟨h1, h3, h5, h6⟩
theorem seen_eq (h : Int) (l : List Se) : seenAllB h none l = seenIB h l := by
  rw [Bool.eq_iff_iff, seenAll_none]
  unfold seenIB
  rw [Bool.and_eq_true, seens_eq, ord_ded]
theorem entry_ok {e : En} (h : entryB e = true) : okOp e.o = true := by
  unfold entryB at h
  rw [Bool.and_eq_true] at h
  have h2 := h.2
  unfold isNormL at h2
  rw [Bool.and_eq_true] at h2
  exact h2.1
theorem foldAll_cons (o : List Pt) (l : List (List Pt)) (t : List Int) : foldAll (o :: l) t = if fitsB o t = true then foldAll l (applyT o t) else none := by
  show l.foldl stepAll (if fitsB o t = true then some (applyT o t) else none) = _
  by_cases h : fitsB o t = true
  · rw [if_pos h, if_pos h]
    rfl
  · rw [if_neg h, if_neg h]
    exact fold_none l
theorem fits_len {o : List Pt} {t : List Int} (h : fitsB o t = true) : okOp o = true ∧ okText t = true ∧ sumK o + sumD o = (t.length : Int) := by
  unfold fitsB at h
  rw [Bool.and_eq_true, Bool.and_eq_true, decide_eq_true_eq] at h
  exact ⟨h.1.1, h.1.2, h.2⟩
theorem fits_next {o : List Pt} {t : List Int} (h : fitsB o t = true) : okText (applyT o t) = true := by
  obtain ⟨h1, h2, h3⟩ := fits_len h
  exact (apply_ok h1 h2 h3).2.2.1
theorem chain_eq : ∀ {l : List En} {t : List Int}, chainGo l t = (l.all entryB && (foldAll (l.map En.o) t).isSome)
  | [], t => by simp [chainGo, foldAll]
  | e :: l, t => by
    rw [chainGo, chain_eq (l := l), List.map_cons, foldAll_cons, List.all_cons]
    cases h1 : fitsB e.o t
    · simp
    · rw [fits_next h1]
      cases entryB e <;> simp
theorem doc_eq (x : Do) : docB x = (nameB x.name && inB x.from_ 0 999999000 && entriesIB x.list && seenIB (headRevT x) x.seen && applyAllB (x.list.map En.o) x.text) := by
  unfold docB entriesIB applyAllB
  rw [seen_eq, chain_eq]
  cases nameB x.name <;> cases inB x.from_ 0 999999000 <;> cases okText x.text <;> cases decide (x.list.length ≤ 8) <;> cases x.list.all entryB <;> cases seenIB (headRevT x) x.seen <;> cases (foldAll (x.list.map En.o) x.text).isSome <;> rfl
theorem foldAll_end : ∀ {l : List En} {t : List Int}, (foldAll (l.map En.o) t).isSome = true → foldAll (l.map En.o) t = some (endT l t)
  | [], t, _ => rfl
  | e :: l, t, h => by
    rw [List.map_cons, foldAll_cons] at h ⊢
    cases h1 : fitsB e.o t
    · rw [h1] at h
      cases h
    · rw [h1, if_pos rfl] at h
      rw [if_pos rfl]
      exact foldAll_end h
theorem foldAll_take : ∀ {l : List En} {t : List Int} (k : Nat), (foldAll (l.map En.o) t).isSome = true → (foldAll ((l.take k).map En.o) t).isSome = true
  | [], t, k, h => by simpa using h
  | e :: l, t, 0, h => rfl
  | e :: l, t, k + 1, h => by
    rw [List.take_succ_cons]
    rw [List.map_cons, foldAll_cons] at h ⊢
    cases h1 : fitsB e.o t
    · rw [h1] at h
      cases h
    · rw [h1, if_pos rfl] at h
      rw [if_pos rfl]
      exact foldAll_take k h
theorem doc_apply {x : Do} (h : docB x = true) : applyAllB (x.list.map En.o) x.text = true := by
  rw [doc_eq, Bool.and_eq_true] at h
  exact h.2
theorem doc_text {x : Do} (h : docB x = true) (k : Nat) : applyAllB ((x.list.take k).map En.o) x.text = true ∧ applyAllT ((x.list.take k).map En.o) x.text = endT (x.list.take k) x.text := by
  have h1 := doc_apply h
  unfold applyAllB at h1
  rw [Bool.and_eq_true] at h1
  have h2 := foldAll_take k h1.1
  have h3 : applyAllB ((x.list.take k).map En.o) x.text = true := by
    unfold applyAllB
    rw [h2, h1.2]
    rfl
  refine ⟨h3, ?_⟩
  unfold applyAllT
  rw [if_pos h3, foldAll_end h2]
  rfl
end Go.Proofs.Ytninppjomdhnmaa.low

