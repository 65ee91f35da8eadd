/-
  Texts that the proofs over this seat rest on, one behind the other (3 of 5).
-/
import Derived.Test.YtbbpapaobehlcaaDoorM2
import Derived.Deep.RegionHeld3
import Derived.Laws.BitsLemmas
import Derived.Lib.Join
import Derived.Test.YtbbpapaobehlcaaDoorM1

/-
  Composition and transformation, several units at once.
-/
namespace Go.Proofs.YtbbpapaobehlcaaDoor.low
open Go.RowKit
set_option linter.unusedVariables false

/-- the list does not begin with a deletion, with an insertion -/
def noD : List U → Prop
  | .d :: _ => False
  | _ => True
def noP : List U → Prop
  | .p _ :: _ => False
  | _ => True
theorem comp_ds : ∀ (n : Nat) (a b : List U), comp (List.replicate n .d ++ a) b = List.replicate n .d ++ comp a b
  | 0, a, b => rfl
  | n + 1, a, b => by rw [List.replicate_succ, List.cons_append, comp, comp_ds n a b]; rfl
theorem comp_put1 (a b : List U) (x : Int) (h : noD a) : comp a (.p x :: b) = .p x :: comp a b := by
  cases a with
  | nil => rw [comp]
  | cons u a =>
    cases u with
    | k => rw [comp]
    | p y => rw [comp]
    | d => exact absurd h (by simp [noD])
theorem comp_puts : ∀ (zs : List Int) (a b : List U), noD a → comp a (zs.map .p ++ b) = zs.map .p ++ comp a b
  | [], a, b, _ => rfl
  | z :: zs, a, b, h => by rw [List.map_cons, List.cons_append, comp_put1 a _ z h, comp_puts zs a b h]; rfl
theorem comp_kk : ∀ (n : Nat) (a b : List U), comp (List.replicate n .k ++ a) (List.replicate n .k ++ b) = List.replicate n .k ++ comp a b
  | 0, a, b => rfl
  | n + 1, a, b => by rw [List.replicate_succ, List.cons_append, List.cons_append, comp, comp_kk n a b]; rfl
theorem comp_kd : ∀ (n : Nat) (a b : List U), comp (List.replicate n .k ++ a) (List.replicate n .d ++ b) = List.replicate n .d ++ comp a b
  | 0, a, b => rfl
  | n + 1, a, b => by rw [List.replicate_succ, List.replicate_succ, List.cons_append, List.cons_append, comp, comp_kd n a b]; rfl
theorem comp_pk : ∀ (zs : List Int) (a b : List U), comp (zs.map .p ++ a) (List.replicate zs.length .k ++ b) = zs.map .p ++ comp a b
  | [], a, b => rfl
  | z :: zs, a, b => by rw [List.map_cons, List.length_cons, List.replicate_succ, List.cons_append, List.cons_append, comp, comp_pk zs a b]; rfl
theorem comp_pd : ∀ (zs : List Int) (a b : List U), comp (zs.map .p ++ a) (List.replicate zs.length .d ++ b) = comp a b
  | [], a, b => rfl
  | z :: zs, a, b => by rw [List.map_cons, List.length_cons, List.replicate_succ, List.cons_append, List.cons_append, comp, comp_pd zs a b]
theorem comp_nil : comp [] [] = [] := by rw [comp]

theorem xf_puts : ∀ (zs : List Int) (a b : List U), xf (zs.map .p ++ a) b = (zs.map .p ++ (xf a b).1, List.replicate zs.length .k ++ (xf a b).2)
  | [], a, b => rfl
  | z :: zs, a, b => by rw [List.map_cons, List.cons_append, xf, xf_puts zs a b]; rfl
theorem xf_put1 (a b : List U) (x : Int) (h : noP a) : xf a (.p x :: b) = (.k :: (xf a b).1, .p x :: (xf a b).2) := by
  cases a with
  | nil => rw [xf]
  | cons u a =>
    cases u with
    | k => rw [xf]
    | p y => exact absurd h (by simp [noP])
    | d => rw [xf]
theorem xf_putsB : ∀ (zs : List Int) (a b : List U), noP a → xf a (zs.map .p ++ b) = (List.replicate zs.length .k ++ (xf a b).1, zs.map .p ++ (xf a b).2)
  | [], a, b, _ => rfl
  | z :: zs, a, b, h => by rw [List.map_cons, List.cons_append, xf_put1 a _ z h, xf_putsB zs a b h]; rfl
theorem xf_kk : ∀ (n : Nat) (a b : List U), xf (List.replicate n .k ++ a) (List.replicate n .k ++ b) = (List.replicate n .k ++ (xf a b).1, List.replicate n .k ++ (xf a b).2)
  | 0, a, b => rfl
  | n + 1, a, b => by rw [List.replicate_succ, List.cons_append, List.cons_append, xf, xf_kk n a b]; rfl
theorem xf_kd : ∀ (n : Nat) (a b : List U), xf (List.replicate n .k ++ a) (List.replicate n .d ++ b) = ((xf a b).1, List.replicate n .d ++ (xf a b).2)
  | 0, a, b => rfl
  | n + 1, a, b => by rw [List.replicate_succ, List.replicate_succ, List.cons_append, List.cons_append, xf, xf_kd n a b]; rfl
theorem xf_dk : ∀ (n : Nat) (a b : List U), xf (List.replicate n .d ++ a) (List.replicate n .k ++ b) = (List.replicate n .d ++ (xf a b).1, (xf a b).2)
  | 0, a, b => rfl
  | n + 1, a, b => by rw [List.replicate_succ, List.replicate_succ, List.cons_append, List.cons_append, xf, xf_dk n a b]; rfl
theorem xf_dd : ∀ (n : Nat) (a b : List U), xf (List.replicate n .d ++ a) (List.replicate n .d ++ b) = xf a b
  | 0, a, b => rfl
  | n + 1, a, b => by rw [List.replicate_succ, List.cons_append, List.cons_append, xf, xf_dd n a b]
theorem xf_nil : xf [] [] = ([], []) := by rw [xf]

/-- the inverse of units, at a text -/
def invU : List U → List Int → List U
  | [], _ => []
  | .k :: us, t => .k :: invU us (t.drop 1)
  | .p _ :: us, t => .d :: invU us t
  | .d :: us, t => (t.take 1).map .p ++ invU us (t.drop 1)
/-- what is done is taken back -/
theorem inv_back : ∀ (us : List U) (t : List Int), src us = t.length → applyU (invU us t) (applyU us t) = t ∧ src (invU us t) = tgt us ∧ tgt (invU us t) = src us
  | [], t, h => by
    have : t = [] := List.eq_nil_of_length_eq_zero (by simpa [src] using h.symm)
    subst this
    simp [invU, applyU, src, tgt]
  | .k :: us, [], h => by simp [src] at h
  | .k :: us, x :: t, h => by
    obtain ⟨i1, i2, i3⟩ := inv_back us t (by simpa [src] using h)
    simp [invU, applyU, src, tgt, i1, i2, i3]
  | .p x :: us, t, h => by
    obtain ⟨i1, i2, i3⟩ := inv_back us t (by simpa [src] using h)
    simp [invU, applyU, src, tgt, i1, i2, i3]
  | .d :: us, [], h => by simp [src] at h
  | .d :: us, x :: t, h => by
    obtain ⟨i1, i2, i3⟩ := inv_back us t (by simpa [src] using h)
    simp [invU, applyU, src, tgt, i1, i2, i3]
/-- the inverse's inverse is the thing itself -/
theorem inv_inv : ∀ (us : List U) (t : List Int), src us = t.length → invU (invU us t) (applyU us t) = us
  | [], t, h => rfl
  | .k :: us, [], h => by simp [src] at h
  | .k :: us, x :: t, h => by
    have ih := inv_inv us t (by simpa [src] using h)
    simp [invU, applyU, ih]
  | .p x :: us, t, h => by
    have ih := inv_inv us t (by simpa [src] using h)
    simp [invU, applyU, ih]
  | .d :: us, [], h => by simp [src] at h
  | .d :: us, x :: t, h => by
    have ih := inv_inv us t (by simpa [src] using h)
    simp [invU, applyU, ih]
end Go.Proofs.YtbbpapaobehlcaaDoor.low


/-
  The specification's cursor over the parts of an operation: l04Size, l04Kind, l04Left.
-/
namespace Go.Proofs.YtbbpapaobehlcaaDoor.low
open Go.RowKit
set_option linter.unusedVariables false

/-- how many units a part has -/
def sizeP (p : Pt) : Nat := if p.kind = 2 then p.signs.length else p.n.toNat
theorem unitsP_len (p : Pt) : (unitsP p).length = sizeP p := by
  unfold unitsP sizeP
  by_cases h1 : p.kind = 1
  · simp [h1]
  · by_cases h2 : p.kind = 2
    · simp [h2]
    · simp [h1, h2]
theorem sizeP_le {p : Pt} (h : szP_ p) : sizeP p ≤ 200 := by
  obtain ⟨_, _, h1, h2⟩ := h
  unfold sizeP
  split <;> omega
/-- what is left of an operation: from the part at on, done units of it done -/
def rem (ps : List Pt) (at_ done : Nat) : List U := (units (ps.drop at_)).drop done
theorem drop_at {α : Type} {l : List α} {k : Nat} {x : α} (h : l[k]? = some x) : l.drop k = x :: l.drop (k + 1) := by
  have hk := idx_lt h
  rw [List.drop_eq_getElem_cons hk]
  congr 1
  have := List.getElem?_eq_getElem hk
  rw [h] at this
  injection this with this
  exact this.symm
theorem rem_next {ps : List Pt} {at_ : Nat} {p : Pt} (h : ps[at_]? = some p) : rem ps at_ (sizeP p) = rem ps (at_ + 1) 0 := by
  unfold rem
  rw [drop_at h, units_cons, ← unitsP_len p]
  simp
theorem rem_end {ps : List Pt} {at_ : Nat} (h : ps.length ≤ at_) (d : Nat) : rem ps at_ d = [] := by
  unfold rem
  rw [List.drop_eq_nil_of_le h]
  simp [units_nil]
theorem rem_in {ps : List Pt} {at_ done : Nat} {p : Pt} (h : ps[at_]? = some p) (hd : done ≤ sizeP p) : rem ps at_ done = (unitsP p).drop done ++ rem ps (at_ + 1) 0 := by
  unfold rem
  rw [drop_at h, units_cons, List.drop_append_of_le_length (by rw [unitsP_len]; exact hd)]
  simp

/-- a cursor at block g -/
structure Cur (g : Nat) (T : TypeId) (w : World) (A : Option Addr) (c : Nat) (ps : List Pt) (at_ done : Nat) : Prop where
  box : w.heap[g]? = some (.cells #[.slice A ps.length c, .int .i64 (at_ : Int), .int .i64 (done : Int)] T (0, 0))
  le : at_ ≤ ps.length
  part : ∀ p, ps[at_]? = some p → done ≤ sizeP p
  stop : at_ = ps.length → done = 0
theorem Cur.cell {g : Nat} {T : TypeId} {w : World} {A : Option Addr} {c : Nat} {ps : List Pt} {at_ done : Nat} (h : Cur g T w A c ps at_ done) (i : Nat) : w.cell? ⟨g, i, none⟩ = #[Value.slice A ps.length c, .int .i64 (at_ : Int), .int .i64 (done : Int)][i]? := cell_of_row _ _ i _ _ _ h.box
theorem Cur.free {g : Nat} {T : TypeId} {w : World} {A : Option Addr} {c : Nat} {ps : List Pt} {at_ done : Nat} (h : Cur g T w A c ps at_ done) (o : Nat) : w.frozen? ⟨g, o, none⟩ = false := by simp [World.frozen?, h.box]
theorem Cur.lt {g : Nat} {T : TypeId} {w : World} {A : Option Addr} {c : Nat} {ps : List Pt} {at_ done : Nat} (h : Cur g T w A c ps at_ done) : g < w.heap.size := lt_of_some h.box
theorem Cur.keep {g : Nat} {T : TypeId} {w w' : World} {A : Option Addr} {c : Nat} {ps : List Pt} {at_ done : Nat} (h : Cur g T w A c ps at_ done) (hk : w'.heap[g]? = w.heap[g]?) : Cur g T w' A c ps at_ done := ⟨hk.trans h.box, h.le, h.part, h.stop⟩
/-- the cursor is moved -/
theorem Cur.move {g : Nat} {T : TypeId} {w : World} {A : Option Addr} {c : Nat} {ps : List Pt} {at_ done : Nat} (h : Cur g T w A c ps at_ done) (at' done' : Nat) (h1 : at' ≤ ps.length) (h2 : ∀ p, ps[at']? = some p → done' ≤ sizeP p) (h3 : at' = ps.length → done' = 0) :
    Cur g T ((w.setCell ⟨g, 1, none⟩ (.int .i64 (at' : Int))).setCell ⟨g, 2, none⟩ (.int .i64 (done' : Int))) A c ps at' done' := by
  refine ⟨?_, h1, h2, h3⟩
  rw [heap_setCell_same _ _ _ _ _ _ (heap_setCell_same _ _ _ _ _ _ h.box)]
  rfl
/-- where the cursor stands, off the world -/
def atOf (g : Nat) (w : World) : Nat := match w.cell? ⟨g, 1, none⟩ with
  | some (.int _ n) => n.toNat
  | _ => 0
theorem Cur.atOf {g : Nat} {T : TypeId} {w : World} {A : Option Addr} {c : Nat} {ps : List Pt} {at_ done : Nat} (h : Cur g T w A c ps at_ done) : atOf g w = at_ := by
  unfold low.atOf
  rw [h.cell 1]
  rfl
theorem below_drewN {lo n : Nat} {w wr : World} (h : Below lo w wr) : Below lo w (wr.drewN n) := ⟨h.os, h.tape, h.output, h.size, h.block⟩
theorem fr_drewN {S : Nat → Prop} {n : Nat} {w wr : World} (h : Fr S w wr) : Fr S w (wr.drewN n) := ⟨h.size, h.block⟩
/-- the world has grown alone -/
def KS (wr W : World) : Prop := Below wr.heap.size wr W
theorem KS.start (wr : World) : KS wr wr.drew := (Below.refl _ _).drew
theorem sk_past {wr W W' : World} {g b o : Nat} {v0 v1 v2 u0 u1 u2 : Value} (hg : g < wr.heap.size) (hb : b < wr.heap.size)
    (h : W.cell? ⟨g, 0, none⟩ = some v0 ∧ W.cell? ⟨g, 1, none⟩ = some v1 ∧ W.cell? ⟨g, 2, none⟩ = some v2 ∧ W.cell? ⟨b, o, none⟩ = some u0 ∧ W.cell? ⟨b, o + 1, none⟩ = some u1 ∧ W.cell? ⟨b, o + 2, none⟩ = some u2 ∧ KS wr W) (h2 : Below W.heap.size W W') :
    W'.cell? ⟨g, 0, none⟩ = some v0 ∧ W'.cell? ⟨g, 1, none⟩ = some v1 ∧ W'.cell? ⟨g, 2, none⟩ = some v2 ∧ W'.cell? ⟨b, o, none⟩ = some u0 ∧ W'.cell? ⟨b, o + 1, none⟩ = some u1 ∧ W'.cell? ⟨b, o + 2, none⟩ = some u2 ∧ KS wr W' := by
  obtain ⟨a0, a1, a2, c0, c1, c2, hk⟩ := h
  have hs := hk.size
  have g' : g < W.heap.size := Nat.lt_of_lt_of_le hg hs
  have b' : b < W.heap.size := Nat.lt_of_lt_of_le hb hs
  exact ⟨(h2.cell (p := ⟨g, 0, none⟩) g').trans a0, (h2.cell (p := ⟨g, 1, none⟩) g').trans a1, (h2.cell (p := ⟨g, 2, none⟩) g').trans a2, (h2.cell (p := ⟨b, o, none⟩) b').trans c0, (h2.cell (p := ⟨b, o + 1, none⟩) b').trans c1, (h2.cell (p := ⟨b, o + 2, none⟩) b').trans c2, hk.trans (h2.mono hs)⟩
/-- behind a look at the cursor: it stands at a unit that is not done, or at the end -/
def KindP (lo g : Nat) (T : TypeId) (A : Option Addr) (c : Nat) (ps : List Pt) (R : List U) (w : World) (e : Ending) (w' : World) : Prop :=
  ∃ at_ done, Cur g T w' A c ps at_ done ∧ rem ps at_ done = R ∧ Below lo w w' ∧ Fr (fun b => b = g) w w' ∧
    ((at_ = ps.length ∧ e = .returned (.int .i64 0)) ∨ ∃ p, ps[at_]? = some p ∧ done < sizeP p ∧ e = .returned (.int .i64 p.kind))

end Go.Proofs.YtbbpapaobehlcaaDoor.low


/-
  The specification's cursor: l04Left, l04Take, l04Min.
-/
namespace Go.Proofs.YtbbpapaobehlcaaDoor.low
open Go.RowKit
set_option linter.unusedVariables false

theorem parts_at {w : World} {B : Nat} {A : Option Addr} {n c i : Nat} {ps : List Pt} (h : RdC w B (encPs ps) (.slice A n c)) (hi : i < ps.length) :
    ∃ b off p A1 e1, A = some ⟨b, off, none⟩ ∧ b < B ∧ ps[i]? = some p ∧ w.cell? ⟨b, off + i * 3, none⟩ = some (.int .i64 p.kind) ∧ w.cell? ⟨b, off + i * 3 + 1, none⟩ = some (.int .i64 p.n) ∧ w.cell? ⟨b, off + i * 3 + 2, none⟩ = some (.slice A1 p.signs.length e1) ∧ Row (Value.int .i64) w B A1 p.signs ∧ p.signs.length ≤ e1 := by
  obtain ⟨ad, r, hA, hb, hs, hr, hl⟩ := RdC.at_ (ds := ps.map encPt) h (by simpa using hi)
  rw [List.getElem?_map, List.getElem?_eq_getElem hi] at hr
  obtain rfl : encPt ps[i] = r := by simpa using hr
  obtain ⟨b, off, spot⟩ := ad
  obtain rfl : spot = none := by
    rcases hs with hs | hs
    · cases hs
    · exact hs
  obtain ⟨⟨v0, x0, rfl⟩, ⟨v1, x1, rfl⟩, ⟨v2, x2, r2⟩, _⟩ := hl
  obtain ⟨A1, e1, rfl, r3, hc⟩ := ints_rd r2
  rw [add_at] at x0 x1 x2
  exact ⟨b, off, ps[i], A1, e1, hA, hb, List.getElem?_eq_getElem hi, x0, by simpa [Nat.add_assoc] using x1, by simpa [Nat.add_assoc] using x2, r3, hc⟩

theorem Cur.step {g : Nat} {T : TypeId} {w : World} {A : Option Addr} {c : Nat} {ps : List Pt} {at_ done : Nat} (h : Cur g T w A c ps at_ done) (done' : Nat) (h1 : at_ < ps.length) (h2 : ∀ p, ps[at_]? = some p → done' ≤ sizeP p) :
    Cur g T (w.setCell ⟨g, 2, none⟩ (.int .i64 (done' : Int))) A c ps at_ done' := by
  refine ⟨?_, h.le, h2, fun e => by omega⟩
  rw [heap_setCell_same _ _ _ _ _ _ h.box]
  rfl
/-- behind a take: the piece, and the cursor moved -/
def TakeP (lo g : Nat) (T : TypeId) (A : Option Addr) (c : Nat) (ps : List Pt) (at_ done n : Nat) (p : Pt) (w : World) (e : Ending) (w' : World) : Prop :=
  ∃ A' c', e = .returned (.slice A' n c') ∧ Cur g T w' A c ps at_ (done + n) ∧ Row (Value.int .i64) w' w'.heap.size A' ((p.signs.drop done).take n) ∧ Below lo w w' ∧ Fr (fun b => b = g) w w'

end Go.Proofs.YtbbpapaobehlcaaDoor.low


/-
  Contracts of spec.TextOk, spec.l03Fits and spec.Apply.
-/
namespace Go.Proofs.YtbbpapaobehlcaaDoor.low
open Go.RowKit
set_option linter.unusedVariables false

theorem SmP.all4 {ps : List Pt} (h : SmP ps) : ∀ p ∈ ps, p.signs.length ≤ 4294967296 := fun p hp => Nat.le_trans (h.all p hp) (by omega)

end Go.Proofs.YtbbpapaobehlcaaDoor.low


/-
  Applying several operations, and the idle operation: the functions on lists, and the contracts of spec.ApplyAll and spec.Idle.
-/
namespace Go.Proofs.YtbbpapaobehlcaaDoor.low
open Go.RowKit
set_option linter.unusedVariables false

def idleB (ps : List Pt) : Bool := okOp ps && (putsN ps == 0) && (dropsN ps == 0)
def stepAll (s : Option (List Int)) (ps : List Pt) : Option (List Int) := match s with
  | none => none
  | some t => if fitsB ps t = true then some (applyT ps t) else none
def foldAll (l : List (List Pt)) (t : List Int) : Option (List Int) := l.foldl stepAll (some t)
def applyAllB (l : List (List Pt)) (t : List Int) : Bool := (foldAll l t).isSome && okText t
def applyAllT (l : List (List Pt)) (t : List Int) : List Int := if applyAllB l t = true then (foldAll l t).getD [] else []
theorem foldAll_snoc {l : List (List Pt)} {t : List Int} {k : Nat} {ps : List Pt} (h : l[k]? = some ps) : foldAll (l.take (k + 1)) t = stepAll (foldAll (l.take k) t) ps := by
  unfold foldAll
  rw [List.take_add_one, h]
  simp
theorem fold_none (l : List (List Pt)) : l.foldl stepAll none = none := by
  induction l with
  | nil => rfl
  | cons p l ih => exact ih
theorem foldAll_none {l : List (List Pt)} {t : List Int} {k : Nat} (h : foldAll (l.take k) t = none) : foldAll l t = none := by
  have e : foldAll l t = (l.drop k).foldl stepAll (foldAll (l.take k) t) := by
    unfold foldAll
    rw [← List.foldl_append, List.take_append_drop]
  rw [e, h, fold_none]
/-- what stands behind k operations is the text itself or short -/
theorem foldAll_len {l : List (List Pt)} {t cur : List Int} {k : Nat} (hk : k ≤ l.length) (h : foldAll (l.take k) t = some cur) : cur.length ≤ max t.length 200 := by
  cases k with
  | zero =>
    have : cur = t := by simpa [foldAll] using h.symm
    rw [this]
    omega
  | succ k =>
    obtain ⟨ps, hp⟩ := idx_some (l := l) (i := k) (by omega)
    rw [foldAll_snoc hp] at h
    cases hq : foldAll (l.take k) t with
    | none => rw [hq] at h; cases h
    | some u =>
      rw [hq] at h
      unfold stepAll at h
      simp only at h
      split at h
      · injection h with h
        rw [← h]
        have := apply_len ps u
        omega
      · cases h
theorem applyAll_small {l : List (List Pt)} {t : List Int} (h0 : SmPP l) (h1 : SmI t) : SmI (applyAllT l t) := by
  unfold SmI at *
  unfold applyAllT
  split
  · cases h : foldAll l t with
    | none => simp
    | some cur =>
      have := foldAll_len (l := l) (t := t) (k := l.length) (Nat.le_refl _) (by rw [List.take_length]; exact h)
      simp only [Option.getD_some]
      omega
  · simp

theorem nilOwn (d : Dat) {e : TypeId} {sz lo : Nat} (w : World) (hd : d = .rows e sz []) (h : lo ≤ w.heap.size) : Own lo w.heap.size w d (.slice none 0 0) := by
  subst hd
  exact ⟨[], ⟨[], [], World.ownsRow_nil _ _ _ _, ⟨rfl, rfl⟩, rfl⟩, by simp, fun b hb => by simp at hb, Nat.le_refl _, h⟩
theorem ownInts {lo : Nat} {w : World} {A : Option Addr} {n c : Nat} {zs : List Int} (h : w.ownsRow lo 3 1 (.slice A n c) zs.length (zs.map (Value.int .i64))) (hlo : lo ≤ w.heap.size) : Own lo w.heap.size w (encInts zs) (.slice A n c) :=
  ⟨_, ow_ints h, by cases A <;> simp [Value.ownBlock], fun b hb => by
    have hb' : (Value.slice A n c).ownBlock = some b := by simpa using hb
    exact ⟨own_ge h b hb', own_in h hb'⟩, Nat.le_refl _, hlo⟩

end Go.Proofs.YtbbpapaobehlcaaDoor.low


/-
  The specification's builder in one word each: keep, put, drop, done.
-/
namespace Go.Proofs.YtbbpapaobehlcaaDoor.low
open Go.RowKit
set_option linter.unusedVariables false

theorem specKeepB (O : Nat → Prop) (lo g : Nat) (L : List Pt) (n : Int) (w : World) (hb : Bld O lo g 122 w L) (h0 : 0 ≤ n) (h1 : n ≤ 200) (hl : L.length < 100000) :
    Calls Tryd.prog 112 #[.pointer (some ⟨g, 0, none⟩), .int .i64 n] w (BldP O lo g 122 (L ++ [⟨1, n, []⟩]) w) := by
  have hz : szP_ ⟨1, n, []⟩ := ⟨.inl rfl, h0, h1, by simp⟩
  by_cases hn : n = 0
  · subst hn
    refine (specKeep_zero g w).mono ?_
    rintro e w' ⟨rfl, rfl⟩
    exact ⟨rfl, hb.add hl hz (Below.refl _ _) (Fr.refl _ _) (hb.at_.mono (fun b h => .inl h))⟩
  · have hf := hb.fit
    have hd := hf.done
    have hsg := signsIn_le hb.sz
    have f1 := hf.len
    have f2 := hf.signs
    have hlen := hb.len
    refine (specKeep_f (fun b => O b ∨ w.heap.size ≤ b) lo g _ _ _ n w (hb.at_.mono (fun b h => .inl h)) (fun b h => .inr h) (by omega) (by omega) hn h0 (by omega) (fun p hp => by have := hd.2.2 p hp; omega) (by have := hd.1; exact Nat.le_trans this (by omega))).mono ?_
    rintro e w' ⟨rfl, hn', b, fr⟩
    refine ⟨rfl, hb.add hl hz b fr ?_⟩
    simp only [stepN, if_neg hn]
    exact hn'.at_
theorem specPutB (O : Nat → Prop) (lo g : Nat) (L : List Pt) (A : Option Addr) (c m : Nat) (zs : List Int) (w : World) (hb : Bld O lo g 122 w L) (hr : Row (Value.int .i64) w w.heap.size A zs) (hm : zs.length = m) (h1 : zs.length ≤ 200) (hl : L.length < 100000) :
    Calls Tryd.prog 113 #[.pointer (some ⟨g, 0, none⟩), .slice A m c] w (BldP O lo g 122 (L ++ [⟨2, 0, zs⟩]) w) := by
  subst hm
  have hz : szP_ ⟨2, 0, zs⟩ := ⟨.inr (.inl rfl), by simp, by simp, h1⟩
  have hsg := signsIn_le hb.sz
  have f2 := hb.fit.signs
  have hlen := hb.len
  refine (specPut_f (fun b => O b ∨ w.heap.size ≤ b) lo g _ _ _ A c zs w (hb.at_.mono (fun b h => .inl h)) (fun b h => .inr h) hr (by omega) (by omega)).mono ?_
  rintro e w' ⟨rfl, ha, b, fr⟩
  exact ⟨rfl, hb.add hl hz b fr ha⟩
theorem specDropB (O : Nat → Prop) (lo g : Nat) (L : List Pt) (n : Int) (w : World) (hb : Bld O lo g 122 w L) (h0 : 0 ≤ n) (h1 : n ≤ 200) (hl : L.length < 100000) :
    Calls Tryd.prog 114 #[.pointer (some ⟨g, 0, none⟩), .int .i64 n] w (BldP O lo g 122 (L ++ [⟨3, n, []⟩]) w) := by
  have hz : szP_ ⟨3, n, []⟩ := ⟨.inr (.inr rfl), h0, h1, by simp⟩
  have f3 := hb.fit.d0
  have f4 := hb.fit.d1
  have hlen := hb.len
  refine (specDrop_f (fun b => O b ∨ w.heap.size ≤ b) lo g _ _ _ n w (hb.at_.mono (fun b h => .inl h)) (fun b h => .inr h) f3 (by omega) h0 (by omega)).mono ?_
  rintro e w' ⟨rfl, ha, b, fr⟩
  exact ⟨rfl, hb.add hl hz b fr ha⟩
theorem specDoneB (O : Nat → Prop) (lo g : Nat) (L : List Pt) (w : World) (hb : Bld O lo g 122 w L) :
    Calls Tryd.prog 115 #[.pointer (some ⟨g, 0, none⟩)] w (DoneP O lo L w) := by
  have f1 := hb.fit.len
  have hlen := hb.len
  have hsg := signsIn_le hb.sz
  have f2 := hb.fit.signs
  refine (specDone_f (fun b => O b ∨ w.heap.size ≤ b) lo g _ _ _ w (hb.at_.mono (fun b h => .inl h)) (fun b h => .inr h) (by omega) (by omega)).mono ?_
  intro e w' h
  exact GoneS.done h
end Go.Proofs.YtbbpapaobehlcaaDoor.low


/-
  The inverse of an operation: the function on lists, and the contract of spec.Invert.
-/
namespace Go.Proofs.YtbbpapaobehlcaaDoor.low
open Go.RowKit
set_option linter.unusedVariables false

/-- the inverse of one part, at a position of the text -/
def invP (t : List Int) (at_ : Nat) (p : Pt) : Pt := if p.kind = 1 then ⟨1, p.n, []⟩ else if p.kind = 2 then ⟨3, (p.signs.length : Int), []⟩ else ⟨2, 0, (t.drop at_).take p.n.toNat⟩
def stepI (t : List Int) (s : Nat × List Pt) (p : Pt) : Nat × List Pt := (s.1 + (if p.kind = 2 then 0 else p.n.toNat), s.2 ++ [invP t s.1 p])
def foldI (t : List Int) (ps : List Pt) : Nat × List Pt := ps.foldl (stepI t) (0, [])
def invertT (ps : List Pt) (t : List Int) : List Pt := if fitsB ps t = true then doneN (foldN (foldI t (normL ps)).2) else []
theorem foldI_snoc {t : List Int} {ps : List Pt} {k : Nat} {p : Pt} (h : ps[k]? = some p) : foldI t (ps.take (k + 1)) = stepI t (foldI t (ps.take k)) p := by
  unfold foldI
  rw [List.take_add_one, h]
  simp
theorem invP_sz {t : List Int} {at_ : Nat} {p : Pt} (h : szP_ p) : szP_ (invP t at_ p) := by
  obtain ⟨hk, h0, h1, hz⟩ := h
  unfold invP
  split
  · exact ⟨.inl rfl, h0, h1, by simp⟩
  · split
    · exact ⟨.inr (.inr rfl), by simp, by simp only; omega, by simp⟩
    · exact ⟨.inr (.inl rfl), by simp, by simp, by rw [List.length_take]; omega⟩
theorem foldI_fit {t : List Int} {ps : List Pt} (hok : okPs ps = true) : ∀ k, k ≤ ps.length → ((foldI t (ps.take k)).1 : Int) = sumOf keepOf (ps.take k) + sumOf dropOf (ps.take k) ∧ (foldI t (ps.take k)).2.length = k ∧ ∀ p ∈ (foldI t (ps.take k)).2, szP_ p
  | 0, _ => by simp [foldI, sumOf]
  | k + 1, hk => by
    obtain ⟨p, hp⟩ := idx_some (l := ps) (i := k) (by omega)
    obtain ⟨i1, i2, i3⟩ := foldI_fit (t := t) hok k (by omega)
    have hok' := okPs_at hp hok
    have hp' := of_okPt hok'
    rw [foldI_snoc hp, sumOf_snoc hp, sumOf_snoc hp]
    generalize foldI t (ps.take k) = s at *
    generalize sumOf keepOf (ps.take k) = q1 at *
    generalize sumOf dropOf (ps.take k) = q3 at *
    refine ⟨?_, by simp [stepI, i2], fun q hq => ?_⟩
    · unfold stepI keepOf dropOf
      rcases (show p.kind = 1 ∨ p.kind = 2 ∨ p.kind = 3 by omega) with e | e | e
      · simp [e]; omega
      · simp [e]; omega
      · simp [e]; omega
    · rcases List.mem_append.1 hq with hq | hq
      · exact i3 q hq
      · simp at hq
        subst hq
        exact invP_sz (szP_of hok')
/-- the normal form of a fitting operation -/
theorem fits_norm {ps : List Pt} {t : List Int} (h : fitsB ps t = true) : okPs (normL ps) = true ∧ (normL ps).length ≤ 600 ∧ sumOf keepOf (normL ps) + sumOf dropOf (normL ps) = (t.length : Int) := by
  obtain ⟨_, _, h3, _, _, _, h7⟩ := fits_of h
  obtain ⟨n1, _, s1, s2, s3⟩ := norm_ok h7
  obtain ⟨a1, a2, _⟩ := okOp_of n1
  exact ⟨a1, a2, by rw [s1, s3]; exact h3⟩
theorem foldI_in {t : List Int} {qs : List Pt} {k : Nat} {p : Pt} (h1 : okPs qs = true) (h3 : sumOf keepOf qs + sumOf dropOf qs = (t.length : Int)) (hp : qs[k]? = some p) (hk : p.kind = 1 ∨ p.kind = 3) : ((foldI t (qs.take k)).1 : Int) + p.n ≤ (t.length : Int) := by
  have hlt := idx_lt hp
  have f := (foldI_fit (t := t) h1 k (by omega)).1
  have a1 := sumOf_take (f := keepOf) (ps := qs) (fun q hq => (ok_bd (okPs_mem' h1 hq)).1.1) (k + 1)
  have a2 := sumOf_take (f := dropOf) (ps := qs) (fun q hq => (ok_bd (okPs_mem' h1 hq)).2.2.1) (k + 1)
  rw [sumOf_snoc hp] at a1 a2
  have : keepOf p + dropOf p = p.n := by
    unfold keepOf dropOf
    rcases hk with e | e <;> simp [e]
  omega
theorem foldI_at {t : List Int} {qs : List Pt} (h1 : okPs qs = true) (h3 : sumOf keepOf qs + sumOf dropOf qs = (t.length : Int)) {k : Nat} (hk : k ≤ qs.length) : (foldI t (qs.take k)).1 ≤ t.length := by
  have f := (foldI_fit (t := t) h1 k hk).1
  have a1 := sumOf_take (f := keepOf) (ps := qs) (fun q hq => (ok_bd (okPs_mem' h1 hq)).1.1) k
  have a2 := sumOf_take (f := dropOf) (ps := qs) (fun q hq => (ok_bd (okPs_mem' h1 hq)).2.2.1) k
  omega
theorem built_small {L : List Pt} (h : ∀ p ∈ L, szP_ p) (hl : L.length ≤ 5000) : SmP (doneN (foldN L)) := by
  have := (foldN_fitZ h).done
  have := signsIn_le h
  exact ⟨by omega, by omega⟩
theorem invert_small {ps : List Pt} {t : List Int} (h0 : SmP ps) (h1 : SmI t) : SmP (invertT ps t) := by
  unfold invertT
  split
  · rename_i h
    obtain ⟨n1, n2, n3⟩ := fits_norm h
    have f := foldI_fit (t := t) n1 (normL ps).length (Nat.le_refl _)
    rw [List.take_length] at f
    exact built_small f.2.2 (by omega)
  · exact ⟨by simp, by simp [signsIn]⟩

theorem specOpNorm_d (v : Value) (ps : List Pt) (w : World) (h : RdC w w.heap.size (encPs ps) v) (hs : SmP ps) : Calls Tryd.prog 82 #[v] w (OwnPost (encPs (normL ps)) w) := by
  obtain ⟨A, c, rfl, hr, _⟩ := parts_rd h
  have hl := hs.1
  refine (specOpNorm_any A c ps w hr (by omega) hs.all4 hs.2).mono ?_
  rintro e w1 ⟨v1, rfl, p1, b1⟩
  exact ⟨v1, rfl, own_parts p1, b1⟩

end Go.Proofs.YtbbpapaobehlcaaDoor.low


/-
  spec.Compose: the function on lists, and the contract.
-/
namespace Go.Proofs.YtbbpapaobehlcaaDoor.low
open Go.RowKit
set_option linter.unusedVariables false

def kindOf : List U → Int
  | [] => 0
  | .k :: _ => 1
  | .p _ :: _ => 2
  | .d :: _ => 3
/-- the cursor stands at a unit of the part p that is not done, or at the end -/
def Stands (ps : List Pt) (at_ done : Nat) (R : List U) : Prop := (at_ = ps.length ∧ R = []) ∨ ∃ p, ps[at_]? = some p ∧ done < sizeP p ∧ kindOf R = p.kind ∧ R = (unitsP p).drop done ++ rem ps (at_ + 1) 0
def KindQ (lo g : Nat) (T : TypeId) (A : Option Addr) (c : Nat) (ps : List Pt) (R : List U) (w : World) (e : Ending) (w' : World) : Prop :=
  e = .returned (.int .i64 (kindOf R)) ∧ ∃ at_ done, Cur g T w' A c ps at_ done ∧ rem ps at_ done = R ∧ Stands ps at_ done R ∧ Below lo w w' ∧ Fr (fun b => b = g) w w'
theorem kind_unitsP {p : Pt} (h : szP_ p) {done : Nat} (hd : done < sizeP p) (r : List U) : kindOf ((unitsP p).drop done ++ r) = p.kind := by
  obtain ⟨pk, pn, pz⟩ := p
  obtain ⟨hk, _⟩ := h
  simp only at hk
  rcases hk with rfl | rfl | rfl
  · have hd' : done < pn.toNat := by simpa [sizeP] using hd
    have e : unitsP ⟨1, pn, pz⟩ = List.replicate pn.toNat .k := by simp [unitsP]
    rw [e, List.drop_replicate, show pn.toNat - done = (pn.toNat - done - 1) + 1 by omega, List.replicate_succ]
    rfl
  · have hd' : done < pz.length := by simpa [sizeP] using hd
    have e : unitsP ⟨2, pn, pz⟩ = pz.map .p := by simp [unitsP]
    obtain ⟨z, hz⟩ := idx_some (l := pz) (i := done) hd'
    rw [e, ← List.map_drop, drop_at hz]
    rfl
  · have hd' : done < pn.toNat := by simpa [sizeP] using hd
    have e : unitsP ⟨3, pn, pz⟩ = List.replicate pn.toNat .d := by simp [unitsP]
    rw [e, List.drop_replicate, show pn.toNat - done = (pn.toNat - done - 1) + 1 by omega, List.replicate_succ]
    rfl
/-- the composition -/
def compL (a b : List Pt) : List Pt := doneN (foldU (comp (units a) (units b)))
def composeB (a b : List Pt) : Bool := okOp a && okOp b && (sumK a + sumP a == sumK b + sumD b) && okOp (compL a b)
def composeT (a b : List Pt) : List Pt := if composeB a b = true then compL a b else []
end Go.Proofs.YtbbpapaobehlcaaDoor.low


/-
  Composition: the loop's invariant on units, how a round goes on, what a chunk of units is.
-/
namespace Go.Proofs.YtbbpapaobehlcaaDoor.low
open Go.RowKit
set_option linter.unusedVariables false

/-- the loop's invariant -/
structure CInv (a b : List Pt) (RX RY : List U) (L : List Pt) : Prop where
  eq : units L ++ comp RX RY = comp (units a) (units b)
  bal : tgt RX = src RY
  len : L.length + RX.length + RY.length ≤ 2000
theorem CInv.drop {a b : List Pt} {n : Nat} {RX RY : List U} {L : List Pt} (h : CInv a b (List.replicate n .d ++ RX) RY L) (hn : 0 < n) : CInv a b RX RY (L ++ [⟨3, (n : Int), []⟩]) := by
  refine ⟨?_, ?_, ?_⟩
  · rw [← h.eq, comp_ds, units_app]
    simp [units, unitsP]
  · have := h.bal; rwa [tgt_app, (src_rd n).2, Nat.zero_add] at this
  · have := h.len; simp at this ⊢; omega
theorem CInv.put {a b : List Pt} {zs : List Int} {RX RY : List U} {L : List Pt} (h : CInv a b RX (zs.map .p ++ RY) L) (hd : noD RX) (hn : 0 < zs.length) : CInv a b RX RY (L ++ [⟨2, 0, zs⟩]) := by
  refine ⟨?_, ?_, ?_⟩
  · rw [← h.eq, comp_puts zs _ _ hd, units_app]
    simp [units, unitsP]
  · have := h.bal; rwa [src_app, (src_mp zs).1, Nat.zero_add] at this
  · have := h.len; simp at this ⊢; omega
theorem CInv.kk {a b : List Pt} {n : Nat} {RX RY : List U} {L : List Pt} (h : CInv a b (List.replicate n .k ++ RX) (List.replicate n .k ++ RY) L) (hn : 0 < n) : CInv a b RX RY (L ++ [⟨1, (n : Int), []⟩]) := by
  refine ⟨?_, ?_, ?_⟩
  · rw [← h.eq, comp_kk, units_app]
    simp [units, unitsP]
  · have := h.bal; rw [tgt_app, src_app, (src_rk n).1, (src_rk n).2] at this; omega
  · have := h.len; simp at this ⊢; omega
theorem CInv.kd {a b : List Pt} {n : Nat} {RX RY : List U} {L : List Pt} (h : CInv a b (List.replicate n .k ++ RX) (List.replicate n .d ++ RY) L) (hn : 0 < n) : CInv a b RX RY (L ++ [⟨3, (n : Int), []⟩]) := by
  refine ⟨?_, ?_, ?_⟩
  · rw [← h.eq, comp_kd, units_app]
    simp [units, unitsP]
  · have := h.bal; rw [tgt_app, src_app, (src_rk n).2, (src_rd n).1] at this; omega
  · have := h.len; simp at this ⊢; omega
theorem CInv.pk {a b : List Pt} {zs : List Int} {RX RY : List U} {L : List Pt} (h : CInv a b (zs.map .p ++ RX) (List.replicate zs.length .k ++ RY) L) (hn : 0 < zs.length) : CInv a b RX RY (L ++ [⟨2, 0, zs⟩]) := by
  refine ⟨?_, ?_, ?_⟩
  · rw [← h.eq, comp_pk, units_app]
    simp [units, unitsP]
  · have := h.bal; rw [tgt_app, src_app, (src_mp zs).2, (src_rk zs.length).1] at this; omega
  · have := h.len; simp at this ⊢; omega
theorem CInv.pd {a b : List Pt} {zs : List Int} {RX RY : List U} {L : List Pt} (h : CInv a b (zs.map .p ++ RX) (List.replicate zs.length .d ++ RY) L) : CInv a b RX RY L := by
  refine ⟨?_, ?_, ?_⟩
  · rw [← h.eq, comp_pd]
  · have := h.bal; rw [tgt_app, src_app, (src_mp zs).2, (src_rd zs.length).1] at this; omega
  · have := h.len; simp at this ⊢; omega
theorem okOp_units {a : List Pt} (h : okOp a = true) : (units a).length ≤ 600 ∧ (∀ p ∈ a, szP_ p) ∧ a.length ≤ 600 := by
  obtain ⟨h1, h2, h3, h4, h5, h6, h7⟩ := okOp_of h
  have hz := okPs_sz h1
  obtain ⟨s1, s2⟩ := src_units hz
  refine ⟨?_, hz, h2⟩
  have : ∀ us : List U, us.length ≤ src us + tgt us := by
    intro us
    induction us with
    | nil => simp
    | cons u us ih => cases u <;> simp [src, tgt] <;> omega
  have := this (units a)
  omega
/-- how a round goes on -/
theorem comp_cases {RX RY : List U} (h : tgt RX = src RY) : (RX = [] ∧ RY = []) ∨ kindOf RX = 3 ∨ (noD RX ∧ kindOf RX = 0 ∧ kindOf RY = 2) ∨ (noD RX ∧ (kindOf RX = 1 ∨ kindOf RX = 2) ∧ kindOf RY = 2) ∨ (noD RX ∧ (kindOf RX = 1 ∨ kindOf RX = 2) ∧ (kindOf RY = 1 ∨ kindOf RY = 3)) := by
  rcases RX with _ | ⟨ux, RX⟩
  · rcases RY with _ | ⟨uy, RY⟩
    · exact .inl ⟨rfl, rfl⟩
    · cases uy with
      | k => simp [tgt, src] at h
      | p z => exact .inr (.inr (.inl ⟨trivial, rfl, rfl⟩))
      | d => simp [tgt, src] at h
  · cases ux with
    | d => exact .inr (.inl rfl)
    | k =>
      rcases RY with _ | ⟨uy, RY⟩
      · simp [tgt, src] at h
      · cases uy with
        | k => exact .inr (.inr (.inr (.inr ⟨trivial, .inl rfl, .inl rfl⟩)))
        | p z => exact .inr (.inr (.inr (.inl ⟨trivial, .inl rfl, rfl⟩)))
        | d => exact .inr (.inr (.inr (.inr ⟨trivial, .inl rfl, .inr rfl⟩)))
    | p z' =>
      rcases RY with _ | ⟨uy, RY⟩
      · simp [tgt, src] at h
      · cases uy with
        | k => exact .inr (.inr (.inr (.inr ⟨trivial, .inr rfl, .inl rfl⟩)))
        | p z => exact .inr (.inr (.inr (.inl ⟨trivial, .inr rfl, rfl⟩)))
        | d => exact .inr (.inr (.inr (.inr ⟨trivial, .inr rfl, .inr rfl⟩)))

theorem rem_chunk {ps : List Pt} {at_ d n : Nat} {p : Pt} (h : ps[at_]? = some p) (hd : d + n ≤ sizeP p) : rem ps at_ d = ((unitsP p).drop d).take n ++ rem ps at_ (d + n) := by
  rw [rem_in h (by omega), rem_in h hd, ← List.append_assoc]
  congr 1
  rw [← List.drop_drop, List.take_append_drop]
theorem chunk_k {p : Pt} {d n : Nat} (hk : p.kind = 1) (hd : d + n ≤ sizeP p) : ((unitsP p).drop d).take n = List.replicate n .k := by
  have e : unitsP p = List.replicate p.n.toNat .k := by simp [unitsP, hk]
  have hs : sizeP p = p.n.toNat := by simp [sizeP, hk]
  rw [e, List.drop_replicate, List.take_replicate]
  congr 1
  omega
theorem chunk_d {p : Pt} {d n : Nat} (hk : p.kind = 3) (hd : d + n ≤ sizeP p) : ((unitsP p).drop d).take n = List.replicate n .d := by
  have e : unitsP p = List.replicate p.n.toNat .d := by simp [unitsP, hk]
  have hs : sizeP p = p.n.toNat := by simp [sizeP, hk]
  rw [e, List.drop_replicate, List.take_replicate]
  congr 1
  omega
theorem chunk_p {p : Pt} {d n : Nat} (hk : p.kind = 2) : ((unitsP p).drop d).take n = ((p.signs.drop d).take n).map .p := by
  have e : unitsP p = p.signs.map .p := by simp [unitsP, hk]
  rw [e, ← List.map_drop, ← List.map_take]
theorem okOp_partsB {ps : List Pt} (h : okOp ps = true) : partsB ps = true := by
  unfold okOp at h
  cases hp : partsB ps
  · rw [hp] at h; simp at h
  · rfl
theorem rem_mono {ps : List Pt} {i j : Nat} (h : i ≤ j) : (rem ps j 0).length ≤ (rem ps i 0).length := by
  obtain ⟨k, rfl⟩ := Nat.le.dest h
  unfold rem
  simp only [List.drop_zero]
  rw [← List.drop_drop]
  generalize ps.drop i = qs
  have e : units qs = units (qs.take k) ++ units (qs.drop k) := by rw [← units_app, List.take_append_drop]
  rw [e, List.length_append]
  omega
theorem rem_le0 (ps : List Pt) (i d : Nat) : (rem ps i d).length ≤ (rem ps i 0).length := by
  unfold rem
  simp
/-- a cursor that stands at a unit that is not done stands at one place alone -/
theorem stand_unique {ps : List Pt} {i d i' d' : Nat} {p p' : Pt} (h : ps[i]? = some p) (hd : d < sizeP p) (h' : ps[i']? = some p') (hd' : d' < sizeP p') (e : rem ps i d = rem ps i' d') : i = i' ∧ d = d' := by
  have l := congrArg List.length e
  have l1 : (rem ps i d).length = sizeP p - d + (rem ps (i + 1) 0).length := by rw [rem_in h (Nat.le_of_lt hd), List.length_append, List.length_drop, unitsP_len]
  have l2 : (rem ps i' d').length = sizeP p' - d' + (rem ps (i' + 1) 0).length := by rw [rem_in h' (Nat.le_of_lt hd'), List.length_append, List.length_drop, unitsP_len]
  rcases Nat.lt_trichotomy i i' with hlt | rfl | hgt
  · have a1 := rem_mono (ps := ps) (i := i + 1) (j := i') (by omega)
    have a2 := rem_le0 ps i' d'
    omega
  · rw [h] at h'
    injection h' with h'
    subst h'
    exact ⟨rfl, by omega⟩
  · have a1 := rem_mono (ps := ps) (i := i' + 1) (j := i) (by omega)
    have a2 := rem_le0 ps i d
    omega
/-- m units of the part at which a cursor stands are left: the first m units of R are of one kind -/
def Lead (R : List U) (m : Nat) : Prop := (R = [] ∧ m = 0) ∨ (0 < m ∧ m ≤ 200 ∧ m ≤ R.length ∧ ((kindOf R = 1 ∧ R.take m = List.replicate m .k) ∨ (kindOf R = 3 ∧ R.take m = List.replicate m .d) ∨ (kindOf R = 2 ∧ ∃ zs : List Int, R.take m = zs.map .p)))
theorem take_rep {R : List U} {u : U} {m n : Nat} (h : R.take m = List.replicate m u) (hn : n ≤ m) : R = List.replicate n u ++ R.drop n := by
  have e : R.take n = List.replicate n u := by
    have := congrArg (List.take n) h
    rwa [List.take_take, Nat.min_eq_left hn, List.take_replicate, Nat.min_eq_left hn] at this
  rw [← e, List.take_append_drop]
theorem Lead.k {R : List U} {m n : Nat} (h : Lead R m) (hk : kindOf R = 1) (hn : n ≤ m) : R = List.replicate n .k ++ R.drop n := by
  rcases h with ⟨rfl, rfl⟩ | ⟨_, _, _, ⟨_, h⟩ | ⟨h, _⟩ | ⟨h, _⟩⟩
  · obtain rfl : n = 0 := by omega
    rfl
  · exact take_rep h hn
  · omega
  · omega
theorem Lead.d {R : List U} {m n : Nat} (h : Lead R m) (hk : kindOf R = 3) (hn : n ≤ m) : R = List.replicate n .d ++ R.drop n := by
  rcases h with ⟨rfl, rfl⟩ | ⟨_, _, _, ⟨h, _⟩ | ⟨_, h⟩ | ⟨h, _⟩⟩
  · obtain rfl : n = 0 := by omega
    rfl
  · omega
  · exact take_rep h hn
  · omega
theorem Lead.p {R : List U} {m n : Nat} (h : Lead R m) (hk : kindOf R = 2) (hn : n ≤ m) : ∃ zs : List Int, zs.length = n ∧ R = zs.map .p ++ R.drop n := by
  rcases h with ⟨rfl, rfl⟩ | ⟨_, _, hl, ⟨h, _⟩ | ⟨h, _⟩ | ⟨_, zs, h⟩⟩
  · obtain rfl : n = 0 := by omega
    exact ⟨[], rfl, rfl⟩
  · omega
  · omega
  · have e : R.take n = (zs.take n).map .p := by
      have := congrArg (List.take n) h
      rwa [List.take_take, Nat.min_eq_left hn, ← List.map_take] at this
    have l := congrArg List.length e
    rw [List.length_take, List.length_map] at l
    exact ⟨zs.take n, by omega, by rw [← e, List.take_append_drop]⟩
theorem Lead.pos {R : List U} {m : Nat} (h : Lead R m) (hk : ¬ kindOf R = 0) : 0 < m ∧ m ≤ 200 ∧ m ≤ R.length := by
  rcases h with ⟨rfl, _⟩ | ⟨h1, h2, h3, _⟩
  · exact absurd rfl hk
  · exact ⟨h1, h2, h3⟩
theorem Lead.of {ps : List Pt} {at_ d : Nat} {p : Pt} (h : ps[at_]? = some p) (hz : szP_ p) (hd : d < sizeP p) : Lead (rem ps at_ d) (sizeP p - d) := by
  have hs := sizeP_le hz
  have hl : ((unitsP p).drop d).length = sizeP p - d := by rw [List.length_drop, unitsP_len]
  have e := rem_in h (Nat.le_of_lt hd)
  have hk := kind_unitsP hz hd (rem ps (at_ + 1) 0)
  rw [← e] at hk
  have et : (rem ps at_ d).take (sizeP p - d) = (unitsP p).drop d := by
    rw [e, List.take_append_of_le_length (by omega), List.take_of_length_le (by omega)]
  refine .inr ⟨by omega, by omega, by rw [e, List.length_append, hl]; omega, ?_⟩
  rw [hk, et]
  have ec : (unitsP p).drop d = ((unitsP p).drop d).take (sizeP p - d) := (List.take_of_length_le (by omega)).symm
  rcases hz.1 with hk1 | hk1 | hk1
  · exact .inl ⟨hk1, by rw [ec]; exact chunk_k hk1 (by omega)⟩
  · exact .inr (.inr ⟨hk1, _, by rw [ec]; exact chunk_p hk1⟩)
  · exact .inr (.inl ⟨hk1, by rw [ec]; exact chunk_d hk1 (by omega)⟩)
theorem rem_adv (ps : List Pt) (i d n : Nat) : rem ps i (d + n) = (rem ps i d).drop n := by
  unfold rem
  rw [List.drop_drop]
theorem mp_len {R : List U} {zs : List Int} {n : Nat} (h : R.take n = zs.map .p) (hn : n ≤ R.length) : zs.length = n ∧ R = zs.map .p ++ R.drop n := by
  have := congrArg List.length h
  rw [List.length_take, List.length_map, Nat.min_eq_left hn] at this
  exact ⟨this.symm, by rw [← h, List.take_append_drop]⟩
end Go.Proofs.YtbbpapaobehlcaaDoor.low


/-
  Two cursors of the specification over two operations (Cs), in the words of the units that are left: what each call makes of them.
-/
namespace Go.Proofs.YtbbpapaobehlcaaDoor.low
open Go.RowKit
set_option linter.unusedVariables false

def doneOf (g : Nat) (w : World) : Nat := match w.cell? ⟨g, 2, none⟩ with
  | some (.int _ n) => n.toNat
  | _ => 0
theorem Cur.doneOf {g : Nat} {T : TypeId} {w : World} {A : Option Addr} {c : Nat} {ps : List Pt} {at_ done : Nat} (h : Cur g T w A c ps at_ done) : doneOf g w = done := by
  unfold low.doneOf
  rw [h.cell 2]
  rfl
def remLen (g : Nat) (ps : List Pt) (w : World) : Nat := (rem ps (atOf g w) (doneOf g w)).length
theorem Cur.remLen {g : Nat} {T : TypeId} {w : World} {A : Option Addr} {c : Nat} {ps : List Pt} {at_ done : Nat} (h : Cur g T w A c ps at_ done) : remLen g ps w = (rem ps at_ done).length := by
  unfold low.remLen
  rw [h.atOf, h.doneOf]
/-- what stays: where the cursors lie, and the operations -/
structure Fx where
  lo : Nat
  gx : Nat
  gy : Nat
  TC : TypeId
  A : Option Addr
  ca : Nat
  a : List Pt
  B : Option Addr
  cb : Nat
  b : List Pt
def Fx.swap (K : Fx) : Fx := ⟨K.lo, K.gy, K.gx, K.TC, K.B, K.cb, K.b, K.A, K.ca, K.a⟩
/-- the cursor stands at a part of which m units are left, or at the end -/
def Sett (ps : List Pt) (at_ done : Nat) : Option Nat → Prop
  | none => True
  | some m => (at_ = ps.length ∧ m = 0) ∨ ∃ p, ps[at_]? = some p ∧ done < sizeP p ∧ m = sizeP p - done
structure Cs (K : Fx) (w : World) (sx sy : Option Nat) (RX RY : List U) : Prop where
  ex : ∃ i d, Cur K.gx K.TC w K.A K.ca K.a i d ∧ rem K.a i d = RX ∧ Sett K.a i d sx
  ey : ∃ i d, Cur K.gy K.TC w K.B K.cb K.b i d ∧ rem K.b i d = RY ∧ Sett K.b i d sy
  ra : RdC w K.lo (encPs K.a) (.slice K.A K.a.length K.ca)
  rb : RdC w K.lo (encPs K.b) (.slice K.B K.b.length K.cb)
  ne : ¬ K.gx = K.gy
  lx : K.lo ≤ K.gx
  ly : K.lo ≤ K.gy
  sa : ∀ p ∈ K.a, szP_ p
  sb : ∀ p ∈ K.b, szP_ p
  na : K.a.length ≤ 1048576
  nb : K.b.length ≤ 1048576
section
variable {K : Fx} {w w' : World} {sx sy : Option Nat} {RX RY : List U}
theorem Cs.swap (h : Cs K w sx sy RX RY) : Cs K.swap w sy sx RY RX := ⟨h.ey, h.ex, h.rb, h.ra, fun e => h.ne e.symm, h.ly, h.lx, h.sb, h.sa, h.nb, h.na⟩
theorem Cs.back (h : Cs K.swap w sx sy RX RY) : Cs K w sy sx RY RX := ⟨h.ey, h.ex, h.rb, h.ra, fun e => h.ne e.symm, h.ly, h.lx, h.sb, h.sa, h.nb, h.na⟩
theorem Cs.xlt (h : Cs K w sx sy RX RY) : K.gx < w.heap.size := by obtain ⟨_, _, hc, _⟩ := h.ex; exact hc.lt
theorem Cs.ylt (h : Cs K w sx sy RX RY) : K.gy < w.heap.size := by obtain ⟨_, _, hc, _⟩ := h.ey; exact hc.lt
theorem Cs.keep (h : Cs K w sx sy RX RY) (hx : w'.heap[K.gx]? = w.heap[K.gx]?) (hy : w'.heap[K.gy]? = w.heap[K.gy]?) (hb : Below K.lo w w') : Cs K w' sx sy RX RY := by
  obtain ⟨i, d, h1, h2, h3⟩ := h.ex
  obtain ⟨j, e, k1, k2, k3⟩ := h.ey
  exact ⟨⟨i, d, h1.keep hx, h2, h3⟩, ⟨j, e, k1.keep hy, k2, k3⟩, h.ra.below hb, h.rb.below hb, h.ne, h.lx, h.ly, h.sa, h.sb, h.na, h.nb⟩
theorem Cs.past (h : Cs K w sx sy RX RY) (hb : Below w.heap.size w w') : Cs K w' sx sy RX RY :=
  h.keep (hb.block _ h.xlt) (hb.block _ h.ylt) (hb.mono (Nat.le_trans h.lx (Nat.le_of_lt h.xlt)))
theorem Cs.grew {O O' : Nat → Prop} (h : Cs K w sx sy RX RY) (hg : Grew O O' w w') (hb : Below K.lo w w') (hx : ¬ O K.gx) (hy : ¬ O K.gy) : Cs K w' sx sy RX RY :=
  h.keep (hg.block _ h.xlt hx) (hg.block _ h.ylt hy) hb
theorem Cs.weak (h : Cs K w sx sy RX RY) : Cs K w none none RX RY := by
  obtain ⟨i, d, h1, h2, h3⟩ := h.ex
  obtain ⟨j, e, k1, k2, k3⟩ := h.ey
  exact ⟨⟨i, d, h1, h2, trivial⟩, ⟨j, e, k1, k2, trivial⟩, h.ra, h.rb, h.ne, h.lx, h.ly, h.sa, h.sb, h.na, h.nb⟩
/-- the first cursor was moved -/
theorem Cs.mov {sx' : Option Nat} {RX' : List U} (h : Cs K w sx sy RX RY) (hx : ∃ i d, Cur K.gx K.TC w' K.A K.ca K.a i d ∧ rem K.a i d = RX' ∧ Sett K.a i d sx') (hb : Below K.lo w w') (hf : Fr (fun q => q = K.gx) w w') : Cs K w' sx' sy RX' RY := by
  obtain ⟨j, e, k1, k2, k3⟩ := h.ey
  exact ⟨hx, ⟨j, e, k1.keep (hf.block _ k1.lt (fun e => h.ne e.symm)), k2, k3⟩, h.ra.below hb, h.rb.below hb, h.ne, h.lx, h.ly, h.sa, h.sb, h.na, h.nb⟩
theorem Cs.lead {m : Nat} (h : Cs K w (some m) sy RX RY) : Lead RX m := by
  obtain ⟨i, d, h1, rfl, h3⟩ := h.ex
  rcases h3 with ⟨e, rfl⟩ | ⟨p, hp, hd, rfl⟩
  · exact .inl ⟨rem_end (by omega) d, rfl⟩
  · exact Lead.of hp (h.sa p (List.mem_of_getElem? hp)) hd
/-- how much there is to do -/
def muC (K : Fx) (w : World) : Nat := remLen K.gx K.a w + remLen K.gy K.b w
theorem Cs.mu (h : Cs K w sx sy RX RY) : muC K w = RX.length + RY.length := by
  obtain ⟨i, d, h1, rfl, _⟩ := h.ex
  obtain ⟨j, e, k1, rfl, _⟩ := h.ey
  unfold muC
  rw [h1.remLen, k1.remLen]
/-- the first cursor goes on by n -/
theorem Cs.adv {m : Nat} (h : Cs K w (some m) sy RX RY) (hk : ¬ kindOf RX = 0) : ∃ d : Nat, d ≤ 200 ∧ w.cell? ⟨K.gx, 2, none⟩ = some (.int .i64 (d : Int)) ∧ w.frozen? ⟨K.gx, 2, none⟩ = false ∧ ∀ n, n ≤ m → Cs K (w.setCell ⟨K.gx, 2, none⟩ (.int .i64 ((d : Int) + (n : Int)))) none sy (RX.drop n) RY := by
  obtain ⟨i, d, h1, rfl, h3⟩ := h.ex
  rcases h3 with ⟨e, rfl⟩ | ⟨p, hp, hd, rfl⟩
  · exact absurd (by rw [rem_end (by omega) d]; rfl) hk
  · have hz := sizeP_le (h.sa p (List.mem_of_getElem? hp))
    have c2 := h1.cell 2
    simp at c2
    refine ⟨d, by omega, c2, h1.free 2, fun n hn => ?_⟩
    have hst := h1.step (d + n) (idx_lt hp) (fun q hq => by rw [hp] at hq; injection hq with hq; subst hq; omega)
    have ec : ((d + n : Nat) : Int) = (d : Int) + (n : Int) := by omega
    rw [ec] at hst
    exact h.mov ⟨i, d + n, hst, rem_adv _ _ _ _, trivial⟩ ((Below.refl _ _).setCell h.lx _) ((Fr.refl (fun q => q = K.gx) w).setCell (p := ⟨K.gx, 2, none⟩) rfl _)
end
/-- behind a look at the first cursor -/
def KindC (K : Fx) (sx sy : Option Nat) (RX RY : List U) (w : World) (e : Ending) (w' : World) : Prop :=
  e = .returned (.int .i64 (kindOf RX)) ∧ ∃ m, (∀ q, sx = some q → m = q) ∧ Cs K w' (some m) sy RX RY ∧ Below K.lo w w' ∧ Fr (fun q => q = K.gx) w w'
def LeftC (K : Fx) (m : Nat) (sy : Option Nat) (RX RY : List U) (w : World) (e : Ending) (w' : World) : Prop := e = .returned (.int .i64 (m : Int)) ∧ Cs K w' (some m) sy RX RY ∧ Below w.heap.size w w'
/-- behind a take of n: the piece, and the cursor moved -/
def TakeC (K : Fx) (n : Nat) (sy : Option Nat) (RX RY : List U) (w : World) (e : Ending) (w' : World) : Prop :=
  ∃ A' c' zs, e = .returned (.slice A' n c') ∧ zs.length = n ∧ RX = zs.map .p ++ RX.drop n ∧ Row (Value.int .i64) w' w'.heap.size A' zs ∧ Cs K w' none sy (RX.drop n) RY ∧ Below K.lo w w' ∧ Fr (fun q => q = K.gx) w w'
end Go.Proofs.YtbbpapaobehlcaaDoor.low


/-
  Two cursors and a builder (CB): what each call of the specification makes of them.
-/
namespace Go.Proofs.YtbbpapaobehlcaaDoor.low
open Go.RowKit
set_option linter.unusedVariables false

structure CB (K : Fx) (go : Nat) (TB : TypeId) (O : Nat → Prop) (L : List Pt) (w : World) (sx sy : Option Nat) (RX RY : List U) : Prop where
  cs : Cs K w sx sy RX RY
  bd : Bld O K.lo go TB w L
  ox : ¬ O K.gx
  oy : ¬ O K.gy
section
variable {K : Fx} {go : Nat} {TB : TypeId} {O O' : Nat → Prop} {L L' : List Pt} {w w' : World} {sx sy sx' sy' : Option Nat} {RX RY RX' RY' : List U}
theorem CB.mov (h : CB K go TB O L w sx sy RX RY) (hc : Cs K w' sx' sy' RX' RY') (hf : Fr (fun q => q = K.gx) w w') : CB K go TB O L w' sx' sy' RX' RY' :=
  ⟨hc, h.bd.keep hf.size (fun q hq ho => hf.block q hq (fun e => h.ox (by rw [← e]; exact ho))), h.ox, h.oy⟩
theorem CB.movy (h : CB K go TB O L w sx sy RX RY) (hc : Cs K w' sx' sy' RX' RY') (hf : Fr (fun q => q = K.gy) w w') : CB K go TB O L w' sx' sy' RX' RY' :=
  ⟨hc, h.bd.keep hf.size (fun q hq ho => hf.block q hq (fun e => h.oy (by rw [← e]; exact ho))), h.ox, h.oy⟩
theorem CB.past (h : CB K go TB O L w sx sy RX RY) (hb : Below w.heap.size w w') : CB K go TB O L w' sx sy RX RY := ⟨h.cs.past hb, h.bd.past hb, h.ox, h.oy⟩
theorem CB.bldr (h : CB K go TB O L w sx sy RX RY) (hd : Bld O' K.lo go TB w' L') (hb : Below K.lo w w') (hg : Grew O O' w w') : CB K go TB O' L' w' sx sy RX RY :=
  ⟨h.cs.grew hg hb h.ox h.oy, hd, fun ho => by rcases hg.more _ ho with h1 | h1; exact h.ox h1; have := h.cs.xlt; omega, fun ho => by rcases hg.more _ ho with h1 | h1; exact h.oy h1; have := h.cs.ylt; omega⟩
theorem CB.weak (h : CB K go TB O L w sx sy RX RY) : CB K go TB O L w none none RX RY := ⟨h.cs.weak, h.bd, h.ox, h.oy⟩
theorem fr_set2 (g : Nat) (w : World) (x : Value) : Fr (fun q => q = g) w (w.setCell ⟨g, 2, none⟩ x) := (Fr.refl (fun q => q = g) w).setCell (p := ⟨g, 2, none⟩) rfl x
/-- the first cursor goes on by n -/
theorem CB.adv {m : Nat} (h : CB K go TB O L w (some m) sy RX RY) (hk : ¬ kindOf RX = 0) : ∃ d : Nat, d ≤ 200 ∧ w.cell? ⟨K.gx, 2, none⟩ = some (.int .i64 (d : Int)) ∧ w.frozen? ⟨K.gx, 2, none⟩ = false ∧ ∀ n, n ≤ m → CB K go TB O L (w.setCell ⟨K.gx, 2, none⟩ (.int .i64 ((d : Int) + (n : Int)))) none sy (RX.drop n) RY := by
  obtain ⟨d, h1, h2, h3, h4⟩ := h.cs.adv hk
  exact ⟨d, h1, h2, h3, fun n hn => h.mov (h4 n hn) (fr_set2 _ _ _)⟩
theorem CB.advy {m : Nat} (h : CB K go TB O L w sx (some m) RX RY) (hk : ¬ kindOf RY = 0) : ∃ d : Nat, d ≤ 200 ∧ w.cell? ⟨K.gy, 2, none⟩ = some (.int .i64 (d : Int)) ∧ w.frozen? ⟨K.gy, 2, none⟩ = false ∧ ∀ n, n ≤ m → CB K go TB O L (w.setCell ⟨K.gy, 2, none⟩ (.int .i64 ((d : Int) + (n : Int)))) sx none RX (RY.drop n) := by
  obtain ⟨d, h1, h2, h3, h4⟩ := h.cs.swap.adv hk
  exact ⟨d, h1, h2, h3, fun n hn => h.movy (h4 n hn).back (fr_set2 _ _ _)⟩
/-- both cursors go on by n -/
theorem CB.adv2 {mx my : Nat} (h : CB K go TB O L w (some mx) (some my) RX RY) (hkx : ¬ kindOf RX = 0) (hky : ¬ kindOf RY = 0) : ∃ d1 d2 : Nat, d1 ≤ 200 ∧ d2 ≤ 200 ∧ w.cell? ⟨K.gx, 2, none⟩ = some (.int .i64 (d1 : Int)) ∧ w.cell? ⟨K.gy, 2, none⟩ = some (.int .i64 (d2 : Int)) ∧ w.frozen? ⟨K.gx, 2, none⟩ = false ∧ w.frozen? ⟨K.gy, 2, none⟩ = false ∧
    ∀ n, n ≤ mx → n ≤ my → CB K go TB O L ((w.setCell ⟨K.gx, 2, none⟩ (.int .i64 ((d1 : Int) + (n : Int)))).setCell ⟨K.gy, 2, none⟩ (.int .i64 ((d2 : Int) + (n : Int)))) none none (RX.drop n) (RY.drop n) := by
  obtain ⟨d1, h1, h2, h3, h4⟩ := h.adv hkx
  obtain ⟨d2, k1, k2, k3, _⟩ := h.advy hky
  refine ⟨d1, d2, h1, k1, h2, k2, h3, k3, fun n hx hy => ?_⟩
  obtain ⟨d3, _, l2, _, l4⟩ := (h4 n hx).advy hky
  have e : (w.setCell ⟨K.gx, 2, none⟩ (.int .i64 ((d1 : Int) + (n : Int)))).cell? ⟨K.gy, 2, none⟩ = w.cell? ⟨K.gy, 2, none⟩ := World.cell?_of_block (heap_setCell_other _ _ _ _ (fun e => h.cs.ne e.symm))
  rw [e, k2] at l2
  injection l2 with l2
  injection l2 with _ l2
  rw [l2]
  exact l4 n hy
end
def KindB (K : Fx) (go : Nat) (TB : TypeId) (O : Nat → Prop) (L : List Pt) (sx sy : Option Nat) (RX RY : List U) (w : World) (e : Ending) (w' : World) : Prop :=
  e = .returned (.int .i64 (kindOf RX)) ∧ ∃ m, (∀ q, sx = some q → m = q) ∧ CB K go TB O L w' (some m) sy RX RY ∧ Below K.lo w w'
def KindBy (K : Fx) (go : Nat) (TB : TypeId) (O : Nat → Prop) (L : List Pt) (sx sy : Option Nat) (RX RY : List U) (w : World) (e : Ending) (w' : World) : Prop :=
  e = .returned (.int .i64 (kindOf RY)) ∧ ∃ m, (∀ q, sy = some q → m = q) ∧ CB K go TB O L w' sx (some m) RX RY ∧ Below K.lo w w'
def LeftB (K : Fx) (go : Nat) (TB : TypeId) (O : Nat → Prop) (L : List Pt) (m : Nat) (sx sy : Option Nat) (RX RY : List U) (w : World) (e : Ending) (w' : World) : Prop := e = .returned (.int .i64 (m : Int)) ∧ CB K go TB O L w' sx sy RX RY ∧ Below K.lo w w'
def TakeB (K : Fx) (go : Nat) (TB : TypeId) (O : Nat → Prop) (L : List Pt) (n : Nat) (sy : Option Nat) (RX RY : List U) (w : World) (e : Ending) (w' : World) : Prop :=
  ∃ A' c' zs, e = .returned (.slice A' n c') ∧ zs.length = n ∧ RX = zs.map .p ++ RX.drop n ∧ Row (Value.int .i64) w' w'.heap.size A' zs ∧ CB K go TB O L w' none sy (RX.drop n) RY ∧ Below K.lo w w'
def TakeBy (K : Fx) (go : Nat) (TB : TypeId) (O : Nat → Prop) (L : List Pt) (n : Nat) (sx : Option Nat) (RX RY : List U) (w : World) (e : Ending) (w' : World) : Prop :=
  ∃ A' c' zs, e = .returned (.slice A' n c') ∧ zs.length = n ∧ RY = zs.map .p ++ RY.drop n ∧ Row (Value.int .i64) w' w'.heap.size A' zs ∧ CB K go TB O L w' sx none RX (RY.drop n) ∧ Below K.lo w w'
def BldB (K : Fx) (go : Nat) (TB : TypeId) (L : List Pt) (sx sy : Option Nat) (RX RY : List U) (w : World) (e : Ending) (w' : World) : Prop := e = .returned (.tuple #[]) ∧ ∃ O', CB K go TB O' L w' sx sy RX RY ∧ Below K.lo w w'
section
variable {K : Fx} {go : Nat} {TB : TypeId} {O : Nat → Prop} {L : List Pt} {w : World} {sx sy : Option Nat} {RX RY : List U}
theorem CB.lo_le (h : CB K go TB O L w sx sy RX RY) : K.lo ≤ w.heap.size := h.bd.low
theorem CB.keepB {n : Int} (h : CB K go 122 O L w sx sy RX RY) (h0 : 0 ≤ n) (h1 : n ≤ 200) (hl : L.length < 100000) : Calls Tryd.prog 112 #[.pointer (some ⟨go, 0, none⟩), .int .i64 n] w (BldB K go 122 (L ++ [⟨1, n, []⟩]) sx sy RX RY w) := by
  refine (specKeepB O K.lo go L n w h.bd h0 h1 hl).mono ?_
  rintro e w' ⟨rfl, O', h1, h2, h3⟩
  exact ⟨rfl, O', h.bldr h1 h2 h3, h2⟩
theorem CB.dropB {n : Int} (h : CB K go 122 O L w sx sy RX RY) (h0 : 0 ≤ n) (h1 : n ≤ 200) (hl : L.length < 100000) : Calls Tryd.prog 114 #[.pointer (some ⟨go, 0, none⟩), .int .i64 n] w (BldB K go 122 (L ++ [⟨3, n, []⟩]) sx sy RX RY w) := by
  refine (specDropB O K.lo go L n w h.bd h0 h1 hl).mono ?_
  rintro e w' ⟨rfl, O', h1, h2, h3⟩
  exact ⟨rfl, O', h.bldr h1 h2 h3, h2⟩
theorem CB.putB {A : Option Addr} {c m : Nat} {zs : List Int} (h : CB K go 122 O L w sx sy RX RY) (hr : Row (Value.int .i64) w w.heap.size A zs) (hm : zs.length = m) (h1 : m ≤ 200) (hl : L.length < 100000) : Calls Tryd.prog 113 #[.pointer (some ⟨go, 0, none⟩), .slice A m c] w (BldB K go 122 (L ++ [⟨2, 0, zs⟩]) sx sy RX RY w) := by
  refine (specPutB O K.lo go L A c m zs w h.bd hr hm (by omega) hl).mono ?_
  rintro e w' ⟨rfl, O', h1, h2, h3⟩
  exact ⟨rfl, O', h.bldr h1 h2 h3, h2⟩
end
end Go.Proofs.YtbbpapaobehlcaaDoor.low


/-
  Transformation: the loop's invariant on units, how a round goes on; the results.
-/
namespace Go.Proofs.YtbbpapaobehlcaaDoor.low
open Go.RowKit
set_option linter.unusedVariables false

structure XInv (a b : List Pt) (RX RY : List U) (L M : List Pt) : Prop where
  eq1 : units L ++ (xf RX RY).1 = (xf (units a) (units b)).1
  eq2 : units M ++ (xf RX RY).2 = (xf (units a) (units b)).2
  bal : src RX = src RY
  len : L.length + M.length + 2 * RX.length + 2 * RY.length ≤ 4000
section
variable {a b : List Pt} {RX RY : List U} {L M : List Pt}
theorem XInv.px {zs : List Int} (h : XInv a b (zs.map .p ++ RX) RY L M) (hn : 0 < zs.length) : XInv a b RX RY (L ++ [⟨2, 0, zs⟩]) (M ++ [⟨1, (zs.length : Int), []⟩]) := by
  refine ⟨?_, ?_, ?_, ?_⟩
  · rw [← h.eq1, xf_puts, units_app]; simp [units, unitsP]
  · rw [← h.eq2, xf_puts, units_app]; simp [units, unitsP]
  · have := h.bal; rw [src_app, (src_mp zs).1] at this; omega
  · have := h.len; simp at this ⊢; omega
theorem XInv.py {zs : List Int} (h : XInv a b RX (zs.map .p ++ RY) L M) (hp : noP RX) (hn : 0 < zs.length) : XInv a b RX RY (L ++ [⟨1, (zs.length : Int), []⟩]) (M ++ [⟨2, 0, zs⟩]) := by
  refine ⟨?_, ?_, ?_, ?_⟩
  · rw [← h.eq1, xf_putsB _ _ _ hp, units_app]; simp [units, unitsP]
  · rw [← h.eq2, xf_putsB _ _ _ hp, units_app]; simp [units, unitsP]
  · have := h.bal; rw [src_app, (src_mp zs).1] at this; omega
  · have := h.len; simp at this ⊢; omega
theorem XInv.kk {n : Nat} (h : XInv a b (List.replicate n .k ++ RX) (List.replicate n .k ++ RY) L M) (hn : 0 < n) : XInv a b RX RY (L ++ [⟨1, (n : Int), []⟩]) (M ++ [⟨1, (n : Int), []⟩]) := by
  refine ⟨?_, ?_, ?_, ?_⟩
  · rw [← h.eq1, xf_kk, units_app]; simp [units, unitsP]
  · rw [← h.eq2, xf_kk, units_app]; simp [units, unitsP]
  · have := h.bal; rw [src_app, src_app, (src_rk n).1] at this; omega
  · have := h.len; simp at this ⊢; omega
theorem XInv.dk {n : Nat} (h : XInv a b (List.replicate n .d ++ RX) (List.replicate n .k ++ RY) L M) (hn : 0 < n) : XInv a b RX RY (L ++ [⟨3, (n : Int), []⟩]) M := by
  refine ⟨?_, ?_, ?_, ?_⟩
  · rw [← h.eq1, xf_dk, units_app]; simp [units, unitsP]
  · rw [← h.eq2, xf_dk]
  · have := h.bal; rw [src_app, src_app, (src_rk n).1, (src_rd n).1] at this; omega
  · have := h.len; simp at this ⊢; omega
theorem XInv.kd {n : Nat} (h : XInv a b (List.replicate n .k ++ RX) (List.replicate n .d ++ RY) L M) (hn : 0 < n) : XInv a b RX RY L (M ++ [⟨3, (n : Int), []⟩]) := by
  refine ⟨?_, ?_, ?_, ?_⟩
  · rw [← h.eq1, xf_kd]
  · rw [← h.eq2, xf_kd, units_app]; simp [units, unitsP]
  · have := h.bal; rw [src_app, src_app, (src_rk n).1, (src_rd n).1] at this; omega
  · have := h.len; simp at this ⊢; omega
theorem XInv.dd {n : Nat} (h : XInv a b (List.replicate n .d ++ RX) (List.replicate n .d ++ RY) L M) : XInv a b RX RY L M := by
  refine ⟨?_, ?_, ?_, ?_⟩
  · rw [← h.eq1, xf_dd]
  · rw [← h.eq2, xf_dd]
  · have := h.bal; rw [src_app, src_app, (src_rd n).1] at this; omega
  · have := h.len; simp at this ⊢; omega
end
/-- how a round goes on -/
theorem xf_cases {RX RY : List U} (h : src RX = src RY) : (RX = [] ∧ RY = []) ∨ kindOf RX = 2 ∨ (noP RX ∧ (kindOf RX = 0 ∨ kindOf RX = 1 ∨ kindOf RX = 3) ∧ kindOf RY = 2) ∨ ((kindOf RX = 1 ∨ kindOf RX = 3) ∧ (kindOf RY = 1 ∨ kindOf RY = 3)) := by
  rcases RX with _ | ⟨ux, RX⟩
  · rcases RY with _ | ⟨uy, RY⟩
    · exact .inl ⟨rfl, rfl⟩
    · cases uy with
      | k => simp [src] at h
      | p z => exact .inr (.inr (.inl ⟨trivial, .inl rfl, rfl⟩))
      | d => simp [src] at h
  · cases ux with
    | p z => exact .inr (.inl rfl)
    | k =>
      rcases RY with _ | ⟨uy, RY⟩
      · simp [src] at h
      · cases uy with
        | k => exact .inr (.inr (.inr ⟨.inl rfl, .inl rfl⟩))
        | p z => exact .inr (.inr (.inl ⟨trivial, .inr (.inl rfl), rfl⟩))
        | d => exact .inr (.inr (.inr ⟨.inl rfl, .inr rfl⟩))
    | d =>
      rcases RY with _ | ⟨uy, RY⟩
      · simp [src] at h
      · cases uy with
        | k => exact .inr (.inr (.inr ⟨.inr rfl, .inl rfl⟩))
        | p z => exact .inr (.inr (.inl ⟨trivial, .inr (.inr rfl), rfl⟩))
        | d => exact .inr (.inr (.inr ⟨.inr rfl, .inr rfl⟩))
/-- the two results -/
def xfA (a b : List Pt) : List Pt := doneN (foldU (xf (units a) (units b)).1)
def xfB (a b : List Pt) : List Pt := doneN (foldU (xf (units a) (units b)).2)
def xformOk (a b : List Pt) : Bool := okOp a && okOp b && (sumK a + sumD a == sumK b + sumD b) && okOp (xfA a b) && okOp (xfB a b)
def xformA (a b : List Pt) : List Pt := if xformOk a b = true then xfA a b else []
def xformB (a b : List Pt) : List Pt := if xformOk a b = true then xfB a b else []
theorem xinv0 {a b : List Pt} (hoa : okOp a = true) (hob : okOp b = true) (hbal : sumK a + sumD a = sumK b + sumD b) : XInv a b (units a) (units b) [] [] := by
  obtain ⟨ua, hsa, _⟩ := okOp_units hoa
  obtain ⟨ub, hsb, _⟩ := okOp_units hob
  refine ⟨by simp [units_nil], by simp [units_nil], ?_, by simp; omega⟩
  have s1 := (src_units hsa).1
  have s2 := (src_units hsb).1
  obtain ⟨t1, t2, t3⟩ := sum_t (okOp_partsB hoa)
  obtain ⟨u1, u2, u3⟩ := sum_t (okOp_partsB hob)
  rw [t1, t3, u1, u3] at hbal
  omega
/-- two cursors and two builders -/
structure TT (K : Fx) (g1 g2 : Nat) (TB : TypeId) (O P : Nat → Prop) (L M : List Pt) (w : World) (sx sy : Option Nat) (RX RY : List U) : Prop where
  cs : Cs K w sx sy RX RY
  b1 : Bld O K.lo g1 TB w L
  b2 : Bld P K.lo g2 TB w M
  ox : ¬ O K.gx
  oy : ¬ O K.gy
  px : ¬ P K.gx
  py : ¬ P K.gy
  dis : ∀ q, O q → ¬ P q
section
variable {K : Fx} {g1 g2 : Nat} {TB : TypeId} {O O' P P' : Nat → Prop} {L L' M M' : List Pt} {w w' : World} {sx sy sx' sy' : Option Nat} {RX RY RX' RY' : List U}
theorem TT.one (h : TT K g1 g2 TB O P L M w sx sy RX RY) : CB K g1 TB O L w sx sy RX RY := ⟨h.cs, h.b1, h.ox, h.oy⟩
theorem TT.two (h : TT K g1 g2 TB O P L M w sx sy RX RY) : CB K g2 TB P M w sx sy RX RY := ⟨h.cs, h.b2, h.px, h.py⟩
theorem TT.mov (h : TT K g1 g2 TB O P L M w sx sy RX RY) (hc : Cs K w' sx' sy' RX' RY') (hf : Fr (fun q => q = K.gx) w w') : TT K g1 g2 TB O P L M w' sx' sy' RX' RY' :=
  ⟨hc, (h.one.mov hc hf).bd, (h.two.mov hc hf).bd, h.ox, h.oy, h.px, h.py, h.dis⟩
theorem TT.movy (h : TT K g1 g2 TB O P L M w sx sy RX RY) (hc : Cs K w' sx' sy' RX' RY') (hf : Fr (fun q => q = K.gy) w w') : TT K g1 g2 TB O P L M w' sx' sy' RX' RY' :=
  ⟨hc, (h.one.movy hc hf).bd, (h.two.movy hc hf).bd, h.ox, h.oy, h.px, h.py, h.dis⟩
theorem TT.past (h : TT K g1 g2 TB O P L M w sx sy RX RY) (hb : Below w.heap.size w w') : TT K g1 g2 TB O P L M w' sx sy RX RY := ⟨h.cs.past hb, h.b1.past hb, h.b2.past hb, h.ox, h.oy, h.px, h.py, h.dis⟩
theorem TT.bldr (h : TT K g1 g2 TB O P L M w sx sy RX RY) (hd : Bld O' K.lo g1 TB w' L') (hb : Below K.lo w w') (hg : Grew O O' w w') : TT K g1 g2 TB O' P L' M w' sx sy RX RY := by
  have h1 := h.one.bldr hd hb hg
  obtain ⟨h2, h3⟩ := h.b2.apart hg (fun q hq ho => h.dis q ho hq)
  exact ⟨h1.cs, hd, h2, h1.ox, h1.oy, h.px, h.py, fun q ho hp => h3 q hp ho⟩
theorem TT.bldr2 (h : TT K g1 g2 TB O P L M w sx sy RX RY) (hd : Bld P' K.lo g2 TB w' M') (hb : Below K.lo w w') (hg : Grew P P' w w') : TT K g1 g2 TB O P' L M' w' sx sy RX RY := by
  have h1 := h.two.bldr hd hb hg
  obtain ⟨h2, h3⟩ := h.b1.apart hg h.dis
  exact ⟨h1.cs, h2, hd, h.ox, h.oy, h1.ox, h1.oy, h3⟩
theorem TT.weak (h : TT K g1 g2 TB O P L M w sx sy RX RY) : TT K g1 g2 TB O P L M w none none RX RY := ⟨h.cs.weak, h.b1, h.b2, h.ox, h.oy, h.px, h.py, h.dis⟩
theorem TT.lo_le (h : TT K g1 g2 TB O P L M w sx sy RX RY) : K.lo ≤ w.heap.size := h.b1.low
theorem TT.adv2 {mx my : Nat} (h : TT K g1 g2 TB O P L M w (some mx) (some my) RX RY) (hkx : ¬ kindOf RX = 0) (hky : ¬ kindOf RY = 0) : ∃ d1 d2 : Nat, d1 ≤ 200 ∧ d2 ≤ 200 ∧ w.cell? ⟨K.gx, 2, none⟩ = some (.int .i64 (d1 : Int)) ∧ w.cell? ⟨K.gy, 2, none⟩ = some (.int .i64 (d2 : Int)) ∧ w.frozen? ⟨K.gx, 2, none⟩ = false ∧ w.frozen? ⟨K.gy, 2, none⟩ = false ∧
    ∀ n, n ≤ mx → n ≤ my → TT K g1 g2 TB O P L M ((w.setCell ⟨K.gx, 2, none⟩ (.int .i64 ((d1 : Int) + (n : Int)))).setCell ⟨K.gy, 2, none⟩ (.int .i64 ((d2 : Int) + (n : Int)))) none none (RX.drop n) (RY.drop n) := by
  obtain ⟨d1, d2, h1, h2, h3, h4, h5, h6, h7⟩ := h.one.adv2 hkx hky
  obtain ⟨e1, e2, k1, k2, k3, k4, k5, k6, k7⟩ := h.two.adv2 hkx hky
  refine ⟨d1, d2, h1, h2, h3, h4, h5, h6, fun n hx hy => ?_⟩
  have r1 := h7 n hx hy
  have r2 := k7 n hx hy
  rw [k3] at h3
  rw [k4] at h4
  injection h3 with h3
  injection h3 with _ h3
  injection h4 with h4
  injection h4 with _ h4
  rw [h3, h4] at r2
  exact ⟨r1.cs, r1.bd, r2.bd, h.ox, h.oy, h.px, h.py, h.dis⟩
end
def KindT (K : Fx) (g1 g2 : Nat) (TB : TypeId) (O P : Nat → Prop) (L M : List Pt) (v : Int) (sx sy : Option Nat) (f : Nat → Option Nat × Option Nat) (s0 : Option Nat) (RX RY : List U) (w : World) (e : Ending) (w' : World) : Prop :=
  e = .returned (.int .i64 v) ∧ ∃ m, (∀ q, s0 = some q → m = q) ∧ TT K g1 g2 TB O P L M w' (f m).1 (f m).2 RX RY ∧ Below K.lo w w'
def LeftT (K : Fx) (g1 g2 : Nat) (TB : TypeId) (O P : Nat → Prop) (L M : List Pt) (m : Nat) (sx sy : Option Nat) (RX RY : List U) (w : World) (e : Ending) (w' : World) : Prop := e = .returned (.int .i64 (m : Int)) ∧ TT K g1 g2 TB O P L M w' sx sy RX RY ∧ Below K.lo w w'
def TakeT (K : Fx) (g1 g2 : Nat) (TB : TypeId) (O P : Nat → Prop) (L M : List Pt) (n : Nat) (sy : Option Nat) (RX RY : List U) (w : World) (e : Ending) (w' : World) : Prop :=
  ∃ A' c' zs, e = .returned (.slice A' n c') ∧ zs.length = n ∧ RX = zs.map .p ++ RX.drop n ∧ Row (Value.int .i64) w' w'.heap.size A' zs ∧ TT K g1 g2 TB O P L M w' none sy (RX.drop n) RY ∧ Below K.lo w w'
def TakeTy (K : Fx) (g1 g2 : Nat) (TB : TypeId) (O P : Nat → Prop) (L M : List Pt) (n : Nat) (sx : Option Nat) (RX RY : List U) (w : World) (e : Ending) (w' : World) : Prop :=
  ∃ A' c' zs, e = .returned (.slice A' n c') ∧ zs.length = n ∧ RY = zs.map .p ++ RY.drop n ∧ Row (Value.int .i64) w' w'.heap.size A' zs ∧ TT K g1 g2 TB O P L M w' sx none RX (RY.drop n) ∧ Below K.lo w w'
def BldT1 (K : Fx) (g1 g2 : Nat) (TB : TypeId) (P : Nat → Prop) (L M : List Pt) (sx sy : Option Nat) (RX RY : List U) (w : World) (e : Ending) (w' : World) : Prop := e = .returned (.tuple #[]) ∧ ∃ O', TT K g1 g2 TB O' P L M w' sx sy RX RY ∧ Below K.lo w w'
def BldT2 (K : Fx) (g1 g2 : Nat) (TB : TypeId) (O : Nat → Prop) (L M : List Pt) (sx sy : Option Nat) (RX RY : List U) (w : World) (e : Ending) (w' : World) : Prop := e = .returned (.tuple #[]) ∧ ∃ P', TT K g1 g2 TB O P' L M w' sx sy RX RY ∧ Below K.lo w w'
section
variable {K : Fx} {g1 g2 : Nat} {TB : TypeId} {O P : Nat → Prop} {L M : List Pt} {w : World} {sx sy : Option Nat} {RX RY : List U}
theorem TT.keep1 {n : Int} (h : TT K g1 g2 122 O P L M w sx sy RX RY) (h0 : 0 ≤ n) (h1 : n ≤ 200) (hl : L.length < 100000) : Calls Tryd.prog 112 #[.pointer (some ⟨g1, 0, none⟩), .int .i64 n] w (BldT1 K g1 g2 122 P (L ++ [⟨1, n, []⟩]) M sx sy RX RY w) := by
  refine (specKeepB O K.lo g1 L n w h.b1 h0 h1 hl).mono ?_
  rintro e w' ⟨rfl, O', h1, h2, h3⟩
  exact ⟨rfl, O', h.bldr h1 h2 h3, h2⟩
theorem TT.drop1 {n : Int} (h : TT K g1 g2 122 O P L M w sx sy RX RY) (h0 : 0 ≤ n) (h1 : n ≤ 200) (hl : L.length < 100000) : Calls Tryd.prog 114 #[.pointer (some ⟨g1, 0, none⟩), .int .i64 n] w (BldT1 K g1 g2 122 P (L ++ [⟨3, n, []⟩]) M sx sy RX RY w) := by
  refine (specDropB O K.lo g1 L n w h.b1 h0 h1 hl).mono ?_
  rintro e w' ⟨rfl, O', h1, h2, h3⟩
  exact ⟨rfl, O', h.bldr h1 h2 h3, h2⟩
theorem TT.put1 {A : Option Addr} {c m : Nat} {zs : List Int} (h : TT K g1 g2 122 O P L M w sx sy RX RY) (hr : Row (Value.int .i64) w w.heap.size A zs) (hm : zs.length = m) (h1 : m ≤ 200) (hl : L.length < 100000) : Calls Tryd.prog 113 #[.pointer (some ⟨g1, 0, none⟩), .slice A m c] w (BldT1 K g1 g2 122 P (L ++ [⟨2, 0, zs⟩]) M sx sy RX RY w) := by
  refine (specPutB O K.lo g1 L A c m zs w h.b1 hr hm (by omega) hl).mono ?_
  rintro e w' ⟨rfl, O', h1, h2, h3⟩
  exact ⟨rfl, O', h.bldr h1 h2 h3, h2⟩
theorem TT.keep2 {n : Int} (h : TT K g1 g2 122 O P L M w sx sy RX RY) (h0 : 0 ≤ n) (h1 : n ≤ 200) (hl : M.length < 100000) : Calls Tryd.prog 112 #[.pointer (some ⟨g2, 0, none⟩), .int .i64 n] w (BldT2 K g1 g2 122 O L (M ++ [⟨1, n, []⟩]) sx sy RX RY w) := by
  refine (specKeepB P K.lo g2 M n w h.b2 h0 h1 hl).mono ?_
  rintro e w' ⟨rfl, O', h1, h2, h3⟩
  exact ⟨rfl, O', h.bldr2 h1 h2 h3, h2⟩
theorem TT.drop2 {n : Int} (h : TT K g1 g2 122 O P L M w sx sy RX RY) (h0 : 0 ≤ n) (h1 : n ≤ 200) (hl : M.length < 100000) : Calls Tryd.prog 114 #[.pointer (some ⟨g2, 0, none⟩), .int .i64 n] w (BldT2 K g1 g2 122 O L (M ++ [⟨3, n, []⟩]) sx sy RX RY w) := by
  refine (specDropB P K.lo g2 M n w h.b2 h0 h1 hl).mono ?_
  rintro e w' ⟨rfl, O', h1, h2, h3⟩
  exact ⟨rfl, O', h.bldr2 h1 h2 h3, h2⟩
theorem TT.put2 {A : Option Addr} {c m : Nat} {zs : List Int} (h : TT K g1 g2 122 O P L M w sx sy RX RY) (hr : Row (Value.int .i64) w w.heap.size A zs) (hm : zs.length = m) (h1 : m ≤ 200) (hl : M.length < 100000) : Calls Tryd.prog 113 #[.pointer (some ⟨g2, 0, none⟩), .slice A m c] w (BldT2 K g1 g2 122 O L (M ++ [⟨2, 0, zs⟩]) sx sy RX RY w) := by
  refine (specPutB P K.lo g2 M A c m zs w h.b2 hr hm (by omega) hl).mono ?_
  rintro e w' ⟨rfl, O', h1, h2, h3⟩
  exact ⟨rfl, O', h.bldr2 h1 h2 h3, h2⟩
end
theorem OwB.grew2 {O O' : Nat → Prop} {lo hi : Nat} {w w' : World} {d : Dat} {v : Value} {b : List Nat} (h : OwB lo hi w d v b) (hg : Grew O O' w w') (hO : ∀ x ∈ b, ¬ O x) : OwB lo hi w' d v b :=
  ⟨OwC.keep d v b h.ow (fun x hx => hg.block x (OwC.lt d v b h.ow x hx) (hO x hx)), h.nd, h.rng, Nat.le_trans h.top hg.size, h.le⟩
theorem OwB.upto {lo hi hi' : Nat} {w : World} {d : Dat} {v : Value} {b : List Nat} (h : OwB lo hi w d v b) (h1 : hi ≤ hi') (h2 : hi' ≤ w.heap.size) : OwB lo hi' w d v b := ⟨h.ow, h.nd, fun x hx => ⟨(h.rng x hx).1, Nat.lt_of_lt_of_le (h.rng x hx).2 h1⟩, h2, Nat.le_trans h.le h1⟩
theorem xf_small {a b : List Pt} (h : xformOk a b = true) : SmP (xfA a b) ∧ SmP (xfB a b) := by
  unfold xformOk at h
  rw [Bool.and_eq_true, Bool.and_eq_true] at h
  obtain ⟨_, h1, h2⟩ := okOp_units h.1.2
  obtain ⟨_, h3, h4⟩ := okOp_units h.2
  have := signsIn_le h1
  have := signsIn_le h3
  exact ⟨⟨by omega, by omega⟩, ⟨by omega, by omega⟩⟩
theorem smP_nil : SmP [] := ⟨by simp, by simp [signsIn]⟩
theorem xformA_sm (a b : List Pt) : SmP (xformA a b) := by
  unfold xformA
  split
  · rename_i h; exact (xf_small h).1
  · exact smP_nil
theorem xformB_sm (a b : List Pt) : SmP (xformB a b) := by
  unfold xformB
  split
  · rename_i h; exact (xf_small h).2
  · exact smP_nil
theorem transform_small0 {a b : List Pt} (h0 : SmP a) (h1 : SmP b) : SmP (xformA a b) := xformA_sm a b
theorem transform_small1 {a b : List Pt} (h0 : SmP a) (h1 : SmP b) : SmP (xformB a b) := xformB_sm a b
end Go.Proofs.YtbbpapaobehlcaaDoor.low


/-
  append(out, x) where out is an owned slice of whatever rows and x is one row of data of the caller's own.
-/
namespace Go.Proofs.YtbbpapaobehlcaaDoor.low
open Go.RowKit
set_option linter.unusedVariables false

theorem wpList_append_row {w : World} {ops : Array Oper} {rest : List Oper} {o : Oper} {a : Act} {Q : Exit → Act → World → Prop} (hgd : o.guard = none) (s x : Operand) (t : TypeId)
    (ho : o.op = .call { callee := .builtin .append, args := #[s, x], argTypes := #[t, t] }) (e : TypeId) (i : TypeInfo) (z : Value) (sz bytes : Nat) (ht : Tryd.prog.underlying t = some (.slice e)) (hi : Tryd.prog.info? e = some i) (hz : i.zero = some z) (hsize : i.size = sz) (hby : i.bytes = bytes) (hzs : z.cells.size = sz) (hsz : 0 < sz) (hbm : bytes ≤ 100000)
    (lo hi' : Nat) (v : Value) (ds : List (List Dat)) (b : List Nat) (h : OwB lo hi' w (.rows e sz ds) v b) (hs : a.eval s = v) (hlen : ds.length ≤ 2000000)
    (ad : Addr) (c0 : Nat) (ys : List Value) (hx : a.eval x = .slice (some ad) 1 c0) (hl : ys.length = sz) (hnews : ∀ j u, ys[j]? = some u → w.cell? (ad.add j) = some u) (h1 : ∀ u ∈ ys, u.oneCell' = true)
    (r : List Dat) (c : List Nat) (hr : OwL w r ys c) (hcn : c.Nodup) (hbc : ∀ q ∈ b, q ∉ c) (hcr : ∀ q ∈ c, lo ≤ q)
    (K : ∀ A' c' w' b', OwB lo w'.heap.size w' (.rows e sz (ds ++ [r])) (.slice A' (ds.length + 1) c') b' → (∀ q ∈ b', q ∈ b ∨ q ∈ c ∨ w.heap.size ≤ q) → Grew (fun q => q ∈ b) (fun q => q ∈ b ∨ w.heap.size ≤ q) w w' → Below lo w w' → wpList Tryd.prog ops Q rest (a.put o.dst (.slice A' (ds.length + 1) c')) w') : wpList Tryd.prog ops Q (o :: rest) a w := by
  have hnd := h.nd
  have hrg := h.rng
  obtain ⟨xs, cs, ho', hor, hb⟩ := h.ow
  refine wpList_append_lies _ hgd s x t ho 0 e i z sz bytes ht hi hz hsize hby hzs hsz v ds.length xs hs ho' ad 1 c0 ys hx (by simp [hl]) hnews h1 (by omega) (by unfold maxLen; omega) ?_ (Nat.zero_le _) _ rfl ?_
  · have : (ds.length + 1) * bytes ≤ 2000001 * 100000 := Nat.mul_le_mul (by omega) hbm
    omega
  intro g cap w' hown hg hat hlt
  rw [hb] at hnd
  obtain ⟨n1, n2, n3⟩ := List.nodup_append.1 hnd
  have own_mem : ∀ q, v.ownBlock = some q → q ∈ b := fun q hq => by rw [hb, hq]; simp
  have hcs : ∀ q ∈ cs, w'.heap[q]? = w.heap[q]? := fun q hq => hg.block q (OwR.lt sz _ _ _ hor q hq) (fun e => n3 q (by rw [← e]; simp) q hq rfl)
  have hcc : ∀ q ∈ c, w'.heap[q]? = w.heap[q]? := fun q hq => hg.block q (OwL.lt _ _ _ hr q hq) (fun e => hbc q (own_mem q e.symm) hq)
  have hor' := (OwR.keep sz _ _ _ hor hcs).append (OwR.one (OwL.keep _ _ _ hr hcc) hl)
  have g1 : g ∉ cs := fun hq => by
    rcases hat with e | e
    · exact n3 g (by rw [e]; simp) g hq rfl
    · have := OwR.lt sz _ _ _ hor g hq; omega
  have g2 : g ∉ c := fun hq => by
    rcases hat with e | e
    · exact hbc g (own_mem g e) hq
    · have := OwL.lt _ _ _ hr g hq; omega
  have g3 : lo ≤ g ∧ (g ∈ b ∨ w.heap.size ≤ g) := by
    rcases hat with e | e
    · exact ⟨(hrg g (own_mem g e)).1, .inl (own_mem g e)⟩
    · have := h.top; have := h.le; exact ⟨by omega, .inr (by omega)⟩
  have hsz' := hg.size
  have ht' := h.top
  refine K _ cap w' (g :: (cs ++ c)) ⟨⟨xs ++ ys, cs ++ c, by rw [List.length_append]; exact hown, hor', rfl⟩, ?_, ?_, Nat.le_refl _, by have := h.le; omega⟩ ?_ ⟨hg.size, fun q hq hn => hg.block q hq (fun e => hn (own_mem q e.symm)), fun q hq => hq⟩ ?_
  · refine List.nodup_cons.2 ⟨fun hq => ?_, List.nodup_append.2 ⟨n2, hcn, fun q hq q' hq' e => ?_⟩⟩
    · rcases List.mem_append.1 hq with hq | hq
      · exact g1 hq
      · exact g2 hq
    · subst e
      exact hbc q (by rw [hb]; simp [hq]) hq'
  · intro q hq
    rcases List.mem_cons.1 hq with rfl | hq
    · exact ⟨g3.1, hlt⟩
    · rcases List.mem_append.1 hq with hq | hq
      · have := hrg q (by rw [hb]; simp [hq]); exact ⟨this.1, by omega⟩
      · have := OwL.lt _ _ _ hr q hq; exact ⟨hcr q hq, by omega⟩
  · intro q hq
    rcases List.mem_cons.1 hq with rfl | hq
    · rcases g3.2 with h | h
      · exact .inl h
      · exact .inr (.inr h)
    · rcases List.mem_append.1 hq with hq | hq
      · exact .inl (by rw [hb]; simp [hq])
      · exact .inr (.inl hq)
  · exact (Below.refl lo w).grown hg (by have := h.le; omega) (fun k hk => (hrg k (own_mem k hk)).1)
/-- one cell that owns a datum -/
theorem OwC.row1 {w : World} {d : Dat} {v : Value} {b : List Nat} (h : OwC w d v b) : OwL w [d] [v] b := ⟨v, [], b, [], rfl, by simp, h, rfl, rfl⟩
end Go.Proofs.YtbbpapaobehlcaaDoor.low


/-
  Contract of spec.TextSign.
-/
namespace Go.Proofs.YtbbpapaobehlcaaDoor.low
open Go.RowKit
set_option linter.unusedVariables false

def tsL (s : ByteArray) : List Int := (textSign s).getD []
def tsB (s : ByteArray) : Bool := (textSign s).isSome
theorem ts_t {s : ByteArray} {zs : List Int} (h : textSign s = some zs) : tsL s = zs ∧ tsB s = true := by unfold tsL tsB; rw [h]; exact ⟨rfl, rfl⟩
theorem ts_f {s : ByteArray} (h : textSign s = none) : tsL s = [] ∧ tsB s = false := by unfold tsL tsB; rw [h]; exact ⟨rfl, rfl⟩
theorem cutL_le (m : Nat) : ∀ (l acc : List UInt8), ∀ x ∈ cutL_ m acc l, x.length ≤ acc.length + l.length
  | [], acc, x, hx => by simp [cutL_] at hx; subst hx; simp
  | c :: l, acc, x, hx => by
    rw [cutL_] at hx
    split at hx
    · rcases List.mem_cons.1 hx with rfl | hx
      · omega
      · have := cutL_le m l [] x hx; simp at this ⊢; omega
    · have := cutL_le m l _ x hx; simp at this ⊢; omega
theorem cuts_le {s x : ByteArray} {m : Nat} (h : x ∈ cuts s m) : x.size ≤ s.size := by
  rw [cuts_list] at h
  obtain ⟨l, hl, rfl⟩ := List.mem_map.1 h
  have := cutL_le m _ _ l hl
  rw [mkB_size]
  simpa using this
theorem sbuf_at {base k : Nat} {w : World} {v : Value} {xs : List ByteArray} (h : SBuf base w v xs) (hk : k < xs.length) : ∃ g cap x, v = .slice (some ⟨g, 0, none⟩) xs.length cap ∧ base ≤ g ∧ g < w.heap.size ∧ xs[k]? = some x ∧ w.cell? ⟨g, k, none⟩ = some (.string x) := by
  obtain ⟨x, hx⟩ := idx_some (l := xs) (i := k) hk
  rcases h.1.2 with ⟨rfl, h0⟩ | ⟨g, cap, cur, rfl, hge, hh, _⟩
  · omega
  · have := h.1.cellAt k (by omega)
    rw [List.getElem?_map, hx] at this
    exact ⟨g, cap, x, rfl, hge, lt_of_some hh, hx, this⟩
theorem dash_l : (mkB [45]).toList = [45] := by rw [ByteArray.toList_eq]; rfl
theorem dash_t : ((mkB [45]).toList == [45]) = true := by rw [dash_l]; rfl
theorem not_dash {s : ByteArray} (h : ¬ s = mkB [45]) : (s.toList == [45]) = false := by
  have := nt.str_ne h
  rwa [dash_l] at this
theorem resI_nil {w w' : World} (hb : Below w.heap.size w w') : ResB (encInts []) false w (.returned (.tuple #[.slice none 0 0, .bool false])) w' := ⟨_, rfl, nilOwn _ w' rfl hb.size, hb⟩
set_option maxRecDepth 100000 in
set_option maxHeartbeats 800000 in
theorem specTextSign_d (s : ByteArray) (w : World) (hs : s.size ≤ 1048576) : Calls Tryd.prog 38 #[.string s] w (ResB (encInts (tsL s)) (tsB s) w) := by
  obtain ⟨i0, hi0, hz0, hz1, hz2⟩ := info_parts int_info
  have hbn := alloc_below w (.cells #[] 3)
  have hib : OwB w.heap.size (w.alloc (.cells #[] 3)).heap.size (w.alloc (.cells #[] 3)) (encInts []) (.slice (some ⟨w.heap.size, 0, none⟩) 0 0) [w.heap.size] :=
    ⟨⟨[], [], ⟨rfl, .inr ⟨w.heap.size, 0, #[], rfl, Nat.zero_le _, heap_alloc_new w _, Nat.le_refl _, by unfold maxLen; omega, rfl, rfl⟩⟩, ⟨rfl, rfl⟩, rfl⟩, by simp, fun x hx => by obtain rfl : x = w.heap.size := (by simpa using hx); exact ⟨Nat.le_refl _, lt_of_some (heap_alloc_new w _)⟩, Nat.le_refl _, hbn.size⟩
  have HIB := Lib.hid hib
  clear hib
  by_cases hd : s = mkB [45]
  · subst hd
    have e1 := dash_t
    have HT := Lib.hid (ts_t textSign_dash)
    go_enter Tryd.func38, Tryd.ntmps38
    go_wp2
    go_ret2
    rw [HT.out.1, HT.out.2]
    exact ⟨_, rfl, ⟨_, HIB.out.ow, HIB.out.nd, HIB.out.rng, HIB.out.top, HIB.out.le⟩, hbn⟩
  · have e1 := not_dash hd
    have HD := Lib.hid hd
    clear hd
    go_enter Tryd.func38, Tryd.ntmps38
    go_wp2_with fail
    have hs1 : (w.alloc (.cells #[] 3)).heap.size = w.heap.size + 1 := by simp
    generalize w.alloc (.cells #[] 3) = w1 at *
    refine (specSplit_any s 46 w1 hs).mono ?_
    rintro e w2 ⟨v2, rfl, sb, b2⟩
    have hcl := cuts_len s 46 hs
    have D := hbn.trans (b2.mono hbn.size)
    have HR0 := Lib.hid ((HIB.out.past b2).upto b2.size (Nat.le_refl _))
    have hz2' := b2.size
    obtain ⟨A2, c2, rfl, _⟩ := sb.slice
    have HSB := Lib.hid sb
    have HLE := Lib.hid (show ∀ x ∈ cuts s 46, x.size ≤ 1048576 from fun x hx => Nat.le_trans (cuts_le hx) hs)
    generalize hxs : cuts s 46 = xs at *
    have HXS := Lib.hid hxs
    clear sb b2 HIB hxs
    go_wp2
    go_loopw [4, 16] (fun o i wr => ∃ (k : Nat) (acc : List Int) (b : List Nat), k ≤ xs.length ∧ i = .int .i64 k ∧ readAll (xs.take k) = some acc ∧ OwB w.heap.size wr.heap.size wr (encInts acc) o b ∧ (∀ q ∈ b, q = w.heap.size ∨ w2.heap.size ≤ q) ∧ (∀ q, w.heap.size < q → q < w2.heap.size → wr.heap[q]? = w2.heap[q]?) ∧ w2.heap.size ≤ wr.heap.size ∧ Below w.heap.size w wr) (fun _ i _ => xs.length - (intOf i).toNat)
    case atStart => exact ⟨0, [], _, Nat.zero_le _, rfl, rfl, HR0.out, fun q hq => .inl (by simpa using hq), fun _ _ _ => rfl, Nat.le_refl _, D⟩
    case round =>
      obtain ⟨k, acc, b, hk, rfl, hf, ow, hb, hsame, hzr, hbel⟩ := hrel
      obtain ⟨A1, c1, rfl⟩ := sliceI ow.read
      have hal : acc.length ≤ 1048577 := by rw [readAll_len hf, List.length_take]; omega
      have HF := Lib.hid hf
      have HOW := Lib.hid ow
      have HBB := Lib.hid hb
      have HSM := Lib.hid hsame
      clear hf ow hb hsame HR0 D
      by_cases hlt : k < xs.length
      · obtain ⟨g, cap, x, hv, hge, hgl, hx, hc⟩ := sbuf_at HSB.out hlt
        obtain ⟨rfl, rfl⟩ : A2 = some ⟨g, 0, none⟩ ∧ c2 = cap := by injection hv with q1 _ q3; exact ⟨q1, q3⟩
        have hc' : wr.cell? ⟨g, k, none⟩ = some (.string x) := (World.cell?_of_block (w := w2) (HSM.out g (by omega) hgl)).trans hc
        have hxs := HLE.out x (List.mem_of_getElem? hx)
        have K1 := Lib.hid (show readAll (xs.take (k + 1)) = (goodN x).map (fun z => acc ++ [z]) by rw [List.take_add_one, hx]; simp only [Option.toList_some]; rw [readAll_snoc, HF.out])
        clear hc hx hv
        by_cases hn : nt.Num x
        · generalize hpz : ((nt.parse x.data.toList : Nat) : Int) = z at *
          cases hsg : signB z
          · have HN := Lib.hid (ts_f (textSign_none HD.out (by rw [HXS.out]; exact readAll_none (k := k + 1) (by rw [K1.out, goodN_f (fun h => by rw [hpz, hsg] at h; exact absurd h.2 (by simp))]; rfl))))
            have HNN := Lib.hid hn
            clear hn
            go_wp2_with fail
            refine (nt.specTextNum_any x _ hxs).mono ?_
            rintro e w3 ⟨⟨h3, _⟩, b3⟩
            obtain rfl := h3 HNN.out
            rw [hpz]
            go_wp2_with fail
            refine (specSignOk_any z _).mono ?_
            rintro e w4 ⟨rfl, rfl⟩
            rw [hsg]
            go_wp2
            go_ret2
            rw [HN.out.1, HN.out.2]
            exact resI_nil (hbel.trans (b3.mono hbel.size))
          · have K2 := Lib.hid (show readAll (xs.take (k + 1)) = some (acc ++ [z]) by rw [K1.out, ← hpz, goodN_t hn (by rw [hpz]; exact hsg)]; rfl)
            have HNN := Lib.hid hn
            clear hn K1
            go_wp2_with fail
            refine (nt.specTextNum_any x _ hxs).mono ?_
            rintro e w3 ⟨⟨h3, _⟩, b3⟩
            obtain rfl := h3 HNN.out
            rw [hpz]
            clear hpz h3
            go_wp2_with fail
            refine (specSignOk_any z _).mono ?_
            rintro e w4 ⟨rfl, rfl⟩
            rw [hsg]
            have bA := alloc_below w3 (.cells #[.int .i64 z] 3)
            have HO1' := Lib.hid ((HOW.out.past b3).past bA)
            have hnews : ∀ (j : Nat) (u : Value), [Value.int .i64 z][j]? = some u → (w3.alloc (.cells #[.int .i64 z] 3)).cell? ((⟨w3.heap.size, 0, none⟩ : Addr).add j) = some u := fun j u hu => by
              cases j with
              | zero =>
                simp at hu
                subst hu
                exact cell_of_row _ _ 0 _ _ _ (heap_alloc_new w3 _)
              | succ j => simp at hu
            have HNW := Lib.hid hnews
            have hlx : (acc.map fun z => [Dat.int z]).length ≤ 2000000 := by rw [List.length_map]; omega
            have D3 := hbel.trans (b3.mono hbel.size)
            have DA := D3.trans (bA.mono D3.size)
            have hlo := hbel.size
            have hz3 := b3.size
            clear hnews
            go_wp2_with (at_builtin; refine wpList_append_row rfl (.tmp 32) (.tmp 34) 23 rfl 3 i0 (.int .i64 0) 1 8 Tryd.underlying23 hi0 hz0 hz1 hz2 rfl (by decide) (by decide) w.heap.size _ (.slice A1 acc.length c1) (acc.map fun z => [Dat.int z]) b HO1'.out rfl hlx ⟨w3.heap.size, 0, none⟩ _ [.int .i64 z] rfl rfl HNW.out (by simp [Value.oneCell']) [Dat.int z] [] ⟨_, [], [], [], rfl, rfl, ⟨rfl, rfl⟩, rfl, rfl⟩ (by simp) (by simp) (by simp) ?_; intro A7 c7 w7 b7 o7 in7 g7 bl7)
            have o7' : OwB w.heap.size w7.heap.size w7 (encInts (acc ++ [z])) (.slice A7 (acc.length + 1) c7) b7 := by
              have e : encInts (acc ++ [z]) = .rows 3 1 ((acc.map fun z => [Dat.int z]) ++ [[Dat.int z]]) := by unfold encInts; rw [List.map_append]; rfl
              rw [e]
              simpa using o7
            have HO7 := Lib.hid o7'
            have D7 := DA.trans bl7
            have hz7 : w2.heap.size ≤ w7.heap.size := Nat.le_trans hzr (Nat.le_trans hz3 (Nat.le_trans bA.size g7.size))
            have HB7 := Lib.hid (show ∀ q ∈ b7, q = w.heap.size ∨ w2.heap.size ≤ q from fun q hq => by
              rcases in7 q hq with h1 | h1 | h1
              · exact HBB.out q h1
              · simp at h1
              · exact .inr (by simp at h1; omega))
            have HS7 := Lib.hid (show ∀ q, w.heap.size < q → q < w2.heap.size → w7.heap[q]? = w2.heap[q]? from fun q h1 h2 => by
              rw [g7.block q (by simp; omega) (fun hq => by rcases HBB.out q hq with h | h <;> omega), bA.block q (by omega), b3.block q (by omega)]
              exact HSM.out q h1 h2)
            clear o7 o7' in7 g7 bl7 HO1' HNW bA b3
            go_wp2
            go_roundw
            case rel => exact ⟨k + 1, _, _, by omega, by go_num, K2.out, by simpa using HO7.out, HB7.out, HS7.out, hz7, D7⟩
            case measure => simp [intOf]; omega
        · have HN := Lib.hid (ts_f (textSign_none HD.out (by rw [HXS.out]; exact readAll_none (k := k + 1) (by rw [K1.out, goodN_f (fun h => hn h.1)]; rfl))))
          have HNN := Lib.hid hn
          clear hn
          go_wp2_with fail
          refine (nt.specTextNum_any x _ hxs).mono ?_
          rintro e w3 ⟨⟨_, h3⟩, b3⟩
          obtain rfl := h3 HNN.out
          go_wp2
          go_ret2
          rw [HN.out.1, HN.out.2]
          exact resI_nil (hbel.trans (b3.mono hbel.size))
      · have hke : xs.take k = xs := List.take_of_length_le (by omega)
        have K1 := Lib.hid (textSign_some HD.out (by rw [HXS.out, ← hke]; exact HF.out))
        obtain ⟨A_, c_, eA, hra, _⟩ := ints_rd HOW.out.read
        obtain ⟨rfl, rfl⟩ : A1 = A_ ∧ c1 = c_ := by injection eA with q1 _ q3; exact ⟨q1, q3⟩
        clear eA
        go_wp2_with fail
        refine (specSignText_any A1 c1 acc _ hra (by omega)).mono ?_
        rintro e w3 ⟨rfl, b3⟩
        have HO3 := Lib.hid ((HOW.out.past b3).upto b3.size (Nat.le_refl _))
        have D3 := hbel.trans (b3.mono hbel.size)
        by_cases hq : signT acc = s
        · have HN := Lib.hid (ts_t (by rw [K1.out, if_pos hq]))
          rw [hq]
          clear hq
          go_wp2
          go_ret2
          rw [HN.out.1, HN.out.2]
          exact ⟨_, rfl, ⟨_, HO3.out.ow, HO3.out.nd, HO3.out.rng, HO3.out.top, HO3.out.le⟩, D3⟩
        · have HN := Lib.hid (ts_f (by rw [K1.out, if_neg hq]))
          have e2 := nt.str_ne hq
          clear hq
          generalize signT acc = t at *
          go_wp2
          go_ret2
          rw [HN.out.1, HN.out.2]
          exact resI_nil D3
end Go.Proofs.YtbbpapaobehlcaaDoor.low


/-
  The text of an operation: the functions behind OpText and TextOp.
-/
namespace Go.Proofs.YtbbpapaobehlcaaDoor.low
open Go.RowKit
set_option linter.unusedVariables false

def partL (p : Pt) : List UInt8 := if p.kind = 1 then 107 :: numL p.n else if p.kind = 2 then 112 :: signL p.signs else 100 :: numL p.n
theorem partL_ne (p : Pt) : partL p ≠ [] := by unfold partL; split; simp; split <;> simp
def opJ (ps : List Pt) : List UInt8 := joinL 32 (ps.map partL)
def opL (ps : List Pt) : List UInt8 := if ps = [] then [45] else opJ ps
def opT (ps : List Pt) : ByteArray := if okOp ps = true then mkB (opL (normL ps)) else ByteArray.empty
theorem opT_t {ps : List Pt} (h : okOp ps = true) : opT ps = mkB (opL (normL ps)) := by unfold opT; rw [if_pos h]
theorem opT_f {ps : List Pt} (h : okOp ps = false) : opT ps = ByteArray.empty := by unfold opT; rw [if_neg (by simp [h])]
theorem opJ_snoc {ps : List Pt} {k : Nat} {p : Pt} (h : ps[k]? = some p) : opJ (ps.take (k + 1)) = if k = 0 then partL p else opJ (ps.take k) ++ 32 :: partL p := by
  unfold opJ
  rw [List.take_add_one, h]
  simp only [Option.toList_some, List.map_append, List.map_cons, List.map_nil]
  rw [joinL_snoc]
  by_cases hk : k = 0
  · subst hk; simp
  · have hlt : k < ps.length := idx_lt h
    rw [if_neg hk, if_neg (by cases ps with | nil => simp at hlt | cons y ys => cases k with | zero => exact absurd rfl hk | succ k => simp)]
theorem opJ_ne : ∀ {ps : List Pt}, ps ≠ [] → opJ ps ≠ []
  | [], h => absurd rfl h
  | [p], _ => by simpa [opJ, joinL] using partL_ne p
  | p :: q :: ps, _ => by simp [opJ, joinL]
theorem signL_len {zs : List Int} (h : allB zs = true) : (signL zs).length ≤ 11 * zs.length + 1 := by
  unfold signL
  split
  · simp
  · have := signJ_len h; unfold signJ at this; omega
theorem partL_len {p : Pt} (h : okPt p = true) : (partL p).length ≤ 2202 := by
  unfold partL
  rcases of_okPt h with ⟨hk, hn, hz⟩ | ⟨hk, hn, ha, hl⟩
  · have := (numL_len (z := p.n) (by omega)).2
    rcases hk with hk | hk
    · rw [if_pos hk, List.length_cons]; omega
    · rw [if_neg (by omega), if_neg (by omega), List.length_cons]; omega
  · rw [if_neg (by omega), if_pos hk, List.length_cons]
    have := signL_len ha
    omega
theorem opJ_len {ps : List Pt} (h : okPs ps = true) : (opJ ps).length ≤ 2203 * ps.length := by
  have := joinL_len 32 (k := 2202) (xs := ps.map partL) (fun x hx => by
    obtain ⟨p, hp, rfl⟩ := List.mem_map.1 hx
    exact partL_len (List.all_eq_true.1 h p hp))
  rw [List.length_map] at this
  exact this
theorem okOp_partsB_ {ps : List Pt} (h : okOp ps = true) : partsB ps = true := by
  unfold okOp at h
  cases hp : partsB ps
  · rw [hp] at h; simp at h
  · rfl
/-- the part whose text a piece is -/
def readP (x : ByteArray) : Option Pt := match x.data.toList with
  | c :: d :: r => if c.toNat = 112 then (textSign (mkB (d :: r))).map (fun zs => ⟨2, 0, zs⟩)
    else if Lib.decDigits (nt.parse (d :: r)) = d :: r ∧ nt.parse (d :: r) ≤ 1000000000 then some ⟨if c.toNat = 107 then 1 else if c.toNat = 100 then 3 else 0, (nt.parse (d :: r) : Nat), []⟩ else none
  | _ => none
def readAllP : List ByteArray → Option (List Pt)
  | [] => some []
  | x :: xs => match readP x with
    | none => none
    | some p => (readAllP xs).map (p :: ·)
theorem readAllP_snoc (x : ByteArray) : ∀ xs : List ByteArray, readAllP (xs ++ [x]) = match readAllP xs with
    | none => none
    | some ps => (readP x).map (fun p => ps ++ [p])
  | [] => by simp only [List.nil_append, readAllP]; cases readP x <;> rfl
  | y :: ys => by
    have ih := readAllP_snoc x ys
    simp only [List.cons_append, readAllP]
    cases readP y with
    | none => rfl
    | some p =>
      simp only
      rw [ih]
      cases readAllP ys with
      | none => rfl
      | some ps => simp only [Option.map_some]; cases readP x <;> rfl
theorem readAllP_none {xs : List ByteArray} {k : Nat} (h : readAllP (xs.take k) = none) : readAllP xs = none := by
  have key : ∀ (ys zs : List ByteArray), readAllP ys = none → readAllP (ys ++ zs) = none := by
    intro ys
    induction ys with
    | nil => intro zs h; cases h
    | cons y ys ih =>
      intro zs h
      simp only [List.cons_append, readAllP] at h ⊢
      cases hg : readP y with
      | none => rfl
      | some z =>
        rw [hg] at h
        simp only [Option.map_eq_none_iff] at h ⊢
        exact ih zs h
  have := key _ (xs.drop k) h
  rwa [List.take_append_drop] at this
theorem readAllP_len : ∀ {xs : List ByteArray} {ps : List Pt}, readAllP xs = some ps → ps.length = xs.length
  | [], ps, h => by simp [readAllP] at h; subst h; rfl
  | x :: xs, ps, h => by
    simp only [readAllP] at h
    cases hg : readP x with
    | none => rw [hg] at h; cases h
    | some p =>
      rw [hg] at h
      simp only [Option.map_eq_some_iff] at h
      obtain ⟨ys, h1, rfl⟩ := h
      simp [readAllP_len h1]
/-- the operation whose text s is -/
def textOp (s : ByteArray) : Option (List Pt) := if s = mkB [45] then some [] else match readAllP (cuts s 32) with
  | none => none
  | some ps => if isNormL ps = true ∧ opT ps = s then some ps else none
theorem textOp_dash : textOp (mkB [45]) = some [] := by unfold textOp; rw [if_pos rfl]
theorem textOp_none {s : ByteArray} (h : ¬ s = mkB [45]) (h1 : readAllP (cuts s 32) = none) : textOp s = none := by unfold textOp; rw [if_neg h, h1]
theorem textOp_some {s : ByteArray} {ps : List Pt} (h : ¬ s = mkB [45]) (h1 : readAllP (cuts s 32) = some ps) : textOp s = if isNormL ps = true ∧ opT ps = s then some ps else none := by unfold textOp; rw [if_neg h, h1]
theorem readP_part {p : Pt} (h : okPt p = true) : readP (mkB (partL p)) = some p := by
  obtain ⟨k, n, zs⟩ := p
  have hp := of_okPt h
  simp only at hp
  unfold readP
  rw [mkB_list]
  rcases hp with ⟨hk, hn, hz⟩ | ⟨hk, hn, ha, hl⟩
  · obtain rfl : zs = [] := List.eq_nil_of_length_eq_zero hz
    have hl1 := (numL_len (z := n) (by omega)).1
    have hd : nt.parse (numL n) = n.toNat := nt.parse_dec _
    have hdd : Lib.decDigits n.toNat = numL n := rfl
    have hnn : ((n.toNat : Nat) : Int) = n := Int.toNat_of_nonneg hn.1
    cases hnl : numL n with
    | nil => rw [hnl] at hl1; simp at hl1
    | cons d r =>
      rw [hnl] at hd hdd
      rcases hk with rfl | rfl
      · simp only [partL, if_true, hnl]
        rw [if_neg (by decide), if_pos ⟨by rw [hd]; exact hdd, by omega⟩, if_pos (by decide), hd, hnn]
      · simp only [partL, hnl]
        rw [if_neg (by decide), if_neg (by decide)]
        simp only
        rw [if_neg (by decide), if_pos ⟨by rw [hd]; exact hdd, by omega⟩, if_neg (by decide), if_pos (by decide), hd, hnn]
  · subst hk hn
    have hne := signL_ne zs ha
    have ht : textSign (mkB (signL zs)) = some zs := by rw [← signT_t ha]; exact textSign_of ha
    cases hnl : signL zs with
    | nil => exact absurd hnl hne
    | cons d r =>
      rw [hnl] at ht
      simp only [partL, hnl]
      rw [if_neg (by decide)]
      simp only [if_true]
      rw [if_pos (by decide), ht]
      rfl
theorem readAllP_parts : ∀ {ps : List Pt}, okPs ps = true → readAllP (ps.map (fun p => mkB (partL p))) = some ps
  | [], _ => rfl
  | p :: ps, h => by
    have h1 : okPt p = true ∧ okPs ps = true := by simpa [okPs] using h
    simp only [List.map_cons, readAllP, readP_part h1.1, readAllP_parts h1.2]
    rfl
theorem partL_bytes {p : Pt} (h : okPt p = true) : ∀ b ∈ partL p, ¬ b.toNat = 32 := by
  have num : ∀ z : Int, ∀ b ∈ numL z, ¬ b.toNat = 32 := fun z b hb => by have := numL_digits z b hb; omega
  intro b hb
  unfold partL at hb
  split at hb
  · rcases List.mem_cons.1 hb with rfl | hb
    · decide
    · exact num _ b hb
  · split at hb
    · rcases List.mem_cons.1 hb with rfl | hb
      · decide
      · unfold signL at hb
        split at hb
        · simp at hb; subst hb; decide
        · have key : ∀ (xs : List (List UInt8)), (∀ x ∈ xs, ∀ b ∈ x, ¬ b.toNat = 32) → ∀ b ∈ joinL 46 xs, ¬ b.toNat = 32 := by
            intro xs
            induction xs with
            | nil => intro _ b hb; simp [joinL] at hb
            | cons x xs ih =>
              intro hx b hb
              cases xs with
              | nil => exact hx x (by simp) b (by simpa [joinL] using hb)
              | cons y ys =>
                simp only [joinL, List.mem_append, List.mem_cons] at hb
                rcases hb with hb | rfl | hb
                · exact hx x (by simp) b hb
                · decide
                · exact ih (fun z hz => hx z (by simp [hz])) b hb
          exact key _ (fun x hx => by obtain ⟨z, _, rfl⟩ := List.mem_map.1 hx; exact num z) b hb
    · rcases List.mem_cons.1 hb with rfl | hb
      · decide
      · exact num _ b hb
theorem isNormL_norm {ps : List Pt} (h : okOp ps = true) : isNormL (normL ps) = true := by
  unfold isNormL
  rw [(norm_ok h).1, norm_norm, samePs_self]
  rfl
theorem textOp_of {o : List Pt} (h : okOp o = true) : textOp (opT o) = some (normL o) := by
  have hn := (norm_ok h).1
  have hps : okPs (normL o) = true := by
    have := okOp_partsB_ hn
    unfold partsB at this
    rw [Bool.and_eq_true] at this
    exact this.1
  have e2 : opT (normL o) = opT o := by rw [opT_t hn, opT_t h, norm_norm]
  by_cases hz : normL o = []
  · rw [opT_t h, hz]; exact textOp_dash
  · have e : opT o = mkB (opJ (normL o)) := by rw [opT_t h]; unfold opL; rw [if_neg hz]
    have hc : cuts (opT o) 32 = (normL o).map (fun p => mkB (partL p)) := by
      rw [cuts_list, e, mkB_list]
      have := cut_join (c := 32) (xs := (normL o).map partL) (by simpa using hz) (fun x hx b hb => by
        obtain ⟨p, hp, rfl⟩ := List.mem_map.1 hx
        exact partL_bytes (List.all_eq_true.1 hps p hp) b hb)
      rw [show (32 : Nat) = (32 : UInt8).toNat from rfl]
      unfold opJ
      rw [this, List.map_map]
      rfl
    have hne : ¬ opT o = mkB [45] := by
      rw [e]
      intro k
      have k := mkB_inj k
      cases hq : normL o with
      | nil => exact hz hq
      | cons p ps =>
        rw [hq] at k
        have hh : ∀ r, partL p ++ r = [45] → False := fun r hr => by
          unfold partL at hr
          split at hr
          · simp at hr
          · split at hr <;> simp at hr
        cases ps with
        | nil => exact hh [] (by simpa [opJ, joinL] using k)
        | cons y ys => exact hh _ (by simpa [opJ, joinL] using k)
    rw [textOp_some hne (by rw [hc]; exact readAllP_parts hps), if_pos ⟨isNormL_norm h, e2⟩]
end Go.Proofs.YtbbpapaobehlcaaDoor.low


/-
  Contract of spec.OpText (written by mkot.py).
-/
namespace Go.Proofs.YtbbpapaobehlcaaDoor.low
open Go.RowKit
set_option linter.unusedVariables false

theorem opJ_step {qs : List Pt} {k : Nat} {p : Pt} {c : UInt8} {r : List UInt8} (h : qs[k]? = some p) (hk : ¬ k = 0) (e : partL p = c :: r) : mkB (opJ (qs.take k)) ++ (⟨#[32]⟩ : ByteArray) ++ (⟨#[c]⟩ : ByteArray) ++ mkB r = mkB (opJ (qs.take (k + 1))) := by
  rw [opJ_snoc h, if_neg hk, e, show (⟨#[32]⟩ : ByteArray) = mkB [32] from rfl, show (⟨#[c]⟩ : ByteArray) = mkB [c] from rfl, mkB_app, mkB_app, mkB_app]
  simp
theorem opJ_first {qs : List Pt} {k : Nat} {p : Pt} {c : UInt8} {r : List UInt8} (h : qs[k]? = some p) (hk : k = 0) (e : partL p = c :: r) : mkB (opJ (qs.take k)) ++ (⟨#[c]⟩ : ByteArray) ++ mkB r = mkB (opJ (qs.take (k + 1))) := by
  rw [opJ_snoc h, if_pos hk, e, show (⟨#[c]⟩ : ByteArray) = mkB [c] from rfl, mkB_app, mkB_app]
  subst hk
  rfl
theorem empty_l {l : List UInt8} (h : l = []) : ((mkB l).toList == []) = true := by subst h; rw [ByteArray.toList_eq]; rfl
theorem full_l {l : List UInt8} (h : l ≠ []) : ((mkB l).toList == []) = false := str_full (by rw [mkB_size]; intro e; exact h (List.eq_nil_of_length_eq_zero e))
theorem size1 (c : UInt8) : (⟨#[c]⟩ : ByteArray).size = 1 := rfl
theorem okPs_in {qs : List Pt} (h : okPs qs = true) {p : Pt} (hp : p ∈ qs) : okPt p = true := List.all_eq_true.1 h p hp
theorem norm_parts {ps : List Pt} (h : okOp ps = true) : okPs (normL ps) = true ∧ (normL ps).length ≤ 600 := by
  have := okOp_partsB_ (norm_ok h).1
  unfold partsB at this
  rw [Bool.and_eq_true] at this
  exact ⟨this.1, by simpa using this.2⟩
set_option maxRecDepth 100000 in
set_option maxHeartbeats 1600000 in
theorem specOpText_d (v : Value) (ps : List Pt) (w : World) (h : RdC w w.heap.size (encPs ps) v) (hs : SmP ps) : Calls Tryd.prog 42 #[v] w (Strs (opT ps) w) := by
  obtain ⟨A, c, rfl, hra, _⟩ := parts_rd h
  have hl := hs.1
  cases hok : okOp ps
  · have HT := Lib.hid (opT_f hok)
    go_enter Tryd.func42, Tryd.ntmps42
    go_wp2_with fail
    refine (specOpOk_any A c ps _ hra (by omega) hs.all4).mono ?_
    rintro e w1 ⟨rfl, b1⟩
    rw [hok]
    go_wp2
    go_ret
    rw [HT.out]
    exact ⟨rfl, b1⟩
  · have HT := Lib.hid (opT_t hok)
    have HOK := Lib.hid (norm_parts hok)
    go_enter Tryd.func42, Tryd.ntmps42
    go_wp2_with fail
    refine (specOpOk_any A c ps _ hra (by omega) hs.all4).mono ?_
    rintro e w1 ⟨rfl, b1⟩
    rw [hok]
    clear hok
    go_wp2_with fail
    refine (specOpNorm_d _ ps _ (h.past b1) hs).mono ?_
    rintro e w3 ⟨v3, rfl, o3, b3⟩
    have d3 := b1.trans (b3.mono b1.size)
    obtain ⟨bq, oq⟩ := o3.blocks
    clear o3
    generalize normL ps = qs at *
    obtain ⟨Q, cq, rfl⟩ := sliceP oq.read
    have hql : qs.length ≤ 600 := HOK.out.2
    generalize hz : w3.heap.size = z3 at oq
    generalize hz1 : w1.heap.size = z1 at oq
    have HOQ := Lib.hid oq
    clear b1 b3 oq hra h
    go_wp2
    go_loopw [3, 12] (fun o i wr => ∃ k : Nat, k ≤ qs.length ∧ i = .int .i64 k ∧ o = .string (mkB (opJ (qs.take k))) ∧ OwB z1 z3 wr (encPs qs) (.slice Q qs.length cq) bq ∧ Below w.heap.size w wr) (fun _ i _ => qs.length - (intOf i).toNat)
    case atStart => exact ⟨0, Nat.zero_le _, rfl, rfl, HOQ.out, d3⟩
    case round =>
      obtain ⟨k, hk, rfl, rfl, hoq, hbel⟩ := hrel
      clear HOQ d3 hz hz1
      have hle : (mkB (opJ (qs.take k))).size ≤ 1400000 := by
        rw [mkB_size]
        have := opJ_len (okPs_take HOK.out.1 k)
        have : (qs.take k).length ≤ k := List.length_take_le _ _
        omega
      obtain ⟨Q', cq', eQ, hq, _⟩ := parts_rd hoq.read
      obtain ⟨rfl, rfl⟩ : Q' = Q ∧ cq' = cq := by injection eQ with e1 _ e3; exact ⟨e1.symm, e3.symm⟩
      have HOQ := Lib.hid hoq
      clear hoq eQ
      by_cases hlt : k < qs.length
      · obtain ⟨b, off, p, rfl, hb, hp, hc⟩ := hq.at_ hlt
        obtain ⟨x0, x1, A1, e1, x2, r1⟩ := hc
        have hokp := of_okPt (okPs_in HOK.out.1 (List.mem_of_getElem? hp))
        obtain ⟨pk, pn, pz⟩ := p
        simp only at x0 x1 x2 hokp r1
        have HP := Lib.hid hp
        clear hp hq
        have bA := alloc_below wr (.cells #[.int .i64 pk, .int .i64 pn, .slice A1 pz.length e1] 64)
        have hb1 := hbel.trans (bA.mono hbel.size)
        have OQ1 := Lib.hid (HOQ.out.past bA)
        rcases (show pk = 1 ∨ pk = 2 ∨ pk = 3 by omega) with rfl | rfl | rfl
        · have hn1 : 0 ≤ pn := by omega
          have hn2 : pn ≤ 200 := by omega
          by_cases hk0 : k = 0
          · have HS := Lib.hid (opJ_first HP.out hk0 (c := 107) (r := numL pn) (by simp [partL]))
            rw [← numT_mk hn1 (by omega)] at HS
            have hT2 : (nt.numT pn).size ≤ 10 := by rw [numT_mk hn1 (by omega), mkB_size]; exact (numL_len (by omega)).2
            have e0 := empty_l (l := opJ (qs.take k)) (by rw [hk0]; rfl)
            clear hk0
            generalize mkB (opJ (qs.take k)) = o at *
            have hs1 : o.size + (⟨#[107]⟩ : ByteArray).size ≤ 9223372036854775807 := by rw [size1]; omega
            have hs2 : (o ++ (⟨#[107]⟩ : ByteArray)).size + (nt.numT pn).size ≤ 9223372036854775807 := by rw [ByteArray.size_append, size1]; omega
            clear hokp
            clear bA
            go_wp2_with fail
            refine (nt.specNumText_any pn _).mono ?_
            rintro e w5 ⟨rfl, b5⟩
            have OQ2 := Lib.hid (OQ1.out.past b5)
            have hb2 := hb1.trans (b5.mono hb1.size)
            clear b5
            go_wp2
            go_roundw
            case rel => exact ⟨k + 1, by omega, by go_num, by rw [← HS.out], OQ2.out, hb2⟩
            case measure => simp [intOf]; omega
          · have HS := Lib.hid (opJ_step HP.out hk0 (c := 107) (r := numL pn) (by simp [partL]))
            rw [← numT_mk hn1 (by omega)] at HS
            have hT2 : (nt.numT pn).size ≤ 10 := by rw [numT_mk hn1 (by omega), mkB_size]; exact (numL_len (by omega)).2
            have e0 := full_l (l := opJ (qs.take k)) (opJ_ne (by intro e; have := congrArg List.length e; rw [List.length_take, List.length_nil] at this; omega))
            clear hk0
            generalize mkB (opJ (qs.take k)) = o at *
            have hs0 : o.size + (⟨#[32]⟩ : ByteArray).size ≤ 9223372036854775807 := by rw [size1]; omega
            have hs1 : (o ++ (⟨#[32]⟩ : ByteArray)).size + (⟨#[107]⟩ : ByteArray).size ≤ 9223372036854775807 := by rw [ByteArray.size_append, size1, size1]; omega
            have hs2 : ((o ++ (⟨#[32]⟩ : ByteArray)) ++ (⟨#[107]⟩ : ByteArray)).size + (nt.numT pn).size ≤ 9223372036854775807 := by rw [ByteArray.size_append, size1]; rw [ByteArray.size_append, size1]; omega
            clear hokp
            clear bA
            go_wp2_with fail
            refine (nt.specNumText_any pn _).mono ?_
            rintro e w5 ⟨rfl, b5⟩
            have OQ2 := Lib.hid (OQ1.out.past b5)
            have hb2 := hb1.trans (b5.mono hb1.size)
            clear b5
            go_wp2
            go_roundw
            case rel => exact ⟨k + 1, by omega, by go_num, by rw [← HS.out], OQ2.out, hb2⟩
            case measure => simp [intOf]; omega
        · have hall : allB pz = true := by rcases hokp with h | h; omega; exact h.2.2.1
          have hn3 : pz.length ≤ 200 := by omega
          by_cases hk0 : k = 0
          · have hT : signT pz = mkB (signL pz) := signT_t hall
            have HS := Lib.hid (opJ_first HP.out hk0 (c := 112) (r := signL pz) (by simp [partL]))
            rw [← hT] at HS
            have hT2 : (signT pz).size ≤ 2201 := by rw [hT, mkB_size]; have := signL_len hall; omega
            have HT2 := Lib.hid hT
            clear hT
            have e0 := empty_l (l := opJ (qs.take k)) (by rw [hk0]; rfl)
            clear hk0
            generalize mkB (opJ (qs.take k)) = o at *
            have hs1 : o.size + (⟨#[112]⟩ : ByteArray).size ≤ 9223372036854775807 := by rw [size1]; omega
            have hs2 : (o ++ (⟨#[112]⟩ : ByteArray)).size + (signT pz).size ≤ 9223372036854775807 := by rw [ByteArray.size_append, size1]; omega
            clear hokp
            have HROW := Lib.hid (show Row (Value.int .i64) (wr.alloc (.cells #[.int .i64 2, .int .i64 pn, .slice A1 pz.length e1] 64)) (wr.alloc (.cells #[.int .i64 2, .int .i64 pn, .slice A1 pz.length e1] 64)).heap.size A1 pz from Row.past r1 bA)
            clear bA
            go_wp2_with fail
            refine (specSignText_any A1 e1 pz _ HROW.out (by omega)).mono ?_
            rintro e w5 ⟨rfl, b5⟩
            have OQ2 := Lib.hid (OQ1.out.past b5)
            have hb2 := hb1.trans (b5.mono hb1.size)
            clear b5
            go_wp2
            go_roundw
            case rel => exact ⟨k + 1, by omega, by go_num, by rw [← HS.out], OQ2.out, hb2⟩
            case measure => simp [intOf]; omega
          · have hT : signT pz = mkB (signL pz) := signT_t hall
            have HS := Lib.hid (opJ_step HP.out hk0 (c := 112) (r := signL pz) (by simp [partL]))
            rw [← hT] at HS
            have hT2 : (signT pz).size ≤ 2201 := by rw [hT, mkB_size]; have := signL_len hall; omega
            have HT2 := Lib.hid hT
            clear hT
            have e0 := full_l (l := opJ (qs.take k)) (opJ_ne (by intro e; have := congrArg List.length e; rw [List.length_take, List.length_nil] at this; omega))
            clear hk0
            generalize mkB (opJ (qs.take k)) = o at *
            have hs0 : o.size + (⟨#[32]⟩ : ByteArray).size ≤ 9223372036854775807 := by rw [size1]; omega
            have hs1 : (o ++ (⟨#[32]⟩ : ByteArray)).size + (⟨#[112]⟩ : ByteArray).size ≤ 9223372036854775807 := by rw [ByteArray.size_append, size1, size1]; omega
            have hs2 : ((o ++ (⟨#[32]⟩ : ByteArray)) ++ (⟨#[112]⟩ : ByteArray)).size + (signT pz).size ≤ 9223372036854775807 := by rw [ByteArray.size_append, size1]; rw [ByteArray.size_append, size1]; omega
            clear hokp
            have HROW := Lib.hid (show Row (Value.int .i64) (wr.alloc (.cells #[.int .i64 2, .int .i64 pn, .slice A1 pz.length e1] 64)) (wr.alloc (.cells #[.int .i64 2, .int .i64 pn, .slice A1 pz.length e1] 64)).heap.size A1 pz from Row.past r1 bA)
            clear bA
            go_wp2_with fail
            refine (specSignText_any A1 e1 pz _ HROW.out (by omega)).mono ?_
            rintro e w5 ⟨rfl, b5⟩
            have OQ2 := Lib.hid (OQ1.out.past b5)
            have hb2 := hb1.trans (b5.mono hb1.size)
            clear b5
            go_wp2
            go_roundw
            case rel => exact ⟨k + 1, by omega, by go_num, by rw [← HS.out], OQ2.out, hb2⟩
            case measure => simp [intOf]; omega
        · have hn1 : 0 ≤ pn := by omega
          have hn2 : pn ≤ 200 := by omega
          by_cases hk0 : k = 0
          · have HS := Lib.hid (opJ_first HP.out hk0 (c := 100) (r := numL pn) (by simp [partL]))
            rw [← numT_mk hn1 (by omega)] at HS
            have hT2 : (nt.numT pn).size ≤ 10 := by rw [numT_mk hn1 (by omega), mkB_size]; exact (numL_len (by omega)).2
            have e0 := empty_l (l := opJ (qs.take k)) (by rw [hk0]; rfl)
            clear hk0
            generalize mkB (opJ (qs.take k)) = o at *
            have hs1 : o.size + (⟨#[100]⟩ : ByteArray).size ≤ 9223372036854775807 := by rw [size1]; omega
            have hs2 : (o ++ (⟨#[100]⟩ : ByteArray)).size + (nt.numT pn).size ≤ 9223372036854775807 := by rw [ByteArray.size_append, size1]; omega
            clear hokp
            clear bA
            go_wp2_with fail
            refine (nt.specNumText_any pn _).mono ?_
            rintro e w5 ⟨rfl, b5⟩
            have OQ2 := Lib.hid (OQ1.out.past b5)
            have hb2 := hb1.trans (b5.mono hb1.size)
            clear b5
            go_wp2
            go_roundw
            case rel => exact ⟨k + 1, by omega, by go_num, by rw [← HS.out], OQ2.out, hb2⟩
            case measure => simp [intOf]; omega
          · have HS := Lib.hid (opJ_step HP.out hk0 (c := 100) (r := numL pn) (by simp [partL]))
            rw [← numT_mk hn1 (by omega)] at HS
            have hT2 : (nt.numT pn).size ≤ 10 := by rw [numT_mk hn1 (by omega), mkB_size]; exact (numL_len (by omega)).2
            have e0 := full_l (l := opJ (qs.take k)) (opJ_ne (by intro e; have := congrArg List.length e; rw [List.length_take, List.length_nil] at this; omega))
            clear hk0
            generalize mkB (opJ (qs.take k)) = o at *
            have hs0 : o.size + (⟨#[32]⟩ : ByteArray).size ≤ 9223372036854775807 := by rw [size1]; omega
            have hs1 : (o ++ (⟨#[32]⟩ : ByteArray)).size + (⟨#[100]⟩ : ByteArray).size ≤ 9223372036854775807 := by rw [ByteArray.size_append, size1, size1]; omega
            have hs2 : ((o ++ (⟨#[32]⟩ : ByteArray)) ++ (⟨#[100]⟩ : ByteArray)).size + (nt.numT pn).size ≤ 9223372036854775807 := by rw [ByteArray.size_append, size1]; rw [ByteArray.size_append, size1]; omega
            clear hokp
            clear bA
            go_wp2_with fail
            refine (nt.specNumText_any pn _).mono ?_
            rintro e w5 ⟨rfl, b5⟩
            have OQ2 := Lib.hid (OQ1.out.past b5)
            have hb2 := hb1.trans (b5.mono hb1.size)
            clear b5
            go_wp2
            go_roundw
            case rel => exact ⟨k + 1, by omega, by go_num, by rw [← HS.out], OQ2.out, hb2⟩
            case measure => simp [intOf]; omega
      · have hke : qs.take k = qs := List.take_of_length_le (by omega)
        rw [hke] at hle ⊢
        clear hke hq
        by_cases hq0 : qs = []
        · have HE := Lib.hid (show opL qs = [45] by unfold opL; rw [if_pos hq0])
          have e0 := empty_l (l := opJ qs) (by rw [hq0]; rfl)
          clear hq0
          generalize mkB (opJ qs) = o at *
          go_wp2
          go_ret
          rw [HT.out, HE.out]
          exact ⟨rfl, hbel⟩
        · have HE := Lib.hid (show opL qs = opJ qs by unfold opL; rw [if_neg hq0])
          have e0 := full_l (l := opJ qs) (opJ_ne hq0)
          have HT' := Lib.hid (HT.out.trans (by rw [HE.out]))
          clear hq0 HT HE
          generalize mkB (opJ qs) = o at *
          go_wp2
          go_ret
          rw [HT'.out]
          exact ⟨rfl, hbel⟩
end Go.Proofs.YtbbpapaobehlcaaDoor.low


/-
  The specification's draws: a cursor over the bytes of a draw (DC), a byte, a number below n.
-/
namespace Go.Proofs.YtbbpapaobehlcaaDoor.low
open Go.RowKit
set_option linter.unusedVariables false

theorem and255 (n : Int) : bits .and .i64 n 255 = n % 256 := by
  have h127 : (BitVec.ofInt 64 255).toNat = 2 ^ 8 - 1 := by decide
  have key : (BitVec.ofInt 64 n &&& BitVec.ofInt 64 255).toNat = (n % ((2 ^ 64 : Nat) : Int)).toNat % 2 ^ 8 := by
    rw [BitVec.toNat_and, BitVec.toNat_ofInt, h127, Nat.and_two_pow_sub_one_eq_mod]
  show IntKind.i64.wrap ((BitVec.ofInt 64 n &&& BitVec.ofInt 64 255).toNat : Nat) = n % 256
  rw [key, IntKind.wrap_i64]
  omega
theorem and255_bd (n : Int) : 0 ≤ bits .and .i64 n 255 ∧ bits .and .i64 n 255 ≤ 255 := by rw [and255]; omega

/-- the cursor of a draw at block g; its bytes lie in blocks below B -/
def DC (B g : Nat) (w : World) : Prop := ∃ (A : Option Addr) (c : Nat) (zs : List Int) (i : Nat) (h : Int), w.heap[g]? = some (.cells #[.slice A zs.length c, .int .i64 (i : Int), .int .i64 h] 85 (0, 0)) ∧ zs.length ≤ 1048576 ∧ Row (Value.int .u8) w B A zs ∧ (∀ z ∈ zs, 0 ≤ z ∧ z < 256) ∧ B ≤ g
theorem DC.keep {B g : Nat} {w w' : World} (h : DC B g w) (hg : w'.heap[g]? = w.heap[g]?) (hk : ∀ p : Addr, p.block < B → w'.cell? p = w.cell? p) : DC B g w' := by
  obtain ⟨A, c, zs, i, x, h1, h2, h3, h4, h5⟩ := h
  exact ⟨A, c, zs, i, x, hg.trans h1, h2, h3.keep hk, h4, h5⟩
theorem DC.lt {B g : Nat} {w : World} (h : DC B g w) : g < w.heap.size := by
  obtain ⟨A, c, zs, i, x, h1, _⟩ := h
  exact lt_of_some h1
theorem DC.low {B g : Nat} {w : World} (h : DC B g w) : B ≤ g := by
  obtain ⟨A, c, zs, i, x, _, _, _, _, h5⟩ := h
  exact h5
theorem DC.past {B g : Nat} {w w' : World} (h : DC B g w) (hb : Below w.heap.size w w') : DC B g w' := h.keep (hb.block g h.lt) (fun p hp => hb.cell (by have := h.lt; have := h.low; omega))
theorem DC.grew {B g : Nat} {O O' : Nat → Prop} {w w' : World} (h : DC B g w) (hg : Grew O O' w w') (hb : Below B w w') (ho : ¬ O g) : DC B g w' := h.keep (hg.block g h.lt ho) (fun p hp => hb.cell hp)
/-- behind a draw: a number with P, the cursor moved, nothing else turned -/
def DrawP (P : Int → Prop) (B g : Nat) (w : World) (e : Ending) (w' : World) : Prop := ∃ x, e = .returned (.int .i64 x) ∧ P x ∧ DC B g w' ∧ Fr (fun q => q = g) w w' ∧ Below B w w'

theorem set2_row {w : World} {g : Nat} {T : TypeId} {a b c v : Value} {n : Nat} (h : w.heap[g]? = some (.cells #[a, b, c] T (0, 0))) : ((w.setCell ⟨g, 2, none⟩ v).drewN n).heap[g]? = some (.cells #[a, b, v] T (0, 0)) := by
  show (w.setCell ⟨g, 2, none⟩ v).heap[g]? = _
  rw [heap_setCell_same _ _ _ _ _ _ h]
  rfl
theorem set1_row {w : World} {g : Nat} {T : TypeId} {a b c v : Value} (h : w.heap[g]? = some (.cells #[a, b, c] T (0, 0))) : (w.setCell ⟨g, 1, none⟩ v).heap[g]? = some (.cells #[a, v, c] T (0, 0)) := by
  rw [heap_setCell_same _ _ _ _ _ _ h]
  rfl
theorem fr_drewN' {S : Nat → Prop} {n : Nat} {w wr : World} (h : Fr S w wr) : Fr S w (wr.drewN n) := ⟨h.size, h.block⟩
theorem below_drewN' {lo n : Nat} {w wr : World} (h : Below lo w wr) : Below lo w (wr.drewN n) := ⟨h.os, h.tape, h.output, h.size, h.block⟩

set_option maxRecDepth 100000 in
set_option maxHeartbeats 1600000 in
theorem specByte_d (B g : Nat) (w : World) (h : DC B g w) : Calls Tryd.prog 103 #[.pointer (some ⟨g, 0, none⟩)] w (DrawP (fun x => 0 ≤ x ∧ x ≤ 255) B g w) := by
  obtain ⟨A, c, zs, i, x, h1, h2, h3, h4, h5⟩ := h
  have c0 : w.cell? ⟨g, 0, none⟩ = some (.slice A zs.length c) := cell_of_row _ _ 0 _ _ _ h1
  have c1 : w.cell? ⟨g, 1, none⟩ = some (.int .i64 (i : Int)) := cell_of_row _ _ 1 _ _ _ h1
  have c2 : w.cell? ⟨g, 2, none⟩ = some (.int .i64 x) := cell_of_row _ _ 2 _ _ _ h1
  have f1 : w.frozen? ⟨g, 1, none⟩ = false := by simp [World.frozen?, h1]
  have f2 : w.frozen? ⟨g, 2, none⟩ = false := by simp [World.frozen?, h1]
  have H1 := Lib.hid h1
  have H4 := Lib.hid h4
  clear h1 h4
  by_cases hlt : i < zs.length
  · obtain ⟨ad, z, rfl, hbl, hz, hc⟩ := h3.at_ hlt
    have hzz := H4.out z (List.mem_of_getElem? hz)
    clear hz
    have hcx : ∀ v, (w.setCell ⟨g, 2, none⟩ v).cell? (ad.add i) = some (.int .u8 z) := fun v => (World.cell?_of_block (heap_setCell_other _ _ _ _ (fun e => by have e' : (ad.add i).block = g := e; rw [block_of_add] at e'; omega))).trans hc
    go_enter Tryd.func103, Tryd.ntmps103
    go_wp2
    go_quiet (fail)
    go_wp2
    go_quiet (fail)
    go_wp2
    go_quiet (fail)
    go_wp2
    go_ret
    refine ⟨_, rfl, and255_bd _, ⟨some ad, c, zs, i + 1, wrap64 (wrap64 (x * 6364136223846793005) + 1442695040888963407), set1_row (set2_row H1.out), h2, h3.keep (fun p hp => ?_), H4.out, h5⟩, ?_, ?_⟩
    · exact (World.cell?_of_block (heap_setCell_other _ _ _ _ (fun e => by have e' : p.block = g := e; omega))).trans (World.cell?_of_block (heap_setCell_other _ _ _ _ (fun e => by have e' : p.block = g := e; omega)))
    · exact (fr_drewN' ((Fr.refl (fun q => q = g) w).setCell (p := ⟨g, 2, none⟩) rfl _)).setCell (p := ⟨g, 1, none⟩) rfl _
    · exact (below_drewN' ((Below.refl B w).setCell (p := ⟨g, 2, none⟩) h5 _)).setCell (p := ⟨g, 1, none⟩) h5 _
  · go_enter Tryd.func103, Tryd.ntmps103
    go_wp2
    go_quiet (fail)
    go_wp2
    go_quiet (fail)
    go_wp2
    go_ret
    refine ⟨_, rfl, and255_bd _, ⟨A, c, zs, i, wrap64 (wrap64 (x * 6364136223846793005) + 1442695040888963407), set2_row (n := 0) H1.out, h2, h3.keep (fun p hp => ?_), H4.out, h5⟩, ?_, ?_⟩
    · exact World.cell?_of_block (heap_setCell_other _ _ _ _ (fun e => by have e' : p.block = g := e; omega))
    · exact fr_drewN' (fr_drewN' ((Fr.refl (fun q => q = g) w).setCell (p := ⟨g, 2, none⟩) rfl _))
    · exact below_drewN' (below_drewN' ((Below.refl B w).setCell (p := ⟨g, 2, none⟩) h5 _))

theorem DrawP.mono {P P' : Int → Prop} {B g : Nat} {w w' : World} {e : Ending} (h : DrawP P B g w e w') (hp : ∀ x, P x → P' x) : DrawP P' B g w e w' := by
  obtain ⟨x, h1, h2, h3⟩ := h
  exact ⟨x, h1, hp x h2, h3⟩
set_option maxHeartbeats 1600000 in
theorem specBelow_d (B g : Nat) (n : Int) (w : World) (h : DC B g w) (hn : n ≤ 2147483648) : Calls Tryd.prog 70 #[.pointer (some ⟨g, 0, none⟩), .int .i64 n] w (DrawP (fun x => 0 ≤ x ∧ (0 < n → x < n) ∧ (n ≤ 0 → x = 0)) B g w) := by
  by_cases h0 : n ≤ 0
  · go_enter Tryd.func70, Tryd.ntmps70
    go_wp2
    go_ret
    exact ⟨0, rfl, ⟨by omega, fun h => by omega, fun _ => rfl⟩, h, Fr.refl _ _, Below.refl _ _⟩
  · have h0' : 0 < n := by omega
    by_cases h1 : n ≤ 256
    · go_enter Tryd.func70, Tryd.ntmps70
      go_wp2_with fail
      refine (specByte_d B g _ h).mono ?_
      rintro e w1 ⟨x, rfl, ⟨x1, x2⟩, dc, fr, bl⟩
      have hz : ¬ n = 0 := by omega
      go_wp2
      go_ret
      exact ⟨_, rfl, ⟨Int.emod_nonneg _ (by omega), fun _ => Int.emod_lt_of_pos _ h0', fun h => by omega⟩, dc, fr, bl⟩
    · go_enter Tryd.func70, Tryd.ntmps70
      go_wp2_with fail
      refine (specByte_d B g _ h).mono ?_
      rintro e w1 ⟨x, rfl, ⟨x1, x2⟩, dc, fr, bl⟩
      go_wp2_with fail
      refine (specByte_d B g _ dc).mono ?_
      rintro e w2 ⟨y, rfl, ⟨y1, y2⟩, dc2, fr2, bl2⟩
      go_wp2_with fail
      refine (specByte_d B g _ dc2).mono ?_
      rintro e w3 ⟨z, rfl, ⟨z1, z2⟩, dc3, fr3, bl3⟩
      go_wp2_with fail
      refine (specByte_d B g _ dc3).mono ?_
      rintro e w4 ⟨t, rfl, ⟨t1, t2⟩, dc4, fr4, bl4⟩
      have hz : ¬ n = 0 := by omega
      go_wp2
      go_ret
      exact ⟨_, rfl, ⟨Int.emod_nonneg _ (by omega), fun _ => Int.emod_lt_of_pos _ h0', fun h => by omega⟩, dc4, ((fr.trans fr2).trans fr3).trans fr4, ((bl.trans bl2).trans bl3).trans bl4⟩
end Go.Proofs.YtbbpapaobehlcaaDoor.low


/-
  The specification's draws: the cursor made; once; one of a list; a character; characters. append(out, p) of one part.
-/
namespace Go.Proofs.YtbbpapaobehlcaaDoor.low
open Go.RowKit
set_option linter.unusedVariables false

def OnceP (B g : Nat) (w : World) (e : Ending) (w' : World) : Prop := ∃ q : Bool, e = .returned (.bool q) ∧ DC B g w' ∧ Fr (fun q => q = g) w w' ∧ Below B w w'
set_option maxHeartbeats 800000 in
theorem specOnce_d (B g : Nat) (n : Int) (w : World) (h : DC B g w) (hn : n ≤ 2147483648) : Calls Tryd.prog 88 #[.pointer (some ⟨g, 0, none⟩), .int .i64 n] w (OnceP B g w) := by
  go_enter Tryd.func88, Tryd.ntmps88
  go_wp2_with fail
  refine (specBelow_d B g n _ h hn).mono ?_
  rintro e w1 ⟨x, rfl, _, dc, fr, bl⟩
  go_wp2
  go_ret
  exact ⟨_, rfl, dc, fr, bl⟩

set_option maxHeartbeats 800000 in
theorem specPick_d (B g : Nat) (A : Option Addr) (c : Nat) (zs : List Int) (w : World) (h : DC B g w) (hr : Row (Value.int .i64) w w.heap.size A zs) (hz : 0 < zs.length) (hl : zs.length ≤ 1000) (P : Int → Prop) (hp : ∀ z ∈ zs, P z) (hg : ∀ ad, A = some ad → ¬ ad.block = g) :
    Calls Tryd.prog 117 #[.pointer (some ⟨g, 0, none⟩), .slice A zs.length c] w (DrawP P B g w) := by
  go_enter Tryd.func117, Tryd.ntmps117
  go_wp2_with fail
  refine (specBelow_d B g (zs.length : Int) _ h (by omega)).mono ?_
  rintro e w1 ⟨x, rfl, ⟨x1, x2, _⟩, dc, fr, bl⟩
  have x2 := x2 (by omega)
  obtain ⟨k, rfl⟩ := Int.eq_ofNat_of_zero_le x1
  obtain ⟨ad, z, rfl, hb, hzk, hc⟩ := hr.at_ (k := k) (by omega)
  have hc' : w1.cell? (ad.add k) = some (.int .i64 z) := by
    rw [World.cell?_of_block (w := w) (fr.block _ (by rw [block_of_add]; exact hb) (by rw [block_of_add]; exact hg ad rfl))]
    exact hc
  have HP := Lib.hid (hp z (List.mem_of_getElem? hzk))
  clear hzk
  have hlt : k < zs.length := by omega
  go_wp2
  go_ret
  exact ⟨z, rfl, HP.out, dc, fr, bl⟩
theorem pickList_ok : ∀ z ∈ ([0, 127, 128, 2047, 2048, 55295, 57344, 65535, 65536, 1114111, 10, 32] : List Int), signB z = true := by decide
set_option maxRecDepth 100000 in
set_option maxHeartbeats 1600000 in
theorem specSign_d (B g : Nat) (w : World) (h : DC B g w) : Calls Tryd.prog 87 #[.pointer (some ⟨g, 0, none⟩)] w (DrawP (fun x => signB x = true) B g w) := by
  go_enter Tryd.func87, Tryd.ntmps87
  go_wp2_with fail
  refine (specOnce_d B g 8 _ h (by omega)).mono ?_
  rintro e w1 ⟨q, rfl, dc, fr, bl⟩
  cases q
  · go_wp2_with fail
    refine (specBelow_d B g 6 _ dc (by omega)).mono ?_
    rintro e w2 ⟨x, rfl, ⟨x1, x2, _⟩, dc2, fr2, bl2⟩
    have x2 := x2 (by omega)
    go_wp2
    go_ret
    exact ⟨_, rfl, by simp only [signB, decide_eq_true_eq]; omega, dc2, fr.trans fr2, bl.trans bl2⟩
  · go_wp2_with fail
    have hB := dc.lt
    have hBg := dc.low
    have bA := alloc_below w1 (.cells #[.int .i64 0, .int .i64 127, .int .i64 128, .int .i64 2047, .int .i64 2048, .int .i64 55295, .int .i64 57344, .int .i64 65535, .int .i64 65536, .int .i64 1114111, .int .i64 10, .int .i64 32] 3)
    have hrow : Row (Value.int .i64) (w1.alloc (.cells #[.int .i64 0, .int .i64 127, .int .i64 128, .int .i64 2047, .int .i64 2048, .int .i64 55295, .int .i64 57344, .int .i64 65535, .int .i64 65536, .int .i64 1114111, .int .i64 10, .int .i64 32] 3)) (w1.alloc (.cells #[.int .i64 0, .int .i64 127, .int .i64 128, .int .i64 2047, .int .i64 2048, .int .i64 55295, .int .i64 57344, .int .i64 65535, .int .i64 65536, .int .i64 1114111, .int .i64 10, .int .i64 32] 3)).heap.size (some ⟨w1.heap.size, 0, none⟩) [0, 127, 128, 2047, 2048, 55295, 57344, 65535, 65536, 1114111, 10, 32] := fun _ => by
      refine ⟨_, rfl, lt_of_some (heap_alloc_new w1 _), fun k z hz => ?_⟩
      rw [add_plain0]
      have hk := idx_lt hz
      rw [cell_of_row _ _ k _ _ _ (heap_alloc_new w1 _)]
      have : (#[Value.int .i64 0, .int .i64 127, .int .i64 128, .int .i64 2047, .int .i64 2048, .int .i64 55295, .int .i64 57344, .int .i64 65535, .int .i64 65536, .int .i64 1114111, .int .i64 10, .int .i64 32] : Array Value) = (([0, 127, 128, 2047, 2048, 55295, 57344, 65535, 65536, 1114111, 10, 32] : List Int).map (Value.int .i64)).toArray := rfl
      rw [this]
      simp only [List.getElem?_toArray, List.getElem?_map, hz, Option.map_some]
    refine (specPick_d B g _ _ _ _ (dc.past bA) hrow (by decide) (by decide) (fun x => signB x = true) pickList_ok (fun ad e => by injection e with e; subst e; show ¬ w1.heap.size = g; omega)).mono ?_
    rintro e w2 ⟨x, rfl, hx, dc2, fr2, bl2⟩
    have fA : Fr (fun q => q = g) w1 _ := Fr.below bA
    have HX := Lib.hid hx
    go_wp2
    go_ret
    exact ⟨x, rfl, HX.out, dc2, (fr.trans fA).trans fr2, (bl.trans (bA.mono (by omega))).trans bl2⟩
/-- behind a draw of characters: a text of its own -/
def SignsP (most B g : Nat) (w : World) (e : Ending) (w' : World) : Prop := ∃ t v b, e = .returned v ∧ t.length ≤ most ∧ allB t = true ∧ OwB w.heap.size w'.heap.size w' (encInts t) v b ∧ DC B g w' ∧ Fr (fun q => q = g) w w' ∧ Below B w w'
theorem Fr.old {S : Nat → Prop} {w w1 w2 : World} {O O' : Nat → Prop} (h : Fr S w w1) (hg : Grew O O' w1 w2) (hO : ∀ q, O q → w.heap.size ≤ q) : Fr S w w2 :=
  ⟨Nat.le_trans h.size hg.size, fun q hq hs => (hg.block q (Nat.lt_of_lt_of_le hq h.size) (fun ho => by have := hO q ho; omega)).trans (h.block q hq hs)⟩
theorem OwB.fr {lo hi g : Nat} {w w' : World} {d : Dat} {v : Value} {b : List Nat} (h : OwB lo hi w d v b) (hf : Fr (fun q => q = g) w w') (hg : g < lo) : OwB lo hi w' d v b :=
  ⟨OwC.keep d v b h.ow (fun x hx => hf.block x (OwC.lt d v b h.ow x hx) (fun e => by have e' : x = g := e; have := (h.rng x hx).1; omega)), h.nd, h.rng, Nat.le_trans h.top hf.size, h.le⟩
theorem allB_add {t : List Int} {x : Int} (h : allB t = true) (hx : signB x = true) : allB (t ++ [x]) = true := by rw [allB_app, h]; simp [allB, hx]
set_option maxRecDepth 100000 in
set_option maxHeartbeats 3200000 in
theorem specSigns_d (B g most : Nat) (w : World) (h : DC B g w) (hm : most ≤ 1000) : Calls Tryd.prog 49 #[.pointer (some ⟨g, 0, none⟩), .int .i64 (most : Int)] w (SignsP most B g w) := by
  obtain ⟨i0, hi0, hz0, hz1, hz2⟩ := info_parts ints_info
  have hgl := h.lt
  have hBg := h.low
  go_enter Tryd.func49, Tryd.ntmps49
  go_wp2_with fail
  have bA := alloc_below w (.cells #[] 3)
  have hib : OwB w.heap.size (w.alloc (.cells #[] 3)).heap.size (w.alloc (.cells #[] 3)) (encInts []) (.slice (some ⟨w.heap.size, 0, none⟩) 0 0) [w.heap.size] :=
    ⟨⟨[], [], ⟨rfl, .inr ⟨w.heap.size, 0, #[], rfl, Nat.zero_le _, heap_alloc_new w _, Nat.le_refl _, by unfold maxLen; omega, rfl, rfl⟩⟩, ⟨rfl, rfl⟩, rfl⟩, by simp, fun x hx => by obtain rfl : x = w.heap.size := (by simpa using hx); exact ⟨Nat.le_refl _, lt_of_some (heap_alloc_new w _)⟩, Nat.le_refl _, bA.size⟩
  have hdc := h.past bA
  have fA : Fr (fun q => q = g) w _ := Fr.below bA
  generalize w.alloc (.cells #[] 3) = w1 at *
  generalize (Value.slice (some ⟨w.heap.size, 0, none⟩) 0 0) = v0 at *
  refine (specBelow_d B g ((most : Int) + 1) _ hdc (by omega)).mono ?_
  rintro e w2 ⟨x, rfl, ⟨x1, x2, _⟩, dc, fr, bl⟩
  have x2 := x2 (by omega)
  obtain ⟨m, rfl⟩ := Int.eq_ofNat_of_zero_le x1
  have hib2 := (hib.fr fr hgl).upto fr.size (Nat.le_refl _)
  have HR0 := Lib.hid hib2
  have F0 := fA.trans fr
  have D0 := (bA.mono (show B ≤ w.heap.size by omega)).trans bl
  clear hib hib2 hdc fA fr bl bA
  go_wp2
  go_loopw [5, 6] (fun o i wr => ∃ (k : Nat) (t : List Int) (b : List Nat), t.length + k ≤ most ∧ i = .int .i64 k ∧ allB t = true ∧ OwB w.heap.size wr.heap.size wr (encInts t) o b ∧ DC B g wr ∧ Fr (fun q => q = g) w wr ∧ Below B w wr) (fun _ i _ => (intOf i).toNat)
  case atStart => exact ⟨m, [], _, by simp; omega, rfl, rfl, HR0.out, dc, F0, D0⟩
  case round =>
    obtain ⟨k, t, b, hk, rfl, ha, ho, dc, fr, bl⟩ := hrel
    clear HR0 F0 D0
    have HO := Lib.hid ho
    have HA := Lib.hid ha
    obtain ⟨A1, c1, rfl⟩ := sliceI ho.read
    clear ho ha
    by_cases hk0 : 0 < k
    · have hz := bl.size
      go_wp2_with fail
      refine (specSign_d B g _ dc).mono ?_
      rintro e w3 ⟨x, rfl, hx, dc3, fr3, bl3⟩
      have HX := Lib.hid hx
      have HO3 := Lib.hid ((HO.out.fr fr3 hgl).upto fr3.size (Nat.le_refl _))
      have bA := alloc_below w3 (.cells #[.int .i64 x] 3)
      have HO4 := Lib.hid (HO3.out.past bA)
      have hnews : ∀ (j : Nat) (u : Value), [Value.int .i64 x][j]? = some u → (w3.alloc (.cells #[.int .i64 x] 3)).cell? ((⟨w3.heap.size, 0, none⟩ : Addr).add j) = some u := fun j u hu => by
        cases j with
        | zero =>
          simp at hu
          subst hu
          exact cell_of_row _ _ 0 _ _ _ (heap_alloc_new w3 _)
        | succ j => simp at hu
      have HNW := Lib.hid hnews
      have hlx : (t.map fun z => [Dat.int z]).length ≤ 2000000 := by rw [List.length_map]; omega
      have dc4 := dc3.past bA
      have fr4 : Fr (fun q => q = g) w _ := (fr.trans fr3).trans (Fr.below bA)
      have bl4 := (bl.trans bl3).trans (bA.mono (by have := dc3.lt; omega))
      have hgn : g < w.heap.size := hgl
      clear hnews hx fr3 bl3 dc3 dc fr bl bA
      go_wp2_with (at_builtin; refine wpList_append_row rfl (.tmp 16) (.tmp 19) 23 rfl 3 i0 (.int .i64 0) 1 8 Tryd.underlying23 hi0 hz0 hz1 hz2 rfl (by decide) (by decide) w.heap.size _ (.slice A1 t.length c1) (t.map fun z => [Dat.int z]) b HO4.out rfl hlx ⟨w3.heap.size, 0, none⟩ _ [.int .i64 x] rfl rfl HNW.out (by simp [Value.oneCell']) [.int x] [] ⟨_, [], [], [], rfl, rfl, ⟨rfl, rfl⟩, rfl, rfl⟩ (by simp) (by simp) (by simp) ?_; intro A7 c7 w7 b7 o7 in7 g7 bl7)
      have HO7 : OwB w.heap.size w7.heap.size w7 (encInts (t ++ [x])) (.slice A7 (t.length + 1) c7) b7 := by
        have e : encInts (t ++ [x]) = .rows 3 1 ((t.map fun z => [Dat.int z]) ++ [[Dat.int x]]) := by unfold encInts; rw [List.map_append]; rfl
        rw [e]
        simpa using o7
      replace HO7 := Lib.hid HO7
      have fr7 := fr4.old g7 (fun q hq => (HO4.out.rng q hq).1)
      have dc7 := dc4.grew g7 (bl7.mono (show B ≤ w.heap.size by omega)) (fun hq => by have := (HO4.out.rng g hq).1; omega)
      have bl7' := bl4.trans (bl7.mono (show B ≤ w.heap.size by omega))
      clear o7 in7 g7 bl7 HO4 HO3 HNW dc4 fr4 bl4
      go_wp2
      go_roundw
      case rel => exact ⟨k - 1, t ++ [x], b7, by simp; omega, by rw [Int.natCast_sub (by omega)]; rfl, allB_add HA.out HX.out, by simpa using HO7.out, dc7, fr7, bl7'⟩
      case measure => simp [intOf]; omega
    · obtain rfl : k = 0 := by omega
      go_wp2
      go_ret
      exact ⟨t, _, b, rfl, by omega, HA.out, HO.out, dc, fr, bl⟩

/-- append(out, p) of one part, its characters of the caller's own -/
theorem wpList_append_part {w : World} {ops : Array Oper} {rest : List Oper} {o : Oper} {a : Act} {Q : Exit → Act → World → Prop} (hgd : o.guard = none) (s x : Operand)
    (ho : o.op = .call { callee := .builtin .append, args := #[s, x], argTypes := #[24, 24] })
    (lo hi' : Nat) (v : Value) (L : List Pt) (b : List Nat) (h : OwB lo hi' w (encPs L) v b) (hs : a.eval s = v) (hlen : L.length ≤ 2000000)
    (g0 c0 : Nat) (p : Pt) (u : Value) (c : List Nat) (hx : a.eval x = .slice (some ⟨g0, 0, none⟩) 1 c0) (hcell : w.heap[g0]? = some (.cells #[.int .i64 p.kind, .int .i64 p.n, u] 64 (0, 0)))
    (hu : OwC w (encInts p.signs) u c) (hcn : c.Nodup) (hbc : ∀ q ∈ b, q ∉ c) (hcr : ∀ q ∈ c, lo ≤ q)
    (K : ∀ A' c' w' b', OwB lo w'.heap.size w' (encPs (L ++ [p])) (.slice A' (L.length + 1) c') b' → (∀ q ∈ b', q ∈ b ∨ q ∈ c ∨ w.heap.size ≤ q) → Grew (fun q => q ∈ b) (fun q => q ∈ b ∨ w.heap.size ≤ q) w w' → Below lo w w' → wpList Tryd.prog ops Q rest (a.put o.dst (.slice A' (L.length + 1) c')) w') : wpList Tryd.prog ops Q (o :: rest) a w := by
  obtain ⟨i0, hi0, hz0, hz1, hz2⟩ := info_parts part_info
  have hone : ∀ y ∈ [Value.int .i64 p.kind, .int .i64 p.n, u], y.oneCell' = true := by
    intro y hy
    obtain ⟨A, cc, rfl, _⟩ : ∃ A cc, u = .slice A p.signs.length cc ∧ True := by
      obtain ⟨xs, cs, hox, _⟩ := hu
      obtain ⟨A, cc, e⟩ := own_form hox
      exact ⟨A, cc, by simpa using e, trivial⟩
    simp at hy
    rcases hy with rfl | rfl | rfl <;> rfl
  refine wpList_append_row hgd s x 24 ho 64 i0 _ 3 40 Tryd.underlying24 hi0 hz0 hz1 hz2 rfl (by decide) (by decide) lo hi' v (L.map encPt) b h hs (by rw [List.length_map]; exact hlen) ⟨g0, 0, none⟩ c0 [.int .i64 p.kind, .int .i64 p.n, u] hx rfl (fun j y hy => ?_) hone (encPt p) c ⟨_, _, [], c, rfl, by simp, ⟨rfl, rfl⟩, _, _, [], c, rfl, by simp, ⟨rfl, rfl⟩, _, [], c, [], rfl, by simp, hu, rfl, rfl⟩ hcn hbc hcr ?_
  · rw [add_plain0, cell_of_row _ _ j _ _ _ hcell]
    rw [← hy]
    simp
  · intro A' c' w' b' o1 h1 h2 h3
    rw [List.length_map] at o1 ⊢
    refine K A' c' w' b' ?_ h1 h2 h3
    have e : encPs (L ++ [p]) = .rows 64 3 (L.map encPt ++ [encPt p]) := by unfold encPs; rw [List.map_append]; rfl
    rw [e]
    exact o1
end Go.Proofs.YtbbpapaobehlcaaDoor.low


/-
  Contract of spec.TextOp (written by mkto.py).
-/
namespace Go.Proofs.YtbbpapaobehlcaaDoor.low
open Go.RowKit
set_option linter.unusedVariables false

def toL (s : ByteArray) : List Pt := (textOp s).getD []
def toB (s : ByteArray) : Bool := (textOp s).isSome
theorem to_t {s : ByteArray} {ps : List Pt} (h : textOp s = some ps) : toL s = ps ∧ toB s = true := by unfold toL toB; rw [h]; exact ⟨rfl, rfl⟩
theorem to_f {s : ByteArray} (h : textOp s = none) : toL s = [] ∧ toB s = false := by unfold toL toB; rw [h]; exact ⟨rfl, rfl⟩
theorem resP_nil {w w' : World} (hb : Below w.heap.size w w') : ResB (encPs []) false w (.returned (.tuple #[.slice none 0 0, .bool false])) w' := ⟨_, rfl, nilOwn _ w' rfl hb.size, hb⟩
/-- a piece's first byte, and the rest -/
theorem readP_eq {x : ByteArray} (h : 2 ≤ x.size) : readP x = if bAt x 0 = 112 then (textSign (x.extract 1 x.size)).map (fun zs => ⟨2, 0, zs⟩)
    else if Lib.decDigits (nt.parse (x.extract 1 x.size).data.toList) = (x.extract 1 x.size).data.toList ∧ nt.parse (x.extract 1 x.size).data.toList ≤ 1000000000 then some ⟨if bAt x 0 = 107 then 1 else if bAt x 0 = 100 then 3 else 0, (nt.parse (x.extract 1 x.size).data.toList : Nat), []⟩ else none := by
  have hl : x.data.toList.length = x.size := rfl
  obtain ⟨c, hc, hb⟩ := bAt_list x 0 (by omega)
  rw [extract_mk]
  unfold readP
  rw [← hb]
  have e : x.data.toList.take x.size = x.data.toList := List.take_of_length_le (Nat.le_of_eq hl)
  rw [e, mkB_list]
  cases hx : x.data.toList with
  | nil => rw [hx] at hl; simp at hl; omega
  | cons a r =>
    cases r with
    | nil => rw [hx] at hl; simp at hl; omega
    | cons d rr =>
      rw [hx] at hc
      simp at hc
      subst hc
      rfl
theorem readP_short {x : ByteArray} (h : x.size < 2) : readP x = none := by
  have hl : x.data.toList.length = x.size := rfl
  unfold readP
  cases hx : x.data.toList with
  | nil => rfl
  | cons a r =>
    cases r with
    | nil => rfl
    | cons d rr => rw [hx] at hl; simp at hl; omega
theorem readP_num {x : ByteArray} (h : 2 ≤ x.size) (hc : ¬ bAt x 0 = 112) (hn : nt.Num (x.extract 1 x.size)) : readP x = some ⟨if bAt x 0 = 107 then 1 else if bAt x 0 = 100 then 3 else 0, (nt.parse (x.extract 1 x.size).data.toList : Nat), []⟩ := by
  rw [readP_eq h, if_neg hc, if_pos ⟨hn.1, hn.2⟩]
theorem readP_bad {x : ByteArray} (h : 2 ≤ x.size) (hc : ¬ bAt x 0 = 112) (hn : ¬ nt.Num (x.extract 1 x.size)) : readP x = none := by
  rw [readP_eq h, if_neg hc, if_neg (fun k => hn ⟨k.1, k.2⟩)]
theorem readP_put {x : ByteArray} (h : 2 ≤ x.size) (hc : bAt x 0 = 112) : readP x = (textSign (x.extract 1 x.size)).map (fun zs => ⟨2, 0, zs⟩) := by
  rw [readP_eq h, if_pos hc]
theorem byte_t {x : ByteArray} (h0 : 0 < x.size) {n : Int} (h : (bAt x 0 : Int) = n) : ((((x[0]'h0).toNat : Nat) : Int) == n) = true := by rw [bAt_eq x 0 h0, h]; simp
theorem byte_f {x : ByteArray} (h0 : 0 < x.size) {n : Int} (h : ¬ (bAt x 0 : Int) = n) : ((((x[0]'h0).toNat : Nat) : Int) == n) = false := by rw [bAt_eq x 0 h0]; simpa using h
theorem nil_owI (w : World) : OwC w (encInts []) (.slice none 0 0) [] := ⟨[], [], World.ownsRow_nil _ _ _ _, ⟨rfl, rfl⟩, rfl⟩
theorem joinL_ge (c : UInt8) : ∀ {xs : List (List UInt8)}, (∀ x ∈ xs, 1 ≤ x.length) → xs.length ≤ (joinL c xs).length
  | [], _ => by simp
  | [x], h => by have := h x (by simp); simpa [joinL] using this
  | x :: y :: xs, h => by
    have ih := joinL_ge c (xs := y :: xs) (fun z hz => h z (by simp [hz]))
    have h1 := h x (by simp)
    simp only [joinL, List.length_append, List.length_cons] at ih ⊢
    omega
theorem textSign_len {s : ByteArray} {zs : List Int} (h : textSign s = some zs) : zs.length ≤ s.size := by
  obtain ⟨h1, h2⟩ := textSign_sound h
  rw [← h2, signT_t h1, mkB_size]
  unfold signL
  split
  · rename_i e; subst e; simp
  · have := joinL_ge 46 (xs := zs.map numL) (fun x hx => by
      obtain ⟨z, hz, rfl⟩ := List.mem_map.1 hx
      have := signB_bd (List.all_eq_true.1 h1 z hz)
      exact (numL_len (by omega)).1)
    rwa [List.length_map] at this
theorem readP_sz {x : ByteArray} {p : Pt} (h : readP x = some p) : 1 ≤ x.size ∧ p.signs.length ≤ x.size := by
  by_cases h2 : 2 ≤ x.size
  · refine ⟨by omega, ?_⟩
    rw [readP_eq h2] at h
    split at h
    · rw [Option.map_eq_some_iff] at h
      obtain ⟨zs, h1, rfl⟩ := h
      exact Nat.le_trans (textSign_len h1) (extract_le _ _ _)
    · split at h
      · injection h with h
        subst h
        simp
      · cases h
  · rw [readP_short (by omega)] at h
    cases h
def sizes (xs : List ByteArray) : Nat := (xs.map ByteArray.size).sum
theorem readAllP_sz : ∀ {xs : List ByteArray} {ps : List Pt}, readAllP xs = some ps → ps.length ≤ sizes xs ∧ signsIn ps ≤ sizes xs
  | [], ps, h => by simp [readAllP] at h; subst h; simp [signsIn]
  | x :: xs, ps, h => by
    simp only [readAllP] at h
    cases hg : readP x with
    | none => rw [hg] at h; cases h
    | some p =>
      rw [hg] at h
      simp only [Option.map_eq_some_iff] at h
      obtain ⟨ys, h1, rfl⟩ := h
      obtain ⟨i1, i2⟩ := readAllP_sz h1
      obtain ⟨j1, j2⟩ := readP_sz hg
      have e : sizes (x :: xs) = x.size + sizes xs := by simp [sizes]
      have e2 : signsIn (p :: ys) = p.signs.length + signsIn ys := by simp [signsIn]
      rw [e, e2, List.length_cons]
      omega
theorem cutL_sum (m : Nat) : ∀ (l acc : List UInt8), ((cutL_ m acc l).map List.length).sum ≤ acc.length + l.length
  | [], acc => by simp [cutL_]
  | c :: l, acc => by
    rw [cutL_]
    split
    · have := cutL_sum m l []
      simp at this ⊢
      omega
    · have := cutL_sum m l (acc ++ [c])
      simp at this ⊢
      omega
theorem cuts_sum (s : ByteArray) (m : Nat) : sizes (cuts s m) ≤ s.size := by
  have := cutL_sum m s.data.toList []
  unfold sizes
  rw [cuts_list, List.map_map, show ByteArray.size ∘ mkB = List.length from funext mkB_size]
  simpa using this
theorem textOp_sm {s : ByteArray} {ps : List Pt} (hs : s.size ≤ 1048576) (h : readAllP (cuts s 32) = some ps) : SmP ps := by
  obtain ⟨h1, h2⟩ := readAllP_sz h
  have := cuts_sum s 32
  exact ⟨by omega, by omega⟩
set_option maxRecDepth 100000 in
set_option maxHeartbeats 1600000 in
theorem specTextOp_d (s : ByteArray) (w : World) (hs : s.size ≤ 1048576) : Calls Tryd.prog 45 #[.string s] w (ResB (encPs (toL s)) (toB s) w) := by
  have hbn := alloc_below w (.cells #[] 64)
  have hib : OwB w.heap.size (w.alloc (.cells #[] 64)).heap.size (w.alloc (.cells #[] 64)) (encPs []) (.slice (some ⟨w.heap.size, 0, none⟩) 0 0) [w.heap.size] :=
    ⟨⟨[], [], ⟨rfl, .inr ⟨w.heap.size, 0, #[], rfl, Nat.zero_le _, heap_alloc_new w _, Nat.le_refl _, by unfold maxLen; omega, rfl, rfl⟩⟩, ⟨rfl, rfl⟩, rfl⟩, by simp, fun x hx => by obtain rfl : x = w.heap.size := (by simpa using hx); exact ⟨Nat.le_refl _, lt_of_some (heap_alloc_new w _)⟩, Nat.le_refl _, hbn.size⟩
  have HIB := Lib.hid hib
  clear hib
  by_cases hd : s = mkB [45]
  · subst hd
    have e1 := dash_t
    have HT := Lib.hid (to_t textOp_dash)
    go_enter Tryd.func45, Tryd.ntmps45
    go_wp2
    go_ret2
    rw [HT.out.1, HT.out.2]
    exact ⟨_, rfl, ⟨_, HIB.out.ow, HIB.out.nd, HIB.out.rng, HIB.out.top, HIB.out.le⟩, hbn⟩
  · have e1 := not_dash hd
    have HD := Lib.hid hd
    clear hd
    go_enter Tryd.func45, Tryd.ntmps45
    go_wp2_with fail
    have hs1 : (w.alloc (.cells #[] 64)).heap.size = w.heap.size + 1 := by simp
    generalize w.alloc (.cells #[] 64) = w1 at *
    refine (specCut_any s w1 hs).mono ?_
    rintro e w2 ⟨v2, rfl, sb, b2⟩
    have hcl := cuts_len s 32 hs
    have D := hbn.trans (b2.mono hbn.size)
    have HR0 := Lib.hid ((HIB.out.past b2).upto b2.size (Nat.le_refl _))
    have hz2' := b2.size
    obtain ⟨A2, c2, rfl, _⟩ := sb.slice
    have HSB := Lib.hid sb
    have HLE := Lib.hid (show ∀ x ∈ cuts s 32, x.size ≤ 1048576 from fun x hx => Nat.le_trans (cuts_le hx) hs)
    generalize hxs : cuts s 32 = xs at *
    have HXS := Lib.hid hxs
    clear sb b2 HIB hxs
    go_wp2
    go_loopw [4, 19] (fun o i wr => ∃ (k : Nat) (acc : List Pt) (b : List Nat), k ≤ xs.length ∧ i = .int .i64 k ∧ readAllP (xs.take k) = some acc ∧ OwB w.heap.size wr.heap.size wr (encPs acc) o b ∧ (∀ q ∈ b, q = w.heap.size ∨ w2.heap.size ≤ q) ∧ (∀ q, w.heap.size < q → q < w2.heap.size → wr.heap[q]? = w2.heap[q]?) ∧ w2.heap.size ≤ wr.heap.size ∧ Below w.heap.size w wr) (fun _ i _ => xs.length - (intOf i).toNat)
    case atStart => exact ⟨0, [], _, Nat.zero_le _, rfl, rfl, HR0.out, fun q hq => .inl (by simpa using hq), fun _ _ _ => rfl, Nat.le_refl _, D⟩
    case round =>
      obtain ⟨k, acc, b, hk, rfl, hf, ow, hb, hsame, hzr, hbel⟩ := hrel
      obtain ⟨A1, c1, rfl⟩ := sliceP ow.read
      have hal : acc.length ≤ 1048577 := by rw [readAllP_len hf, List.length_take]; omega
      have HF := Lib.hid hf
      have HOW := Lib.hid ow
      have HBB := Lib.hid hb
      have HSM := Lib.hid hsame
      clear hf ow hb hsame HR0 D
      by_cases hlt : k < xs.length
      · obtain ⟨g, cap, x, hv, hge, hgl, hx, hc⟩ := sbuf_at HSB.out hlt
        obtain ⟨rfl, rfl⟩ : A2 = some ⟨g, 0, none⟩ ∧ c2 = cap := by injection hv with q1 _ q3; exact ⟨q1, q3⟩
        have hc' : wr.cell? ⟨g, k, none⟩ = some (.string x) := (World.cell?_of_block (w := w2) (HSM.out g (by omega) hgl)).trans hc
        have hxs := HLE.out x (List.mem_of_getElem? hx)
        have K1 := Lib.hid (show readAllP (xs.take (k + 1)) = (readP x).map (fun p => acc ++ [p]) by rw [List.take_add_one, hx]; simp only [Option.toList_some]; rw [readAllP_snoc, HF.out])
        have HBAD := Lib.hid (show readP x = none → toL s = [] ∧ toB s = false from fun h => to_f (textOp_none HD.out (by rw [HXS.out]; exact readAllP_none (k := k + 1) (by rw [K1.out, h]; rfl))))
        clear hc hx hv
        by_cases h2 : x.size < 2
        · have HN := Lib.hid (HBAD.out (readP_short h2))
          have h2' : (x.size : Int) < 2 := by omega
          go_wp2
          go_ret2
          rw [HN.out.1, HN.out.2]
          exact resP_nil hbel
        · have h2' : ¬ (x.size : Int) < 2 := by omega
          have h3 : 1 ≤ x.size := by omega
          have hxr : (x.extract 1 x.size).size ≤ 1048576 := Nat.le_trans (extract_le _ _ _) hxs
          have HX2 := Lib.hid (show 2 ≤ x.size by omega)
          by_cases hc1 : bAt x 0 = 112
          · have t107 := byte_f (x := x) h3 (n := 107) (by omega)
            have t100 := byte_f (x := x) h3 (n := 100) (by omega)
            have t112 := byte_t (x := x) h3 (n := 112) (by omega)
            have HRP := Lib.hid (readP_put HX2.out hc1)
            clear hc1
            go_wp2_with fail
            refine (nt.specTextNum_any (x.extract 1 x.size) _ hxr).mono ?_
            rintro e w3 ⟨h5, b3⟩
            obtain ⟨n0, ok0, rfl⟩ : ∃ (n0 : Int) (ok0 : Bool), e = .returned (.tuple #[.int .i64 n0, .bool ok0]) := by
              by_cases hn : nt.Num (x.extract 1 x.size)
              · exact ⟨_, _, h5.1 hn⟩
              · exact ⟨_, _, h5.2 hn⟩
            clear h5
            have bu := alloc_below w3 (.cells #[.int .i64 0, .int .i64 n0, .slice none 0 0] 64)
            have zu : (w3.alloc (.cells #[.int .i64 0, .int .i64 n0, .slice none 0 0] 64)).heap.size = w3.heap.size + 1 := World.size_alloc _ _
            have nu := heap_alloc_new w3 (.cells #[.int .i64 0, .int .i64 n0, .slice none 0 0] 64)
            go_wp2_with fail
            refine (specTextSign_d (x.extract 1 x.size) _ hxr).mono ?_
            rintro e w4 ⟨v4, rfl, o4, b4⟩
            have hm4 := (b4.block _ (by rw [zu]; omega)).trans nu
            obtain ⟨cl, ol⟩ := o4.blocks
            rw [zu] at ol
            obtain ⟨A4, c4, rfl⟩ := sliceI ol.read
            have q0 : w4.cell? ⟨w3.heap.size, 0, none⟩ = some (.int .i64 0) := cell_of_row _ _ 0 _ _ _ hm4
            have q1 : w4.cell? ⟨w3.heap.size, 1, none⟩ = some (.int .i64 n0) := cell_of_row _ _ 1 _ _ _ hm4
            have q2 : w4.cell? ⟨w3.heap.size, 2, none⟩ = some (.slice none 0 0) := cell_of_row _ _ 2 _ _ _ hm4
            have fz : ∀ i, w4.frozen? ⟨w3.heap.size, i, none⟩ = false := fun i => by simp [World.frozen?, hm4]
            have f0 := fz 0
            have f1 := fz 1
            have f2 := fz 2
            have b34 : Below wr.heap.size wr w4 := b3.trans ((bu.trans (b4.mono (by rw [zu]; omega))).mono b3.size)
            have hz3 := b3.size
            have hz4 : w3.heap.size < w4.heap.size := lt_of_some hm4
            have HB34 := Lib.hid b34
            have HOL := Lib.hid ol
            clear b3 bu zu nu b4 o4 ol fz hm4 b34
            have bs : ∀ y0 y1 y2, Below wr.heap.size wr (((w4.setCell ⟨w3.heap.size, 0, none⟩ y0).setCell ⟨w3.heap.size, 1, none⟩ y1).setCell ⟨w3.heap.size, 2, none⟩ y2) := fun y0 y1 y2 => ((HB34.out.setCell (p := ⟨w3.heap.size, 0, none⟩) hz3 _).setCell (p := ⟨w3.heap.size, 1, none⟩) hz3 _).setCell (p := ⟨w3.heap.size, 2, none⟩) hz3 _
            have HBS := Lib.hid bs
            clear bs
            cases hts : textSign (x.extract 1 x.size) with
            | none =>
              have HN := Lib.hid (HBAD.out (by rw [HRP.out, hts]; rfl))
              rw [(ts_f hts).2]
              clear hts
              go_wp2
              go_ret2
              rw [HN.out.1, HN.out.2]
              exact resP_nil (hbel.trans ((HBS.out _ _ _).mono hbel.size))
            | some zs =>
              have K2 := Lib.hid (show readAllP (xs.take (k + 1)) = some (acc ++ [⟨2, 0, zs⟩]) by rw [K1.out, HRP.out, hts]; rfl)
              have ez := (ts_t hts).1
              rw [(ts_t hts).2]
              rw [ez] at HOL ⊢
              clear hts ez K1 HBAD HRP
              have zW : (((w4.setCell ⟨w3.heap.size, 0, none⟩ (.int .i64 2)).setCell ⟨w3.heap.size, 1, none⟩ (.int .i64 0)).setCell ⟨w3.heap.size, 2, none⟩ (.slice A4 zs.length c4)).heap.size = w4.heap.size := by simp
              have n5 := heap_alloc_new (((w4.setCell ⟨w3.heap.size, 0, none⟩ (.int .i64 2)).setCell ⟨w3.heap.size, 1, none⟩ (.int .i64 0)).setCell ⟨w3.heap.size, 2, none⟩ (.slice A4 zs.length c4)) (.cells #[.int .i64 2, .int .i64 0, .slice A4 zs.length c4] 64)
              rw [zW] at n5
              have b35 : Below wr.heap.size wr ((((w4.setCell ⟨w3.heap.size, 0, none⟩ (.int .i64 2)).setCell ⟨w3.heap.size, 1, none⟩ (.int .i64 0)).setCell ⟨w3.heap.size, 2, none⟩ (.slice A4 zs.length c4)).alloc (.cells #[.int .i64 2, .int .i64 0, .slice A4 zs.length c4] 64)) := (HBS.out _ _ _).alloc (HBS.out _ _ _).size _
              have HOW5 := Lib.hid (HOW.out.past b35)
              have HN5 := Lib.hid n5
              have HB35 := Lib.hid b35
              have HU5 := Lib.hid (show OwC ((((w4.setCell ⟨w3.heap.size, 0, none⟩ (.int .i64 2)).setCell ⟨w3.heap.size, 1, none⟩ (.int .i64 0)).setCell ⟨w3.heap.size, 2, none⟩ (.slice A4 zs.length c4)).alloc (.cells #[.int .i64 2, .int .i64 0, .slice A4 zs.length c4] 64)) (encInts zs) (.slice A4 zs.length c4) cl from OwC.keep _ _ _ HOL.out.ow (fun q hq => by
                have h1 := (HOL.out.rng q hq).1
                have h2 := (HOL.out.rng q hq).2
                have hne : ¬ q = w3.heap.size := by omega
                rw [Below.heap_alloc _ _ _ (by simp; omega), Below.heap_setCell _ _ _ _ hne, Below.heap_setCell _ _ _ _ hne, Below.heap_setCell _ _ _ _ hne]))
              have HSR := Lib.hid (show ∀ q ∈ cl, w3.heap.size ≤ q from fun q hq => by have := (HOL.out.rng q hq).1; omega)
              have hlo := hbel.size
              clear n5 b35 zW
              go_wp2_with (at_builtin; refine wpList_append_part rfl (.tmp 55) (.tmp 57) rfl w.heap.size _ (.slice A1 acc.length c1) acc b HOW5.out rfl (by omega) w4.heap.size _ (⟨2, 0, zs⟩ : Pt) (.slice A4 zs.length c4) cl rfl HN5.out HU5.out HOL.out.nd (fun q hq hq' => by have h1 := (HOW.out.rng q hq).2; have h2 := HSR.out q hq'; omega) (fun q hq => by have h2 := HSR.out q hq; omega) ?_; intro A7 c7 w7 b7 o7 in7 g7 bl7)
              have HO7 := Lib.hid o7
              have D7 := (hbel.trans (HB35.out.mono hbel.size)).trans bl7
              have hsz5 := HB35.out.size
              have hz7 : w2.heap.size ≤ w7.heap.size := Nat.le_trans hzr (Nat.le_trans hsz5 g7.size)
              have HB7 := Lib.hid (show ∀ q ∈ b7, q = w.heap.size ∨ w2.heap.size ≤ q from fun q hq => by
                rcases in7 q hq with h1 | h1 | h1
                · exact HBB.out q h1
                · exact .inr (Nat.le_trans (by omega) (HSR.out q h1))
                · exact .inr (Nat.le_trans hzr (Nat.le_trans hsz5 h1)))
              have HS7 := Lib.hid (show ∀ q, w.heap.size < q → q < w2.heap.size → w7.heap[q]? = w2.heap[q]? from fun q h1 h2 => by
                rw [g7.block q (Nat.lt_of_lt_of_le (Nat.lt_of_lt_of_le h2 hzr) hsz5) (fun hq => by rcases HBB.out q hq with h | h <;> omega), HB35.out.block q (by omega)]
                exact HSM.out q h1 h2)
              clear o7 in7 g7 bl7
              go_wp2
              go_roundw
              case rel => exact ⟨k + 1, _, _, by omega, by go_num, K2.out, by simpa using HO7.out, HB7.out, HS7.out, hz7, D7⟩
              case measure => simp [intOf]; omega
          · by_cases hcc : bAt x 0 = 107
            · have t107 := byte_t (x := x) h3 (n := 107) (by omega)
              have t100 := byte_f (x := x) h3 (n := 100) (by omega)
              have t112 := byte_f (x := x) h3 (n := 112) (by omega)
              by_cases hn : nt.Num (x.extract 1 x.size)
              · have K2 := Lib.hid (show readAllP (xs.take (k + 1)) = some (acc ++ [⟨1, ((nt.parse (x.extract 1 x.size).data.toList : Nat) : Int), []⟩]) by rw [K1.out, readP_num HX2.out (by omega) hn, if_pos hcc]; rfl)
                have HNN := Lib.hid hn
                clear hn K1 HBAD
                generalize hpz : ((nt.parse (x.extract 1 x.size).data.toList : Nat) : Int) = z at *
                go_wp2_with fail
                refine (nt.specTextNum_any (x.extract 1 x.size) _ hxr).mono ?_
                rintro e w3 ⟨⟨h5, _⟩, b3⟩
                obtain rfl := h5 HNN.out
                rw [hpz]
                clear hpz h5
                have b4 := alloc_below w3 (.cells #[.int .i64 1, .int .i64 z, .slice none 0 0] 64)
                have z4 : (w3.alloc (.cells #[.int .i64 1, .int .i64 z, .slice none 0 0] 64)).heap.size = w3.heap.size + 1 := World.size_alloc _ _
                have b5 := alloc_below (w3.alloc (.cells #[.int .i64 1, .int .i64 z, .slice none 0 0] 64)) (.cells #[.int .i64 1, .int .i64 z, .slice none 0 0] 64)
                have n5 := heap_alloc_new (w3.alloc (.cells #[.int .i64 1, .int .i64 z, .slice none 0 0] 64)) (.cells #[.int .i64 1, .int .i64 z, .slice none 0 0] 64)
                rw [z4] at n5 b5
                have b35 : Below wr.heap.size wr _ := b3.trans ((b4.trans (b5.mono (by omega))).mono b3.size)
                have HOW5 := Lib.hid (HOW.out.past b35)
                have HN5 := Lib.hid n5
                have HU5 := Lib.hid (nil_owI ((w3.alloc (.cells #[.int .i64 1, .int .i64 z, .slice none 0 0] 64)).alloc (.cells #[.int .i64 1, .int .i64 z, .slice none 0 0] 64)))
                have HB35 := Lib.hid b35
                have hz3 := b3.size
                clear n5 b4 b5 b35 z4 b3
                go_wp2_with (at_builtin; refine wpList_append_part rfl (.tmp 55) (.tmp 57) rfl w.heap.size _ (.slice A1 acc.length c1) acc b HOW5.out rfl (by omega) (w3.heap.size + 1) _ (⟨1, z, []⟩ : Pt) (.slice none 0 0) [] rfl HN5.out HU5.out (by simp) (by simp) (by simp) ?_; intro A7 c7 w7 b7 o7 in7 g7 bl7)
                have HO7 := Lib.hid o7
                have D7 := (hbel.trans (HB35.out.mono hbel.size)).trans bl7
                have hsz5 := HB35.out.size
                have hz7 : w2.heap.size ≤ w7.heap.size := Nat.le_trans hzr (Nat.le_trans hsz5 g7.size)
                have HB7 := Lib.hid (show ∀ q ∈ b7, q = w.heap.size ∨ w2.heap.size ≤ q from fun q hq => by
                  rcases in7 q hq with h1 | h1 | h1
                  · exact HBB.out q h1
                  · simp at h1
                  · exact .inr (Nat.le_trans hzr (Nat.le_trans hsz5 h1)))
                have HS7 := Lib.hid (show ∀ q, w.heap.size < q → q < w2.heap.size → w7.heap[q]? = w2.heap[q]? from fun q h1 h2 => by
                  rw [g7.block q (Nat.lt_of_lt_of_le (Nat.lt_of_lt_of_le h2 hzr) hsz5) (fun hq => by rcases HBB.out q hq with h | h <;> omega), HB35.out.block q (by omega)]
                  exact HSM.out q h1 h2)
                clear o7 in7 g7 bl7
                go_wp2
                go_roundw
                case rel => exact ⟨k + 1, _, _, by omega, by go_num, K2.out, by simpa using HO7.out, HB7.out, HS7.out, hz7, D7⟩
                case measure => simp [intOf]; omega
              · have HN := Lib.hid (HBAD.out (readP_bad HX2.out (by omega) hn))
                have HNN := Lib.hid hn
                clear hn
                go_wp2_with fail
                refine (nt.specTextNum_any (x.extract 1 x.size) _ hxr).mono ?_
                rintro e w3 ⟨⟨_, h5⟩, b3⟩
                obtain rfl := h5 HNN.out
                go_wp2
                go_ret2
                rw [HN.out.1, HN.out.2]
                exact resP_nil ((hbel.trans (b3.mono hbel.size)).alloc (Nat.le_trans hbel.size b3.size) _)
            · by_cases hc2 : bAt x 0 = 100
              · have t107 := byte_f (x := x) h3 (n := 107) (by omega)
                have t100 := byte_t (x := x) h3 (n := 100) (by omega)
                have t112 := byte_f (x := x) h3 (n := 112) (by omega)
                by_cases hn : nt.Num (x.extract 1 x.size)
                · have K2 := Lib.hid (show readAllP (xs.take (k + 1)) = some (acc ++ [⟨3, ((nt.parse (x.extract 1 x.size).data.toList : Nat) : Int), []⟩]) by rw [K1.out, readP_num HX2.out (by omega) hn, if_neg (by omega), if_pos hc2]; rfl)
                  have HNN := Lib.hid hn
                  clear hn K1 HBAD
                  generalize hpz : ((nt.parse (x.extract 1 x.size).data.toList : Nat) : Int) = z at *
                  go_wp2_with fail
                  refine (nt.specTextNum_any (x.extract 1 x.size) _ hxr).mono ?_
                  rintro e w3 ⟨⟨h5, _⟩, b3⟩
                  obtain rfl := h5 HNN.out
                  rw [hpz]
                  clear hpz h5
                  have b4 := alloc_below w3 (.cells #[.int .i64 3, .int .i64 z, .slice none 0 0] 64)
                  have z4 : (w3.alloc (.cells #[.int .i64 3, .int .i64 z, .slice none 0 0] 64)).heap.size = w3.heap.size + 1 := World.size_alloc _ _
                  have b5 := alloc_below (w3.alloc (.cells #[.int .i64 3, .int .i64 z, .slice none 0 0] 64)) (.cells #[.int .i64 3, .int .i64 z, .slice none 0 0] 64)
                  have n5 := heap_alloc_new (w3.alloc (.cells #[.int .i64 3, .int .i64 z, .slice none 0 0] 64)) (.cells #[.int .i64 3, .int .i64 z, .slice none 0 0] 64)
                  rw [z4] at n5 b5
                  have b35 : Below wr.heap.size wr _ := b3.trans ((b4.trans (b5.mono (by omega))).mono b3.size)
                  have HOW5 := Lib.hid (HOW.out.past b35)
                  have HN5 := Lib.hid n5
                  have HU5 := Lib.hid (nil_owI ((w3.alloc (.cells #[.int .i64 3, .int .i64 z, .slice none 0 0] 64)).alloc (.cells #[.int .i64 3, .int .i64 z, .slice none 0 0] 64)))
                  have HB35 := Lib.hid b35
                  have hz3 := b3.size
                  clear n5 b4 b5 b35 z4 b3
                  go_wp2_with (at_builtin; refine wpList_append_part rfl (.tmp 55) (.tmp 57) rfl w.heap.size _ (.slice A1 acc.length c1) acc b HOW5.out rfl (by omega) (w3.heap.size + 1) _ (⟨3, z, []⟩ : Pt) (.slice none 0 0) [] rfl HN5.out HU5.out (by simp) (by simp) (by simp) ?_; intro A7 c7 w7 b7 o7 in7 g7 bl7)
                  have HO7 := Lib.hid o7
                  have D7 := (hbel.trans (HB35.out.mono hbel.size)).trans bl7
                  have hsz5 := HB35.out.size
                  have hz7 : w2.heap.size ≤ w7.heap.size := Nat.le_trans hzr (Nat.le_trans hsz5 g7.size)
                  have HB7 := Lib.hid (show ∀ q ∈ b7, q = w.heap.size ∨ w2.heap.size ≤ q from fun q hq => by
                    rcases in7 q hq with h1 | h1 | h1
                    · exact HBB.out q h1
                    · simp at h1
                    · exact .inr (Nat.le_trans hzr (Nat.le_trans hsz5 h1)))
                  have HS7 := Lib.hid (show ∀ q, w.heap.size < q → q < w2.heap.size → w7.heap[q]? = w2.heap[q]? from fun q h1 h2 => by
                    rw [g7.block q (Nat.lt_of_lt_of_le (Nat.lt_of_lt_of_le h2 hzr) hsz5) (fun hq => by rcases HBB.out q hq with h | h <;> omega), HB35.out.block q (by omega)]
                    exact HSM.out q h1 h2)
                  clear o7 in7 g7 bl7
                  go_wp2
                  go_roundw
                  case rel => exact ⟨k + 1, _, _, by omega, by go_num, K2.out, by simpa using HO7.out, HB7.out, HS7.out, hz7, D7⟩
                  case measure => simp [intOf]; omega
                · have HN := Lib.hid (HBAD.out (readP_bad HX2.out (by omega) hn))
                  have HNN := Lib.hid hn
                  clear hn
                  go_wp2_with fail
                  refine (nt.specTextNum_any (x.extract 1 x.size) _ hxr).mono ?_
                  rintro e w3 ⟨⟨_, h5⟩, b3⟩
                  obtain rfl := h5 HNN.out
                  go_wp2
                  go_ret2
                  rw [HN.out.1, HN.out.2]
                  exact resP_nil ((hbel.trans (b3.mono hbel.size)).alloc (Nat.le_trans hbel.size b3.size) _)
              · have t107 := byte_f (x := x) h3 (n := 107) (by omega)
                have t100 := byte_f (x := x) h3 (n := 100) (by omega)
                have t112 := byte_f (x := x) h3 (n := 112) (by omega)
                by_cases hn : nt.Num (x.extract 1 x.size)
                · have K2 := Lib.hid (show readAllP (xs.take (k + 1)) = some (acc ++ [⟨0, ((nt.parse (x.extract 1 x.size).data.toList : Nat) : Int), []⟩]) by rw [K1.out, readP_num HX2.out (by omega) hn, if_neg (by omega), if_neg (by omega)]; rfl)
                  have HNN := Lib.hid hn
                  clear hn K1 HBAD
                  generalize hpz : ((nt.parse (x.extract 1 x.size).data.toList : Nat) : Int) = z at *
                  go_wp2_with fail
                  refine (nt.specTextNum_any (x.extract 1 x.size) _ hxr).mono ?_
                  rintro e w3 ⟨⟨h5, _⟩, b3⟩
                  obtain rfl := h5 HNN.out
                  rw [hpz]
                  clear hpz h5
                  have b4 := alloc_below w3 (.cells #[.int .i64 0, .int .i64 z, .slice none 0 0] 64)
                  have z4 : (w3.alloc (.cells #[.int .i64 0, .int .i64 z, .slice none 0 0] 64)).heap.size = w3.heap.size + 1 := World.size_alloc _ _
                  have b5 := alloc_below (w3.alloc (.cells #[.int .i64 0, .int .i64 z, .slice none 0 0] 64)) (.cells #[.int .i64 0, .int .i64 z, .slice none 0 0] 64)
                  have n5 := heap_alloc_new (w3.alloc (.cells #[.int .i64 0, .int .i64 z, .slice none 0 0] 64)) (.cells #[.int .i64 0, .int .i64 z, .slice none 0 0] 64)
                  rw [z4] at n5 b5
                  have b35 : Below wr.heap.size wr _ := b3.trans ((b4.trans (b5.mono (by omega))).mono b3.size)
                  have HOW5 := Lib.hid (HOW.out.past b35)
                  have HN5 := Lib.hid n5
                  have HU5 := Lib.hid (nil_owI ((w3.alloc (.cells #[.int .i64 0, .int .i64 z, .slice none 0 0] 64)).alloc (.cells #[.int .i64 0, .int .i64 z, .slice none 0 0] 64)))
                  have HB35 := Lib.hid b35
                  have hz3 := b3.size
                  clear n5 b4 b5 b35 z4 b3
                  go_wp2_with (at_builtin; refine wpList_append_part rfl (.tmp 55) (.tmp 57) rfl w.heap.size _ (.slice A1 acc.length c1) acc b HOW5.out rfl (by omega) (w3.heap.size + 1) _ (⟨0, z, []⟩ : Pt) (.slice none 0 0) [] rfl HN5.out HU5.out (by simp) (by simp) (by simp) ?_; intro A7 c7 w7 b7 o7 in7 g7 bl7)
                  have HO7 := Lib.hid o7
                  have D7 := (hbel.trans (HB35.out.mono hbel.size)).trans bl7
                  have hsz5 := HB35.out.size
                  have hz7 : w2.heap.size ≤ w7.heap.size := Nat.le_trans hzr (Nat.le_trans hsz5 g7.size)
                  have HB7 := Lib.hid (show ∀ q ∈ b7, q = w.heap.size ∨ w2.heap.size ≤ q from fun q hq => by
                    rcases in7 q hq with h1 | h1 | h1
                    · exact HBB.out q h1
                    · simp at h1
                    · exact .inr (Nat.le_trans hzr (Nat.le_trans hsz5 h1)))
                  have HS7 := Lib.hid (show ∀ q, w.heap.size < q → q < w2.heap.size → w7.heap[q]? = w2.heap[q]? from fun q h1 h2 => by
                    rw [g7.block q (Nat.lt_of_lt_of_le (Nat.lt_of_lt_of_le h2 hzr) hsz5) (fun hq => by rcases HBB.out q hq with h | h <;> omega), HB35.out.block q (by omega)]
                    exact HSM.out q h1 h2)
                  clear o7 in7 g7 bl7
                  go_wp2
                  go_roundw
                  case rel => exact ⟨k + 1, _, _, by omega, by go_num, K2.out, by simpa using HO7.out, HB7.out, HS7.out, hz7, D7⟩
                  case measure => simp [intOf]; omega
                · have HN := Lib.hid (HBAD.out (readP_bad HX2.out (by omega) hn))
                  have HNN := Lib.hid hn
                  clear hn
                  go_wp2_with fail
                  refine (nt.specTextNum_any (x.extract 1 x.size) _ hxr).mono ?_
                  rintro e w3 ⟨⟨_, h5⟩, b3⟩
                  obtain rfl := h5 HNN.out
                  go_wp2
                  go_ret2
                  rw [HN.out.1, HN.out.2]
                  exact resP_nil ((hbel.trans (b3.mono hbel.size)).alloc (Nat.le_trans hbel.size b3.size) _)
      · have hke : xs.take k = xs := List.take_of_length_le (by omega)
        have hrd : readAllP (cuts s 32) = some acc := by rw [HXS.out, ← hke]; exact HF.out
        have K1 := Lib.hid (textOp_some HD.out hrd)
        have hsm := textOp_sm hs hrd
        have HSMP := Lib.hid hsm
        have hl1 := hsm.1
        obtain ⟨A_, c_, eA, hra, _⟩ := parts_rd HOW.out.read
        obtain ⟨rfl, rfl⟩ : A1 = A_ ∧ c1 = c_ := by injection eA with q1 _ q3; exact ⟨q1, q3⟩
        clear eA hrd hke
        go_wp2_with fail
        refine (specIsNorm_any A1 c1 acc _ hra (by omega) hsm.all4 hsm.2).mono ?_
        rintro e w3 ⟨rfl, b3⟩
        have HO3 := Lib.hid ((HOW.out.past b3).upto b3.size (Nat.le_refl _))
        have D3 := hbel.trans (b3.mono hbel.size)
        clear b3 hra hsm
        cases hn : isNormL acc
        · have HN := Lib.hid (to_f (by rw [K1.out, if_neg (by rw [hn]; simp)]))
          go_wp2
          go_ret2
          rw [HN.out.1, HN.out.2]
          exact resP_nil D3
        · go_wp2_with fail
          refine (specOpText_d _ acc _ HO3.out.read HSMP.out).mono ?_
          rintro e w4 ⟨rfl, b4⟩
          have HO4 := Lib.hid ((HO3.out.past b4).upto b4.size (Nat.le_refl _))
          have D4 := D3.trans (b4.mono D3.size)
          clear b4
          by_cases hq : opT acc = s
          · have HN := Lib.hid (to_t (by rw [K1.out, if_pos ⟨hn, hq⟩]))
            rw [hq]
            clear hq
            go_wp2
            go_ret2
            rw [HN.out.1, HN.out.2]
            exact ⟨_, rfl, ⟨_, HO4.out.ow, HO4.out.nd, HO4.out.rng, HO4.out.top, HO4.out.le⟩, D4⟩
          · have HN := Lib.hid (to_f (by rw [K1.out, if_neg (fun h => hq h.2)]))
            have e2 := nt.str_ne hq
            clear hq
            generalize opT acc = t at *
            go_wp2
            go_ret2
            rw [HN.out.1, HN.out.2]
            exact resP_nil D4
end Go.Proofs.YtbbpapaobehlcaaDoor.low


/-
  What stage 7's results are bounded by; spec.SignText in the words of data.
-/
namespace Go.Proofs.YtbbpapaobehlcaaDoor.low
open Go.RowKit
set_option linter.unusedVariables false

theorem textSign_small {s : ByteArray} (h : s.size ≤ 1048576) : SmI (tsL s) := by
  unfold SmI tsL
  cases hs : textSign s with
  | none => simp
  | some zs => have := textSign_len hs; simp only [Option.getD_some]; omega
theorem textOp_small {s : ByteArray} (h : s.size ≤ 1048576) : SmP (toL s) := by
  unfold toL
  cases hs : textOp s with
  | none => exact smP_nil
  | some ps =>
    simp only [Option.getD_some]
    unfold textOp at hs
    split at hs
    · injection hs with hs; subst hs; exact smP_nil
    · cases hr : readAllP (cuts s 32) with
      | none => rw [hr] at hs; cases hs
      | some qs =>
        rw [hr] at hs
        simp only at hs
        split at hs
        · injection hs with hs; subst hs; exact textOp_sm h hr
        · cases hs
theorem specSignText_d (v : Value) (zs : List Int) (w : World) (h : RdC w w.heap.size (encInts zs) v) (hs : SmI zs) : Calls Tryd.prog 35 #[v] w (Strs (signT zs) w) := by
  obtain ⟨A, c, rfl, hr, _⟩ := ints_rd h
  exact specSignText_any A c zs w hr (by unfold SmI at hs; omega)
end Go.Proofs.YtbbpapaobehlcaaDoor.low


/-
  Texts read word by word, as the program reads them: the same as reading and writing again.
-/
namespace Go.Proofs.YtbbpapaobehlcaaDoor.low
open Go.RowKit
set_option linter.unusedVariables false

theorem join_joinL (c : UInt8) : ∀ xs : List (List UInt8), Lib.join xs [c] = joinL c xs
  | [] => rfl
  | [x] => by rw [Lib.join_one]; rfl
  | x :: y :: xs => by
    have ih := join_joinL c (y :: xs)
    simp only [joinL]
    rw [← ih]
    simp [Lib.join, List.intercalate]
/-- the characters that a string's pieces say -/
def rdL (s : ByteArray) : List Int := (readAll (cuts s 46)).getD []
def rdB (s : ByteArray) : Bool := (readAll (cuts s 46)).isSome
theorem rd_t {s : ByteArray} {zs : List Int} (h : readAll (cuts s 46) = some zs) : rdL s = zs ∧ rdB s = true := by unfold rdL rdB; rw [h]; exact ⟨rfl, rfl⟩
theorem rd_f {s : ByteArray} (h : readAll (cuts s 46) = none) : rdL s = [] ∧ rdB s = false := by unfold rdL rdB; rw [h]; exact ⟨rfl, rfl⟩
theorem cuts_ne (s : ByteArray) (m : Nat) : cuts s m ≠ [] := by
  rw [cuts_list]
  intro h
  exact cutL_pos m _ _ (List.map_eq_nil_iff.1 h)
theorem map_mkB_inj : ∀ {a b : List (List UInt8)}, a.map mkB = b.map mkB → a = b
  | [], [], _ => rfl
  | [], b :: bs, h => by simp at h
  | a :: r, [], h => by simp at h
  | a :: r, b :: bs, h => by
    rw [List.map_cons, List.map_cons] at h
    injection h with h1 h2
    rw [mkB_inj h1, map_mkB_inj h2]
/-- what the pieces of a string are, the string is, joined -/
theorem cuts_join {s : ByteArray} {c : UInt8} {xs : List (List UInt8)} (h : cuts s c.toNat = xs.map mkB) : s = mkB (joinL c xs) := by
  rw [cuts_list] at h
  have h1 := map_mkB_inj h
  have h2 := join_cut c s.data.toList []
  rw [h1] at h2
  rw [h2]
  exact (mkB_of s).symm
theorem read_join {s : ByteArray} {zs : List Int} (h : readAll (cuts s 46) = some zs) : zs ≠ [] ∧ allB zs = true ∧ s = mkB (signJ zs) := by
  obtain ⟨h1, h2⟩ := readAll_sound h
  refine ⟨?_, h1, ?_⟩
  · intro e
    subst e
    exact cuts_ne s 46 (by simpa using h2)
  · exact cuts_join (c := 46) (xs := zs.map numL) (by rw [List.map_map]; exact h2)
theorem signL_J {zs : List Int} (h : zs ≠ []) : signL zs = signJ zs := by unfold signL signJ; rw [if_neg h]
theorem textSign_rd {s : ByteArray} (h : ¬ s = mkB [45]) : textSign s = readAll (cuts s 46) := by
  cases hr : readAll (cuts s 46) with
  | none => exact textSign_none h hr
  | some zs =>
    obtain ⟨h1, h2, h3⟩ := read_join hr
    rw [textSign_some h hr, if_pos (by rw [signT_t h2, signL_J h1, ← h3])]
theorem ts_rd {s : ByteArray} (h : ¬ s = mkB [45]) : tsL s = rdL s ∧ tsB s = rdB s := by unfold tsL tsB rdL rdB; rw [textSign_rd h]; exact ⟨rfl, rfl⟩
/-- a word that is a numeral -/
def numQ (x : ByteArray) : Option Int := if Lib.decDigits (nt.parse x.data.toList) = x.data.toList ∧ nt.parse x.data.toList ≤ 1000000000 then some ((nt.parse x.data.toList : Nat) : Int) else none
theorem numQ_t {x : ByteArray} (h : nt.Num x) : numQ x = some ((nt.parse x.data.toList : Nat) : Int) := by unfold numQ; rw [if_pos ⟨h.1, h.2⟩]
theorem numQ_f {x : ByteArray} (h : ¬ nt.Num x) : numQ x = none := by unfold numQ; rw [if_neg (fun k => h ⟨k.1, k.2⟩)]
theorem numQ_sound {x : ByteArray} {n : Int} (h : numQ x = some n) : x = mkB (numL n) := by
  unfold numQ at h
  split at h
  · rename_i k
    injection h with h
    subst h
    unfold numL
    rw [Int.toNat_natCast, k.1, mkB_of]
  · cases h
theorem numQ_num {n : Int} (h0 : 0 ≤ n) (h1 : n ≤ 1000000000) : numQ (mkB (numL n)) = some n := by
  have e : nt.parse (mkB (numL n)).data.toList = n.toNat := by rw [mkB_list]; exact nt.parse_dec _
  unfold numQ
  rw [e, mkB_list, if_pos ⟨rfl, by omega⟩, Int.toNat_of_nonneg h0]
/-- the part that a word says -/
def readQ (x : ByteArray) : Option Pt := if x.size = 0 then none else if bAt x 0 = 112 then (readAll (cuts (x.extract 1 x.size) 46)).map (fun zs => ⟨2, 0, zs⟩)
  else if bAt x 0 = 107 then (numQ (x.extract 1 x.size)).map (fun n => ⟨1, n, []⟩) else if bAt x 0 = 100 then (numQ (x.extract 1 x.size)).map (fun n => ⟨3, n, []⟩) else none
theorem readQ_mk (c : UInt8) (r : List UInt8) : readQ (mkB (c :: r)) = if c.toNat = 112 then (readAll (cuts (mkB r) 46)).map (fun zs => ⟨2, 0, zs⟩)
    else if c.toNat = 107 then (numQ (mkB r)).map (fun n => ⟨1, n, []⟩) else if c.toNat = 100 then (numQ (mkB r)).map (fun n => ⟨3, n, []⟩) else none := by
  have hz : (mkB (c :: r)).size = r.length + 1 := by rw [mkB_size]; rfl
  have hb : bAt (mkB (c :: r)) 0 = c.toNat := by
    obtain ⟨d, hd, e⟩ := bAt_list (mkB (c :: r)) 0 (by omega)
    rw [mkB_list] at hd
    simp at hd
    rw [← e, hd]
  have he : (mkB (c :: r)).extract 1 (mkB (c :: r)).size = mkB r := by
    rw [extract_mk, mkB_list, hz]
    simp
  unfold readQ
  rw [if_neg (by omega), hb, he]
theorem readQ_sound {x : ByteArray} {p : Pt} (h : readQ x = some p) : x = mkB (partL p) := by
  rw [← mkB_of x] at h ⊢
  cases hx : x.data.toList with
  | nil => rw [hx] at h; unfold readQ at h; rw [if_pos (by rw [mkB_size]; rfl)] at h; cases h
  | cons c r =>
    rw [hx, readQ_mk] at h
    split at h
    · rename_i hc
      obtain rfl : c = 112 := UInt8.toNat_inj.1 hc
      obtain ⟨zs, h1, rfl⟩ := Option.map_eq_some_iff.1 h
      obtain ⟨k1, k2, k3⟩ := read_join h1
      rw [mkB_inj k3, ← signL_J k1]
      rfl
    · split at h
      · rename_i hc
        obtain rfl : c = 107 := UInt8.toNat_inj.1 hc
        obtain ⟨n, h1, rfl⟩ := Option.map_eq_some_iff.1 h
        rw [mkB_inj (numQ_sound h1)]
        rfl
      · split at h
        · rename_i hc
          obtain rfl : c = 100 := UInt8.toNat_inj.1 hc
          obtain ⟨n, h1, rfl⟩ := Option.map_eq_some_iff.1 h
          rw [mkB_inj (numQ_sound h1)]
          rfl
        · cases h
/-- a part with a text of its own: what it inserts is something -/
def Spoken (p : Pt) : Prop := okPt p = true ∧ (p.kind = 2 → p.signs ≠ [])
theorem readQ_part {p : Pt} (h : Spoken p) : readQ (mkB (partL p)) = some p := by
  obtain ⟨k, n, zs⟩ := p
  have hp := of_okPt h.1
  have h2 := h.2
  simp only at hp h2
  rcases hp with ⟨hk, hn, hz⟩ | ⟨hk, hn, ha, hl⟩
  · obtain rfl : zs = [] := List.eq_nil_of_length_eq_zero hz
    rcases hk with rfl | rfl
    · rw [show partL ⟨1, n, []⟩ = 107 :: numL n from rfl, readQ_mk, if_neg (by decide), if_pos (by decide), numQ_num hn.1 (by omega)]
      rfl
    · rw [show partL ⟨3, n, []⟩ = 100 :: numL n from rfl, readQ_mk, if_neg (by decide), if_neg (by decide), if_pos (by decide), numQ_num hn.1 (by omega)]
      rfl
  · subst hk hn
    have hne := h2 rfl
    have hr : readAll (cuts (mkB (signJ zs)) 46) = some zs := by
      have e := textSign_of ha
      rw [signT_t ha, signL_J hne] at e
      have hd : ¬ mkB (signJ zs) = mkB [45] := fun k => by
        rw [k, textSign_dash] at e
        exact hne (Option.some.inj e).symm
      rw [textSign_rd hd] at e
      exact e
    rw [show partL ⟨2, 0, zs⟩ = 112 :: signL zs from rfl, signL_J hne, readQ_mk, if_pos (by decide), hr]
    rfl
def readAllQ : List ByteArray → Option (List Pt)
  | [] => some []
  | x :: xs => match readQ x with
    | none => none
    | some p => (readAllQ xs).map (p :: ·)
theorem readAllQ_snoc (x : ByteArray) : ∀ xs : List ByteArray, readAllQ (xs ++ [x]) = match readAllQ xs with
    | none => none
    | some ps => (readQ x).map (fun p => ps ++ [p])
  | [] => by simp only [List.nil_append, readAllQ]; cases readQ x <;> rfl
  | y :: ys => by
    have ih := readAllQ_snoc x ys
    simp only [List.cons_append, readAllQ]
    cases readQ y with
    | none => rfl
    | some p =>
      simp only
      rw [ih]
      cases readAllQ ys with
      | none => rfl
      | some ps => simp only [Option.map_some]; cases readQ x <;> rfl
theorem readAllQ_none {xs : List ByteArray} {k : Nat} (h : readAllQ (xs.take k) = none) : readAllQ xs = none := by
  have key : ∀ (ys zs : List ByteArray), readAllQ ys = none → readAllQ (ys ++ zs) = none := by
    intro ys
    induction ys with
    | nil => intro zs h; cases h
    | cons y ys ih =>
      intro zs h
      simp only [List.cons_append, readAllQ] at h ⊢
      cases hg : readQ y with
      | none => rfl
      | some z =>
        rw [hg] at h
        simp only [Option.map_eq_none_iff] at h ⊢
        exact ih zs h
  have := key _ (xs.drop k) h
  rwa [List.take_append_drop] at this
theorem readAllQ_len : ∀ {xs : List ByteArray} {ps : List Pt}, readAllQ xs = some ps → ps.length = xs.length
  | [], ps, h => by simp [readAllQ] at h; subst h; rfl
  | x :: xs, ps, h => by
    simp only [readAllQ] at h
    cases hg : readQ x with
    | none => rw [hg] at h; cases h
    | some p =>
      rw [hg] at h
      simp only [Option.map_eq_some_iff] at h
      obtain ⟨ys, h1, rfl⟩ := h
      simp [readAllQ_len h1]
theorem readAllQ_sound : ∀ {xs : List ByteArray} {ps : List Pt}, readAllQ xs = some ps → xs = (ps.map partL).map mkB
  | [], ps, h => by simp [readAllQ] at h; subst h; rfl
  | x :: xs, ps, h => by
    simp only [readAllQ] at h
    cases hg : readQ x with
    | none => rw [hg] at h; cases h
    | some p =>
      rw [hg] at h
      simp only [Option.map_eq_some_iff] at h
      obtain ⟨ys, h1, rfl⟩ := h
      rw [List.map_cons, List.map_cons, ← readQ_sound hg, ← readAllQ_sound h1]
theorem readAllQ_parts : ∀ {ps : List Pt}, (∀ p ∈ ps, Spoken p) → readAllQ ((ps.map partL).map mkB) = some ps
  | [], _ => rfl
  | p :: ps, h => by
    simp only [List.map_cons, readAllQ, readQ_part (h p (by simp)), readAllQ_parts (ps := ps) (fun q hq => h q (by simp [hq]))]
    rfl
theorem samePt_eq {p q : Pt} (h : samePt p q = true) : p = q := by
  obtain ⟨a, b, c⟩ := p
  obtain ⟨a', b', c'⟩ := q
  unfold samePt sameB at h
  simp at h
  obtain ⟨⟨h1, h2⟩, h3⟩ := h
  subst h1 h2 h3
  rfl
theorem samePs_eq : ∀ {ps qs : List Pt}, samePs ps qs = true → ps = qs
  | [], [], _ => rfl
  | [], q :: qs, h => by cases h
  | p :: ps, [], h => by cases h
  | p :: ps, q :: qs, h => by
    have h' : (samePt p q && samePs ps qs) = true := h
    rw [Bool.and_eq_true] at h'
    rw [samePt_eq h'.1, samePs_eq h'.2]
theorem isNorm_of {ps : List Pt} (h : isNormL ps = true) : okOp ps = true ∧ normL ps = ps := by
  unfold isNormL at h
  rw [Bool.and_eq_true] at h
  exact ⟨h.1, samePs_eq h.2⟩
theorem norm_says {ps : List Pt} (h : okOp ps = true) : ∀ p ∈ normL ps, Spoken p := by
  obtain ⟨h1, h2, _⟩ := norm_ok h
  intro p hp
  refine ⟨okPs_in (norm_parts h).1 hp, fun hk e => ?_⟩
  rcases h2.1 p hp with k | k | k
  · omega
  · rw [e] at k; simp at k
  · omega
theorem cuts_opT {o : List Pt} (h : okOp o = true) (hz : normL o ≠ []) : cuts (opT o) 32 = ((normL o).map partL).map mkB := by
  have hps := (norm_parts h).1
  have e : opT o = mkB (opJ (normL o)) := by rw [opT_t h]; unfold opL; rw [if_neg hz]
  rw [cuts_list, e, mkB_list]
  have := cut_join (c := 32) (xs := (normL o).map partL) (by simpa using hz) (fun x hx b hb => by
    obtain ⟨p, hp, rfl⟩ := List.mem_map.1 hx
    exact partL_bytes (List.all_eq_true.1 hps p hp) b hb)
  rw [show (32 : Nat) = (32 : UInt8).toNat from rfl]
  unfold opJ
  rw [this]
/-- an operation that a string's text is, its words say -/
theorem textOp_words {s : ByteArray} {qs : List Pt} (hd : ¬ s = mkB [45]) (h : textOp s = some qs) : isNormL qs = true ∧ readAllQ (cuts s 32) = some qs := by
  cases hr : readAllP (cuts s 32) with
  | none => rw [textOp_none hd hr] at h; cases h
  | some ps =>
    rw [textOp_some hd hr] at h
    split at h
    · rename_i hn
      injection h with h
      subst h
      obtain ⟨h1, h2⟩ := isNorm_of hn.1
      refine ⟨hn.1, ?_⟩
      have hz : normL ps ≠ [] := fun e => hd (by rw [← hn.2, opT_t h1, e]; rfl)
      have hc := cuts_opT h1 hz
      rw [hn.2] at hc
      rw [hc, h2]
      exact readAllQ_parts (by rw [← h2]; exact norm_says h1)
    · cases h
theorem textOp_q {s : ByteArray} (hd : ¬ s = mkB [45]) : (readAllQ (cuts s 32) = none → textOp s = none) ∧ ∀ ps, readAllQ (cuts s 32) = some ps → textOp s = if isNormL ps = true then some ps else none := by
  refine ⟨fun h => ?_, fun ps h => ?_⟩
  · cases ht : textOp s with
    | none => rfl
    | some qs => have := (textOp_words hd ht).2; rw [h] at this; cases this
  · by_cases hn : isNormL ps = true
    · obtain ⟨h1, h2⟩ := isNorm_of hn
      have hc := readAllQ_sound h
      have hps := (norm_parts h1).1
      rw [h2] at hps
      have hz : ps ≠ [] := fun e => cuts_ne s 32 (by rw [hc, e]; rfl)
      have hrp : readAllP (cuts s 32) = some ps := by
        rw [hc, List.map_map]
        exact readAllP_parts hps
      have hs : opT ps = s := by
        rw [opT_t h1, h2]
        unfold opL
        rw [if_neg hz]
        exact (cuts_join (c := 32) (xs := ps.map partL) hc).symm
      rw [textOp_some hd hrp, if_pos ⟨hn, hs⟩, if_pos hn]
    · rw [if_neg hn]
      cases ht : textOp s with
      | none => rfl
      | some qs =>
        obtain ⟨k1, k2⟩ := textOp_words hd ht
        rw [h] at k2
        obtain rfl := Option.some.inj k2
        exact absurd k1 hn
theorem numQ_len {x : ByteArray} {n : Int} (h : numQ x = some n) : 1 ≤ x.size := by
  unfold numQ at h
  split at h
  · rename_i k; exact (nt.Num.len (s := x) ⟨k.1, k.2⟩).1
  · cases h
theorem readAll_le {s : ByteArray} {zs : List Int} (h : readAll (cuts s 46) = some zs) : zs.length ≤ s.size := by
  obtain ⟨h1, h2, h3⟩ := read_join h
  rw [h3, mkB_size]
  have := joinL_ge 46 (xs := zs.map numL) (fun x hx => by
    obtain ⟨z, hz, rfl⟩ := List.mem_map.1 hx
    have := signB_bd (List.all_eq_true.1 h2 z hz)
    exact (numL_len (by omega)).1)
  rwa [List.length_map] at this
theorem readQ_sz {x : ByteArray} {p : Pt} (h : readQ x = some p) : 1 ≤ x.size ∧ p.signs.length ≤ x.size := by
  unfold readQ at h
  split at h
  · cases h
  · rename_i h0
    refine ⟨by omega, ?_⟩
    split at h
    · obtain ⟨zs, h1, rfl⟩ := Option.map_eq_some_iff.1 h
      exact Nat.le_trans (readAll_le h1) (extract_le _ _ _)
    · split at h
      · obtain ⟨n, h1, rfl⟩ := Option.map_eq_some_iff.1 h; simp
      · split at h
        · obtain ⟨n, h1, rfl⟩ := Option.map_eq_some_iff.1 h; simp
        · cases h
theorem readAllQ_sz : ∀ {xs : List ByteArray} {ps : List Pt}, readAllQ xs = some ps → ps.length ≤ sizes xs ∧ signsIn ps ≤ sizes xs
  | [], ps, h => by simp [readAllQ] at h; subst h; simp [signsIn]
  | x :: xs, ps, h => by
    simp only [readAllQ] at h
    cases hg : readQ x with
    | none => rw [hg] at h; cases h
    | some p =>
      rw [hg] at h
      simp only [Option.map_eq_some_iff] at h
      obtain ⟨ys, h1, rfl⟩ := h
      obtain ⟨i1, i2⟩ := readAllQ_sz h1
      obtain ⟨j1, j2⟩ := readQ_sz hg
      have e : sizes (x :: xs) = x.size + sizes xs := by simp [sizes]
      have e2 : signsIn (p :: ys) = p.signs.length + signsIn ys := by simp [signsIn]
      rw [e, e2, List.length_cons]
      omega
theorem readAllQ_sm {s : ByteArray} {ps : List Pt} (hs : s.size ≤ 1048576) (h : readAllQ (cuts s 32) = some ps) : SmP ps := by
  obtain ⟨h1, h2⟩ := readAllQ_sz h
  have := cuts_sum s 32
  exact ⟨by omega, by omega⟩
end Go.Proofs.YtbbpapaobehlcaaDoor.low


/-
  A row that make has laid, filled from its start on.
-/
namespace Go.Proofs.YtbbpapaobehlcaaDoor.low
open Go.RowKit
set_option linter.unusedVariables false

/-- n cells, the first of them written -/
def fillV {α : Type} (f : α → Value) (z : Value) (n : Nat) (out : List α) : List Value := out.map f ++ List.replicate (n - out.length) z
theorem fillV_len {α : Type} {f : α → Value} {z : Value} {n : Nat} {out : List α} (h : out.length ≤ n) : (fillV f z n out).length = n := by unfold fillV; simp; omega
theorem fillV_full {α : Type} {f : α → Value} {z : Value} {n : Nat} {out : List α} (h : out.length = n) : fillV f z n out = out.map f := by unfold fillV; rw [h, Nat.sub_self]; simp
theorem fillV_nil {α : Type} (f : α → Value) (z : Value) (n : Nat) : fillV f z n [] = List.replicate n z := by simp [fillV]
theorem fillV_set {α : Type} {f : α → Value} {z : Value} {n : Nat} {out : List α} {x : α} {k : Nat} (hk : out.length = k) (h : k < n) : (fillV f z n out).set k (f x) = fillV f z n (out ++ [x]) := by
  unfold fillV
  subst hk
  rw [List.set_append_right _ _ (by simp)]
  obtain ⟨m, hm⟩ : ∃ m, n - out.length = m + 1 := ⟨n - out.length - 1, by omega⟩
  have hm2 : n - (out ++ [x]).length = m := by simp; omega
  rw [hm, hm2]
  simp [List.replicate_succ]
theorem made_ints (n : Nat) : (madeCells (Value.cells (Value.int .i64 0)) (n * 1)).toList = fillV (Value.int .i64) (.int .i64 0) n [] := by
  rw [fillV_nil]
  simp [madeCells, Value.cells, Nat.mod_one, List.map_const']
theorem made_strs (n : Nat) : (madeCells (Value.cells (Value.string ByteArray.empty)) (n * 1)).toList = fillV Value.string (.string ByteArray.empty) n [] := by
  rw [fillV_nil]
  simp [madeCells, Value.cells, Nat.mod_one, List.map_const']
end Go.Proofs.YtbbpapaobehlcaaDoor.low


/-
  The program's side: contracts of impl.dotted, SignText, undotted, TextSign.
-/
namespace Go.Proofs.YtbbpapaobehlcaaDoor.low
open Go.RowKit
set_option linter.unusedVariables false

theorem numT_snoc {zs : List Int} {k : Nat} {z : Int} (h : zs[k]? = some z) : (zs.take k).map nt.numT ++ [nt.numT z] = (zs.take (k + 1)).map nt.numT := by rw [List.take_add_one, h]; simp
theorem numTs_eq : ∀ {zs : List Int}, allB zs = true → (zs.map nt.numT).map (·.data.toList) = zs.map numL
  | [], _ => rfl
  | z :: zs, h => by
    have h1 : signB z = true ∧ allB zs = true := by simpa [allB] using h
    have hb := signB_bd h1.1
    have ih := numTs_eq h1.2
    simp only [List.map_cons]
    rw [ih, numT_mk hb.1 (by omega), mkB_list]
theorem list46 : (⟨#[46]⟩ : ByteArray).data.toList = [46] := rfl
theorem list32 : (⟨#[32]⟩ : ByteArray).data.toList = [32] := rfl
set_option maxRecDepth 100000 in
set_option maxHeartbeats 1600000 in
theorem implDotted_any (A : Option Addr) (c : Nat) (zs : List Int) (w : World) (hr : Row (Value.int .i64) w w.heap.size A zs) (hl : zs.length ≤ 1048577) (ha : allB zs = true) (ht : nt.Tab w) :
    Calls Tryd.prog 69 #[.slice A zs.length c] w (Strs (mkB (signJ zs)) w) := by
  obtain ⟨i0, hi0, hz0, hz1, hz2⟩ := info_parts str_info
  have HAB := Lib.hid ha
  have HT := Lib.hid ht
  clear ha ht
  go_enter Tryd.func69, Tryd.ntmps69
  go_wp2_with (at_make; refine wpList_make_full _ rfl _ _ 72 rfl w.heap.size 9 i0 (.string ByteArray.empty) 1 Tryd.underlying72 hi0 hz0 hz1 _ _ _ _ zs.length rfl rfl (by omega) (by omega) (by rw [hz2]; omega) (by unfold maxLen; omega) (Nat.le_refl _) ?_; intro w2 hown hg2)
  have hb2 := (Below.refl w.heap.size w).grown hg2 (Nat.le_refl _) (fun _ h => by cases h)
  rw [made_strs] at hown
  have HOW := Lib.hid hown
  clear hown hg2
  go_loopw [11] (fun i wr => ∃ k : Nat, k ≤ zs.length ∧ i = .int .i64 k ∧ wr.ownsRow w.heap.size 9 1 (.slice (some ⟨w.heap.size, 0, none⟩) zs.length zs.length) zs.length (fillV Value.string (.string ByteArray.empty) zs.length ((zs.take k).map nt.numT)) ∧ Below w.heap.size w wr) (fun i _ => zs.length - (intOf i).toNat)
  case atStart => exact ⟨0, Nat.zero_le _, rfl, HOW.out, hb2⟩
  case round =>
    obtain ⟨k, hk, rfl, ho, hbel⟩ := hrel
    clear HOW hb2
    by_cases hlt : k < zs.length
    · obtain ⟨ad, z, rfl, hbl, hz, hc⟩ := hr.at_ hlt
      have hc' : wr.cell? (ad.add k) = some (.int .i64 z) := by rw [hbel.cell (by rw [block_of_add]; exact hbl)]; exact hc
      have hlk : ((zs.take k).map nt.numT).length = k := by simp; omega
      have hs := signB_bd (allB_at hz HAB.out)
      have HO := Lib.hid ho
      have HZ := Lib.hid hz
      have HLK := Lib.hid hlk
      clear hc hz hlk ho
      go_wp2_with fail
      refine (nt.implNumText_any z _ (HT.out.past hbel) (by omega)).mono ?_
      rintro e w3 ⟨rfl, b3⟩
      have hb3 := hbel.trans (b3.mono hbel.size)
      have ho3 : w3.ownsRow w.heap.size 9 1 (.slice (some ⟨w.heap.size, 0, none⟩) zs.length zs.length) zs.length (fillV Value.string (.string ByteArray.empty) zs.length ((zs.take k).map nt.numT)) := own_past HO.out b3
      have fz := ho3.frozenAt k
      obtain ⟨y, hy⟩ := idx_some (l := fillV Value.string (.string ByteArray.empty) zs.length ((zs.take k).map nt.numT)) (i := k) (by rw [fillV_len (by rw [HLK.out]; omega)]; exact hlt)
      have hcy : w3.cell? ⟨w.heap.size, k, none⟩ = some y := by rw [ho3.cellAt k (by omega), hy]
      have HW := Lib.hid (show (w3.setCell ⟨w.heap.size, k, none⟩ (.string (nt.numT z))).ownsRow w.heap.size 9 1 (.slice (some ⟨w.heap.size, 0, none⟩) zs.length zs.length) zs.length (fillV Value.string (.string ByteArray.empty) zs.length ((zs.take (k + 1)).map nt.numT)) by
        have := (World.ownsRow.stored ho3 k (.string (nt.numT z))).1
        rw [fillV_set (f := Value.string) HLK.out hlt, numT_snoc HZ.out] at this
        exact this)
      have HB2 := Lib.hid (hb3.setCell (p := ⟨w.heap.size, k, none⟩) (Nat.le_refl _) (.string (nt.numT z)))
      clear hy ho3
      generalize nt.numT z = z2 at *
      go_wp2
      go_roundw
      case rel => exact ⟨k + 1, by omega, by go_num, HW.out, HB2.out⟩
      case measure => simp [intOf]; omega
    · have hke : zs.take k = zs := List.take_of_length_le (by omega)
      rw [hke, fillV_full (by simp)] at ho
      clear hke
      by_cases hz : zs.length = 0
      · obtain rfl : zs = [] := List.eq_nil_of_length_eq_zero hz
        clear hz
        go_wp2_with fail
        refine (Tryd.strings_Join_none _ _ _ _).mono ?_
        rintro e w3 ⟨rfl, rfl⟩
        go_wp2
        go_ret
        exact ⟨rfl, hbel⟩
      · have hm : (zs.map nt.numT).length = zs.length := by simp
        have HJ := Lib.hid (show Lib.join ((zs.map nt.numT).map (·.data.toList)) (⟨#[46]⟩ : ByteArray).data.toList = signJ zs by rw [numTs_eq HAB.out, list46, join_joinL]; rfl)
        have hlen := signJ_len HAB.out
        have hq := Tryd.strings_Join w.heap.size 0 zs.length (zs.map nt.numT) ⟨#[46]⟩ wr (fun j x hx => by
            rw [Nat.zero_add, ho.cellAt j (by have := idx_lt hx; rw [hm] at this; omega), List.getElem?_map, hx]; rfl)
          (own_lt ho) (by rw [hm]; omega) (by rw [hm]; exact Nat.le_refl _) (by rw [HJ.out]; omega)
        rw [HJ.out, hm] at hq
        have HQ := Lib.hid hq
        clear hq ho hm hlen hz
        go_wp2_with fail
        refine HQ.out.mono ?_
        rintro e w3 ⟨rfl, b3⟩
        go_wp2
        go_ret
        exact ⟨rfl, hbel.trans (b3.mono hbel.size)⟩
set_option maxRecDepth 100000 in
set_option maxHeartbeats 1600000 in
theorem implSignText_d (v : Value) (zs : List Int) (w : World) (h : RdC w w.heap.size (encInts zs) v) (hs : SmI zs) (ht : nt.Tab w) : Calls Tryd.prog 28 #[v] w (Strs (signT zs) w) := by
  obtain ⟨A, c, rfl, hr, _⟩ := ints_rd h
  have hl : zs.length ≤ 1048576 := hs
  have HT := Lib.hid ht
  clear ht
  cases hab : allB zs
  · have HB := Lib.hid (signT_f hab)
    go_enter Tryd.func28, Tryd.ntmps28
    go_wp2_with fail
    refine (implSignsOk_any A c zs _ hr (by omega)).mono ?_
    rintro e w' ⟨rfl, rfl⟩
    rw [hab]
    go_wp2
    go_ret
    rw [HB.out]
    exact ⟨rfl, Below.refl _ _⟩
  · have HAB := Lib.hid hab
    by_cases hz : zs.length = 0
    · have e0 : zs = [] := List.eq_nil_of_length_eq_zero hz
      subst e0
      go_enter Tryd.func28, Tryd.ntmps28
      go_wp2_with fail
      refine (implSignsOk_any A c [] _ hr (by omega)).mono ?_
      rintro e w' ⟨rfl, rfl⟩
      go_wp2
      go_ret
      exact ⟨rfl, Below.refl _ _⟩
    · have HB := Lib.hid (show signT zs = mkB (signJ zs) by rw [signT_t hab, signL_J (by intro e; rw [e] at hz; exact hz rfl)])
      have hz' : ((zs.length : Int) == 0) = false := by rw [beq_eq_false_iff_ne]; omega
      go_enter Tryd.func28, Tryd.ntmps28
      go_wp2_with fail
      refine (implSignsOk_any A c zs _ hr (by omega)).mono ?_
      rintro e w' ⟨rfl, rfl⟩
      rw [hab]
      clear hab hz
      go_wp2_with fail
      refine (implDotted_any A c zs _ hr (by omega) HAB.out HT.out).mono ?_
      rintro e w' ⟨rfl, b1⟩
      go_wp2
      go_ret
      rw [HB.out]
      exact ⟨rfl, b1⟩
set_option maxRecDepth 100000 in
set_option maxHeartbeats 1600000 in
theorem implUndotted_d (s : ByteArray) (w : World) (hs : s.size ≤ 1048576) (ht : nt.Tab w) (he : nt.Errs w) : Calls Tryd.prog 68 #[.string s] w (ResB (encInts (rdL s)) (rdB s) w) := by
  obtain ⟨i0, hi0, hz0, hz1, hz2⟩ := info_parts ints_info
  have HT := Lib.hid ht
  have HE := Lib.hid he
  clear ht he
  go_enter Tryd.func68, Tryd.ntmps68
  go_wp2_with fail
  refine (implSplit_any s 46 w hs (by omega)).mono ?_
  rintro e w2 ⟨v2, rfl, sb, b2⟩
  have hcl := cuts_len s 46 hs
  obtain ⟨A2, c2, rfl, _⟩ := sb.slice
  have HSB := Lib.hid sb
  have HLE := Lib.hid (show ∀ x ∈ cuts s 46, x.size ≤ 1048576 from fun x hx => Nat.le_trans (cuts_le hx) hs)
  generalize hxs : cuts s 46 = xs at *
  have HXS := Lib.hid hxs
  have HR0 := Lib.hid (show OwB w2.heap.size w2.heap.size w2 (encInts []) (.slice none 0 0) [] from ⟨nil_owI w2, by simp, fun q hq => by simp at hq, Nat.le_refl _, Nat.le_refl _⟩)
  clear sb hxs
  go_wp2
  go_loopw [4, 12] (fun o i wr => ∃ (k : Nat) (acc : List Int) (b : List Nat), k ≤ xs.length ∧ i = .int .i64 k ∧ readAll (xs.take k) = some acc ∧ OwB w2.heap.size wr.heap.size wr (encInts acc) o b ∧ Below w2.heap.size w2 wr) (fun _ i _ => xs.length - (intOf i).toNat)
  case atStart => exact ⟨0, [], _, Nat.zero_le _, rfl, rfl, HR0.out, Below.refl _ _⟩
  case round =>
    obtain ⟨k, acc, b, hk, rfl, hf, ow, hbel⟩ := hrel
    obtain ⟨A1, c1, rfl⟩ := sliceI ow.read
    have hal : acc.length ≤ 1048577 := by rw [readAll_len hf, List.length_take]; omega
    have HF := Lib.hid hf
    have HOW := Lib.hid ow
    have D := b2.trans (hbel.mono b2.size)
    clear hf ow HR0
    by_cases hlt : k < xs.length
    · obtain ⟨g, cap, x, hv, hge, hgl, hx, hc⟩ := sbuf_at HSB.out hlt
      obtain ⟨rfl, rfl⟩ : A2 = some ⟨g, 0, none⟩ ∧ c2 = cap := by injection hv with q1 _ q3; exact ⟨q1, q3⟩
      have hc' : wr.cell? ⟨g, k, none⟩ = some (.string x) := (hbel.cell (p := ⟨g, k, none⟩) hgl).trans hc
      have hxs := HLE.out x (List.mem_of_getElem? hx)
      have K1 := Lib.hid (show readAll (xs.take (k + 1)) = (goodN x).map (fun z => acc ++ [z]) by rw [List.take_add_one, hx]; simp only [Option.toList_some]; rw [readAll_snoc, HF.out])
      clear hc hx hv
      by_cases hn : nt.Num x
      · generalize hpz : ((nt.parse x.data.toList : Nat) : Int) = z at *
        cases hsg : signB z
        · have HN := Lib.hid (rd_f (s := s) (by rw [HXS.out]; exact readAll_none (k := k + 1) (by rw [K1.out, goodN_f (fun h => by rw [hpz, hsg] at h; exact absurd h.2 (by simp))]; rfl)))
          have HNN := Lib.hid hn
          clear hn
          go_wp2_with fail
          refine (nt.implTextNum_any x _ hxs (HT.out.past D) (HE.out.past D)).mono ?_
          rintro e w3 ⟨⟨h3, _⟩, b3⟩
          obtain rfl := h3 HNN.out
          rw [hpz]
          clear hpz h3
          go_wp2_with fail
          refine (implSignOk_any z _).mono ?_
          rintro e w4 ⟨rfl, rfl⟩
          rw [hsg]
          go_wp2
          go_ret2
          rw [HN.out.1, HN.out.2]
          exact resI_nil (D.trans (b3.mono D.size))
        · have K2 := Lib.hid (show readAll (xs.take (k + 1)) = some (acc ++ [z]) by rw [K1.out, ← hpz, goodN_t hn (by rw [hpz]; exact hsg)]; rfl)
          have HNN := Lib.hid hn
          clear hn K1
          go_wp2_with fail
          refine (nt.implTextNum_any x _ hxs (HT.out.past D) (HE.out.past D)).mono ?_
          rintro e w3 ⟨⟨h3, _⟩, b3⟩
          obtain rfl := h3 HNN.out
          rw [hpz]
          clear hpz h3
          go_wp2_with fail
          refine (implSignOk_any z _).mono ?_
          rintro e w4 ⟨rfl, rfl⟩
          rw [hsg]
          have bA := alloc_below w3 (.cells #[.int .i64 z] 3)
          have HO1' := Lib.hid ((HOW.out.past b3).past bA)
          have hnews : ∀ (j : Nat) (u : Value), [Value.int .i64 z][j]? = some u → (w3.alloc (.cells #[.int .i64 z] 3)).cell? ((⟨w3.heap.size, 0, none⟩ : Addr).add j) = some u := fun j u hu => by
            cases j with
            | zero =>
              simp at hu
              subst hu
              exact cell_of_row _ _ 0 _ _ _ (heap_alloc_new w3 _)
            | succ j => simp at hu
          have HNW := Lib.hid hnews
          have hlx : (acc.map fun z => [Dat.int z]).length ≤ 2000000 := by rw [List.length_map]; omega
          have D3 := hbel.trans (b3.mono hbel.size)
          have DA := D3.trans (bA.mono D3.size)
          have HDA := Lib.hid DA
          clear hnews D3 DA bA b3
          go_wp2_with (at_builtin; refine wpList_append_row rfl (.tmp 28) (.tmp 30) 23 rfl 3 i0 (.int .i64 0) 1 8 Tryd.underlying23 hi0 hz0 hz1 hz2 rfl (by decide) (by decide) w2.heap.size _ (.slice A1 acc.length c1) (acc.map fun z => [Dat.int z]) b HO1'.out rfl hlx ⟨w3.heap.size, 0, none⟩ _ [.int .i64 z] rfl rfl HNW.out (by simp [Value.oneCell']) [Dat.int z] [] ⟨_, [], [], [], rfl, rfl, ⟨rfl, rfl⟩, rfl, rfl⟩ (by simp) (by simp) (by simp) ?_; intro A7 c7 w7 b7 o7 in7 g7 bl7)
          have o7' : OwB w2.heap.size w7.heap.size w7 (encInts (acc ++ [z])) (.slice A7 (acc.length + 1) c7) b7 := by
            have e : encInts (acc ++ [z]) = .rows 3 1 ((acc.map fun z => [Dat.int z]) ++ [[Dat.int z]]) := by unfold encInts; rw [List.map_append]; rfl
            rw [e]
            simpa using o7
          have HO7 := Lib.hid o7'
          have D7 := HDA.out.trans bl7
          clear o7 o7' in7 g7 bl7 HO1' HNW HDA
          go_wp2
          go_roundw
          case rel => exact ⟨k + 1, _, _, by omega, by go_num, K2.out, by simpa using HO7.out, D7⟩
          case measure => simp [intOf]; omega
      · have HN := Lib.hid (rd_f (s := s) (by rw [HXS.out]; exact readAll_none (k := k + 1) (by rw [K1.out, goodN_f (fun h => hn h.1)]; rfl)))
        have HNN := Lib.hid hn
        clear hn
        go_wp2_with fail
        refine (nt.implTextNum_any x _ hxs (HT.out.past D) (HE.out.past D)).mono ?_
        rintro e w3 ⟨⟨_, h3⟩, b3⟩
        obtain rfl := h3 HNN.out
        clear h3
        go_wp2
        go_ret2
        rw [HN.out.1, HN.out.2]
        exact resI_nil (D.trans (b3.mono D.size))
    · have hke : xs.take k = xs := List.take_of_length_le (by omega)
      have HN := Lib.hid (rd_t (s := s) (by rw [HXS.out, ← hke]; exact HF.out))
      have hb2 := b2.size
      clear hke
      go_wp2
      go_ret2
      rw [HN.out.1, HN.out.2]
      exact ⟨_, rfl, ⟨b, HOW.out.ow, HOW.out.nd, fun q hq => ⟨Nat.le_trans hb2 (HOW.out.rng q hq).1, (HOW.out.rng q hq).2⟩, HOW.out.top, D.size⟩, D⟩
set_option maxHeartbeats 400000 in
theorem implTextSign_d (s : ByteArray) (w : World) (hs : s.size ≤ 1048576) (ht : nt.Tab w) (he : nt.Errs w) : Calls Tryd.prog 27 #[.string s] w (ResB (encInts (tsL s)) (tsB s) w) := by
  have HT := Lib.hid ht
  have HE := Lib.hid he
  clear ht he
  by_cases hd : s = mkB [45]
  · subst hd
    have e1 := dash_t
    have HN := Lib.hid (ts_t textSign_dash)
    go_enter Tryd.func27, Tryd.ntmps27
    go_wp2
    go_ret2
    rw [HN.out.1, HN.out.2]
    exact ⟨_, rfl, nilOwn _ w rfl (Nat.le_refl _), Below.refl _ _⟩
  · have e1 := not_dash hd
    have HN := Lib.hid (ts_rd hd)
    clear hd
    go_enter Tryd.func27, Tryd.ntmps27
    go_wp2_with fail
    refine (implUndotted_d s _ hs HT.out HE.out).mono ?_
    rintro e w1 ⟨v1, rfl, o1, b1⟩
    generalize rdB s = rb at *
    go_wp2
    go_ret2
    rw [HN.out.1, HN.out.2]
    exact ⟨_, rfl, o1, b1⟩
end Go.Proofs.YtbbpapaobehlcaaDoor.low


/-
  Contracts of the program's builder: endRun, drop, put, done, keep.
-/
namespace Go.Proofs.YtbbpapaobehlcaaDoor.low
open Go.RowKit
set_option linter.unusedVariables false

set_option maxRecDepth 100000 in
set_option maxHeartbeats 3200000 in
theorem implFlush_f (S : Nat → Prop) (lo g : Nat) (ps : List Pt) (put : List Int) (d : Int) (w : World) (hb : BAtS S lo g 62 w ps put d) (hS : ∀ b, w.heap.size ≤ b → S b) (hl : ps.length ≤ 4294967296) (hp : put.length ≤ 4294967296) :
    Calls Tryd.prog 91 #[.pointer (some ⟨g, 0, none⟩)] w (FlushedS S lo g 62 w (ps ++ putL put ++ dropL d)) := by
  obtain ⟨i0, hi0, hz0, hz1, hz2⟩ := info_parts part_info
  obtain ⟨v, u, us, hx, ha, hos⟩ := hb
  have HS := Lib.hid hS
  have HOS := Lib.hid hos
  clear hS hos
  have ha0 := ha.init hx.len
  obtain ⟨A, c, rfl⟩ := own_form (ha.last hx.len)
  have c0 := hx.cell0
  have c1 := hx.cell1
  have c2 := hx.cell2
  have f0 := hx.free 0
  have f1 := hx.free 1
  have f2 := hx.free 2
  have HX := Lib.hid hx
  have HA := Lib.hid ha
  have HA0 := Lib.hid ha0
  clear hx ha ha0
  by_cases hput : put.length = 0
  · have e1 : putL put = [] := by simp [putL, hput]
    rw [e1, List.append_nil]
    by_cases hd : 0 < d
    · have e2 : dropL d = [⟨3, d, []⟩] := by simp [dropL, hd]
      rw [e2]
      go_enter Tryd.func91, Tryd.ntmps91
      go_wp2_with fail
      have lg := HX.out.lt
      have hlo : lo ≤ w.heap.size := Nat.le_trans HX.out.low (Nat.le_of_lt lg)
      have hne := own_far HX.out.row HX.out.box (by decide)
      go_region_law ((refine step_append_lies _ (by rfl) (.tmp 31) (.tmp 37) 24 (by rfl) lo 64 i0 _ 3 40 Tryd.underlying24 hi0 hz0 hz1 hz2 rfl (by omega) v ps.length (cellsOf ps us) (by rfl) ((HX.out.row.alloc _).drew) ⟨w.heap.size, 0, none⟩ 1 1 [.int .i64 3, .int .i64 d, .slice none 0 0] (by rfl) (by rfl) (World.news_of_block (cs := #[.int .i64 3, .int .i64 d, .slice none 0 0]) (t := 64) (fr := (0, 0)) (heap_alloc_new w _)) (by simp [Value.oneCell']) (by omega) (by unfold maxLen; omega) (by omega) (by simp; omega) (w.heap.size + 1) (by simp) ?_; intro gg cap w1 hown1 hgrow hat hlt; have hf := free_grown (o := 0) HX.out.box (below_made w _) hgrow hne; have hf1 := free_grown (o := 1) HX.out.box (below_made w _) hgrow hne; have hf2 := free_grown (o := 2) HX.out.box (below_made w _) hgrow hne; have hc : w1.cell? ⟨g, 0, none⟩ = some v := cell_grown 0 HX.out.box (below_made w _) hgrow hne; have hc1 : w1.cell? ⟨g, 1, none⟩ = some (.slice A put.length c) := cell_grown 1 HX.out.box (below_made w _) hgrow hne; have hc2 : w1.cell? ⟨g, 2, none⟩ = some (.int .i64 d) := cell_grown 2 HX.out.box (below_made w _) hgrow hne))
      all_goals
        obtain ⟨hx2, ha2, b2⟩ := Box.push (p := ⟨3, d, []⟩) HX.out (by decide) (by decide) (Apart.bare 3 d HA0.out) (below_made w _) hown1 hgrow
        have HO2 := Lib.hid (HOS.out.init.push (n := ps.length + 1) (cap := cap) nil_own hat (HS.out _ (by omega)))
        have HR2 := Lib.hid (push_fr HOS.out.init (below_made w _) hgrow (.slice (some ⟨gg, 0, none⟩) (ps.length + 1) cap))
        have HX2 := Lib.hid hx2
        have HA2 := Lib.hid ha2
        have HB2 := Lib.hid b2
        clear hx2 ha2 b2
        go_wp2
        go_end0
        obtain ⟨r1, r2, r3⟩ := HX2.out.clearS (by decide) (by decide) HA2.out HO2.out
        exact ⟨rfl, r1, HB2.out.trans r2, HR2.out.trans r3⟩

    · have e2 : dropL d = [] := by simp [dropL]; omega
      rw [e2, List.append_nil]
      go_enter Tryd.func91, Tryd.ntmps91
      go_wp2_with fail
      go_end0
      obtain ⟨r1, r2, r3⟩ := HX.out.clearS (by decide) (by decide) HA0.out HOS.out.init
      exact ⟨rfl, r1, r2, r3⟩
  · have hput' : (0 : Int) < (put.length : Int) := by omega
    have e1 : putL put = [⟨2, 0, put⟩] := by simp [putL, hput]
    rw [e1]
    by_cases hd : 0 < d
    · have e2 : dropL d = [⟨3, d, []⟩] := by simp [dropL, hd]
      rw [e2]
      generalize hQ : ps ++ [⟨2, 0, put⟩] ++ [⟨3, d, []⟩] = Q
      have HQ := Lib.hid hQ
      clear hQ
      go_enter Tryd.func91, Tryd.ntmps91
      go_wp2_with fail
      have lg := HX.out.lt
      have hlo : lo ≤ w.heap.size := Nat.le_trans HX.out.low (Nat.le_of_lt lg)
      have hne := own_far HX.out.row HX.out.box (by decide)
      go_region_law ((refine step_append_lies _ (by rfl) (.tmp 12) (.tmp 18) 24 (by rfl) lo 64 i0 _ 3 40 Tryd.underlying24 hi0 hz0 hz1 hz2 rfl (by omega) v ps.length (cellsOf ps us) (by rfl) ((HX.out.row.alloc _).drew) ⟨w.heap.size, 0, none⟩ 1 1 [.int .i64 2, .int .i64 0, .slice A put.length c] (by rfl) (by rfl) (World.news_of_block (cs := #[.int .i64 2, .int .i64 0, .slice A put.length c]) (t := 64) (fr := (0, 0)) (heap_alloc_new w _)) (by simp [Value.oneCell']) (by omega) (by unfold maxLen; omega) (by omega) (by simp; omega) (w.heap.size + 1) (by simp) ?_; intro gg cap w1 hown1 hgrow hat hlt; have hf := free_grown (o := 0) HX.out.box (below_made w _) hgrow hne; have hf1 := free_grown (o := 1) HX.out.box (below_made w _) hgrow hne; have hf2 := free_grown (o := 2) HX.out.box (below_made w _) hgrow hne; have hc : w1.cell? ⟨g, 0, none⟩ = some v := cell_grown 0 HX.out.box (below_made w _) hgrow hne; have hc1 : w1.cell? ⟨g, 1, none⟩ = some (.slice A put.length c) := cell_grown 1 HX.out.box (below_made w _) hgrow hne; have hc2 : w1.cell? ⟨g, 2, none⟩ = some (.int .i64 d) := cell_grown 2 HX.out.box (below_made w _) hgrow hne))
      all_goals

        obtain ⟨hx1, ha1, b1⟩ := Box.push (p := ⟨2, 0, put⟩) HX.out (by decide) (by decide) HA.out (below_made w _) hown1 hgrow
        have HO1 := Lib.hid (HOS.out.init.push (n := ps.length + 1) (cap := cap) HOS.out.last hat (HS.out _ (by omega)))
        have HR1 := Lib.hid (push_fr HOS.out.init (below_made w _) hgrow (.slice (some ⟨gg, 0, none⟩) (ps.length + 1) cap))
        clear hown1 hgrow hat hlt hlo hne lg c0 c1 c2 f0 f1 f2
        have HX1 := Lib.hid hx1
        have HA1 := Lib.hid ha1
        have HB1 := Lib.hid b1
        clear hx1 ha1 b1
        go_wp2_with fail
        clear hf hf1 hf2 hc hc1 hc2
        generalize (Value.slice (some ⟨gg, 0, none⟩) (ps.length + 1) cap) = v1 at *
        generalize w1.setCell ⟨g, 0, none⟩ v1 = W1 at *
        have c0 := HX1.out.cell0
        have c1 := HX1.out.cell1
        have c2 := HX1.out.cell2
        have f0 := HX1.out.free 0
        have f1 := HX1.out.free 1
        have f2 := HX1.out.free 2
        generalize hps : ps ++ [⟨2, 0, put⟩] = ps1 at *
        have hl1 : ps1.length ≤ 4294967297 := by rw [← hps]; simp; omega
        clear hps
        generalize us ++ [Value.slice A put.length c] = us1 at *
        have lg := HX1.out.lt
        have hlo : lo ≤ W1.heap.size := Nat.le_trans HX1.out.low (Nat.le_of_lt lg)
        have hne := own_far HX1.out.row HX1.out.box (by decide)
        go_region_law ((refine step_append_lies _ (by rfl) (.tmp 31) (.tmp 37) 24 (by rfl) lo 64 i0 _ 3 40 Tryd.underlying24 hi0 hz0 hz1 hz2 rfl (by omega) v1 ps1.length (cellsOf ps1 us1) (by rfl) ((HX1.out.row.alloc _).drew) ⟨W1.heap.size, 0, none⟩ 1 1 [.int .i64 3, .int .i64 d, .slice none 0 0] (by rfl) (by rfl) (World.news_of_block (cs := #[.int .i64 3, .int .i64 d, .slice none 0 0]) (t := 64) (fr := (0, 0)) (heap_alloc_new W1 _)) (by simp [Value.oneCell']) (by omega) (by unfold maxLen; omega) (by omega) (by simp; omega) (W1.heap.size + 1) (by simp) ?_; intro gg cap w1 hown1 hgrow hat hlt; have hf := free_grown (o := 0) HX1.out.box (below_made W1 _) hgrow hne; have hf1 := free_grown (o := 1) HX1.out.box (below_made W1 _) hgrow hne; have hf2 := free_grown (o := 2) HX1.out.box (below_made W1 _) hgrow hne; have hc : w1.cell? ⟨g, 0, none⟩ = some v1 := cell_grown 0 HX1.out.box (below_made W1 _) hgrow hne; have hc1 : w1.cell? ⟨g, 1, none⟩ = some (.slice A put.length c) := cell_grown 1 HX1.out.box (below_made W1 _) hgrow hne; have hc2 : w1.cell? ⟨g, 2, none⟩ = some (.int .i64 d) := cell_grown 2 HX1.out.box (below_made W1 _) hgrow hne))
        all_goals
          obtain ⟨hx2, ha2, b2⟩ := Box.push (p := ⟨3, d, []⟩) HX1.out (by decide) (by decide) (Apart.bare 3 d HA1.out) (below_made W1 _) hown1 hgrow
          have HO2 := Lib.hid (HO1.out.push (n := ps1.length + 1) (cap := cap) nil_own hat (HS.out _ (by have := HR1.out.size; omega)))
          have HR2 := Lib.hid (push_fr HO1.out (below_made W1 _) hgrow (.slice (some ⟨gg, 0, none⟩) (ps1.length + 1) cap))
          have HX2 := Lib.hid hx2
          have HA2 := Lib.hid ha2
          have HB2 := Lib.hid b2
          clear hx2 ha2 b2
          go_wp2
          go_end0
          obtain ⟨r1, r2, r3⟩ := HX2.out.clearS (by decide) (by decide) HA2.out HO2.out
          exact ⟨rfl, by rw [← HQ.out]; exact r1, HB1.out.trans (HB2.out.trans r2), HR1.out.trans (HR2.out.trans r3)⟩

    · have e2 : dropL d = [] := by simp [dropL]; omega
      rw [e2, List.append_nil]
      go_enter Tryd.func91, Tryd.ntmps91
      go_wp2_with fail
      have lg := HX.out.lt
      have hlo : lo ≤ w.heap.size := Nat.le_trans HX.out.low (Nat.le_of_lt lg)
      have hne := own_far HX.out.row HX.out.box (by decide)
      go_region_law ((refine step_append_lies _ (by rfl) (.tmp 12) (.tmp 18) 24 (by rfl) lo 64 i0 _ 3 40 Tryd.underlying24 hi0 hz0 hz1 hz2 rfl (by omega) v ps.length (cellsOf ps us) (by rfl) ((HX.out.row.alloc _).drew) ⟨w.heap.size, 0, none⟩ 1 1 [.int .i64 2, .int .i64 0, .slice A put.length c] (by rfl) (by rfl) (World.news_of_block (cs := #[.int .i64 2, .int .i64 0, .slice A put.length c]) (t := 64) (fr := (0, 0)) (heap_alloc_new w _)) (by simp [Value.oneCell']) (by omega) (by unfold maxLen; omega) (by omega) (by simp; omega) (w.heap.size + 1) (by simp) ?_; intro gg cap w1 hown1 hgrow hat hlt; have hf := free_grown (o := 0) HX.out.box (below_made w _) hgrow hne; have hf1 := free_grown (o := 1) HX.out.box (below_made w _) hgrow hne; have hf2 := free_grown (o := 2) HX.out.box (below_made w _) hgrow hne; have hc : w1.cell? ⟨g, 0, none⟩ = some v := cell_grown 0 HX.out.box (below_made w _) hgrow hne; have hc1 : w1.cell? ⟨g, 1, none⟩ = some (.slice A put.length c) := cell_grown 1 HX.out.box (below_made w _) hgrow hne; have hc2 : w1.cell? ⟨g, 2, none⟩ = some (.int .i64 d) := cell_grown 2 HX.out.box (below_made w _) hgrow hne))
      all_goals

        obtain ⟨hx1, ha1, b1⟩ := Box.push (p := ⟨2, 0, put⟩) HX.out (by decide) (by decide) HA.out (below_made w _) hown1 hgrow
        have HO2 := Lib.hid (HOS.out.init.push (n := ps.length + 1) (cap := cap) HOS.out.last hat (HS.out _ (by omega)))
        have HR2 := Lib.hid (push_fr HOS.out.init (below_made w _) hgrow (.slice (some ⟨gg, 0, none⟩) (ps.length + 1) cap))
        have HX2 := Lib.hid hx1
        have HA2 := Lib.hid ha1
        have HB2 := Lib.hid b1
        clear hx1 ha1 b1
        go_wp2
        go_end0
        obtain ⟨r1, r2, r3⟩ := HX2.out.clearS (by decide) (by decide) HA2.out HO2.out
        exact ⟨rfl, r1, HB2.out.trans r2, HR2.out.trans r3⟩

theorem implFlush_any (lo g : Nat) (ps : List Pt) (put : List Int) (d : Int) (w : World) (hb : BAt lo g 62 w ps put d) (hl : ps.length ≤ 4294967296) (hp : put.length ≤ 4294967296) :
    Calls Tryd.prog 91 #[.pointer (some ⟨g, 0, none⟩)] w (Flushed lo g 62 w (ps ++ putL put ++ dropL d)) :=
  (implFlush_f (fun _ => True) lo g ps put d w hb.all (fun _ _ => trivial) hl hp).mono fun e w' h => h.any

set_option maxHeartbeats 1600000 in
theorem implDrop_f (S : Nat → Prop) (lo g : Nat) (ps : List Pt) (put : List Int) (d n : Int) (w : World) (hb : BAtS S lo g 62 w ps put d) (hS : ∀ b, w.heap.size ≤ b → S b) (h0 : 0 ≤ d) (h1 : d ≤ 4611686018427387904) (h2 : 0 ≤ n) (h3 : n ≤ 1048576) :
    Calls Tryd.prog 90 #[.pointer (some ⟨g, 0, none⟩), .int .i64 n] w (BuiltS S lo g 62 w ps put (d + n)) := by
  obtain ⟨v, u, us, hx, ha, hos⟩ := hb
  have HS := Lib.hid hS
  have HOS := Lib.hid hos
  clear hS hos
  have c2 := hx.cell2
  have f2 := hx.free 2
  have HX := Lib.hid hx
  have HA := Lib.hid ha
  clear hx ha
  go_enter Tryd.func90, Tryd.ntmps90
  go_wp2
  go_end0
  obtain ⟨r1, r2, r3⟩ := HX.out.dropS (d' := d + n) (by decide) (by decide) HA.out HOS.out
  exact ⟨rfl, r1, r2, r3⟩

set_option maxHeartbeats 1600000 in
theorem implPut_f (S : Nat → Prop) (lo g : Nat) (ps : List Pt) (put : List Int) (d : Int) (A : Option Addr) (c : Nat) (zs : List Int) (w : World) (hb : BAtS S lo g 62 w ps put d) (hS : ∀ b, w.heap.size ≤ b → S b) (hr : Row (Value.int .i64) w w.heap.size A zs) (hp : put.length ≤ 4294967296) (hz : zs.length ≤ 4294967296) :
    Calls Tryd.prog 89 #[.pointer (some ⟨g, 0, none⟩), .slice A zs.length c] w (BuiltS S lo g 62 w ps (put ++ zs) d) := by
  obtain ⟨i0, hi0, hz0, hz1, hz2⟩ := info_parts ints_info
  obtain ⟨v, u, us, hx, ha, hos⟩ := hb
  have HS := Lib.hid hS
  have HOS := Lib.hid hos
  clear hS hos
  obtain ⟨Au, cu, rfl⟩ := own_form (ha.last hx.len)
  simp only at hx ha
  have c1 := hx.cell1
  have f1 := hx.free 1
  have ho := Lib.hid (ha.last hx.len)
  have hlo : lo ≤ w.heap.size := Nat.le_trans hx.low (Nat.le_of_lt hx.lt)
  have HX := Lib.hid hx
  have HA := Lib.hid ha
  clear hx ha
  by_cases hn : 0 < zs.length
  · obtain ⟨ad, rfl, hbk, hcs⟩ := hr hn
    have hcs' : ∀ j x, (zs.map (Value.int .i64))[j]? = some x → w.cell? (ad.add j) = some x := fun j x hx => by
      rw [List.getElem?_map] at hx
      obtain ⟨z, hz, rfl⟩ := Option.map_eq_some_iff.1 hx
      exact hcs j z hz
    have HC := Lib.hid hcs'
    clear hcs hcs' hr
    have hug := own_far ho.out HX.out.box (by decide)
    go_enter Tryd.func89, Tryd.ntmps89
    go_wp2_with (at_builtin; refine wpList_append_lies _ rfl (.tmp 8) (.tmp 9) 23 rfl lo 3 i0 (.int .i64 0) 1 8 Tryd.underlying23 hi0 hz0 hz1 hz2 rfl (by decide) (.slice Au put.length cu) put.length (put.map (Value.int .i64)) rfl ho.out ad zs.length c (zs.map (Value.int .i64)) rfl (by simp) HC.out (by simp [Value.oneCell']) (by omega) (by unfold maxLen; omega) (by omega) hlo w.heap.size rfl ?_; intro gg cap w1 hown1 hgrow hat hlt; have hf := free_grown (o := 1) HX.out.box (Below.refl _ _) hgrow hug; have hc : w1.cell? ⟨g, 1, none⟩ = some (.slice Au put.length cu) := cell_grown 1 HX.out.box (Below.refl _ _) hgrow hug)
    go_end0
    obtain ⟨r1, r2, r3⟩ := Box.moreS (put' := put ++ zs) HX.out (by decide) (by decide) HA.out (by simpa using hown1) hgrow (hat.elim (fun e => .inl (by rw [e]; rfl)) (fun e => .inr (by rw [← e]; rfl))) HOS.out (HS.out _ (Nat.le_refl _))
    exact ⟨rfl, r1, r2, r3⟩
  · have e0 : zs = [] := List.eq_nil_of_length_eq_zero (by omega)
    subst e0
    rw [List.append_nil]
    go_enter Tryd.func89, Tryd.ntmps89
    go_wp2_with (at_builtin; refine wpList_append_zero rfl (.tmp 8) (.tmp 9) 23 rfl lo 3 i0 1 Tryd.underlying23 hi0 (.slice Au put.length cu) put.length (put.map (Value.int .i64)) rfl ho.out A c rfl ?_)
    go_end0
    obtain ⟨r1, r2, r3⟩ := Box.moreS (put' := put) HX.out (by decide) (by decide) HA.out ho.out ⟨rfl, rfl, rfl, Nat.le_refl _, fun _ _ _ => rfl⟩ (.inl rfl) HOS.out (HS.out _ (Nat.le_refl _))
    exact ⟨rfl, r1, r2, r3⟩

theorem implDrop_any (lo g : Nat) (ps : List Pt) (put : List Int) (d n : Int) (w : World) (hb : BAt lo g 62 w ps put d) (h0 : 0 ≤ d) (h1 : d ≤ 4611686018427387904) (h2 : 0 ≤ n) (h3 : n ≤ 1048576) :
    Calls Tryd.prog 90 #[.pointer (some ⟨g, 0, none⟩), .int .i64 n] w (Built lo g 62 w ps put (d + n)) :=
  (implDrop_f (fun _ => True) lo g ps put d n w hb.all (fun _ _ => trivial) h0 h1 h2 h3).mono fun e w' h => h.any

theorem implPut_any (lo g : Nat) (ps : List Pt) (put : List Int) (d : Int) (A : Option Addr) (c : Nat) (zs : List Int) (w : World) (hb : BAt lo g 62 w ps put d) (hr : Row (Value.int .i64) w w.heap.size A zs) (hp : put.length ≤ 4294967296) (hz : zs.length ≤ 4294967296) :
    Calls Tryd.prog 89 #[.pointer (some ⟨g, 0, none⟩), .slice A zs.length c] w (Built lo g 62 w ps (put ++ zs) d) :=
  (implPut_f (fun _ => True) lo g ps put d A c zs w hb.all (fun _ _ => trivial) hr hp hz).mono fun e w' h => h.any

set_option maxHeartbeats 1600000 in
theorem implDone_f (S : Nat → Prop) (lo g : Nat) (ps : List Pt) (put : List Int) (d : Int) (w : World) (hb : BAtS S lo g 62 w ps put d) (hS : ∀ b, w.heap.size ≤ b → S b) (hl : ps.length ≤ 4294967296) (hp : put.length ≤ 4294967296) :
    Calls Tryd.prog 52 #[.pointer (some ⟨g, 0, none⟩)] w (GoneS S lo (ps ++ putL put ++ dropL d) w) := by
  go_enter Tryd.func52, Tryd.ntmps52
  go_wp2_with fail
  refine (implFlush_f S lo g ps put d w hb hS hl hp).mono ?_
  rintro e w1 ⟨rfl, ⟨v, us, hx, ha, hos⟩, b1, fr1⟩
  have HS := Lib.hid hS
  have HOS := Lib.hid hos
  have HR := Lib.hid fr1
  clear hS hos fr1
  obtain ⟨Av, cv, rfl⟩ := own_form hx.row
  have c0 := hx.cell0
  have HX := Lib.hid hx
  have HA := Lib.hid ha
  clear hx ha
  generalize ps ++ putL put ++ dropL d = q at *
  go_wp2
  go_ret
  exact ⟨_, us, rfl, HX.out.parts HA.out, b1, HR.out, HX.out.row, HX.out.len, HOS.out.2.1, HOS.out.2.2⟩

set_option maxRecDepth 100000 in
set_option maxHeartbeats 3200000 in
theorem implKeep_f (S : Nat → Prop) (lo g : Nat) (ps : List Pt) (put : List Int) (d n : Int) (w : World) (hb : BAtS S lo g 62 w ps put d) (hS : ∀ b, w.heap.size ≤ b → S b) (hl : ps.length ≤ 4294967296) (hp : put.length ≤ 4294967296) (hn : ¬ n = 0) (hn0 : 0 ≤ n) (hn1 : n ≤ 1048576)
    (hq : ∀ p ∈ ps ++ putL put ++ dropL d, 0 ≤ p.n ∧ p.n ≤ 4611686018427387904) (hql : (ps ++ putL put ++ dropL d).length ≤ 4294967298) :
    Calls Tryd.prog 61 #[.pointer (some ⟨g, 0, none⟩), .int .i64 n] w (FlushedS S lo g 62 w (keepTo (ps ++ putL put ++ dropL d) n)) := by
  obtain ⟨i0, hi0, hz0, hz1, hz2⟩ := info_parts part_info
  go_enter Tryd.func61, Tryd.ntmps61
  go_wp2_with fail
  refine (implFlush_f S lo g ps put d w hb hS hl hp).mono ?_
  rintro e w1 ⟨rfl, ⟨v, us, hx, ha, hos⟩, b1, fr1⟩
  have HS := Lib.hid hS
  have HOS := Lib.hid hos
  have HR := Lib.hid fr1
  clear hS hos fr1
  generalize ps ++ putL put ++ dropL d = q at *
  have c0 := hx.cell0
  have f0 := hx.free 0
  have hne := own_far hx.row hx.box (by decide)
  have hlo : lo ≤ w1.heap.size := Nat.le_trans hx.low (Nat.le_of_lt hx.lt)
  rcases q.eq_nil_or_concat with rfl | ⟨r, p, rfl⟩
  · obtain ⟨Av, cv, rfl⟩ := own_form hx.row
    have HX := Lib.hid hx
    have HA := Lib.hid ha
    clear hx ha
    go_wp2_with (at_builtin; refine wpList_append_lies _ rfl (.tmp 44) (.tmp 47) 24 rfl lo 64 i0 _ 3 40 Tryd.underlying24 hi0 hz0 hz1 hz2 rfl (by omega) (.slice Av 0 cv) 0 (cellsOf [] us) rfl (HX.out.row.alloc _) ⟨w1.heap.size, 0, none⟩ 1 1 [.int .i64 1, .int .i64 n, .slice none 0 0] rfl rfl (World.news_of_block (cs := #[.int .i64 1, .int .i64 n, .slice none 0 0]) (t := 64) (fr := (0, 0)) (heap_alloc_new w1 _)) (by simp [Value.oneCell']) (by omega) (by unfold maxLen; omega) (by omega) (by simp; omega) (w1.heap.size + 1) (by simp) ?_; intro gg cap w2 hown1 hgrow hat hlt; have hf := free_grown (o := 0) HX.out.box (below_new w1 _) hgrow hne; have hc : w2.cell? ⟨g, 0, none⟩ = some (.slice Av 0 cv) := cell_grown 0 HX.out.box (below_new w1 _) hgrow hne)
    go_end0
    obtain ⟨hx2, ha2, b2⟩ := Box.push (p := ⟨1, n, []⟩) HX.out (by decide) (by decide) (Apart.bare 1 n HA.out) (below_new w1 _) hown1 hgrow
    refine ⟨rfl, ?_, b1.trans b2, HR.out.trans (push_fr HOS.out (below_new w1 _) hgrow _)⟩
    rw [keepTo_nil]
    exact ⟨_, _, hx2, ha2, HOS.out.push nil_own hat (HS.out _ (by have := HR.out.size; omega))⟩
  · rw [List.concat_eq_append] at *
    have hrl : (r ++ [p]).length = r.length + 1 := by simp
    rw [hrl] at hql
    have hp0 := hq p (by simp)
    clear hq
    rcases hx.row.2 with ⟨_, h0⟩ | ⟨gv, cap0, cur, rfl, hgv, hhv, hcap, hcap2, _, _⟩
    · simp at h0
    rw [hrl] at c0 hne hcap hx
    have hrow : w1.ownsRow lo 64 3 (.slice (some ⟨gv, 0, none⟩) (r.length + 1) cap0) (r.length + 1) (cellsOf (r ++ [p]) us) := by have := hx.row; rwa [hrl] at this
    have k0 : w1.cell? ⟨gv, r.length * 3, none⟩ = some (.int .i64 p.kind) := by
      have := hrow.cellAt (r.length * 3) (by omega)
      obtain ⟨u, hu⟩ := idx_some (l := us) (i := r.length) (by rw [hx.len]; simp)
      rw [this, (cellsOf_at (r ++ [p]) us r.length p u (by simp) hu).1]
    have k1 : w1.cell? ⟨gv, r.length * 3 + 1, none⟩ = some (.int .i64 p.n) := by
      have := hrow.cellAt (r.length * 3 + 1) (by omega)
      obtain ⟨u, hu⟩ := idx_some (l := us) (i := r.length) (by rw [hx.len]; simp)
      rw [this, (cellsOf_at (r ++ [p]) us r.length p u (by simp) hu).2.1]
    have fv := hrow.frozenAt (r.length * 3 + 1)
    have HRW := Lib.hid hrow
    clear hrow
    have HX := Lib.hid hx
    have HA := Lib.hid ha
    clear hx ha hhv
    by_cases hk : p.kind = 1
    · go_wp2
      go_end0
      obtain ⟨hx2, ha2, b2⟩ := Box.setN (b := p.n + n) HX.out (by decide) (by decide) HA.out
      refine ⟨rfl, ?_, b1.trans b2, HR.out.trans (setN_fr HOS.out _)⟩
      rw [keepTo_t n hk]
      exact ⟨_, _, hx2, ha2, HOS.out⟩
    · go_wp2_with (at_builtin; refine wpList_append_lies _ rfl (.tmp 44) (.tmp 47) 24 rfl lo 64 i0 _ 3 40 Tryd.underlying24 hi0 hz0 hz1 hz2 rfl (by omega) (.slice (some ⟨gv, 0, none⟩) (r.length + 1) cap0) (r.length + 1) (cellsOf (r ++ [p]) us) rfl (HRW.out.alloc _) ⟨w1.heap.size, 0, none⟩ 1 1 [.int .i64 1, .int .i64 n, .slice none 0 0] rfl rfl (World.news_of_block (cs := #[.int .i64 1, .int .i64 n, .slice none 0 0]) (t := 64) (fr := (0, 0)) (heap_alloc_new w1 _)) (by simp [Value.oneCell']) (by omega) (by unfold maxLen; omega) (by omega) (by simp; omega) (w1.heap.size + 1) (by simp) ?_; intro gg cap w2 hown1 hgrow hat hlt; have hf := free_grown (o := 0) HX.out.box (below_new w1 _) hgrow hne; have hc : w2.cell? ⟨g, 0, none⟩ = some (.slice (some ⟨gv, 0, none⟩) (r.length + 1) cap0) := cell_grown 0 HX.out.box (below_new w1 _) hgrow hne)
      go_end0
      obtain ⟨hx2, ha2, b2⟩ := Box.push (p := ⟨1, n, []⟩) HX.out (by decide) (by decide) (Apart.bare 1 n HA.out) (below_new w1 _) (by rw [hrl]; exact hown1) hgrow
      rw [hrl] at hx2 ha2 b2
      refine ⟨rfl, ?_, b1.trans b2, HR.out.trans (push_fr HOS.out (below_new w1 _) hgrow _)⟩
      rw [keepTo_f n hk]
      exact ⟨_, _, hx2, ha2, HOS.out.push nil_own hat (HS.out _ (by have := HR.out.size; omega))⟩

theorem implDone_any (lo g : Nat) (ps : List Pt) (put : List Int) (d : Int) (w : World) (hb : BAt lo g 62 w ps put d) (hl : ps.length ≤ 4294967296) (hp : put.length ≤ 4294967296) :
    Calls Tryd.prog 52 #[.pointer (some ⟨g, 0, none⟩)] w (Gone lo (ps ++ putL put ++ dropL d) w) :=
  (implDone_f (fun _ => True) lo g ps put d w hb.all (fun _ _ => trivial) hl hp).mono fun e w' h => h.any

theorem implKeep_any (lo g : Nat) (ps : List Pt) (put : List Int) (d n : Int) (w : World) (hb : BAt lo g 62 w ps put d) (hl : ps.length ≤ 4294967296) (hp : put.length ≤ 4294967296) (hn : ¬ n = 0) (hn0 : 0 ≤ n) (hn1 : n ≤ 1048576)
    (hq : ∀ p ∈ ps ++ putL put ++ dropL d, 0 ≤ p.n ∧ p.n ≤ 4611686018427387904) (hql : (ps ++ putL put ++ dropL d).length ≤ 4294967298) :
    Calls Tryd.prog 61 #[.pointer (some ⟨g, 0, none⟩), .int .i64 n] w (Flushed lo g 62 w (keepTo (ps ++ putL put ++ dropL d) n)) :=
  (implKeep_f (fun _ => True) lo g ps put d n w hb.all (fun _ _ => trivial) hl hp hn hn0 hn1 hq hql).mono fun e w' h => h.any

set_option maxHeartbeats 1600000 in
theorem implKeep_zero (g : Nat) (w : World) : Calls Tryd.prog 61 #[.pointer (some ⟨g, 0, none⟩), .int .i64 0] w fun e w' => e = .returned (.tuple #[]) ∧ w = w' := by
  go_enter Tryd.func61, Tryd.ntmps61
  go_wp2
  first | go_end0 | (refine bodyPost_ret (results_none rfl _ _ _) rfl ?_)
  exact ⟨rfl, rfl⟩
end Go.Proofs.YtbbpapaobehlcaaDoor.low


/-
  Contracts of the program's functions on operations that only read: impl.PartOk, partsOk, size, sizeOf, OpFrom, OpTo, OpOk, Puts, Drops.
-/
namespace Go.Proofs.YtbbpapaobehlcaaDoor.low
open Go.RowKit
set_option linter.unusedVariables false

set_option maxHeartbeats 1600000 in
theorem implPartOk_any (p : Pt) (A : Option Addr) (c : Nat) (w : World) (hr : Row (Value.int .i64) w w.heap.size A p.signs) (hl : p.signs.length ≤ 4294967296) :
    Calls Tryd.prog 100 #[.agg #[.int .i64 p.kind, .int .i64 p.n, .slice A p.signs.length c]] w (Tells (okPt p) w) := by
  obtain ⟨k, n, zs⟩ := p
  have hr' : Row (Value.int .i64) w w.heap.size A zs := hr
  have hl' : zs.length ≤ 4294967296 := hl
  clear hr hl
  by_cases hk : k = 1 ∨ k = 3
  · by_cases h0 : 0 ≤ n
    · by_cases h1 : n ≤ 200
      · by_cases hz : zs.length = 0
        all_goals
          have HS := Lib.hid (show okPt ⟨k, n, zs⟩ = decide (zs.length = 0) by
            first
              | (rw [okPt_t (.inl ⟨hk, ⟨h0, h1⟩, hz⟩), decide_eq_true hz])
              | (rw [okPt_f (by simp only; omega), decide_eq_false hz]))
          have hzb : ((zs.length : Int) == 0) = decide (zs.length = 0) := by
            first
              | (rw [decide_eq_true hz, beq_iff_eq]; omega)
              | (rw [decide_eq_false hz, beq_eq_false_iff_ne]; omega)
          generalize decide (zs.length = 0) = bb at HS hzb
          clear hz
          rcases hk with rfl | rfl
          all_goals
            go_enter Tryd.func100, Tryd.ntmps100
            go_wp2
            go_ret
            exact ⟨ret_bool (by rw [HS.out]), alloc_below _ _⟩
      · have HS := Lib.hid (show okPt ⟨k, n, zs⟩ = false by rw [okPt_f (by simp only; omega)])
        rcases hk with rfl | rfl
        all_goals
          go_enter Tryd.func100, Tryd.ntmps100
          go_wp2
          go_ret
          exact ⟨ret_bool (by rw [HS.out]), alloc_below _ _⟩
    · have HS := Lib.hid (show okPt ⟨k, n, zs⟩ = false by rw [okPt_f (by simp only; omega)])
      rcases hk with rfl | rfl
      all_goals
        go_enter Tryd.func100, Tryd.ntmps100
        go_wp2
        go_ret
        exact ⟨ret_bool (by rw [HS.out]), alloc_below _ _⟩
  · have hk1 : (k == 1) = false := by rw [beq_eq_false_iff_ne]; omega
    have hk3 : (k == 3) = false := by rw [beq_eq_false_iff_ne]; omega
    by_cases hk2 : k = 2
    · have hk2' : (k == 2) = true := by rw [beq_iff_eq]; exact hk2
      by_cases hn : n = 0
      · have hn' : (n == 0) = true := by rw [beq_iff_eq]; exact hn
        have HS := Lib.hid (show okPt ⟨k, n, zs⟩ = (allB zs && decide (zs.length ≤ 200)) by
          unfold okPt
          simp [hk2, hn])
        clear hk hk2 hn
        by_cases hlen : zs.length ≤ 200
        · have HL := Lib.hid (decide_eq_true hlen)
          go_enter Tryd.func100, Tryd.ntmps100
          go_wp2_with (go_at_call 32; refine (implSignsOk_any A c zs _ (hr'.past_alloc _) hl').mono ?_; rintro e w' ⟨rfl, rfl⟩)
          go_ret
          refine ⟨ret_bool ?_, alloc_below _ _⟩
          rw [HS.out, HL.out, Bool.and_true]
        · have HL := Lib.hid (decide_eq_false hlen)
          go_enter Tryd.func100, Tryd.ntmps100
          go_wp2
          go_ret
          refine ⟨ret_bool ?_, alloc_below _ _⟩
          rw [HS.out, HL.out, Bool.and_false]
      · have hn' : (n == 0) = false := by rw [beq_eq_false_iff_ne]; exact hn
        have HS := Lib.hid (show okPt ⟨k, n, zs⟩ = false by rw [okPt_f (by simp only; omega)])
        clear hk hk2 hn
        go_enter Tryd.func100, Tryd.ntmps100
        go_wp2
        go_ret
        exact ⟨ret_bool (by rw [HS.out]), alloc_below _ _⟩
    · have hk2' : (k == 2) = false := by rw [beq_eq_false_iff_ne]; exact hk2
      have HS := Lib.hid (show okPt ⟨k, n, zs⟩ = false by rw [okPt_f (by simp only; omega)])
      clear hk hk2
      go_enter Tryd.func100, Tryd.ntmps100
      go_wp2
      go_ret
      exact ⟨ret_bool (by rw [HS.out]), alloc_below _ _⟩

set_option maxHeartbeats 1600000 in
theorem implParts_any (A : Option Addr) (c : Nat) (ps : List Pt) (w : World) (hr : PRow w w.heap.size A ps) (hl : ps.length ≤ 4294967296) (hls : ∀ p ∈ ps, p.signs.length ≤ 4294967296) :
    Calls Tryd.prog 65 #[.slice A ps.length c] w (Tells (partsB ps) w) := by
  by_cases h6 : ps.length ≤ 600
  · go_enter Tryd.func65, Tryd.ntmps65
    go_wp2
    go_loopw [10] (fun i wr => ∃ k : Nat, k ≤ ps.length ∧ i = .int .i64 k ∧ okPs (ps.take k) = true ∧ Below w.heap.size w wr) (fun i _ => ps.length - (intOf i).toNat)
    case atStart => exact ⟨0, Nat.zero_le _, rfl, rfl, Below.refl _ _⟩
    case round =>
      obtain ⟨k, hk, rfl, ha, hbel⟩ := hrel
      have HA := Lib.hid ha
      clear ha
      by_cases hlt : k < ps.length
      · obtain ⟨b, off, p, rfl, hb, hp, hc⟩ := hr.at_ hlt
        obtain ⟨x0, x1, A1, e1, x2, r1⟩ := hc.keep (w' := wr) hb (fun _ hq => hbel.cell hq)
        have hsp := hls p (List.mem_of_getElem? hp)
        have HP := Lib.hid hp
        clear hp hc
        cases hs : okPt p
        · go_wp2_with fail
          refine (implPartOk_any p A1 e1 _ ((r1.more hbel.size).past_alloc _) hsp).mono ?_
          rintro e w2 ⟨rfl, b2⟩
          go_wp2
          go_ret
          exact ⟨ret_bool (by unfold partsB; rw [okPs_f HP.out hs]; rfl), (hbel.trans ((alloc_below wr _).mono hbel.size)).trans (b2.mono (Nat.le_trans hbel.size (alloc_below wr _).size))⟩
        · go_wp2_with fail
          refine (implPartOk_any p A1 e1 _ ((r1.more hbel.size).past_alloc _) hsp).mono ?_
          rintro e w2 ⟨rfl, b2⟩
          go_wp2
          go_roundw
          case rel => exact ⟨k + 1, by omega, by go_num, okPs_snoc HP.out HA.out hs, (hbel.trans ((alloc_below wr _).mono hbel.size)).trans (b2.mono (Nat.le_trans hbel.size (alloc_below wr _).size))⟩
          case measure => simp [intOf]; omega
      · have HE := Lib.hid (show partsB ps = true by
          have h1 := HA.out
          rw [List.take_of_length_le (by omega)] at h1
          unfold partsB
          rw [h1, Bool.true_and]
          exact decide_eq_true h6)
        go_wp2
        go_ret
        refine ⟨ret_bool ?_, hbel⟩
        rw [HE.out]
  · have HE := Lib.hid (show partsB ps = false by unfold partsB; rw [decide_eq_false h6, Bool.and_false])
    go_enter Tryd.func65, Tryd.ntmps65
    go_wp2
    go_ret
    exact ⟨ret_bool (by rw [HE.out]), Below.refl _ _⟩

/-- the size of a part of the kind -/
def sizeK (kind : Int) (p : Pt) : Int := if p.kind = kind then p.n + (p.signs.length : Int) else 0
theorem sumOf_congr {f g : Pt → Int} : ∀ {ps : List Pt}, (∀ p ∈ ps, f p = g p) → sumOf f ps = sumOf g ps
  | [], _ => rfl
  | p :: ps, h => by
    have h1 := h p (List.mem_cons_self ..)
    have h2 := sumOf_congr (f := f) (g := g) (ps := ps) fun q hq => h q (List.mem_cons_of_mem _ hq)
    have e : ∀ f : Pt → Int, sumOf f (p :: ps) = f p + sumOf f ps := fun f => by simp [sumOf]
    rw [e, e, h1, h2]
theorem okPs_mem {ps : List Pt} (h : okPs ps = true) {p : Pt} (hp : p ∈ ps) : okPt p = true := by unfold okPs at h; exact List.all_eq_true.1 h p hp
theorem sizeK_keep {ps : List Pt} (h : okPs ps = true) : sumOf (sizeK 1) ps = sumOf keepOf ps := sumOf_congr fun p hp => by
  have := of_okPt (okPs_mem h hp)
  unfold sizeK keepOf
  split <;> omega
theorem sizeK_put {ps : List Pt} (h : okPs ps = true) : sumOf (sizeK 2) ps = sumOf putOf ps := sumOf_congr fun p hp => by
  have := of_okPt (okPs_mem h hp)
  unfold sizeK putOf
  split <;> omega
theorem sizeK_drop {ps : List Pt} (h : okPs ps = true) : sumOf (sizeK 3) ps = sumOf dropOf ps := sumOf_congr fun p hp => by
  have := of_okPt (okPs_mem h hp)
  unfold sizeK dropOf
  split <;> omega
theorem sizeK_bd {kind : Int} {ps : List Pt} (h : okPs ps = true) (hl : ps.length ≤ 600) : 0 ≤ sumOf (sizeK kind) ps ∧ sumOf (sizeK kind) ps ≤ 120000 := by
  have := sumOf_bd (f := sizeK kind) ps fun p hq => by
    have := of_okPt (okPs_mem h hq)
    unfold sizeK
    split <;> omega
  omega

set_option maxHeartbeats 400000 in
theorem implSize_any (k n : Int) (A : Option Addr) (len c : Nat) (w : World) (h0 : 0 ≤ n) (h1 : n ≤ 200) (h2 : len ≤ 200) :
    Calls Tryd.prog 98 #[.agg #[.int .i64 k, .int .i64 n, .slice A len c]] w (Nums1 (n + (len : Int)) w) := by
  go_enter Tryd.func98, Tryd.ntmps98
  go_wp2
  go_ret
  exact ⟨rfl, alloc_below _ _⟩

set_option maxRecDepth 100000 in
set_option maxHeartbeats 1600000 in
theorem implSizeOf_any (kind : Int) (A : Option Addr) (c : Nat) (ps : List Pt) (w : World) (hr : PRow w w.heap.size A ps) (hl : ps.length ≤ 600) (hok : okPs ps = true) :
    Calls Tryd.prog 66 #[.slice A ps.length c, .int .i64 kind] w (Nums1 (sumOf (sizeK kind) ps) w) := by
  have HOK := Lib.hid hok
  clear hok
  go_enter Tryd.func66, Tryd.ntmps66
  go_wp2
  go_loopw [5, 10] (fun a i wr => ∃ k : Nat, k ≤ ps.length ∧ i = .int .i64 k ∧ a = .int .i64 (sumOf (sizeK kind) (ps.take k)) ∧ Below w.heap.size w wr) (fun _ i _ => ps.length - (intOf i).toNat)
  case atStart => exact ⟨0, Nat.zero_le _, rfl, rfl, Below.refl _ _⟩
  case round =>
    obtain ⟨k, hk, rfl, rfl, hbel⟩ := hrel
    obtain ⟨s1, s2⟩ := sizeK_bd (kind := kind) (okPs_take HOK.out k) (by rw [List.length_take]; omega)
    by_cases hlt : k < ps.length
    · obtain ⟨b, off, p, rfl, hb, hp, hc⟩ := hr.at_ hlt
      obtain ⟨x0, x1, A1, e1, x2, r1⟩ := hc.keep (w' := wr) hb (fun _ hq => hbel.cell hq)
      have hok := of_okPt (okPs_at hp HOK.out)
      have K1 := Lib.hid (sumOf_snoc (f := sizeK kind) hp)
      clear hp hc
      generalize sumOf (sizeK kind) (ps.take k) = q1 at *
      obtain ⟨pk, pn, pz⟩ := p
      simp only at x0 x1 x2 hok
      have hn1 : 0 ≤ pn := by omega
      have hn2 : pn ≤ 200 := by omega
      have hn3 : pz.length ≤ 200 := by omega
      clear hok
      by_cases hkk : pk = kind
      · have hkb : (pk == kind) = true := by rw [beq_iff_eq]; exact hkk
        have HK := Lib.hid (show sizeK kind ⟨pk, pn, pz⟩ = pn + (pz.length : Int) by unfold sizeK; exact if_pos hkk)
        clear hkk
        go_wp2_with fail
        refine (implSize_any pk pn A1 pz.length e1 _ hn1 hn2 hn3).mono ?_
        rintro e w2 ⟨rfl, b2⟩
        go_wp2
        go_roundw
        case rel => exact ⟨k + 1, by omega, by go_num, by rw [K1.out, HK.out], (hbel.trans ((alloc_below wr _).mono hbel.size)).trans (b2.mono (Nat.le_trans hbel.size (alloc_below wr _).size))⟩
        case measure => simp [intOf]; omega
      · have hkb : (pk == kind) = false := by rw [beq_eq_false_iff_ne]; exact hkk
        have HK := Lib.hid (show sizeK kind ⟨pk, pn, pz⟩ = 0 by unfold sizeK; exact if_neg hkk)
        clear hkk
        go_wp2
        go_roundw
        case rel => exact ⟨k + 1, by omega, by go_num, by rw [K1.out, HK.out, Int.add_zero], hbel.trans ((alloc_below wr _).mono hbel.size)⟩
        case measure => simp [intOf]; omega
    · have hke : ps.take k = ps := List.take_of_length_le (by omega)
      rw [hke] at s1 s2 ⊢
      go_wp2
      go_ret
      exact ⟨rfl, hbel⟩

set_option maxHeartbeats 800000 in
theorem implOpFrom_any (A : Option Addr) (c : Nat) (ps : List Pt) (w : World) (hr : PRow w w.heap.size A ps) (hl : ps.length ≤ 4294967296) (hls : ∀ p ∈ ps, p.signs.length ≤ 4294967296) :
    Calls Tryd.prog 19 #[.slice A ps.length c] w (Nums1 (sumK ps + sumD ps) w) := by
  cases hpb : partsB ps
  · have HS := Lib.hid (sum_f hpb)
    go_enter Tryd.func19, Tryd.ntmps19
    go_wp2_with fail
    refine (implParts_any A c ps _ hr hl hls).mono ?_
    rintro e w1 ⟨rfl, b1⟩
    go_wp2
    go_ret
    rw [HS.out.1, HS.out.2.2]
    exact ⟨rfl, b1⟩
  · obtain ⟨t1, t2, t3⟩ := sum_t hpb
    obtain ⟨p1, p2⟩ := partsB_of hpb
    have HS := Lib.hid (show sumK ps + sumD ps = sumOf (sizeK 1) ps + sumOf (sizeK 3) ps by rw [t1, t3, sizeK_keep p1, sizeK_drop p1])
    obtain ⟨s1, s2⟩ := sizeK_bd (kind := 1) p1 p2
    obtain ⟨s3, s4⟩ := sizeK_bd (kind := 3) p1 p2
    clear t1 t2 t3
    go_enter Tryd.func19, Tryd.ntmps19
    go_wp2_with fail
    refine (implParts_any A c ps _ hr hl hls).mono ?_
    rintro e w1 ⟨rfl, b1⟩
    go_wp2_with fail
    refine (implSizeOf_any 1 A c ps _ (hr.past b1) p2 p1).mono ?_
    rintro e w2 ⟨rfl, b2⟩
    have d2 := b1.trans (b2.mono b1.size)
    go_wp2_with fail
    refine (implSizeOf_any 3 A c ps _ (hr.past d2) p2 p1).mono ?_
    rintro e w3 ⟨rfl, b3⟩
    have d3 := d2.trans (b3.mono d2.size)
    generalize sumOf (sizeK 1) ps = q1 at *
    generalize sumOf (sizeK 3) ps = q3 at *
    go_wp2
    go_ret
    rw [HS.out]
    exact ⟨rfl, d3⟩

set_option maxHeartbeats 800000 in
theorem implOpTo_any (A : Option Addr) (c : Nat) (ps : List Pt) (w : World) (hr : PRow w w.heap.size A ps) (hl : ps.length ≤ 4294967296) (hls : ∀ p ∈ ps, p.signs.length ≤ 4294967296) :
    Calls Tryd.prog 20 #[.slice A ps.length c] w (Nums1 (sumK ps + sumP ps) w) := by
  cases hpb : partsB ps
  · have HS := Lib.hid (sum_f hpb)
    go_enter Tryd.func20, Tryd.ntmps20
    go_wp2_with fail
    refine (implParts_any A c ps _ hr hl hls).mono ?_
    rintro e w1 ⟨rfl, b1⟩
    go_wp2
    go_ret
    rw [HS.out.1, HS.out.2.1]
    exact ⟨rfl, b1⟩
  · obtain ⟨t1, t2, t3⟩ := sum_t hpb
    obtain ⟨p1, p2⟩ := partsB_of hpb
    have HS := Lib.hid (show sumK ps + sumP ps = sumOf (sizeK 1) ps + sumOf (sizeK 2) ps by rw [t1, t2, sizeK_keep p1, sizeK_put p1])
    obtain ⟨s1, s2⟩ := sizeK_bd (kind := 1) p1 p2
    obtain ⟨s3, s4⟩ := sizeK_bd (kind := 2) p1 p2
    clear t1 t2 t3
    go_enter Tryd.func20, Tryd.ntmps20
    go_wp2_with fail
    refine (implParts_any A c ps _ hr hl hls).mono ?_
    rintro e w1 ⟨rfl, b1⟩
    go_wp2_with fail
    refine (implSizeOf_any 1 A c ps _ (hr.past b1) p2 p1).mono ?_
    rintro e w2 ⟨rfl, b2⟩
    have d2 := b1.trans (b2.mono b1.size)
    go_wp2_with fail
    refine (implSizeOf_any 2 A c ps _ (hr.past d2) p2 p1).mono ?_
    rintro e w3 ⟨rfl, b3⟩
    have d3 := d2.trans (b3.mono d2.size)
    generalize sumOf (sizeK 1) ps = q1 at *
    generalize sumOf (sizeK 2) ps = q3 at *
    go_wp2
    go_ret
    rw [HS.out]
    exact ⟨rfl, d3⟩

set_option maxHeartbeats 1600000 in
theorem implOpOk_any (A : Option Addr) (c : Nat) (ps : List Pt) (w : World) (hr : PRow w w.heap.size A ps) (hl : ps.length ≤ 4294967296) (hls : ∀ p ∈ ps, p.signs.length ≤ 4294967296) :
    Calls Tryd.prog 21 #[.slice A ps.length c] w (Tells (okOp ps) w) := by
  cases hpb : partsB ps
  · have HS := Lib.hid (show okOp ps = false by unfold okOp; rw [hpb]; rfl)
    go_enter Tryd.func21, Tryd.ntmps21
    go_wp2_with fail
    refine (implParts_any A c ps _ hr hl hls).mono ?_
    rintro e w1 ⟨rfl, b1⟩
    go_wp2
    go_ret
    exact ⟨ret_bool (by rw [HS.out]), b1⟩
  · by_cases hf : sumK ps + sumD ps ≤ 200
    · by_cases ht : sumK ps + sumP ps ≤ 200
      all_goals
        have HS := Lib.hid (show okOp ps = decide (sumK ps + sumP ps ≤ 200) by unfold okOp; rw [hpb, decide_eq_true hf]; rfl)
        go_enter Tryd.func21, Tryd.ntmps21
        go_wp2_with fail
        refine (implParts_any A c ps _ hr hl hls).mono ?_
        rintro e w1 ⟨rfl, b1⟩
        go_wp2_with fail
        refine (implOpFrom_any A c ps _ (hr.past b1) hl hls).mono ?_
        rintro e w2 ⟨rfl, b2⟩
        have d2 := b1.trans (b2.mono b1.size)
        go_wp2_with fail
        refine (implOpTo_any A c ps _ (hr.past d2) hl hls).mono ?_
        rintro e w3 ⟨rfl, b3⟩
        go_wp2
        go_ret
        refine ⟨ret_bool ?_, d2.trans (b3.mono d2.size)⟩
        rw [HS.out]
        first | done | (rw [decide_eq_true ht]) | (rw [decide_eq_false ht])
    · have HS := Lib.hid (show okOp ps = false by unfold okOp; rw [hpb, decide_eq_false hf]; rfl)
      go_enter Tryd.func21, Tryd.ntmps21
      go_wp2_with fail
      refine (implParts_any A c ps _ hr hl hls).mono ?_
      rintro e w1 ⟨rfl, b1⟩
      go_wp2_with fail
      refine (implOpFrom_any A c ps _ (hr.past b1) hl hls).mono ?_
      rintro e w2 ⟨rfl, b2⟩
      go_wp2
      go_ret
      exact ⟨ret_bool (by rw [HS.out]), b1.trans (b2.mono b1.size)⟩

theorem okOp_parts {ps : List Pt} (h : okOp ps = true) : partsB ps = true := by
  unfold okOp at h
  cases hp : partsB ps
  · rw [hp] at h; simp at h
  · rfl

set_option maxHeartbeats 800000 in
theorem implPuts_any (A : Option Addr) (c : Nat) (ps : List Pt) (w : World) (hr : PRow w w.heap.size A ps) (hl : ps.length ≤ 4294967296) (hls : ∀ p ∈ ps, p.signs.length ≤ 4294967296) :
    Calls Tryd.prog 22 #[.slice A ps.length c] w (Nums1 (putsN ps) w) := by
  cases ho : okOp ps
  · have HS := Lib.hid (show putsN ps = 0 by unfold putsN; rw [ho]; rfl)
    go_enter Tryd.func22, Tryd.ntmps22
    go_wp2_with fail
    refine (implOpOk_any A c ps _ hr hl hls).mono ?_
    rintro e w1 ⟨rfl, b1⟩
    go_wp2
    go_ret
    rw [HS.out]
    exact ⟨rfl, b1⟩
  · have hpb := okOp_parts ho
    obtain ⟨p1, p2⟩ := partsB_of hpb
    have HS := Lib.hid (show putsN ps = sumOf (sizeK 2) ps by unfold putsN; rw [ho, (sum_t hpb).2.1, sizeK_put p1]; rfl)
    clear hpb
    go_enter Tryd.func22, Tryd.ntmps22
    go_wp2_with fail
    refine (implOpOk_any A c ps _ hr hl hls).mono ?_
    rintro e w1 ⟨rfl, b1⟩
    go_wp2_with fail
    refine (implSizeOf_any 2 A c ps _ (hr.past b1) p2 p1).mono ?_
    rintro e w2 ⟨rfl, b2⟩
    go_wp2
    go_ret
    rw [HS.out]
    exact ⟨rfl, b1.trans (b2.mono b1.size)⟩

set_option maxHeartbeats 800000 in
theorem implDrops_any (A : Option Addr) (c : Nat) (ps : List Pt) (w : World) (hr : PRow w w.heap.size A ps) (hl : ps.length ≤ 4294967296) (hls : ∀ p ∈ ps, p.signs.length ≤ 4294967296) :
    Calls Tryd.prog 23 #[.slice A ps.length c] w (Nums1 (dropsN ps) w) := by
  cases ho : okOp ps
  · have HS := Lib.hid (show dropsN ps = 0 by unfold dropsN; rw [ho]; rfl)
    go_enter Tryd.func23, Tryd.ntmps23
    go_wp2_with fail
    refine (implOpOk_any A c ps _ hr hl hls).mono ?_
    rintro e w1 ⟨rfl, b1⟩
    go_wp2
    go_ret
    rw [HS.out]
    exact ⟨rfl, b1⟩
  · have hpb := okOp_parts ho
    obtain ⟨p1, p2⟩ := partsB_of hpb
    have HS := Lib.hid (show dropsN ps = sumOf (sizeK 3) ps by unfold dropsN; rw [ho, (sum_t hpb).2.2, sizeK_drop p1]; rfl)
    clear hpb
    go_enter Tryd.func23, Tryd.ntmps23
    go_wp2_with fail
    refine (implOpOk_any A c ps _ hr hl hls).mono ?_
    rintro e w1 ⟨rfl, b1⟩
    go_wp2_with fail
    refine (implSizeOf_any 3 A c ps _ (hr.past b1) p2 p1).mono ?_
    rintro e w2 ⟨rfl, b2⟩
    go_wp2
    go_ret
    rw [HS.out]
    exact ⟨rfl, b1.trans (b2.mono b1.size)⟩
end Go.Proofs.YtbbpapaobehlcaaDoor.low


/-
  Contracts of impl.partSame, of the library's slices.EqualFunc at parts with impl.partSame, and of impl.OpSame.
-/
namespace Go.Proofs.YtbbpapaobehlcaaDoor.low
open Go.RowKit
set_option linter.unusedVariables false

set_option maxHeartbeats 800000 in
theorem implPartSame_any (p q : Pt) (A A' : Option Addr) (c c' : Nat) (w : World) (hp : Row (Value.int .i64) w w.heap.size A p.signs) (hq : Row (Value.int .i64) w w.heap.size A' q.signs) (h1 : p.signs.length ≤ 4294967296) (h2 : q.signs.length ≤ 4294967296) :
    Calls Tryd.prog 64 #[.agg #[.int .i64 p.kind, .int .i64 p.n, .slice A p.signs.length c], .agg #[.int .i64 q.kind, .int .i64 q.n, .slice A' q.signs.length c']] w (Tells (samePt p q) w) := by
  obtain ⟨k, n, zs⟩ := p
  obtain ⟨k', n', zs'⟩ := q
  have hbb : ∀ o o' : Obj, Below w.heap.size w ((w.alloc o).alloc o') := fun o o' => ((Below.refl _ _).alloc (Nat.le_refl _) _).alloc (by simp) _
  by_cases hk : k = k'
  · by_cases hn : n = n'
    · have HS := Lib.hid (show samePt ⟨k, n, zs⟩ ⟨k', n', zs'⟩ = sameB zs zs' by unfold samePt; simp [hk, hn])
      have hk1 : (k == k') = true := by simp [hk]
      have hn1 : (n == n') = true := by simp [hn]
      clear hk hn
      go_enter Tryd.func64, Tryd.ntmps64
      go_wp2_with fail
      refine (implSignsSame_any A A' c c' zs zs' _ ((hp.past_alloc _).past_alloc _) ((hq.past_alloc _).past_alloc _) h1 h2).mono ?_
      intro e w1 hsay
      obtain ⟨rfl, b1⟩ := says_tells hsay
      go_wp2
      go_ret
      refine ⟨ret_bool (by rw [HS.out]), (hbb _ _).trans (b1.mono (by simp; omega))⟩
    · have HS := Lib.hid (show samePt ⟨k, n, zs⟩ ⟨k', n', zs'⟩ = false by unfold samePt; simp [hn])
      have hk1 : (k == k') = true := by simp [hk]
      have hn1 : (n == n') = false := by simp [hn]
      clear hk hn
      go_enter Tryd.func64, Tryd.ntmps64
      go_wp2
      go_ret
      exact ⟨ret_bool (by rw [HS.out]), hbb _ _⟩
  · have HS := Lib.hid (show samePt ⟨k, n, zs⟩ ⟨k', n', zs'⟩ = false by unfold samePt; simp [hk])
    have hk1 : (k == k') = false := by simp [hk]
    clear hk
    go_enter Tryd.func64, Tryd.ntmps64
    go_wp2
    go_ret
    exact ⟨ret_bool (by rw [HS.out]), hbb _ _⟩

set_option maxRecDepth 100000 in
set_option maxHeartbeats 1600000 in
theorem equalFunc_any (A B : Option Addr) (c d : Nat) (ps qs : List Pt) (w : World) (hx : PRow w w.heap.size A ps) (hy : PRow w w.heap.size B qs)
    (hl : ps.length ≤ 4294967296) (hl2 : qs.length ≤ 4294967296) (hs : ∀ p ∈ ps, p.signs.length ≤ 4294967296) (hs2 : ∀ p ∈ qs, p.signs.length ≤ 4294967296) :
    Calls Tryd.prog 63 #[.slice A ps.length c, .slice B qs.length d, .func (.func 64) #[] #[]] w (Tells (samePs ps qs) w) := by
  by_cases hlen : ps.length = qs.length
  · have HL := Lib.hid hlen
    have hb : ((ps.length : Int) != (qs.length : Int)) = false := by simp [hlen]
    clear hlen
    go_enter Tryd.func63, Tryd.ntmps63
    go_wp2
    go_loopw [17] (fun i wr => ∃ k : Nat, k ≤ ps.length ∧ i = .int .i64 k ∧ samePs (ps.take k) (qs.take k) = true ∧ Below w.heap.size w wr) (fun i _ => ps.length - (intOf i).toNat)
    case atStart => exact ⟨0, Nat.zero_le _, rfl, rfl, Below.refl _ _⟩
    case round =>
      obtain ⟨k, hk, rfl, ht, hbel⟩ := hrel
      have HT := Lib.hid ht
      clear ht
      by_cases hlt : k < ps.length
      · have hlt2 : k < qs.length := by have := HL.out; omega
        obtain ⟨b1, o1, p, rfl, hb1, hp, hc1⟩ := hx.at_ hlt
        obtain ⟨b2, o2, q, rfl, hb2, hq, hc2⟩ := hy.at_ (k := k) hlt2
        obtain ⟨x0, x1, A1, e1, x2, r1⟩ := hc1.keep (w' := wr) hb1 (fun _ hq => hbel.cell hq)
        have hsp := hs p (List.mem_of_getElem? hp)
        have hsq := hs2 q (List.mem_of_getElem? hq)
        have HP := Lib.hid hp
        have HQ := Lib.hid hq
        clear hp hq hc1
        have bW := alloc_below wr (.cells #[.int .i64 p.kind, .int .i64 p.n, .slice A1 p.signs.length e1] 64)
        have dW := hbel.trans (bW.mono hbel.size)
        obtain ⟨y0, y1, A2, e2, y2, r2⟩ := hc2.keep (w' := wr.alloc (.cells #[.int .i64 p.kind, .int .i64 p.n, .slice A1 p.signs.length e1] 64)) hb2 (fun _ hq => dW.cell hq)
        have dV := dW.trans ((alloc_below (wr.alloc (.cells #[.int .i64 p.kind, .int .i64 p.n, .slice A1 p.signs.length e1] 64)) (.cells #[.int .i64 q.kind, .int .i64 q.n, .slice A2 q.signs.length e2] 64)).mono dW.size)
        have R1 := Lib.hid (Row.past_alloc ((r1.more hbel.size).past bW) (.cells #[.int .i64 q.kind, .int .i64 q.n, .slice A2 q.signs.length e2] 64))
        have R2 := Lib.hid (Row.past_alloc (r2.more dW.size) (.cells #[.int .i64 q.kind, .int .i64 q.n, .slice A2 q.signs.length e2] 64))
        clear hc2 r1 r2
        cases hsame : samePt p q
        · go_wp2_with fail
          refine (implPartSame_any p q A1 A2 e1 e2 _ R1.out R2.out hsp hsq).mono ?_
          rintro e w2 ⟨rfl, b2⟩
          go_wp2
          go_ret
          exact ⟨ret_bool (by rw [samePs_at ps qs k p q HP.out HQ.out hsame]), dV.trans (b2.mono dV.size)⟩
        · go_wp2_with fail
          refine (implPartSame_any p q A1 A2 e1 e2 _ R1.out R2.out hsp hsq).mono ?_
          rintro e w2 ⟨rfl, b2⟩
          go_wp2
          go_roundw
          case rel => exact ⟨k + 1, by omega, by go_num, samePs_snoc ps qs k p q HP.out HQ.out hsame HT.out, dV.trans (b2.mono dV.size)⟩
          case measure => simp [intOf]; omega
      · have H := Lib.hid (show samePs ps qs = true by have := HT.out; rwa [List.take_of_length_le (by omega), List.take_of_length_le (by have := HL.out; omega)] at this)
        go_wp2
        go_ret
        exact ⟨ret_bool (by rw [H.out]), hbel⟩
  · have hb : ((ps.length : Int) != (qs.length : Int)) = true := by simp; omega
    have H := Lib.hid (show samePs ps qs = false by cases h : samePs ps qs; rfl; exact absurd (samePs_len ps qs h) hlen)
    clear hlen
    go_enter Tryd.func63, Tryd.ntmps63
    go_wp2
    go_ret
    exact ⟨ret_bool (by rw [H.out]), Below.refl _ _⟩

set_option maxHeartbeats 400000 in
theorem implOpSame_any (A B : Option Addr) (c d : Nat) (ps qs : List Pt) (w : World) (hx : PRow w w.heap.size A ps) (hy : PRow w w.heap.size B qs)
    (hl : ps.length ≤ 4294967296) (hl2 : qs.length ≤ 4294967296) (hs : ∀ p ∈ ps, p.signs.length ≤ 4294967296) (hs2 : ∀ p ∈ qs, p.signs.length ≤ 4294967296) :
    Calls Tryd.prog 18 #[.slice A ps.length c, .slice B qs.length d] w (Tells (samePs ps qs) w) := by
  go_enter Tryd.func18, Tryd.ntmps18
  go_wp2_with fail
  refine (equalFunc_any A B c d ps qs _ hx hy hl hl2 hs hs2).mono ?_
  rintro e w1 ⟨rfl, b1⟩
  go_wp2
  go_ret
  exact ⟨rfl, b1⟩
end Go.Proofs.YtbbpapaobehlcaaDoor.low

