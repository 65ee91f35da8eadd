/-
  Texts that the proofs over this seat rest on, one behind the other (6 of 6).
-/
import Derived.Test.YtbpeeokgpkjnmaaGreatDoorM5
import Derived.Test.YtbpeeokgpkjnmaaGreatDoorM3
import Derived.RangeFuncNested
import Derived.RangeFuncBound
import Derived.OrdersHeld
import Derived.OrdersIn
import Derived.TacticsIn
import Derived.RangeFuncLeaves
import Derived.OwnWalkIn
import Derived.TacticsInMore
import Derived.LoopNIn
import Derived.LoopIn
import Derived.Deep.RegionHeld3
import Derived.Deep.WholeRow
import Derived.Laws.EntriesVeiled
import Derived.Test.YtbpeeokgpkjnmaaGreatDoorM2
import Derived.Test.YtbpeeokgpkjnmaaGreatDoorM4
set_option maxHeartbeats 12800000
set_option maxRecDepth 1000000
namespace Go.Proofs.YtbpeeokgpkjnmaaGreatDoor.low.xb
open Go.RowKit
set_option linter.unusedVariables false
structure Fy where
 lo : Nat
 g : Nat
 w0 : World
structure Xs (F : Fy) (KL : List (Nat × Obj)) (O P : Nat → Prop) (L M : List Pt) (w : World) (p : Pt) (ps : List Pt) (q : Pt) (qs : List Pt) : Prop where
 box : ∃ D, Blk F.g 185 w D ∧ RdV F.lo w D 0 p ps ∧ RdV F.lo w D 4 q qs ∧ BdV O F.lo F.g w D 8 L ∧ BdV P F.lo F.g w D 11 M
 ge : F.lo ≤ F.g
 dis : ∀ b, O b → ¬ P b
 kp : ∀ x ∈ KL, w.heap[x.1]? = some x.2 ∧ F.lo ≤ x.1 ∧ ¬ x.1 = F.g ∧ ¬ O x.1 ∧ ¬ P x.1
 bl : Below F.lo F.w0 w
section
variable {F : Fy} {KL : List (Nat × Obj)} {O O' P P' : Nat → Prop} {L L' M M' : List Pt} {w w' : World} {p p' : Pt} {ps ps' : List Pt} {q q' : Pt} {qs qs' : List Pt}
theorem Xs.lt (h : Xs F KL O P L M w p ps q qs) : F.g < w.heap.size := by obtain ⟨D, h1, _⟩ := h.box; exact h1.lt
theorem Xs.low (h : Xs F KL O P L M w p ps q qs) : F.lo ≤ w.heap.size := Nat.le_trans h.ge (Nat.le_of_lt h.lt)
theorem Xs.vp (h : Xs F KL O P L M w p ps q qs) : Vp p := by obtain ⟨D, _, h1, _⟩ := h.box; exact h1.2.1
theorem Xs.vq (h : Xs F KL O P L M w p ps q qs) : Vp q := by obtain ⟨D, _, _, h1, _⟩ := h.box; exact h1.2.1
theorem Xs.past (h : Xs F KL O P L M w p ps q qs) (hb : Below w.heap.size w w') : Xs F KL O P L M w' p ps q qs := by
 have hl := hb.mono h.low
 obtain ⟨D, h1, h2, h3, h4, h5⟩ := h.box
 exact ⟨⟨D, h1.past hb, h2.keep hl (fun _ _ _ => rfl), h3.keep hl (fun _ _ _ => rfl), h4.keep hb.size (fun b hlt _ => hb.block b hlt) (fun _ _ _ => rfl), h5.keep hb.size (fun b hlt _ => hb.block b hlt) (fun _ _ _ => rfl)⟩, h.ge, h.dis, fun x hx => let ⟨k1, k2⟩ := h.kp x hx; ⟨(hb.block _ (lt_of_some k1)).trans k1, k2⟩, h.bl.trans hl⟩
theorem Xs.drew (h : Xs F KL O P L M w p ps q qs) : Xs F KL O P L M w.drew p ps q qs := h.past ((Below.refl _ _).drew)
theorem Xs.also (h : Xs F KL O P L M w p ps q qs) (hb : Below w.heap.size w w') {b : Nat} {x : Obj} (hbl : w.heap.size ≤ b) (ho : w'.heap[b]? = some x) : Xs F ((b, x) :: KL) O P L M w' p ps q qs := by
 have h' := h.past hb
 refine ⟨h'.box, h'.ge, h'.dis, fun y hy => ?_, h'.bl⟩
 obtain ⟨D, _, _, _, h4, h5⟩ := h.box
 rcases List.mem_cons.1 hy with rfl | hy
 ·exact ⟨ho, Nat.le_trans h.low hbl, by have := h.lt; show ¬ b = F.g; omega, fun hO => by have := h4.old _ hO; simp at this; omega, fun hP => by have := h5.old _ hP; simp at this; omega⟩
 ·exact h'.kp y hy
theorem Xs.less {KM : List (Nat × Obj)} (h : Xs F KL O P L M w p ps q qs) (hs : ∀ x ∈ KM, x ∈ KL) : Xs F KM O P L M w p ps q qs := ⟨h.box, h.ge, h.dis, fun x hx => h.kp x (hs x hx), h.bl⟩
theorem Xs.fresh {m : Nat} (h : Xs F KL O P L M w p ps q qs) (hm : w.heap.size ≤ m) : ∀ x ∈ KL, ¬ x.1 = m := fun x hx e => by
 have := lt_of_some (h.kp x hx).1
 omega
theorem Xs.setK {m i : Nat} {cs : Array Value} {T : TypeId} (h : Xs F ((m, .cells cs T (0, 0)) :: KL) O P L M w p ps q qs) (hn : ∀ x ∈ KL, ¬ x.1 = m) (v : Value) : Xs F ((m, .cells (cs.setIfInBounds i v) T (0, 0)) :: KL) O P L M (w.setCell ⟨m, i, none⟩ v) p ps q qs := by
 obtain ⟨h1, h2, h3, h4, h5⟩ := h.kp (m, .cells cs T (0, 0)) (by simp)
 simp only at h1 h2 h3 h4 h5
 have hb : Below F.lo w (w.setCell ⟨m, i, none⟩ v) := (Below.refl F.lo w).setCell (p := ⟨m, i, none⟩) h2 _
 have other : ∀ b, ¬ b = m → (w.setCell ⟨m, i, none⟩ v).heap[b]? = w.heap[b]? := fun b hb => Below.heap_setCell _ _ _ _ hb
 obtain ⟨D, k1, k2, k3, k4, k5⟩ := h.box
 refine ⟨⟨D, k1.keep (other _ (fun e => h3 e.symm)), k2.keep hb (fun _ _ _ => rfl), k3.keep hb (fun _ _ _ => rfl), k4.keep hb.size (fun b _ ho => other b (fun e => h4 (by rw [← e]; exact ho))) (fun _ _ _ => rfl), k5.keep hb.size (fun b _ ho => other b (fun e => h5 (by rw [← e]; exact ho))) (fun _ _ _ => rfl)⟩, h.ge, h.dis, fun x hx => ?_, h.bl.trans hb⟩
 rcases List.mem_cons.1 hx with rfl | hx
 ·exact ⟨heap_setCell_same _ _ _ _ _ _ h1, h2, h3, h4, h5⟩
 ·obtain ⟨k1, k2⟩ := h.kp x (by simp [hx])
  exact ⟨(other _ (hn x hx)).trans k1, k2⟩
theorem Xs.cellK {m i : Nat} {cs : Array Value} {T : TypeId} {v : Value} (h : Xs F KL O P L M w p ps q qs) (hm : (m, Obj.cells cs T (0, 0)) ∈ KL) (hv : cs[i]? = some v) : w.cell? ⟨m, i, none⟩ = some v := (cell_of_row _ _ i _ _ _ (h.kp _ hm).1).trans hv
theorem Xs.freeK {m : Nat} {cs : Array Value} {T : TypeId} (h : Xs F KL O P L M w p ps q qs) (hm : (m, Obj.cells cs T (0, 0)) ∈ KL) (i : Nat) : w.frozen? ⟨m, i, none⟩ = false := by
 have := (h.kp _ hm).1
 simp only at this
 simp [World.frozen?, this]
theorem Xs.cellsA (h : Xs F KL O P L M w p ps q qs) : ∃ B cb, w.cell? ⟨F.g, 0, none⟩ = some (.int .i64 p.kind) ∧ w.cell? ⟨F.g, 1, none⟩ = some (.int .i64 p.n) ∧ w.cell? ⟨F.g, 2, none⟩ = some (.slice B p.signs.length cb) ∧ RdC w F.lo (encInts p.signs) (.slice B p.signs.length cb) := by
 obtain ⟨D, h1, ⟨⟨B, cb, A, c, d0, d1, d2, d3, h2, h3⟩, _⟩, _⟩ := h.box
 exact ⟨B, cb, (h1.cell 0).trans d0, (h1.cell 1).trans d1, (h1.cell 2).trans d2, h2⟩
theorem Xs.cellsB (h : Xs F KL O P L M w p ps q qs) : ∃ B cb, w.cell? ⟨F.g, 4, none⟩ = some (.int .i64 q.kind) ∧ w.cell? ⟨F.g, 5, none⟩ = some (.int .i64 q.n) ∧ w.cell? ⟨F.g, 6, none⟩ = some (.slice B q.signs.length cb) ∧ RdC w F.lo (encInts q.signs) (.slice B q.signs.length cb) := by
 obtain ⟨D, h1, _, ⟨⟨B, cb, A, c, d0, d1, d2, d3, h2, h3⟩, _⟩, _⟩ := h.box
 exact ⟨B, cb, (h1.cell 4).trans d0, (h1.cell 5).trans d1, (h1.cell 6).trans d2, h2⟩
theorem Xs.movA {D : Nat → Option Value} (h : Xs F KL O P L M w p ps q qs) (hrb : RdV F.lo w D 4 q qs) (hx : BdV O F.lo F.g w D 8 L) (hy : BdV P F.lo F.g w D 11 M) (ho : Orr F.lo F.g 0 D w' p' ps') (hb : Below F.lo w w') (hf : Fr (fun b => b = F.g) w w') : Xs F KL O P L M w' p' ps' q qs := by
 obtain ⟨D', k1, k2, k3⟩ := ho.box
 have ng := hx.ng
 have ng' := hy.ng
 exact ⟨⟨D', k1, k2, hrb.keep hb (fun i _ _ => k3 i (by omega)), hx.keep hf.size (fun b hlt ho => hf.block b hlt (fun e => ng (by have e' : b = F.g := e; rw [← e']; exact ho))) (fun i _ _ => k3 i (by omega)), hy.keep hf.size (fun b hlt ho => hf.block b hlt (fun e => ng' (by have e' : b = F.g := e; rw [← e']; exact ho))) (fun i _ _ => k3 i (by omega))⟩, h.ge, h.dis, fun x hx => let ⟨h1, h2, h3, h4⟩ := h.kp x hx; ⟨(hf.block _ (lt_of_some h1) h3).trans h1, h2, h3, h4⟩, h.bl.trans hb⟩
theorem Xs.movB {D : Nat → Option Value} (h : Xs F KL O P L M w p ps q qs) (hra : RdV F.lo w D 0 p ps) (hx : BdV O F.lo F.g w D 8 L) (hy : BdV P F.lo F.g w D 11 M) (ho : Orr F.lo F.g 4 D w' q' qs') (hb : Below F.lo w w') (hf : Fr (fun b => b = F.g) w w') : Xs F KL O P L M w' p ps q' qs' := by
 obtain ⟨D', k1, k2, k3⟩ := ho.box
 have ng := hx.ng
 have ng' := hy.ng
 exact ⟨⟨D', k1, hra.keep hb (fun i _ _ => k3 i (by omega)), k2, hx.keep hf.size (fun b hlt ho => hf.block b hlt (fun e => ng (by have e' : b = F.g := e; rw [← e']; exact ho))) (fun i _ _ => k3 i (by omega)), hy.keep hf.size (fun b hlt ho => hf.block b hlt (fun e => ng' (by have e' : b = F.g := e; rw [← e']; exact ho))) (fun i _ _ => k3 i (by omega))⟩, h.ge, h.dis, fun x hx => let ⟨h1, h2, h3, h4⟩ := h.kp x hx; ⟨(hf.block _ (lt_of_some h1) h3).trans h1, h2, h3, h4⟩, h.bl.trans hb⟩
theorem Xs.bldX {D : Nat → Option Value} (h : Xs F KL O P L M w p ps q qs) (hra : RdV F.lo w D 0 p ps) (hrb : RdV F.lo w D 4 q qs) (hx : BdV O F.lo F.g w D 8 L) (hy : BdV P F.lo F.g w D 11 M) (hd : Bld O' F.lo F.g 8 D w' L') (hb : Below F.lo w w') (hg : GrewX O O' F.g w w') : Xs F KL O' P L' M w' p ps q qs := by
 obtain ⟨D', k1, k2, k3⟩ := hd.box
 have out : ∀ b, b < w.heap.size → ¬ O b → ¬ O' b := fun b hlt hn ho => by
  rcases hg.more b ho with h1 | h1
  ·exact hn h1
  ·omega
 exact ⟨⟨D', k1, hra.keep hb (fun i _ _ => k3 i (by omega)), hrb.keep hb (fun i _ _ => k3 i (by omega)), k2, hy.keep hg.size (fun b hlt hp => hg.block b hlt (fun ho => h.dis b ho hp) (fun e => hy.ng (by rw [← e]; exact hp))) (fun i _ _ => k3 i (by omega))⟩, h.ge, fun b ho hp => out b (hy.old b hp) (fun ho' => h.dis b ho' hp) ho, fun x hx => let ⟨h1, h2, h3, h4, h5⟩ := h.kp x hx; ⟨(hg.block _ (lt_of_some h1) h4 h3).trans h1, h2, h3, out _ (lt_of_some h1) h4, h5⟩, h.bl.trans hb⟩
theorem Xs.bldY {D : Nat → Option Value} (h : Xs F KL O P L M w p ps q qs) (hra : RdV F.lo w D 0 p ps) (hrb : RdV F.lo w D 4 q qs) (hx : BdV O F.lo F.g w D 8 L) (hy : BdV P F.lo F.g w D 11 M) (hd : Bld P' F.lo F.g 11 D w' M') (hb : Below F.lo w w') (hg : GrewX P P' F.g w w') : Xs F KL O P' L M' w' p ps q qs := by
 obtain ⟨D', k1, k2, k3⟩ := hd.box
 have out : ∀ b, b < w.heap.size → ¬ P b → ¬ P' b := fun b hlt hn ho => by
  rcases hg.more b ho with h1 | h1
  ·exact hn h1
  ·omega
 exact ⟨⟨D', k1, hra.keep hb (fun i _ _ => k3 i (by omega)), hrb.keep hb (fun i _ _ => k3 i (by omega)), hx.keep hg.size (fun b hlt hp => hg.block b hlt (fun ho => h.dis b hp ho) (fun e => hx.ng (by rw [← e]; exact hp))) (fun i _ _ => k3 i (by omega)), k2⟩, h.ge, fun b ho hp => out b (hx.old b ho) (fun hp' => h.dis b ho hp') hp, fun x hx => let ⟨h1, h2, h3, h4, h5⟩ := h.kp x hx; ⟨(hg.block _ (lt_of_some h1) h5 h3).trans h1, h2, h3, h4, out _ (lt_of_some h1) h5⟩, h.bl.trans hb⟩
def KindA (F : Fy) (KL : List (Nat × Obj)) (O P : Nat → Prop) (L M : List Pt) (p : Pt) (ps : List Pt) (q : Pt) (qs : List Pt) (e : Ending) (w' : World) : Prop := ∃ p' ps', e = .returned (.int .i64 (kindP p')) ∧ Xs F KL O P L M w' p' ps' q qs ∧ unitsP p' ++ units ps' = unitsP p ++ units ps ∧ (sizeP p' = 0 → ps' = [])
theorem Xs.kindA (h : Xs F KL O P L M w p ps q qs) : Calls Tryz.prog 144 #[.pointer (some ⟨F.g, 0, none⟩)] w (KindA F KL O P L M p ps q qs) := by
 obtain ⟨D, hD, ra, rb, bx, by_⟩ := h.box
 refine (implKind F.lo F.g 0 D p ps w ⟨⟨D, hD, ra, fun _ _ => rfl⟩, h.ge⟩).mono ?_
 rintro e w' ⟨p', ps', h1, h2, h3, h4, h5, h6⟩
 exact ⟨p', ps', h1, h.movA rb bx by_ h2 h5 h6, h3, h4⟩
def KindB (F : Fy) (KL : List (Nat × Obj)) (O P : Nat → Prop) (L M : List Pt) (p : Pt) (ps : List Pt) (q : Pt) (qs : List Pt) (e : Ending) (w' : World) : Prop := ∃ q' qs', e = .returned (.int .i64 (kindP q')) ∧ Xs F KL O P L M w' p ps q' qs' ∧ unitsP q' ++ units qs' = unitsP q ++ units qs ∧ (sizeP q' = 0 → qs' = [])
theorem Xs.kindB (h : Xs F KL O P L M w p ps q qs) : Calls Tryz.prog 144 #[.pointer (some ⟨F.g, 4, none⟩)] w (KindB F KL O P L M p ps q qs) := by
 obtain ⟨D, hD, ra, rb, bx, by_⟩ := h.box
 refine (implKind F.lo F.g 4 D q qs w ⟨⟨D, hD, rb, fun _ _ => rfl⟩, h.ge⟩).mono ?_
 rintro e w' ⟨p', ps', h1, h2, h3, h4, h5, h6⟩
 exact ⟨p', ps', h1, h.movB ra bx by_ h2 h5 h6, h3, h4⟩
def TakeA (F : Fy) (KL : List (Nat × Obj)) (O P : Nat → Prop) (L M : List Pt) (p : Pt) (ps : List Pt) (q : Pt) (qs : List Pt) (n : Nat) (e : Ending) (w' : World) : Prop := ∃ v, e = .returned v ∧ PtV F.lo w' (cutL p n) v ∧ Xs F KL O P L M w' (cutR p n) ps q qs
theorem Xs.takeA {n : Nat} (h : Xs F KL O P L M w p ps q qs) (h0 : 0 < n) (hn : n ≤ sizeP p) : Calls Tryz.prog 168 #[.pointer (some ⟨F.g, 0, none⟩), .int .i64 (n : Int)] w (TakeA F KL O P L M p ps q qs n) := by
 obtain ⟨D, hD, ra, rb, bx, by_⟩ := h.box
 refine (implTake F.lo F.g 0 D p ps n w ⟨⟨D, hD, ra, fun _ _ => rfl⟩, h.ge⟩ h0 hn).mono ?_
 rintro e w' ⟨v, h1, h2, h3, h4, h5⟩
 exact ⟨v, h1, h2, h.movA rb bx by_ h3 h4 h5⟩
def TakeB (F : Fy) (KL : List (Nat × Obj)) (O P : Nat → Prop) (L M : List Pt) (p : Pt) (ps : List Pt) (q : Pt) (qs : List Pt) (n : Nat) (e : Ending) (w' : World) : Prop := ∃ v, e = .returned v ∧ PtV F.lo w' (cutL q n) v ∧ Xs F KL O P L M w' p ps (cutR q n) qs
theorem Xs.takeB {n : Nat} (h : Xs F KL O P L M w p ps q qs) (h0 : 0 < n) (hn : n ≤ sizeP q) : Calls Tryz.prog 168 #[.pointer (some ⟨F.g, 4, none⟩), .int .i64 (n : Int)] w (TakeB F KL O P L M p ps q qs n) := by
 obtain ⟨D, hD, ra, rb, bx, by_⟩ := h.box
 refine (implTake F.lo F.g 4 D q qs n w ⟨⟨D, hD, rb, fun _ _ => rfl⟩, h.ge⟩ h0 hn).mono ?_
 rintro e w' ⟨v, h1, h2, h3, h4, h5⟩
 exact ⟨v, h1, h2, h.movB ra bx by_ h3 h4 h5⟩
def AddX (F : Fy) (KL : List (Nat × Obj)) (L M : List Pt) (p : Pt) (ps : List Pt) (q : Pt) (qs : List Pt) (P : Nat → Prop) (e : Ending) (w' : World) : Prop := e = .returned (.tuple #[]) ∧ ∃ O, Xs F KL O P L M w' p ps q qs
def AddY (F : Fy) (KL : List (Nat × Obj)) (L M : List Pt) (p : Pt) (ps : List Pt) (q : Pt) (qs : List Pt) (O : Nat → Prop) (e : Ending) (w' : World) : Prop := e = .returned (.tuple #[]) ∧ ∃ P, Xs F KL O P L M w' p ps q qs
theorem Xs.addX {r : Pt} {v : Value} (h : Xs F KL O P L M w p ps q qs) (hv : PtV F.lo w r v) (hr : Vp r) (hk : ¬ r.kind = 0) (hl : L.length < 100000) : Calls Tryz.prog 131 #[.pointer (some ⟨F.g, 8, none⟩), v] w (AddX F KL (L ++ [r]) M p ps q qs P) := by
 obtain ⟨D, hD, ra, rb, bx, by_⟩ := h.box
 refine (implAddB O F.lo F.g 8 D L r v w ⟨⟨D, hD, bx, fun _ _ => rfl⟩, h.ge⟩ hv hr hk hl).mono ?_
 rintro e w' ⟨h1, O', h2, h3, h4⟩
 exact ⟨h1, O', h.bldX ra rb bx by_ h2 h3 h4⟩
theorem Xs.addY {r : Pt} {v : Value} (h : Xs F KL O P L M w p ps q qs) (hv : PtV F.lo w r v) (hr : Vp r) (hk : ¬ r.kind = 0) (hl : M.length < 100000) : Calls Tryz.prog 131 #[.pointer (some ⟨F.g, 11, none⟩), v] w (AddY F KL L (M ++ [r]) p ps q qs O) := by
 obtain ⟨D, hD, ra, rb, bx, by_⟩ := h.box
 refine (implAddB P F.lo F.g 11 D M r v w ⟨⟨D, hD, by_, fun _ _ => rfl⟩, h.ge⟩ hv hr hk hl).mono ?_
 rintro e w' ⟨h1, O', h2, h3, h4⟩
 exact ⟨h1, O', h.bldY ra rb bx by_ h2 h3 h4⟩
theorem Xs.keepX {n : Int} (h : Xs F KL O P L M w p ps q qs) (h0 : 0 ≤ n) (hn : n ≤ 200) (hl : L.length < 100000) : Calls Tryz.prog 139 #[.pointer (some ⟨F.g, 8, none⟩), .int .i64 n] w (AddX F KL (L ++ [⟨1, n, []⟩]) M p ps q qs P) := by
 obtain ⟨D, hD, ra, rb, bx, by_⟩ := h.box
 refine (implKeepB O F.lo F.g 8 D L n w ⟨⟨D, hD, bx, fun _ _ => rfl⟩, h.ge⟩ h0 hn hl).mono ?_
 rintro e w' ⟨h1, O', h2, h3, h4⟩
 exact ⟨h1, O', h.bldX ra rb bx by_ h2 h3 h4⟩
theorem Xs.keepY {n : Int} (h : Xs F KL O P L M w p ps q qs) (h0 : 0 ≤ n) (hn : n ≤ 200) (hl : M.length < 100000) : Calls Tryz.prog 139 #[.pointer (some ⟨F.g, 11, none⟩), .int .i64 n] w (AddY F KL L (M ++ [⟨1, n, []⟩]) p ps q qs O) := by
 obtain ⟨D, hD, ra, rb, bx, by_⟩ := h.box
 refine (implKeepB P F.lo F.g 11 D M n w ⟨⟨D, hD, by_, fun _ _ => rfl⟩, h.ge⟩ h0 hn hl).mono ?_
 rintro e w' ⟨h1, O', h2, h3, h4⟩
 exact ⟨h1, O', h.bldY ra rb bx by_ h2 h3 h4⟩
theorem Xs.dropX {n : Int} (h : Xs F KL O P L M w p ps q qs) (h0 : 0 ≤ n) (hn : n ≤ 200) (hl : L.length < 100000) : Calls Tryz.prog 141 #[.pointer (some ⟨F.g, 8, none⟩), .int .i64 n] w (AddX F KL (L ++ [⟨3, n, []⟩]) M p ps q qs P) := by
 obtain ⟨D, hD, ra, rb, bx, by_⟩ := h.box
 refine (implDropB O F.lo F.g 8 D L n w ⟨⟨D, hD, bx, fun _ _ => rfl⟩, h.ge⟩ h0 hn hl).mono ?_
 rintro e w' ⟨h1, O', h2, h3, h4⟩
 exact ⟨h1, O', h.bldX ra rb bx by_ h2 h3 h4⟩
theorem Xs.dropY {n : Int} (h : Xs F KL O P L M w p ps q qs) (h0 : 0 ≤ n) (hn : n ≤ 200) (hl : M.length < 100000) : Calls Tryz.prog 141 #[.pointer (some ⟨F.g, 11, none⟩), .int .i64 n] w (AddY F KL L (M ++ [⟨3, n, []⟩]) p ps q qs O) := by
 obtain ⟨D, hD, ra, rb, bx, by_⟩ := h.box
 refine (implDropB P F.lo F.g 11 D M n w ⟨⟨D, hD, by_, fun _ _ => rfl⟩, h.ge⟩ h0 hn hl).mono ?_
 rintro e w' ⟨h1, O', h2, h3, h4⟩
 exact ⟨h1, O', h.bldY ra rb bx by_ h2 h3 h4⟩
def SizeX (F : Fy) (KL : List (Nat × Obj)) (O P : Nat → Prop) (L M : List Pt) (p : Pt) (ps : List Pt) (q : Pt) (qs : List Pt) (n : Nat) (w : World) (e : Ending) (w' : World) : Prop := e = .returned (.int .i64 (n : Int)) ∧ Xs F KL O P L M w' p ps q qs ∧ Below w.heap.size w w'
theorem Xs.size {r : Pt} {A : Option Addr} {c : Nat} (h : Xs F KL O P L M w p ps q qs) (hr : Vp r) : Calls Tryz.prog 111 #[.agg #[.int .i64 r.kind, .int .i64 r.n, .slice A r.signs.length c]] w (SizeX F KL O P L M p ps q qs (sizeP r) w) := by
 have hz := hr.size
 refine (implSize_any r.kind r.n A r.signs.length c w (by omega) (by omega) (by omega)).mono ?_
 rintro e w' ⟨rfl, h2⟩
 exact ⟨by rw [hz.1], h.past h2, h2⟩
end
end Go.Proofs.YtbpeeokgpkjnmaaGreatDoor.low.xb
namespace Go.Proofs.YtbpeeokgpkjnmaaGreatDoor.low
open Go.RowKit
set_option linter.unusedVariables false
section
variable {P : Program} {ops : Array Oper} {Q : Exit → Act → World → Prop} {n l : Nat} {md : Region.Mode}
end
def Fall (K : Act → World → Prop) : Exit → Act → World → Prop
 | .normal, a, w => K a w
 | _, _, _ => False
theorem Fall.out (K : Act → World → Prop) : ¬ LetsOut (Fall K) := fun ⟨_, _, h⟩ => h
section
variable {P : Program} {n : Nat} {w : World}
end
attribute [local go_sem] Oper.semAt_some
theorem least_ex (J : Nat → World → Prop) (w : World) : ∃ k : Nat, (∃ m, J m w) → J k w ∧ ∀ m, J m w → k ≤ m := by
 by_cases h : ∃ m, J m w
 ·obtain ⟨m, hm⟩ := h
  induction m using Nat.strongRecOn with
  | _ m ih =>
   by_cases hs : ∃ m', m' < m ∧ J m' w
   ·obtain ⟨m', h1, h2⟩ := hs
    exact ih m' h1 h2
   ·refine ⟨m, fun _ => ⟨hm, fun q hq => ?_⟩⟩
    rcases Nat.lt_or_ge q m with h | h
    ·exact absurd ⟨q, h, hq⟩ hs
    ·exact h
 ·exact ⟨0, fun h' => absurd h' h⟩
noncomputable def leastOf (J : Nat → World → Prop) (w : World) : Nat := Classical.choose (least_ex J w)
theorem leastOf_at {J : Nat → World → Prop} {w : World} (h : ∃ m, J m w) : J (leastOf J w) w := (Classical.choose_spec (least_ex J w) h).1
end Go.Proofs.YtbpeeokgpkjnmaaGreatDoor.low
namespace Go.Proofs.YtbpeeokgpkjnmaaGreatDoor.low
open Go.RowKit
set_option linter.unusedVariables false
structure Fz where
 lo : Nat
 gx : Nat
 gy : Nat
 go : Nat
 w0 : World
structure Co (F : Fz) (KL : List (Nat × Obj)) (O : Nat → Prop) (L : List Pt) (w : World) (p : Pt) (ps : List Pt) (q : Pt) (qs : List Pt) : Prop where
 ox : Orr F.lo F.gx w p ps
 oy : Orr F.lo F.gy w q qs
 bd : Bld O F.lo F.go 171 w L
 ne : ¬ F.gx = F.gy
 nx : ¬ O F.gx
 ny : ¬ O F.gy
 kp : ∀ x ∈ KL, w.heap[x.1]? = some x.2 ∧ F.lo ≤ x.1 ∧ ¬ x.1 = F.gx ∧ ¬ x.1 = F.gy ∧ ¬ O x.1
 bl : Below F.lo F.w0 w
section
variable {F : Fz} {KL : List (Nat × Obj)} {O O' : Nat → Prop} {L L' : List Pt} {w w' : World} {p p' : Pt} {ps ps' : List Pt} {q q' : Pt} {qs qs' : List Pt}
theorem Co.low (h : Co F KL O L w p ps q qs) : F.lo ≤ w.heap.size := h.bd.low
theorem Co.past (h : Co F KL O L w p ps q qs) (hb : Below w.heap.size w w') : Co F KL O L w' p ps q qs :=
 ⟨h.ox.past hb, h.oy.past hb, h.bd.past hb, h.ne, h.nx, h.ny, fun x hx => let ⟨h1, h2⟩ := h.kp x hx; ⟨(hb.block _ (lt_of_some h1)).trans h1, h2⟩, h.bl.trans (hb.mono h.low)⟩
theorem Co.drew (h : Co F KL O L w p ps q qs) : Co F KL O L w.drew p ps q qs := h.past ((Below.refl _ _).drew)
theorem Co.movx (h : Co F KL O L w p ps q qs) (ho : Orr F.lo F.gx w' p' ps') (hb : Below F.lo w w') (hf : Fr (fun b => b = F.gx) w w') : Co F KL O L w' p' ps' q qs :=
 ⟨ho, h.oy.keep (hf.block _ h.oy.lt (fun e => h.ne e.symm)) hb, h.bd.keep hf.size (fun b hlt ho => hf.block b hlt (fun e => h.nx (by have e' : b = F.gx := e; rw [← e']; exact ho))), h.ne, h.nx, h.ny, fun x hx => let ⟨h1, h2, h3, h4⟩ := h.kp x hx; ⟨(hf.block _ (lt_of_some h1) h3).trans h1, h2, h3, h4⟩, h.bl.trans hb⟩
theorem Co.movy (h : Co F KL O L w p ps q qs) (ho : Orr F.lo F.gy w' q' qs') (hb : Below F.lo w w') (hf : Fr (fun b => b = F.gy) w w') : Co F KL O L w' p ps q' qs' :=
 ⟨h.ox.keep (hf.block _ h.ox.lt h.ne) hb, ho, h.bd.keep hf.size (fun b hlt ho => hf.block b hlt (fun e => h.ny (by have e' : b = F.gy := e; rw [← e']; exact ho))), h.ne, h.nx, h.ny, fun x hx => let ⟨h1, h2, h3, h4, h5⟩ := h.kp x hx; ⟨(hf.block _ (lt_of_some h1) h4).trans h1, h2, h3, h4, h5⟩, h.bl.trans hb⟩
theorem Co.bldr (h : Co F KL O L w p ps q qs) (hd : Bld O' F.lo F.go 171 w' L') (hb : Below F.lo w w') (hg : Grew O O' w w') : Co F KL O' L' w' p ps q qs := by
 have out : ∀ b, b < w.heap.size → ¬ O b → ¬ O' b := fun b hlt hn ho => by
  rcases hg.more b ho with h1 | h1
  ·exact hn h1
  ·omega
 exact ⟨h.ox.keep (hg.block _ h.ox.lt h.nx) hb, h.oy.keep (hg.block _ h.oy.lt h.ny) hb, hd, h.ne, out _ h.ox.lt h.nx, out _ h.oy.lt h.ny, fun x hx => let ⟨h1, h2, h3, h4, h5⟩ := h.kp x hx; ⟨(hg.block _ (lt_of_some h1) h5).trans h1, h2, h3, h4, out _ (lt_of_some h1) h5⟩, h.bl.trans hb⟩
theorem Co.also (h : Co F KL O L w p ps q qs) (hb : Below w.heap.size w w') {b : Nat} {o : Obj} (hbl : w.heap.size ≤ b) (ho : w'.heap[b]? = some o) : Co F ((b, o) :: KL) O L w' p ps q qs := by
 have h' := h.past hb
 refine ⟨h'.ox, h'.oy, h'.bd, h'.ne, h'.nx, h'.ny, fun x hx => ?_, h'.bl⟩
 rcases List.mem_cons.1 hx with rfl | hx
 ·exact ⟨ho, Nat.le_trans h.low hbl, by have := h.ox.lt; show ¬ b = F.gx; omega, by have := h.oy.lt; show ¬ b = F.gy; omega, fun hO => by have := h.bd.old _ hO; simp at this; omega⟩
 ·exact h'.kp x hx
theorem Co.less {KM : List (Nat × Obj)} (h : Co F KL O L w p ps q qs) (hs : ∀ x ∈ KM, x ∈ KL) : Co F KM O L w p ps q qs := ⟨h.ox, h.oy, h.bd, h.ne, h.nx, h.ny, fun x hx => h.kp x (hs x hx), h.bl⟩
theorem put_below {lo l : Nat} {o : Obj} (hl : lo ≤ l) (hz : l < w.heap.size) : Below lo w (w.putObj l o) :=
 (Below.refl lo w).grown (grownBy_putObj' w l o) (by omega) (fun k e => by cases e; exact hl)
theorem Co.put {l : Nat} {o o' : Obj} (h : Co F ((l, o) :: KL) O L w p ps q qs) (hn : ∀ x ∈ KL, ¬ x.1 = l) : Co F ((l, o') :: KL) O L (w.putObj l o') p ps q qs := by
 obtain ⟨h1, h2, h3, h4, h5⟩ := h.kp (l, o) (by simp)
 simp only at h1 h2 h3 h4 h5
 have hz := lt_of_some h1
 have hb := put_below (o := o') h2 hz
 have other : ∀ b, ¬ b = l → (w.putObj l o').heap[b]? = w.heap[b]? := fun b hb => World.putObj_heap_other hb
 refine ⟨h.ox.keep (other _ (fun e => h3 e.symm)) hb, h.oy.keep (other _ (fun e => h4 e.symm)) hb, h.bd.keep (by simp) (fun b _ ho => other b (fun e => h5 (by rw [← e]; exact ho))), h.ne, h.nx, h.ny, fun x hx => ?_, h.bl.trans hb⟩
 rcases List.mem_cons.1 hx with rfl | hx
 ·exact ⟨World.putObj_heap_same hz, h2, h3, h4, h5⟩
 ·obtain ⟨k1, k2⟩ := h.kp x (by simp [hx])
  exact ⟨(other _ (hn x hx)).trans k1, k2⟩
def TakeX (F : Fz) (KL : List (Nat × Obj)) (O : Nat → Prop) (L : List Pt) (p : Pt) (ps : List Pt) (q : Pt) (qs : List Pt) (n : Nat) (e : Ending) (w' : World) : Prop := ∃ v, e = .returned v ∧ PtV F.lo w' (cutL p n) v ∧ Co F KL O L w' (cutR p n) ps q qs
def TakeY (F : Fz) (KL : List (Nat × Obj)) (O : Nat → Prop) (L : List Pt) (p : Pt) (ps : List Pt) (q : Pt) (qs : List Pt) (n : Nat) (e : Ending) (w' : World) : Prop := ∃ v, e = .returned v ∧ PtV F.lo w' (cutL q n) v ∧ Co F KL O L w' p ps (cutR q n) qs
theorem Co.takex {n : Nat} (h : Co F KL O L w p ps q qs) (h0 : 0 < n) (hn : n ≤ sizeP p) : Calls Tryz.prog 168 #[.pointer (some ⟨F.gx, 0, none⟩), .int .i64 (n : Int)] w (TakeX F KL O L p ps q qs n) := by
 refine (implTake F.lo F.gx p ps n w h.ox h0 hn).mono ?_
 rintro e w' ⟨v, h1, h2, h3, h4, h5⟩
 exact ⟨v, h1, h2, h.movx h3 h4 h5⟩
theorem Co.takey {n : Nat} (h : Co F KL O L w p ps q qs) (h0 : 0 < n) (hn : n ≤ sizeP q) : Calls Tryz.prog 168 #[.pointer (some ⟨F.gy, 0, none⟩), .int .i64 (n : Int)] w (TakeY F KL O L p ps q qs n) := by
 refine (implTake F.lo F.gy q qs n w h.oy h0 hn).mono ?_
 rintro e w' ⟨v, h1, h2, h3, h4, h5⟩
 exact ⟨v, h1, h2, h.movy h3 h4 h5⟩
def AddC (F : Fz) (KL : List (Nat × Obj)) (L : List Pt) (p : Pt) (ps : List Pt) (q : Pt) (qs : List Pt) (e : Ending) (w' : World) : Prop := e = .returned (.tuple #[]) ∧ ∃ O, Co F KL O L w' p ps q qs
theorem Co.add {r : Pt} {v : Value} (h : Co F KL O L w p ps q qs) (hv : PtV F.lo w r v) (hr : Vp r) (hk : ¬ r.kind = 0) (hl : L.length < 100000) : Calls Tryz.prog 131 #[.pointer (some ⟨F.go, 0, none⟩), v] w (AddC F KL (L ++ [r]) p ps q qs) := by
 refine (implAddB O F.lo F.go L r v w h.bd hv hr hk hl).mono ?_
 rintro e w' ⟨h1, O', h2, h3, h4⟩
 exact ⟨h1, O', h.bldr h2 h3 h4⟩
def SizeC (F : Fz) (KL : List (Nat × Obj)) (O : Nat → Prop) (L : List Pt) (p : Pt) (ps : List Pt) (q : Pt) (qs : List Pt) (n : Nat) (w : World) (e : Ending) (w' : World) : Prop := e = .returned (.int .i64 (n : Int)) ∧ Co F KL O L w' p ps q qs ∧ Below w.heap.size w w'
theorem Co.size {r : Pt} {v : Value} (h : Co F KL O L w p ps q qs) (hv : PtV F.lo w r v) (hr : Vp r) : Calls Tryz.prog 111 #[v] w (SizeC F KL O L p ps q qs (sizeP r) w) := by
 obtain ⟨A, c, rfl, _⟩ := hv
 have hz := hr.size
 refine (implSize_any r.kind r.n A r.signs.length c w (by omega) (by omega) (by omega)).mono ?_
 rintro e w' ⟨rfl, h2⟩
 exact ⟨by rw [hz.1], h.past h2, h2⟩
end
def Ks (KL : List (Nat × Obj)) (w : World) : Prop := ∀ x ∈ KL, w.heap[x.1]? = some x.2
theorem Co.ks {F : Fz} {KL : List (Nat × Obj)} {O : Nat → Prop} {L : List Pt} {w : World} {p : Pt} {ps : List Pt} {q : Pt} {qs : List Pt} (h : Co F KL O L w p ps q qs) : Ks KL w := fun x hx => (h.kp x hx).1
theorem Ks.cell {KL : List (Nat × Obj)} {w : World} {b : Nat} {xs : Array Value} {T : TypeId} {i : Nat} {v : Value} (h : Ks KL w) (hm : (b, Obj.cells xs T (0, 0)) ∈ KL) (hv : xs[i]? = some v) : w.cell? ⟨b, i, none⟩ = some v := (cell_of_row _ _ i _ _ _ (h _ hm)).trans hv
section
variable {P : Program} {ops : Array Oper} {Q : Exit → Act → World → Prop} {md : Region.Mode} {S : World → Prop}
end
theorem Vp.form {p : Pt} (h : Vp p) (h0 : 0 < sizeP p) : (p.kind = 1 ∧ p = ⟨1, (sizeP p : Int), []⟩ ∧ unitsP p = List.replicate (sizeP p) .k) ∨ (p.kind = 3 ∧ p = ⟨3, (sizeP p : Int), []⟩ ∧ unitsP p = List.replicate (sizeP p) .d) ∨ (p.kind = 2 ∧ p = ⟨2, 0, p.signs⟩ ∧ sizeP p = p.signs.length ∧ unitsP p = p.signs.map .p) := by
 obtain ⟨k, m, zs⟩ := p
 rcases h with ⟨h1, h2, h3, h4⟩ | ⟨h1, h2, h3⟩ | ⟨h1, h2, h3⟩ <;> simp only at * <;> subst_vars
 ·rcases h1 with rfl | rfl
  ·exact .inl ⟨rfl, by simp [sizeP, Int.toNat_of_nonneg h2], by simp [sizeP, unitsP]⟩
  ·exact .inr (.inl ⟨rfl, by simp [sizeP, Int.toNat_of_nonneg h2], by simp [sizeP, unitsP]⟩)
 ·exact .inr (.inr ⟨rfl, rfl, by simp [sizeP], by simp [unitsP]⟩)
 ·simp [sizeP] at h0
theorem Vp.kind_ne {p : Pt} (h : Vp p) (h0 : 0 < sizeP p) : ¬ p.kind = 0 := by
 rcases h.form h0 with h | h | h <;> omega
theorem units_cut {p : Pt} {n : Nat} (h : Vp p) (hn : n ≤ sizeP p) : unitsP p = unitsP (cutL p n) ++ unitsP (cutR p n) := by
 obtain ⟨k, m, zs⟩ := p
 rcases h with ⟨h1, h2, h3, h4⟩ | ⟨h1, h2, h3⟩ | ⟨h1, h2, h3⟩ <;> simp only at * <;> subst_vars
 ·rcases h1 with rfl | rfl
  ·simp [sizeP] at hn
   simp [unitsP, cutL, cutR]
   congr 1
   omega
  ·simp [sizeP] at hn
   simp [unitsP, cutL, cutR]
   congr 1
   omega
 ·simp [unitsP, cutL, cutR]
 ·simp [sizeP] at hn
  subst hn
  simp [unitsP, cutL, cutR]
theorem units_cutR_all {p : Pt} (h : Vp p) : unitsP (cutR p (sizeP p)) = [] := by
 have e := congrArg List.length (units_cut h (Nat.le_refl (sizeP p)))
 rw [List.length_append, unitsP_len, unitsP_len (cutL p (sizeP p))] at e
 have : sizeP (cutL p (sizeP p)) = sizeP p := by
  obtain ⟨k, m, zs⟩ := p
  rcases h with ⟨h1, h2, h3, h4⟩ | ⟨h1, h2, h3⟩ | ⟨h1, h2, h3⟩ <;> simp only at * <;> subst_vars
  ·have hk : ¬ k = 2 := by omega
   simp [sizeP, cutL, hk]
   omega
  ·simp [sizeP, cutL]
  ·simp [sizeP, cutL]
 exact List.eq_nil_of_length_eq_zero (by omega)
theorem sizeP_nil {p : Pt} (h : sizeP p = 0) : unitsP p = [] := List.eq_nil_of_length_eq_zero (by rw [unitsP_len, h])
theorem src_pos {p : Pt} {R : List U} (h : Vp p) (h0 : 0 < sizeP p) (hk : ¬ p.kind = 2) : 0 < src (unitsP p ++ R) := by
 rw [src_app]
 rcases h.form h0 with ⟨_, _, e⟩ | ⟨k, _, e⟩ | ⟨k, _⟩
 ·rw [e, (src_rk _).1]; omega
 ·rw [e, (src_rd _).1]; omega
 ·exact absurd k hk
section
variable {a b L : List Pt} {p q : Pt} {R S RX RY : List U}
theorem cutL_n {n : Nat} (hk : ¬ p.kind = 2) : cutL p n = ⟨p.kind, (n : Int), []⟩ := by simp [cutL, hk]
theorem cutL_p {n : Nat} (hk : p.kind = 2) : cutL p n = ⟨2, 0, p.signs.take n⟩ := by simp [cutL, hk]
theorem CInv.eB {m : Nat} (h : CInv a b (unitsP p ++ R) (unitsP q ++ S) L) (hv : Vp p) (hw : Vp q) (h0 : 0 < m) (h1 : m ≤ sizeP p) (h2 : m ≤ sizeP q) (hk : ¬ p.kind = 3) (hk' : ¬ q.kind = 2) : CInv a b (unitsP (cutR p m) ++ R) (unitsP (cutR q m) ++ S) (bothL L (cutL p m) (cutL q m)) := by
 rw [units_cut hv h1, units_cut hw h2, List.append_assoc, List.append_assoc] at h
 rcases hv.form (by omega) with ⟨kp, _⟩ | ⟨kp, _⟩ | ⟨kp, _, lp, _⟩
 ·have ep := cutL_n (p := p) (n := m) (by omega)
  rw [kp] at ep
  have up : unitsP (cutL p m) = List.replicate m .k := by rw [ep]; simp [unitsP]
  rcases hw.form (by omega) with ⟨kq, _⟩ | ⟨kq, _⟩ | ⟨kq, _⟩
  ·have eq := cutL_n (p := q) (n := m) (by omega)
   rw [kq] at eq
   have uq : unitsP (cutL q m) = List.replicate m .k := by rw [eq]; simp [unitsP]
   rw [up, uq] at h
   rw [ep, eq]
   simpa [bothL] using h.kk h0
  ·have eq := cutL_n (p := q) (n := m) (by omega)
   rw [kq] at eq
   have uq : unitsP (cutL q m) = List.replicate m .d := by rw [eq]; simp [unitsP]
   rw [up, uq] at h
   rw [ep, eq]
   simpa [bothL] using h.kd h0
  ·omega
 ·omega
 ·have ep := cutL_p (p := p) (n := m) kp
  have lz : (p.signs.take m).length = m := by rw [List.length_take]; omega
  have up : unitsP (cutL p m) = (p.signs.take m).map .p := by rw [ep]; simp [unitsP]
  rcases hw.form (by omega) with ⟨kq, _⟩ | ⟨kq, _⟩ | ⟨kq, _⟩
  ·have eq := cutL_n (p := q) (n := m) (by omega)
   rw [kq] at eq
   have uq : unitsP (cutL q m) = List.replicate (p.signs.take m).length .k := by rw [eq, lz]; simp [unitsP]
   rw [up, uq] at h
   rw [ep, eq]
   simpa [bothL] using h.pk (by omega)
  ·have eq := cutL_n (p := q) (n := m) (by omega)
   rw [kq] at eq
   have uq : unitsP (cutL q m) = List.replicate (p.signs.take m).length .d := by rw [eq, lz]; simp [unitsP]
   rw [up, uq] at h
   rw [ep, eq]
   simpa [bothL] using h.pd
  ·omega
end
theorem cutR_len {p : Pt} {n : Nat} (h : Vp p) (hn : n ≤ sizeP p) (h0 : 0 < n) : (unitsP (cutR p n)).length < (unitsP p).length := by
 have e := congrArg List.length (units_cut h hn)
 have l : (unitsP (cutL p n)).length = n := by
  obtain ⟨k, m, zs⟩ := p
  rcases h with ⟨h1, h2, h3, h4⟩ | ⟨h1, h2, h3⟩ | ⟨h1, h2, h3⟩ <;> simp only at * <;> subst_vars
  ·have hk : ¬ k = 2 := by omega
   rw [unitsP_len]
   simp [sizeP, cutL, hk]
  ·simp [sizeP] at hn
   rw [unitsP_len]
   simp [sizeP, cutL]
   omega
  ·simp [sizeP] at hn
   omega
 rw [List.length_append, l] at e
 omega
theorem Co.rd {F : Fz} {KL KM : List (Nat × Obj)} {O O' : Nat → Prop} {L L' : List Pt} {w w' : World} {p p' : Pt} {ps ps' : List Pt} {q q' : Pt} {qs qs' : List Pt} (h : Co F KL O L w p ps q qs) (h' : Co F KM O' L' w' p' ps' q' qs') {d : Dat} {v : Value} (hr : RdC w F.lo d v) : RdC w' F.lo d v :=
 RdC.keep (fun _ hp => (h'.bl.cell hp).trans (h.bl.cell hp).symm) d v hr
attribute [local go_sem] Oper.semAt_some
theorem cutL_all {p : Pt} (h : Vp p) (hk : ¬ p.kind = 0) : cutL p (sizeP p) = p := by
 obtain ⟨k, m, zs⟩ := p
 rcases h with ⟨h1, h2, h3, h4⟩ | ⟨h1, h2, h3⟩ | ⟨h1, h2, h3⟩ <;> simp only at * <;> subst_vars
 ·have hk : ¬ k = 2 := by omega
  simp only [cutL, sizeP, if_neg hk]
  rw [Int.toNat_of_nonneg h2]
 ·simp [cutL, sizeP]
 ·exact absurd rfl hk
end Go.Proofs.YtbpeeokgpkjnmaaGreatDoor.low
namespace Go.Proofs.YtbpeeokgpkjnmaaGreatDoor.low.xb
open Go.RowKit
set_option linter.unusedVariables false
theorem szD (r : Pt) (A : Option Addr) (c : Nat) (w : World) (hr : Vp r) : Calls Tryz.prog 111 #[.agg #[.int .i64 r.kind, .int .i64 r.n, .slice A r.signs.length c]] w (fun e w' => e = .returned (.int .i64 (sizeP r : Int)) ∧ Below w.heap.size w w') := by
 have hz := hr.size
 refine (implSize_any r.kind r.n A r.signs.length c w (by omega) (by omega) (by omega)).mono ?_
 rintro e w' ⟨rfl, h2⟩
 exact ⟨by rw [hz.1], h2⟩
theorem s_past {F : Fy} {KL : List (Nat × Obj)} {O P : Nat → Prop} {L M : List Pt} {W W' : World} {p : Pt} {ps : List Pt} {q : Pt} {qs : List Pt} {v0 v1 v2 u0 u1 u2 : Value}
  (h : W.cell? ⟨F.g, 0, none⟩ = some v0 ∧ W.cell? ⟨F.g, 1, none⟩ = some v1 ∧ W.cell? ⟨F.g, 2, none⟩ = some v2 ∧ W.cell? ⟨F.g, 4, none⟩ = some u0 ∧ W.cell? ⟨F.g, 5, none⟩ = some u1 ∧ W.cell? ⟨F.g, 6, none⟩ = some u2 ∧ Xs F KL O P L M W p ps q qs) (h2 : Below W.heap.size W W') :
  W'.cell? ⟨F.g, 0, none⟩ = some v0 ∧ W'.cell? ⟨F.g, 1, none⟩ = some v1 ∧ W'.cell? ⟨F.g, 2, none⟩ = some v2 ∧ W'.cell? ⟨F.g, 4, none⟩ = some u0 ∧ W'.cell? ⟨F.g, 5, none⟩ = some u1 ∧ W'.cell? ⟨F.g, 6, none⟩ = some u2 ∧ Xs F KL O P L M W' p ps q qs := by
 obtain ⟨a0, a1, a2, c0, c1, c2, hk⟩ := h
 have g' := hk.lt
 exact ⟨(h2.cell (p := ⟨F.g, 0, none⟩) g').trans a0, (h2.cell (p := ⟨F.g, 1, none⟩) g').trans a1, (h2.cell (p := ⟨F.g, 2, none⟩) g').trans a2, (h2.cell (p := ⟨F.g, 4, none⟩) g').trans c0, (h2.cell (p := ⟨F.g, 5, none⟩) g').trans c1, (h2.cell (p := ⟨F.g, 6, none⟩) g').trans c2, hk.past h2⟩
def PassP (F : Fy) (KL : List (Nat × Obj)) (O P : Nat → Prop) (L M : List Pt) (p : Pt) (ps : List Pt) (q : Pt) (qs : List Pt) (m : Nat) (e : Ending) (w' : World) : Prop := e = .returned (.int .i64 (m : Int)) ∧ Xs F KL O P L M w' (cutR p m) ps (cutR q m) qs
section
variable {F : Fy} {KL : List (Nat × Obj)} {O P : Nat → Prop} {L M : List Pt} {w : World} {p : Pt} {ps : List Pt} {q : Pt} {qs : List Pt} {m : Nat}
theorem Xs.pass (h : Xs F KL O P L M w p ps q qs) (h0 : 0 < m) (hp : m ≤ sizeP p) (hq : m ≤ sizeP q) (hm : m = sizeP p ∨ m = sizeP q) : Calls Tryz.prog 169 #[.pointer (some ⟨F.g, 0, none⟩)] w (PassP F KL O P L M p ps q qs m) := by
 have hvp := h.vp
 have hvq := h.vq
 obtain ⟨A, ca, a0, a1, a2, ra⟩ := h.drew.cellsA
 obtain ⟨B, cb, c0, c1, c2, rb⟩ := h.drew.cellsB
 have hS0 := And.intro a0 (And.intro a1 (And.intro a2 (And.intro c0 (And.intro c1 (And.intro c2 h.drew)))))
 have HM := Lib.hid hm
 have HMm := Lib.hid (show (if sizeP q < sizeP p then ((sizeP q : Nat) : Int) else ((sizeP p : Nat) : Int)) = (m : Int) by split <;> omega)
 clear h ra rb hm a0 a1 a2 c0 c1 c2
 go_enter Tryz.func169, Tryz.ntmps169
 go_wp2
 go_region_held3 (fun W => W.cell? ⟨F.g, 0, none⟩ = some (.int .i64 p.kind) ∧ W.cell? ⟨F.g, 1, none⟩ = some (.int .i64 p.n) ∧ W.cell? ⟨F.g, 2, none⟩ = some (.slice A p.signs.length ca) ∧ W.cell? ⟨F.g, 4, none⟩ = some (.int .i64 q.kind) ∧ W.cell? ⟨F.g, 5, none⟩ = some (.int .i64 q.n) ∧ W.cell? ⟨F.g, 6, none⟩ = some (.slice B q.signs.length cb) ∧ Xs F KL O P L M W p ps q qs)
  (first | assumption | exact hS0 | (exact s_past (by assumption) b2))
  (first | (go_at_call 111; ((with_reducible refine (szD p A ca _ hvp).mono ?_); rintro e w2 ⟨rfl, b2⟩)) | (go_at_call 111; ((with_reducible refine (szD q B cb _ hvq).mono ?_); rintro e w2 ⟨rfl, b2⟩)))
 rename_i hS2
 have HS := Lib.hid hS2.2.2.2.2.2.2
 clear hS2 hS0
 first | rw [HMm.out] | rw [show min ((sizeP p : Nat) : Int) ((sizeP q : Nat) : Int) = (m : Int) by have h9 := HMm.out; split at h9 <;> omega]
 clear HMm
 go_wp2_with fail
 refine (HS.out.takeA h0 hp).mono ?_
 rintro e w3 ⟨v3, rfl, _, h3⟩
 have HS3 := Lib.hid h3
 clear h3
 go_wp2_with fail
 refine (HS3.out.takeB h0 hq).mono ?_
 rintro e w4 ⟨v4, rfl, _, h4⟩
 have HS4 := Lib.hid h4
 clear h4
 go_wp2
 go_ret
 exact ⟨rfl, HS4.out⟩
def EffP (F : Fy) (KL : List (Nat × Obj)) (L M : List Pt) (p : Pt) (ps : List Pt) (q : Pt) (qs : List Pt) (e : Ending) (w' : World) : Prop := e = .returned (.tuple #[]) ∧ ∃ O P, Xs F KL O P L M w' p ps q qs
theorem Xs.keepBoth (h : Xs F KL O P L M w p ps q qs) (h0 : 0 < m) (hp : m ≤ sizeP p) (hq : m ≤ sizeP q) (hm : m = sizeP p ∨ m = sizeP q) (hL : L.length < 100000) (hM : M.length < 100000) : Calls Tryz.prog 150 #[.pointer (some ⟨F.g, 0, none⟩)] w (EffP F KL (L ++ [⟨1, (m : Int), []⟩]) (M ++ [⟨1, (m : Int), []⟩]) (cutR p m) ps (cutR q m) qs) := by
 have hs := h.vp.size
 go_enter Tryz.func150, Tryz.ntmps150
 go_wp2_with fail
 refine (h.pass h0 hp hq hm).mono ?_
 rintro e w1 ⟨rfl, h1⟩
 have H1 := Lib.hid h1
 clear h1 h
 go_wp2_with fail
 refine (H1.out.keepX (by omega) (by omega) hL).mono ?_
 rintro e w2 ⟨rfl, O2, h2⟩
 have H2 := Lib.hid h2
 clear h2 H1
 go_wp2_with fail
 refine (H2.out.keepY (by omega) (by omega) hM).mono ?_
 rintro e w3 ⟨rfl, P3, h3⟩
 have H3 := Lib.hid h3
 clear h3 H2
 go_wp2
 go_end0
 exact ⟨rfl, _, _, H3.out⟩
theorem Xs.dropBoth (h : Xs F KL O P L M w p ps q qs) (h0 : 0 < m) (hp : m ≤ sizeP p) (hq : m ≤ sizeP q) (hm : m = sizeP p ∨ m = sizeP q) : Calls Tryz.prog 154 #[.pointer (some ⟨F.g, 0, none⟩)] w (EffP F KL L M (cutR p m) ps (cutR q m) qs) := by
 go_enter Tryz.func154, Tryz.ntmps154
 go_wp2_with fail
 refine (h.pass h0 hp hq hm).mono ?_
 rintro e w1 ⟨rfl, h1⟩
 have H1 := Lib.hid h1
 clear h1 h
 go_wp2
 go_end0
 exact ⟨rfl, _, _, H1.out⟩
theorem Xs.dropFirst (h : Xs F KL O P L M w p ps q qs) (h0 : 0 < m) (hp : m ≤ sizeP p) (hq : m ≤ sizeP q) (hm : m = sizeP p ∨ m = sizeP q) (hL : L.length < 100000) : Calls Tryz.prog 153 #[.pointer (some ⟨F.g, 0, none⟩)] w (EffP F KL (L ++ [⟨3, (m : Int), []⟩]) M (cutR p m) ps (cutR q m) qs) := by
 have hs := h.vp.size
 have HS := Lib.hid h.drew
 have HM := Lib.hid hm
 clear h hm
 go_enter Tryz.func153, Tryz.ntmps153
 go_wp2
 go_region_held3 (fun _ => True) (trivial)
  (first | (go_at_call 169; ((refine (HS.out.pass h0 hp hq HM.out).mono ?_); rintro e w1 ⟨rfl, h1⟩; have H1 := Lib.hid h1; clear h1)) | (go_at_call 141; ((refine (H1.out.dropX (by omega) (by omega) hL).mono ?_); rintro e w2 ⟨rfl, O2, h2⟩; have H2 := Lib.hid h2; clear h2)))
 go_wp2
 go_end0
 exact ⟨rfl, _, _, H2.out⟩
theorem Xs.dropSecond (h : Xs F KL O P L M w p ps q qs) (h0 : 0 < m) (hp : m ≤ sizeP p) (hq : m ≤ sizeP q) (hm : m = sizeP p ∨ m = sizeP q) (hM : M.length < 100000) : Calls Tryz.prog 151 #[.pointer (some ⟨F.g, 0, none⟩)] w (EffP F KL L (M ++ [⟨3, (m : Int), []⟩]) (cutR p m) ps (cutR q m) qs) := by
 have hs := h.vp.size
 have HS := Lib.hid h.drew
 have HM := Lib.hid hm
 clear h hm
 go_enter Tryz.func151, Tryz.ntmps151
 go_wp2
 go_region_held3 (fun _ => True) (trivial)
  (first | (go_at_call 169; ((refine (HS.out.pass h0 hp hq HM.out).mono ?_); rintro e w1 ⟨rfl, h1⟩; have H1 := Lib.hid h1; clear h1)) | (go_at_call 141; ((refine (H1.out.dropY (by omega) (by omega) hM).mono ?_); rintro e w2 ⟨rfl, O2, h2⟩; have H2 := Lib.hid h2; clear h2)))
 go_wp2
 go_end0
 exact ⟨rfl, _, _, H2.out⟩
end
section
variable {F : Fy} {KL : List (Nat × Obj)} {O P : Nat → Prop} {L M : List Pt} {w : World} {p : Pt} {ps : List Pt} {q : Pt} {qs : List Pt}
def slA (w : World) (g i : Nat) : Option Addr := match w.cell? ⟨g, i, none⟩ with
 | some (.slice A _ _) => A
 | _ => none
def slC (w : World) (g i : Nat) : Nat := match w.cell? ⟨g, i, none⟩ with
 | some (.slice _ _ c) => c
 | _ => 0
theorem sl_of {w : World} {g i n c : Nat} {A : Option Addr} (h : w.cell? ⟨g, i, none⟩ = some (.slice A n c)) : w.cell? ⟨g, i, none⟩ = some (.slice (slA w g i) n (slC w g i)) := by
 unfold slA slC
 rw [h]
theorem Xs.cellsA0 (h : Xs F KL O P L M w p ps q qs) : w.cell? ⟨F.g, 0, none⟩ = some (.int .i64 p.kind) := by obtain ⟨_, _, h1, _⟩ := h.cellsA; exact h1
theorem Xs.cellsA1 (h : Xs F KL O P L M w p ps q qs) : w.cell? ⟨F.g, 1, none⟩ = some (.int .i64 p.n) := by obtain ⟨_, _, _, h1, _⟩ := h.cellsA; exact h1
theorem Xs.cellsA2 (h : Xs F KL O P L M w p ps q qs) : w.cell? ⟨F.g, 2, none⟩ = some (.slice (slA w F.g 2) p.signs.length (slC w F.g 2)) := by obtain ⟨_, _, _, _, h1, _⟩ := h.cellsA; exact sl_of h1
theorem Xs.cellsB0 (h : Xs F KL O P L M w p ps q qs) : w.cell? ⟨F.g, 4, none⟩ = some (.int .i64 q.kind) := by obtain ⟨_, _, h1, _⟩ := h.cellsB; exact h1
theorem Xs.cellsB1 (h : Xs F KL O P L M w p ps q qs) : w.cell? ⟨F.g, 5, none⟩ = some (.int .i64 q.n) := by obtain ⟨_, _, _, h1, _⟩ := h.cellsB; exact h1
theorem Xs.cellsB2 (h : Xs F KL O P L M w p ps q qs) : w.cell? ⟨F.g, 6, none⟩ = some (.slice (slA w F.g 6) q.signs.length (slC w F.g 6)) := by obtain ⟨_, _, _, _, h1, _⟩ := h.cellsB; exact sl_of h1
theorem Xs.c3 {m : Nat} {v0 v1 v2 : Value} {T : TypeId} (h : Xs F ((m, .cells #[v0, v1, v2] T (0, 0)) :: KL) O P L M w p ps q qs) : w.cell? ⟨m, 0, none⟩ = some v0 ∧ w.cell? ⟨m, 1, none⟩ = some v1 ∧ w.cell? ⟨m, 2, none⟩ = some v2 :=
 ⟨h.cellK (List.mem_cons_self) rfl, h.cellK (List.mem_cons_self) rfl, h.cellK (List.mem_cons_self) rfl⟩
theorem Xs.f3 {m : Nat} {v0 v1 v2 : Value} {T : TypeId} (h : Xs F ((m, .cells #[v0, v1, v2] T (0, 0)) :: KL) O P L M w p ps q qs) : w.frozen? ⟨m, 0, none⟩ = false ∧ w.frozen? ⟨m, 1, none⟩ = false ∧ w.frozen? ⟨m, 2, none⟩ = false :=
 ⟨h.freeK (List.mem_cons_self) 0, h.freeK (List.mem_cons_self) 1, h.freeK (List.mem_cons_self) 2⟩
theorem Xs.set3 {m : Nat} {v0 v1 v2 : Value} {T : TypeId} (h : Xs F ((m, .cells #[v0, v1, v2] T (0, 0)) :: KL) O P L M w p ps q qs) (hn : ∀ x ∈ KL, ¬ x.1 = m) (x0 x1 x2 : Value) : Xs F ((m, .cells #[x0, x1, x2] T (0, 0)) :: KL) O P L M (((w.setCell ⟨m, 0, none⟩ x0).setCell ⟨m, 1, none⟩ x1).setCell ⟨m, 2, none⟩ x2) p ps q qs :=
 ((h.setK (i := 0) hn x0).setK (i := 1) hn x1).setK (i := 2) hn x2
theorem Xs.made (h : Xs F KL O P L M w p ps q qs) (o : Obj) : Xs F ((w.heap.size, o) :: KL) O P L M (w.alloc o) p ps q qs ∧ ∀ x ∈ KL, ¬ x.1 = w.heap.size :=
 ⟨h.also (alloc_below w o) (Nat.le_refl _) (heap_alloc_new w o), h.fresh (Nat.le_refl _)⟩
theorem Xs.to0 {d : Dat} {v : Value} (h : Xs F KL O P L M w p ps q qs) (hr : RdC w F.lo d v) : RdC F.w0 F.lo d v := RdC.keep (fun _ hp => (h.bl.cell hp).symm) d v hr
theorem Xs.of0 {d : Dat} {v : Value} (h : Xs F KL O P L M w p ps q qs) (hr : RdC F.w0 F.lo d v) : RdC w F.lo d v := RdC.keep (fun _ hp => h.bl.cell hp) d v hr
theorem Xs.tail {x : Nat × Obj} (h : Xs F (x :: KL) O P L M w p ps q qs) : Xs F KL O P L M w p ps q qs := h.less (fun y hy => List.mem_cons_of_mem _ hy)
theorem Xs.putFirst (h : Xs F KL O P L M w p ps q qs) (h0 : 0 < sizeP p) (hL : L.length < 100000) (hM : M.length < 100000) : Calls Tryz.prog 152 #[.pointer (some ⟨F.g, 0, none⟩)] w (EffP F KL (L ++ [p]) (M ++ [⟨1, (sizeP p : Int), []⟩]) (cutR p (sizeP p)) ps q qs) := by
 have hv := h.vp
 have hs := hv.size
 have hk0 := hv.kind_ne h0
 have HS := Lib.hid h.drew
 clear h
 go_enter Tryz.func152, Tryz.ntmps152
 go_wp2
 refine wp_region_held_drew (S := fun _ => True) (by kernel_rfl) trivial (fun _ => ?_)
 generalize w.drew = wd at *
 refine wpAnyH_take (i := 0) (v := .pointer (some ⟨F.g, 0, none⟩)) rfl (by kernel_rfl) (by kernel_rfl) (by kernel_rfl) (fun _ _ _ h => h) (Or.inl ⟨by rfl, fun w' hS => ?_⟩) trivial ?_
 ·clear HS; go_simp
 try simp only [Act.put]
 refine wpAnyH_take (i := 1) (v := .pointer (some ⟨F.g, 0, none⟩)) rfl (by kernel_rfl) (by kernel_rfl) (by kernel_rfl) (fun _ _ _ h => h) (Or.inl ⟨by rfl, fun w' hS => ?_⟩) trivial ?_
 ·clear HS; go_simp
 try simp only [Act.put]
 refine wpAnyH_take (i := 2) (v := .pointer (some ⟨F.g, 0, none⟩)) rfl (by kernel_rfl) (by kernel_rfl) (by kernel_rfl) (fun _ _ _ h => h) (Or.inl ⟨by rfl, fun w' hS => ?_⟩) trivial ?_
 ·clear HS; go_simp
 try simp only [Act.put]
 refine wpAnyH_take (i := 3) (v := .pointer (some ⟨F.g, 0, none⟩)) rfl (by kernel_rfl) (by kernel_rfl) (by kernel_rfl) (fun _ _ _ h => h) (Or.inl ⟨by rfl, fun w' hS => ?_⟩) trivial ?_
 ·clear HS; go_simp
 try simp only [Act.put]
 refine wpAnyH_take (i := 4) (v := .pointer (some ⟨F.g, 0, none⟩)) rfl (by kernel_rfl) (by kernel_rfl) (by kernel_rfl) (fun _ _ _ h => h) (Or.inl ⟨by rfl, fun w' hS => ?_⟩) trivial ?_
 ·clear HS; go_simp
 try simp only [Act.put]
 refine wpAnyH_take (i := 5) (v := .pointer (some ⟨F.g, 0, none⟩)) rfl (by kernel_rfl) (by kernel_rfl) (by kernel_rfl) (fun _ _ _ h => h) (Or.inl ⟨by rfl, fun w' hS => ?_⟩) trivial ?_
 ·clear HS; go_simp
 try simp only [Act.put]
 refine wpAnyH_take (i := 6) (v := .pointer (some ⟨F.g, 0, none⟩)) rfl (by kernel_rfl) (by kernel_rfl) (by kernel_rfl) (fun _ _ _ h => h) (Or.inl ⟨by rfl, fun w' hS => ?_⟩) trivial ?_
 ·clear HS; go_simp
 try simp only [Act.put]
 refine wpAnyH_ready (rs := [7, 10]) (by kernel_rfl) (by simp) ?_
 refine AllReadyH.cons rfl (fun K hK => ?_) (AllReadyH.cons rfl (fun K hK => ?_) AllReadyH.nil)
 ·have a0 := HS.out.cellsA0
  have a1 := HS.out.cellsA1
  have a2 := HS.out.cellsA2
  go_simp
  refine hK.out _ _ trivial (fun _ => ?_)
  clear hK K a0 a1 a2
  try simp only [Act.put, low.pa, low.pb, low.pc]
  refine wpAnyH_ready (rs := [8, 10]) (by kernel_rfl) (by simp) ?_
  refine AllReadyH.cons rfl (fun K hK => ?_) (AllReadyH.cons rfl (fun K hK => ?_) AllReadyH.nil)
  ·go_simp
   refine (HS.out.size (r := p) hv).mono ?_
   rintro e w1 ⟨rfl, h1, b1⟩
   refine hK.out _ _ trivial (fun _ => ?_)
   clear hK K b1
   try simp only [Act.put, low.pa, low.pb, low.pc]
   replace HS := Lib.hid h1
   clear h1
   refine wpAnyH_ready (rs := [9, 10]) (by kernel_rfl) (by simp) ?_
   refine AllReadyH.cons rfl (fun K hK => ?_) (AllReadyH.cons rfl (fun K hK => ?_) AllReadyH.nil)
   ·go_simp
    refine (HS.out.takeA h0 (Nat.le_refl _)).mono ?_
    rintro e w2 ⟨v2, rfl, pv2, h2⟩
    rw [cutL_all hv hk0] at pv2
    obtain ⟨A2, c2, rfl, r2⟩ := pv2
    have HR := Lib.hid (h2.to0 r2)
    clear r2
    refine hK.out _ _ trivial (fun _ => ?_)
    clear hK K
    try simp only [Act.put, low.pa, low.pb, low.pc]
    replace HS := Lib.hid h2
    clear h2
    refine wpAnyH_ready (rs := [10]) (by kernel_rfl) (by simp) ?_
    refine AllReadyH.cons rfl (fun K hK => ?_) AllReadyH.nil
    go_simp
    refine hK.out _ _ trivial (fun _ => ?_)
    clear hK K
    try simp only [Act.put, low.pa, low.pb, low.pc]
    have HF := Lib.hid (HS.out.made (.cells #[.int .i64 0, .int .i64 0, .slice none 0 0] 71)).2
    replace HS := Lib.hid (HS.out.made (.cells #[.int .i64 0, .int .i64 0, .slice none 0 0] 71)).1
    generalize w2.heap.size = mm at *
    generalize w2.alloc (.cells #[.int .i64 0, .int .i64 0, .slice none 0 0] 71) = wa at *
    refine wpAnyH_ready (rs := [11]) (by kernel_rfl) (by simp) ?_
    refine AllReadyH.cons rfl (fun K hK => ?_) AllReadyH.nil
    have m0 := HS.out.c3.1
    have m1 := HS.out.c3.2.1
    have m2 := HS.out.c3.2.2
    have n0 := HS.out.f3.1
    have n1 := HS.out.f3.2.1
    have n2 := HS.out.f3.2.2
    go_simp
    refine hK.out _ _ trivial (fun _ => ?_)
    clear hK K m0 m1 m2 n0 n1 n2
    try simp only [Act.put, low.pa, low.pb, low.pc]
    refine wpAnyH_done (by kernel_rfl) ?_ _
    replace HS := Lib.hid (HS.out.set3 HF.out (.int .i64 p.kind) (.int .i64 p.n) (.slice A2 p.signs.length c2))
    generalize (((wa.setCell ⟨mm, 0, none⟩ (.int .i64 p.kind)).setCell ⟨mm, 1, none⟩ (.int .i64 p.n)).setCell ⟨mm, 2, none⟩ (.slice A2 p.signs.length c2)) = ws at *
    clear HF
    have hS1 := HS.out.drew.c3
    go_wp2
    go_region_held3 (fun W => W.cell? ⟨mm, 0, none⟩ = some (.int .i64 p.kind) ∧ W.cell? ⟨mm, 1, none⟩ = some (.int .i64 p.n) ∧ W.cell? ⟨mm, 2, none⟩ = some (.slice A2 p.signs.length c2))
     (first | assumption | exact hS1 | exact H1.out.c3)
     (first | (go_at_call 131; ((refine (HS.out.drew.addX ⟨A2, c2, rfl, HS.out.drew.of0 HR.out⟩ hv hk0 hL).mono ?_); rintro e w3 ⟨rfl, O3, h3⟩; have H1 := Lib.hid h3; clear h3)))
    clear hS1
    have hS2 := H1.out.drew.c3
    go_wp2
    go_region_held3 (fun W => W.cell? ⟨mm, 0, none⟩ = some (.int .i64 p.kind) ∧ W.cell? ⟨mm, 1, none⟩ = some (.int .i64 p.n) ∧ W.cell? ⟨mm, 2, none⟩ = some (.slice A2 p.signs.length c2))
     (first | assumption | exact hS2 | exact H3.out.c3 | exact H2.out.c3)
     (first | (go_at_call 111; ((refine (H1.out.drew.size (r := p) hv).mono ?_); rintro e w4 ⟨rfl, h4, b4⟩; have H2 := Lib.hid h4; clear h4 b4)) | (go_at_call 139; ((refine (H2.out.keepY (by omega) (by omega) hM).mono ?_); rintro e w5 ⟨rfl, P5, h5⟩; have H3 := Lib.hid h5; clear h5)))
    clear hS2
    go_wp2
    go_end0
    exact ⟨rfl, _, _, H3.out.tail⟩
   ·go_simp
    refine hK.out _ _ trivial (fun _ => ?_)
    clear hK K
    try simp only [Act.put, low.pa, low.pb, low.pc]
    have HF := Lib.hid (HS.out.made (.cells #[.int .i64 0, .int .i64 0, .slice none 0 0] 71)).2
    replace HS := Lib.hid (HS.out.made (.cells #[.int .i64 0, .int .i64 0, .slice none 0 0] 71)).1
    generalize w1.heap.size = mm at *
    generalize w1.alloc (.cells #[.int .i64 0, .int .i64 0, .slice none 0 0] 71) = wa at *
    refine wpAnyH_ready (rs := [9]) (by kernel_rfl) (by simp) ?_
    refine AllReadyH.cons rfl (fun K hK => ?_) AllReadyH.nil
    go_simp
    refine (HS.out.takeA h0 (Nat.le_refl _)).mono ?_
    rintro e w2 ⟨v2, rfl, pv2, h2⟩
    rw [cutL_all hv hk0] at pv2
    obtain ⟨A2, c2, rfl, r2⟩ := pv2
    have HR := Lib.hid (h2.to0 r2)
    clear r2
    refine hK.out _ _ trivial (fun _ => ?_)
    clear hK K
    try simp only [Act.put, low.pa, low.pb, low.pc]
    replace HS := Lib.hid h2
    clear h2
    refine wpAnyH_ready (rs := [11]) (by kernel_rfl) (by simp) ?_
    refine AllReadyH.cons rfl (fun K hK => ?_) AllReadyH.nil
    have m0 := HS.out.c3.1
    have m1 := HS.out.c3.2.1
    have m2 := HS.out.c3.2.2
    have n0 := HS.out.f3.1
    have n1 := HS.out.f3.2.1
    have n2 := HS.out.f3.2.2
    go_simp
    refine hK.out _ _ trivial (fun _ => ?_)
    clear hK K m0 m1 m2 n0 n1 n2
    try simp only [Act.put, low.pa, low.pb, low.pc]
    refine wpAnyH_done (by kernel_rfl) ?_ _
    replace HS := Lib.hid (HS.out.set3 HF.out (.int .i64 p.kind) (.int .i64 p.n) (.slice A2 p.signs.length c2))
    generalize (((w2.setCell ⟨mm, 0, none⟩ (.int .i64 p.kind)).setCell ⟨mm, 1, none⟩ (.int .i64 p.n)).setCell ⟨mm, 2, none⟩ (.slice A2 p.signs.length c2)) = ws at *
    clear HF
    have hS1 := HS.out.drew.c3
    go_wp2
    go_region_held3 (fun W => W.cell? ⟨mm, 0, none⟩ = some (.int .i64 p.kind) ∧ W.cell? ⟨mm, 1, none⟩ = some (.int .i64 p.n) ∧ W.cell? ⟨mm, 2, none⟩ = some (.slice A2 p.signs.length c2))
     (first | assumption | exact hS1 | exact H1.out.c3)
     (first | (go_at_call 131; ((refine (HS.out.drew.addX ⟨A2, c2, rfl, HS.out.drew.of0 HR.out⟩ hv hk0 hL).mono ?_); rintro e w3 ⟨rfl, O3, h3⟩; have H1 := Lib.hid h3; clear h3)))
    clear hS1
    have hS2 := H1.out.drew.c3
    go_wp2
    go_region_held3 (fun W => W.cell? ⟨mm, 0, none⟩ = some (.int .i64 p.kind) ∧ W.cell? ⟨mm, 1, none⟩ = some (.int .i64 p.n) ∧ W.cell? ⟨mm, 2, none⟩ = some (.slice A2 p.signs.length c2))
     (first | assumption | exact hS2 | exact H3.out.c3 | exact H2.out.c3)
     (first | (go_at_call 111; ((refine (H1.out.drew.size (r := p) hv).mono ?_); rintro e w4 ⟨rfl, h4, b4⟩; have H2 := Lib.hid h4; clear h4 b4)) | (go_at_call 139; ((refine (H2.out.keepY (by omega) (by omega) hM).mono ?_); rintro e w5 ⟨rfl, P5, h5⟩; have H3 := Lib.hid h5; clear h5)))
    clear hS2
    go_wp2
    go_end0
    exact ⟨rfl, _, _, H3.out.tail⟩
  ·go_simp
   refine hK.out _ _ trivial (fun _ => ?_)
   clear hK K
   try simp only [Act.put, low.pa, low.pb, low.pc]
   have HF := Lib.hid (HS.out.made (.cells #[.int .i64 0, .int .i64 0, .slice none 0 0] 71)).2
   replace HS := Lib.hid (HS.out.made (.cells #[.int .i64 0, .int .i64 0, .slice none 0 0] 71)).1
   generalize wd.heap.size = mm at *
   generalize wd.alloc (.cells #[.int .i64 0, .int .i64 0, .slice none 0 0] 71) = wa at *
   refine wpAnyH_ready (rs := [8]) (by kernel_rfl) (by simp) ?_
   refine AllReadyH.cons rfl (fun K hK => ?_) AllReadyH.nil
   go_simp
   refine (HS.out.size (r := p) hv).mono ?_
   rintro e w1 ⟨rfl, h1, b1⟩
   refine hK.out _ _ trivial (fun _ => ?_)
   clear hK K b1
   try simp only [Act.put, low.pa, low.pb, low.pc]
   replace HS := Lib.hid h1
   clear h1
   refine wpAnyH_ready (rs := [9]) (by kernel_rfl) (by simp) ?_
   refine AllReadyH.cons rfl (fun K hK => ?_) AllReadyH.nil
   go_simp
   refine (HS.out.takeA h0 (Nat.le_refl _)).mono ?_
   rintro e w2 ⟨v2, rfl, pv2, h2⟩
   rw [cutL_all hv hk0] at pv2
   obtain ⟨A2, c2, rfl, r2⟩ := pv2
   have HR := Lib.hid (h2.to0 r2)
   clear r2
   refine hK.out _ _ trivial (fun _ => ?_)
   clear hK K
   try simp only [Act.put, low.pa, low.pb, low.pc]
   replace HS := Lib.hid h2
   clear h2
   refine wpAnyH_ready (rs := [11]) (by kernel_rfl) (by simp) ?_
   refine AllReadyH.cons rfl (fun K hK => ?_) AllReadyH.nil
   have m0 := HS.out.c3.1
   have m1 := HS.out.c3.2.1
   have m2 := HS.out.c3.2.2
   have n0 := HS.out.f3.1
   have n1 := HS.out.f3.2.1
   have n2 := HS.out.f3.2.2
   go_simp
   refine hK.out _ _ trivial (fun _ => ?_)
   clear hK K m0 m1 m2 n0 n1 n2
   try simp only [Act.put, low.pa, low.pb, low.pc]
   refine wpAnyH_done (by kernel_rfl) ?_ _
   replace HS := Lib.hid (HS.out.set3 HF.out (.int .i64 p.kind) (.int .i64 p.n) (.slice A2 p.signs.length c2))
   generalize (((w2.setCell ⟨mm, 0, none⟩ (.int .i64 p.kind)).setCell ⟨mm, 1, none⟩ (.int .i64 p.n)).setCell ⟨mm, 2, none⟩ (.slice A2 p.signs.length c2)) = ws at *
   clear HF
   have hS1 := HS.out.drew.c3
   go_wp2
   go_region_held3 (fun W => W.cell? ⟨mm, 0, none⟩ = some (.int .i64 p.kind) ∧ W.cell? ⟨mm, 1, none⟩ = some (.int .i64 p.n) ∧ W.cell? ⟨mm, 2, none⟩ = some (.slice A2 p.signs.length c2))
    (first | assumption | exact hS1 | exact H1.out.c3)
    (first | (go_at_call 131; ((refine (HS.out.drew.addX ⟨A2, c2, rfl, HS.out.drew.of0 HR.out⟩ hv hk0 hL).mono ?_); rintro e w3 ⟨rfl, O3, h3⟩; have H1 := Lib.hid h3; clear h3)))
   clear hS1
   have hS2 := H1.out.drew.c3
   go_wp2
   go_region_held3 (fun W => W.cell? ⟨mm, 0, none⟩ = some (.int .i64 p.kind) ∧ W.cell? ⟨mm, 1, none⟩ = some (.int .i64 p.n) ∧ W.cell? ⟨mm, 2, none⟩ = some (.slice A2 p.signs.length c2))
    (first | assumption | exact hS2 | exact H3.out.c3 | exact H2.out.c3)
    (first | (go_at_call 111; ((refine (H1.out.drew.size (r := p) hv).mono ?_); rintro e w4 ⟨rfl, h4, b4⟩; have H2 := Lib.hid h4; clear h4 b4)) | (go_at_call 139; ((refine (H2.out.keepY (by omega) (by omega) hM).mono ?_); rintro e w5 ⟨rfl, P5, h5⟩; have H3 := Lib.hid h5; clear h5)))
   clear hS2
   go_wp2
   go_end0
   exact ⟨rfl, _, _, H3.out.tail⟩
 ·go_simp
  refine hK.out _ _ trivial (fun _ => ?_)
  clear hK K
  try simp only [Act.put, low.pa, low.pb, low.pc]
  have HF := Lib.hid (HS.out.made (.cells #[.int .i64 0, .int .i64 0, .slice none 0 0] 71)).2
  replace HS := Lib.hid (HS.out.made (.cells #[.int .i64 0, .int .i64 0, .slice none 0 0] 71)).1
  generalize wd.heap.size = mm at *
  generalize wd.alloc (.cells #[.int .i64 0, .int .i64 0, .slice none 0 0] 71) = wa at *
  refine wpAnyH_ready (rs := [7]) (by kernel_rfl) (by simp) ?_
  refine AllReadyH.cons rfl (fun K hK => ?_) AllReadyH.nil
  have a0 := HS.out.cellsA0
  have a1 := HS.out.cellsA1
  have a2 := HS.out.cellsA2
  go_simp
  refine hK.out _ _ trivial (fun _ => ?_)
  clear hK K a0 a1 a2
  try simp only [Act.put, low.pa, low.pb, low.pc]
  refine wpAnyH_ready (rs := [8]) (by kernel_rfl) (by simp) ?_
  refine AllReadyH.cons rfl (fun K hK => ?_) AllReadyH.nil
  go_simp
  refine (HS.out.size (r := p) hv).mono ?_
  rintro e w1 ⟨rfl, h1, b1⟩
  refine hK.out _ _ trivial (fun _ => ?_)
  clear hK K b1
  try simp only [Act.put, low.pa, low.pb, low.pc]
  replace HS := Lib.hid h1
  clear h1
  refine wpAnyH_ready (rs := [9]) (by kernel_rfl) (by simp) ?_
  refine AllReadyH.cons rfl (fun K hK => ?_) AllReadyH.nil
  go_simp
  refine (HS.out.takeA h0 (Nat.le_refl _)).mono ?_
  rintro e w2 ⟨v2, rfl, pv2, h2⟩
  rw [cutL_all hv hk0] at pv2
  obtain ⟨A2, c2, rfl, r2⟩ := pv2
  have HR := Lib.hid (h2.to0 r2)
  clear r2
  refine hK.out _ _ trivial (fun _ => ?_)
  clear hK K
  try simp only [Act.put, low.pa, low.pb, low.pc]
  replace HS := Lib.hid h2
  clear h2
  refine wpAnyH_ready (rs := [11]) (by kernel_rfl) (by simp) ?_
  refine AllReadyH.cons rfl (fun K hK => ?_) AllReadyH.nil
  have m0 := HS.out.c3.1
  have m1 := HS.out.c3.2.1
  have m2 := HS.out.c3.2.2
  have n0 := HS.out.f3.1
  have n1 := HS.out.f3.2.1
  have n2 := HS.out.f3.2.2
  go_simp
  refine hK.out _ _ trivial (fun _ => ?_)
  clear hK K m0 m1 m2 n0 n1 n2
  try simp only [Act.put, low.pa, low.pb, low.pc]
  refine wpAnyH_done (by kernel_rfl) ?_ _
  replace HS := Lib.hid (HS.out.set3 HF.out (.int .i64 p.kind) (.int .i64 p.n) (.slice A2 p.signs.length c2))
  generalize (((w2.setCell ⟨mm, 0, none⟩ (.int .i64 p.kind)).setCell ⟨mm, 1, none⟩ (.int .i64 p.n)).setCell ⟨mm, 2, none⟩ (.slice A2 p.signs.length c2)) = ws at *
  clear HF
  have hS1 := HS.out.drew.c3
  go_wp2
  go_region_held3 (fun W => W.cell? ⟨mm, 0, none⟩ = some (.int .i64 p.kind) ∧ W.cell? ⟨mm, 1, none⟩ = some (.int .i64 p.n) ∧ W.cell? ⟨mm, 2, none⟩ = some (.slice A2 p.signs.length c2))
   (first | assumption | exact hS1 | exact H1.out.c3)
   (first | (go_at_call 131; ((refine (HS.out.drew.addX ⟨A2, c2, rfl, HS.out.drew.of0 HR.out⟩ hv hk0 hL).mono ?_); rintro e w3 ⟨rfl, O3, h3⟩; have H1 := Lib.hid h3; clear h3)))
  clear hS1
  have hS2 := H1.out.drew.c3
  go_wp2
  go_region_held3 (fun W => W.cell? ⟨mm, 0, none⟩ = some (.int .i64 p.kind) ∧ W.cell? ⟨mm, 1, none⟩ = some (.int .i64 p.n) ∧ W.cell? ⟨mm, 2, none⟩ = some (.slice A2 p.signs.length c2))
   (first | assumption | exact hS2 | exact H3.out.c3 | exact H2.out.c3)
   (first | (go_at_call 111; ((refine (H1.out.drew.size (r := p) hv).mono ?_); rintro e w4 ⟨rfl, h4, b4⟩; have H2 := Lib.hid h4; clear h4 b4)) | (go_at_call 139; ((refine (H2.out.keepY (by omega) (by omega) hM).mono ?_); rintro e w5 ⟨rfl, P5, h5⟩; have H3 := Lib.hid h5; clear h5)))
  clear hS2
  go_wp2
  go_end0
  exact ⟨rfl, _, _, H3.out.tail⟩
theorem Xs.putSecond (h : Xs F KL O P L M w p ps q qs) (h0 : 0 < sizeP q) (hL : L.length < 100000) (hM : M.length < 100000) : Calls Tryz.prog 149 #[.pointer (some ⟨F.g, 0, none⟩)] w (EffP F KL (L ++ [⟨1, (sizeP q : Int), []⟩]) (M ++ [q]) p ps (cutR q (sizeP q)) qs) := by
 have hv := h.vq
 have hs := hv.size
 have hk0 := hv.kind_ne h0
 have HS := Lib.hid h.drew
 clear h
 go_enter Tryz.func149, Tryz.ntmps149
 go_wp2
 refine wp_region_held_drew (S := fun _ => True) (by kernel_rfl) trivial (fun _ => ?_)
 generalize w.drew = wd at *
 refine wpAnyH_take (i := 0) (v := .pointer (some ⟨F.g, 0, none⟩)) rfl (by kernel_rfl) (by kernel_rfl) (by kernel_rfl) (fun _ _ _ h => h) (Or.inl ⟨by rfl, fun w' hS => ?_⟩) trivial ?_
 ·clear HS; go_simp
 try simp only [Act.put]
 refine wpAnyH_take (i := 1) (v := .pointer (some ⟨F.g, 0, none⟩)) rfl (by kernel_rfl) (by kernel_rfl) (by kernel_rfl) (fun _ _ _ h => h) (Or.inl ⟨by rfl, fun w' hS => ?_⟩) trivial ?_
 ·clear HS; go_simp
 try simp only [Act.put]
 refine wpAnyH_take (i := 2) (v := .pointer (some ⟨F.g, 4, none⟩)) rfl (by kernel_rfl) (by kernel_rfl) (by kernel_rfl) (fun _ _ _ h => h) (Or.inl ⟨by rfl, fun w' hS => ?_⟩) trivial ?_
 ·clear HS; go_simp
 try simp only [Act.put]
 refine wpAnyH_take (i := 3) (v := .pointer (some ⟨F.g, 0, none⟩)) rfl (by kernel_rfl) (by kernel_rfl) (by kernel_rfl) (fun _ _ _ h => h) (Or.inl ⟨by rfl, fun w' hS => ?_⟩) trivial ?_
 ·clear HS; go_simp
 try simp only [Act.put]
 refine wpAnyH_take (i := 4) (v := .pointer (some ⟨F.g, 0, none⟩)) rfl (by kernel_rfl) (by kernel_rfl) (by kernel_rfl) (fun _ _ _ h => h) (Or.inl ⟨by rfl, fun w' hS => ?_⟩) trivial ?_
 ·clear HS; go_simp
 try simp only [Act.put]
 refine wpAnyH_take (i := 5) (v := .pointer (some ⟨F.g, 4, none⟩)) rfl (by kernel_rfl) (by kernel_rfl) (by kernel_rfl) (fun _ _ _ h => h) (Or.inl ⟨by rfl, fun w' hS => ?_⟩) trivial ?_
 ·clear HS; go_simp
 try simp only [Act.put]
 refine wpAnyH_take (i := 6) (v := .pointer (some ⟨F.g, 4, none⟩)) rfl (by kernel_rfl) (by kernel_rfl) (by kernel_rfl) (fun _ _ _ h => h) (Or.inl ⟨by rfl, fun w' hS => ?_⟩) trivial ?_
 ·clear HS; go_simp
 try simp only [Act.put]
 refine wpAnyH_ready (rs := [7, 10]) (by kernel_rfl) (by simp) ?_
 refine AllReadyH.cons rfl (fun K hK => ?_) (AllReadyH.cons rfl (fun K hK => ?_) AllReadyH.nil)
 ·have a0 := HS.out.cellsB0
  have a1 := HS.out.cellsB1
  have a2 := HS.out.cellsB2
  go_simp
  refine hK.out _ _ trivial (fun _ => ?_)
  clear hK K a0 a1 a2
  try simp only [Act.put, low.pa, low.pb, low.pc]
  refine wpAnyH_ready (rs := [8, 10]) (by kernel_rfl) (by simp) ?_
  refine AllReadyH.cons rfl (fun K hK => ?_) (AllReadyH.cons rfl (fun K hK => ?_) AllReadyH.nil)
  ·go_simp
   refine (HS.out.size (r := q) hv).mono ?_
   rintro e w1 ⟨rfl, h1, b1⟩
   refine hK.out _ _ trivial (fun _ => ?_)
   clear hK K b1
   try simp only [Act.put, low.pa, low.pb, low.pc]
   replace HS := Lib.hid h1
   clear h1
   refine wpAnyH_ready (rs := [9, 10]) (by kernel_rfl) (by simp) ?_
   refine AllReadyH.cons rfl (fun K hK => ?_) (AllReadyH.cons rfl (fun K hK => ?_) AllReadyH.nil)
   ·go_simp
    refine (HS.out.takeB h0 (Nat.le_refl _)).mono ?_
    rintro e w2 ⟨v2, rfl, pv2, h2⟩
    rw [cutL_all hv hk0] at pv2
    obtain ⟨A2, c2, rfl, r2⟩ := pv2
    have HR := Lib.hid (h2.to0 r2)
    clear r2
    refine hK.out _ _ trivial (fun _ => ?_)
    clear hK K
    try simp only [Act.put, low.pa, low.pb, low.pc]
    replace HS := Lib.hid h2
    clear h2
    refine wpAnyH_ready (rs := [10]) (by kernel_rfl) (by simp) ?_
    refine AllReadyH.cons rfl (fun K hK => ?_) AllReadyH.nil
    go_simp
    refine hK.out _ _ trivial (fun _ => ?_)
    clear hK K
    try simp only [Act.put, low.pa, low.pb, low.pc]
    have HF := Lib.hid (HS.out.made (.cells #[.int .i64 0, .int .i64 0, .slice none 0 0] 71)).2
    replace HS := Lib.hid (HS.out.made (.cells #[.int .i64 0, .int .i64 0, .slice none 0 0] 71)).1
    generalize w2.heap.size = mm at *
    generalize w2.alloc (.cells #[.int .i64 0, .int .i64 0, .slice none 0 0] 71) = wa at *
    refine wpAnyH_ready (rs := [11]) (by kernel_rfl) (by simp) ?_
    refine AllReadyH.cons rfl (fun K hK => ?_) AllReadyH.nil
    have m0 := HS.out.c3.1
    have m1 := HS.out.c3.2.1
    have m2 := HS.out.c3.2.2
    have n0 := HS.out.f3.1
    have n1 := HS.out.f3.2.1
    have n2 := HS.out.f3.2.2
    go_simp
    refine hK.out _ _ trivial (fun _ => ?_)
    clear hK K m0 m1 m2 n0 n1 n2
    try simp only [Act.put, low.pa, low.pb, low.pc]
    refine wpAnyH_done (by kernel_rfl) ?_ _
    replace HS := Lib.hid (HS.out.set3 HF.out (.int .i64 q.kind) (.int .i64 q.n) (.slice A2 q.signs.length c2))
    generalize (((wa.setCell ⟨mm, 0, none⟩ (.int .i64 q.kind)).setCell ⟨mm, 1, none⟩ (.int .i64 q.n)).setCell ⟨mm, 2, none⟩ (.slice A2 q.signs.length c2)) = ws at *
    clear HF
    have hS2 := HS.out.drew.c3
    go_wp2
    go_region_held3 (fun W => W.cell? ⟨mm, 0, none⟩ = some (.int .i64 q.kind) ∧ W.cell? ⟨mm, 1, none⟩ = some (.int .i64 q.n) ∧ W.cell? ⟨mm, 2, none⟩ = some (.slice A2 q.signs.length c2))
     (first | assumption | exact hS2 | exact H3.out.c3 | exact H2.out.c3)
     (first | (go_at_call 111; ((refine (HS.out.drew.size (r := q) hv).mono ?_); rintro e w4 ⟨rfl, h4, b4⟩; have H2 := Lib.hid h4; clear h4 b4)) | (go_at_call 139; ((refine (H2.out.keepX (by omega) (by omega) hL).mono ?_); rintro e w5 ⟨rfl, P5, h5⟩; have H3 := Lib.hid h5; clear h5)))
    clear hS2
    have hS1 := H3.out.drew.c3
    go_wp2
    go_region_held3 (fun W => W.cell? ⟨mm, 0, none⟩ = some (.int .i64 q.kind) ∧ W.cell? ⟨mm, 1, none⟩ = some (.int .i64 q.n) ∧ W.cell? ⟨mm, 2, none⟩ = some (.slice A2 q.signs.length c2))
     (first | assumption | exact hS1 | exact H1.out.c3)
     (first | (go_at_call 131; ((refine (H3.out.drew.addY ⟨A2, c2, rfl, H3.out.drew.of0 HR.out⟩ hv hk0 hM).mono ?_); rintro e w3 ⟨rfl, O3, h3⟩; have H1 := Lib.hid h3; clear h3)))
    clear hS1
    go_wp2
    go_end0
    exact ⟨rfl, _, _, H1.out.tail⟩
   ·go_simp
    refine hK.out _ _ trivial (fun _ => ?_)
    clear hK K
    try simp only [Act.put, low.pa, low.pb, low.pc]
    have HF := Lib.hid (HS.out.made (.cells #[.int .i64 0, .int .i64 0, .slice none 0 0] 71)).2
    replace HS := Lib.hid (HS.out.made (.cells #[.int .i64 0, .int .i64 0, .slice none 0 0] 71)).1
    generalize w1.heap.size = mm at *
    generalize w1.alloc (.cells #[.int .i64 0, .int .i64 0, .slice none 0 0] 71) = wa at *
    refine wpAnyH_ready (rs := [9]) (by kernel_rfl) (by simp) ?_
    refine AllReadyH.cons rfl (fun K hK => ?_) AllReadyH.nil
    go_simp
    refine (HS.out.takeB h0 (Nat.le_refl _)).mono ?_
    rintro e w2 ⟨v2, rfl, pv2, h2⟩
    rw [cutL_all hv hk0] at pv2
    obtain ⟨A2, c2, rfl, r2⟩ := pv2
    have HR := Lib.hid (h2.to0 r2)
    clear r2
    refine hK.out _ _ trivial (fun _ => ?_)
    clear hK K
    try simp only [Act.put, low.pa, low.pb, low.pc]
    replace HS := Lib.hid h2
    clear h2
    refine wpAnyH_ready (rs := [11]) (by kernel_rfl) (by simp) ?_
    refine AllReadyH.cons rfl (fun K hK => ?_) AllReadyH.nil
    have m0 := HS.out.c3.1
    have m1 := HS.out.c3.2.1
    have m2 := HS.out.c3.2.2
    have n0 := HS.out.f3.1
    have n1 := HS.out.f3.2.1
    have n2 := HS.out.f3.2.2
    go_simp
    refine hK.out _ _ trivial (fun _ => ?_)
    clear hK K m0 m1 m2 n0 n1 n2
    try simp only [Act.put, low.pa, low.pb, low.pc]
    refine wpAnyH_done (by kernel_rfl) ?_ _
    replace HS := Lib.hid (HS.out.set3 HF.out (.int .i64 q.kind) (.int .i64 q.n) (.slice A2 q.signs.length c2))
    generalize (((w2.setCell ⟨mm, 0, none⟩ (.int .i64 q.kind)).setCell ⟨mm, 1, none⟩ (.int .i64 q.n)).setCell ⟨mm, 2, none⟩ (.slice A2 q.signs.length c2)) = ws at *
    clear HF
    have hS2 := HS.out.drew.c3
    go_wp2
    go_region_held3 (fun W => W.cell? ⟨mm, 0, none⟩ = some (.int .i64 q.kind) ∧ W.cell? ⟨mm, 1, none⟩ = some (.int .i64 q.n) ∧ W.cell? ⟨mm, 2, none⟩ = some (.slice A2 q.signs.length c2))
     (first | assumption | exact hS2 | exact H3.out.c3 | exact H2.out.c3)
     (first | (go_at_call 111; ((refine (HS.out.drew.size (r := q) hv).mono ?_); rintro e w4 ⟨rfl, h4, b4⟩; have H2 := Lib.hid h4; clear h4 b4)) | (go_at_call 139; ((refine (H2.out.keepX (by omega) (by omega) hL).mono ?_); rintro e w5 ⟨rfl, P5, h5⟩; have H3 := Lib.hid h5; clear h5)))
    clear hS2
    have hS1 := H3.out.drew.c3
    go_wp2
    go_region_held3 (fun W => W.cell? ⟨mm, 0, none⟩ = some (.int .i64 q.kind) ∧ W.cell? ⟨mm, 1, none⟩ = some (.int .i64 q.n) ∧ W.cell? ⟨mm, 2, none⟩ = some (.slice A2 q.signs.length c2))
     (first | assumption | exact hS1 | exact H1.out.c3)
     (first | (go_at_call 131; ((refine (H3.out.drew.addY ⟨A2, c2, rfl, H3.out.drew.of0 HR.out⟩ hv hk0 hM).mono ?_); rintro e w3 ⟨rfl, O3, h3⟩; have H1 := Lib.hid h3; clear h3)))
    clear hS1
    go_wp2
    go_end0
    exact ⟨rfl, _, _, H1.out.tail⟩
  ·go_simp
   refine hK.out _ _ trivial (fun _ => ?_)
   clear hK K
   try simp only [Act.put, low.pa, low.pb, low.pc]
   have HF := Lib.hid (HS.out.made (.cells #[.int .i64 0, .int .i64 0, .slice none 0 0] 71)).2
   replace HS := Lib.hid (HS.out.made (.cells #[.int .i64 0, .int .i64 0, .slice none 0 0] 71)).1
   generalize wd.heap.size = mm at *
   generalize wd.alloc (.cells #[.int .i64 0, .int .i64 0, .slice none 0 0] 71) = wa at *
   refine wpAnyH_ready (rs := [8]) (by kernel_rfl) (by simp) ?_
   refine AllReadyH.cons rfl (fun K hK => ?_) AllReadyH.nil
   go_simp
   refine (HS.out.size (r := q) hv).mono ?_
   rintro e w1 ⟨rfl, h1, b1⟩
   refine hK.out _ _ trivial (fun _ => ?_)
   clear hK K b1
   try simp only [Act.put, low.pa, low.pb, low.pc]
   replace HS := Lib.hid h1
   clear h1
   refine wpAnyH_ready (rs := [9]) (by kernel_rfl) (by simp) ?_
   refine AllReadyH.cons rfl (fun K hK => ?_) AllReadyH.nil
   go_simp
   refine (HS.out.takeB h0 (Nat.le_refl _)).mono ?_
   rintro e w2 ⟨v2, rfl, pv2, h2⟩
   rw [cutL_all hv hk0] at pv2
   obtain ⟨A2, c2, rfl, r2⟩ := pv2
   have HR := Lib.hid (h2.to0 r2)
   clear r2
   refine hK.out _ _ trivial (fun _ => ?_)
   clear hK K
   try simp only [Act.put, low.pa, low.pb, low.pc]
   replace HS := Lib.hid h2
   clear h2
   refine wpAnyH_ready (rs := [11]) (by kernel_rfl) (by simp) ?_
   refine AllReadyH.cons rfl (fun K hK => ?_) AllReadyH.nil
   have m0 := HS.out.c3.1
   have m1 := HS.out.c3.2.1
   have m2 := HS.out.c3.2.2
   have n0 := HS.out.f3.1
   have n1 := HS.out.f3.2.1
   have n2 := HS.out.f3.2.2
   go_simp
   refine hK.out _ _ trivial (fun _ => ?_)
   clear hK K m0 m1 m2 n0 n1 n2
   try simp only [Act.put, low.pa, low.pb, low.pc]
   refine wpAnyH_done (by kernel_rfl) ?_ _
   replace HS := Lib.hid (HS.out.set3 HF.out (.int .i64 q.kind) (.int .i64 q.n) (.slice A2 q.signs.length c2))
   generalize (((w2.setCell ⟨mm, 0, none⟩ (.int .i64 q.kind)).setCell ⟨mm, 1, none⟩ (.int .i64 q.n)).setCell ⟨mm, 2, none⟩ (.slice A2 q.signs.length c2)) = ws at *
   clear HF
   have hS2 := HS.out.drew.c3
   go_wp2
   go_region_held3 (fun W => W.cell? ⟨mm, 0, none⟩ = some (.int .i64 q.kind) ∧ W.cell? ⟨mm, 1, none⟩ = some (.int .i64 q.n) ∧ W.cell? ⟨mm, 2, none⟩ = some (.slice A2 q.signs.length c2))
    (first | assumption | exact hS2 | exact H3.out.c3 | exact H2.out.c3)
    (first | (go_at_call 111; ((refine (HS.out.drew.size (r := q) hv).mono ?_); rintro e w4 ⟨rfl, h4, b4⟩; have H2 := Lib.hid h4; clear h4 b4)) | (go_at_call 139; ((refine (H2.out.keepX (by omega) (by omega) hL).mono ?_); rintro e w5 ⟨rfl, P5, h5⟩; have H3 := Lib.hid h5; clear h5)))
   clear hS2
   have hS1 := H3.out.drew.c3
   go_wp2
   go_region_held3 (fun W => W.cell? ⟨mm, 0, none⟩ = some (.int .i64 q.kind) ∧ W.cell? ⟨mm, 1, none⟩ = some (.int .i64 q.n) ∧ W.cell? ⟨mm, 2, none⟩ = some (.slice A2 q.signs.length c2))
    (first | assumption | exact hS1 | exact H1.out.c3)
    (first | (go_at_call 131; ((refine (H3.out.drew.addY ⟨A2, c2, rfl, H3.out.drew.of0 HR.out⟩ hv hk0 hM).mono ?_); rintro e w3 ⟨rfl, O3, h3⟩; have H1 := Lib.hid h3; clear h3)))
   clear hS1
   go_wp2
   go_end0
   exact ⟨rfl, _, _, H1.out.tail⟩
 ·go_simp
  refine hK.out _ _ trivial (fun _ => ?_)
  clear hK K
  try simp only [Act.put, low.pa, low.pb, low.pc]
  have HF := Lib.hid (HS.out.made (.cells #[.int .i64 0, .int .i64 0, .slice none 0 0] 71)).2
  replace HS := Lib.hid (HS.out.made (.cells #[.int .i64 0, .int .i64 0, .slice none 0 0] 71)).1
  generalize wd.heap.size = mm at *
  generalize wd.alloc (.cells #[.int .i64 0, .int .i64 0, .slice none 0 0] 71) = wa at *
  refine wpAnyH_ready (rs := [7]) (by kernel_rfl) (by simp) ?_
  refine AllReadyH.cons rfl (fun K hK => ?_) AllReadyH.nil
  have a0 := HS.out.cellsB0
  have a1 := HS.out.cellsB1
  have a2 := HS.out.cellsB2
  go_simp
  refine hK.out _ _ trivial (fun _ => ?_)
  clear hK K a0 a1 a2
  try simp only [Act.put, low.pa, low.pb, low.pc]
  refine wpAnyH_ready (rs := [8]) (by kernel_rfl) (by simp) ?_
  refine AllReadyH.cons rfl (fun K hK => ?_) AllReadyH.nil
  go_simp
  refine (HS.out.size (r := q) hv).mono ?_
  rintro e w1 ⟨rfl, h1, b1⟩
  refine hK.out _ _ trivial (fun _ => ?_)
  clear hK K b1
  try simp only [Act.put, low.pa, low.pb, low.pc]
  replace HS := Lib.hid h1
  clear h1
  refine wpAnyH_ready (rs := [9]) (by kernel_rfl) (by simp) ?_
  refine AllReadyH.cons rfl (fun K hK => ?_) AllReadyH.nil
  go_simp
  refine (HS.out.takeB h0 (Nat.le_refl _)).mono ?_
  rintro e w2 ⟨v2, rfl, pv2, h2⟩
  rw [cutL_all hv hk0] at pv2
  obtain ⟨A2, c2, rfl, r2⟩ := pv2
  have HR := Lib.hid (h2.to0 r2)
  clear r2
  refine hK.out _ _ trivial (fun _ => ?_)
  clear hK K
  try simp only [Act.put, low.pa, low.pb, low.pc]
  replace HS := Lib.hid h2
  clear h2
  refine wpAnyH_ready (rs := [11]) (by kernel_rfl) (by simp) ?_
  refine AllReadyH.cons rfl (fun K hK => ?_) AllReadyH.nil
  have m0 := HS.out.c3.1
  have m1 := HS.out.c3.2.1
  have m2 := HS.out.c3.2.2
  have n0 := HS.out.f3.1
  have n1 := HS.out.f3.2.1
  have n2 := HS.out.f3.2.2
  go_simp
  refine hK.out _ _ trivial (fun _ => ?_)
  clear hK K m0 m1 m2 n0 n1 n2
  try simp only [Act.put, low.pa, low.pb, low.pc]
  refine wpAnyH_done (by kernel_rfl) ?_ _
  replace HS := Lib.hid (HS.out.set3 HF.out (.int .i64 q.kind) (.int .i64 q.n) (.slice A2 q.signs.length c2))
  generalize (((w2.setCell ⟨mm, 0, none⟩ (.int .i64 q.kind)).setCell ⟨mm, 1, none⟩ (.int .i64 q.n)).setCell ⟨mm, 2, none⟩ (.slice A2 q.signs.length c2)) = ws at *
  clear HF
  have hS2 := HS.out.drew.c3
  go_wp2
  go_region_held3 (fun W => W.cell? ⟨mm, 0, none⟩ = some (.int .i64 q.kind) ∧ W.cell? ⟨mm, 1, none⟩ = some (.int .i64 q.n) ∧ W.cell? ⟨mm, 2, none⟩ = some (.slice A2 q.signs.length c2))
   (first | assumption | exact hS2 | exact H3.out.c3 | exact H2.out.c3)
   (first | (go_at_call 111; ((refine (HS.out.drew.size (r := q) hv).mono ?_); rintro e w4 ⟨rfl, h4, b4⟩; have H2 := Lib.hid h4; clear h4 b4)) | (go_at_call 139; ((refine (H2.out.keepX (by omega) (by omega) hL).mono ?_); rintro e w5 ⟨rfl, P5, h5⟩; have H3 := Lib.hid h5; clear h5)))
  clear hS2
  have hS1 := H3.out.drew.c3
  go_wp2
  go_region_held3 (fun W => W.cell? ⟨mm, 0, none⟩ = some (.int .i64 q.kind) ∧ W.cell? ⟨mm, 1, none⟩ = some (.int .i64 q.n) ∧ W.cell? ⟨mm, 2, none⟩ = some (.slice A2 q.signs.length c2))
   (first | assumption | exact hS1 | exact H1.out.c3)
   (first | (go_at_call 131; ((refine (H3.out.drew.addY ⟨A2, c2, rfl, H3.out.drew.of0 HR.out⟩ hv hk0 hM).mono ?_); rintro e w3 ⟨rfl, O3, h3⟩; have H1 := Lib.hid h3; clear h3)))
  clear hS1
  go_wp2
  go_end0
  exact ⟨rfl, _, _, H1.out.tail⟩
end
abbrev tabC : Array Value := #[.nilFunc, .nilFunc, .func (.func 149) #[] #[], .nilFunc,
 .nilFunc, .func (.func 150) #[] #[], .func (.func 149) #[] #[], .func (.func 151) #[] #[],
 .func (.func 152) #[] #[], .func (.func 152) #[] #[], .func (.func 152) #[] #[], .func (.func 152) #[] #[],
 .nilFunc, .func (.func 153) #[] #[], .func (.func 149) #[] #[], .func (.func 154) #[] #[]]
theorem implEffects (w : World) : Calls Tryz.prog 143 #[] w (fun e w' => e = .returned (.agg tabC) ∧ Below w.heap.size w w') := by
 go_enter Tryz.func143, Tryz.ntmps143
 go_wp2
 exact bodyPost_ret (results_cell_row (by rfl) _ _ w.heap.size 189 tabC (0, 0) (.array 4 187) (by rfl) (heap_alloc_new w _) (by kernel_rfl) (by rfl) (by kernel_rfl)) rfl ⟨rfl, alloc_below w _⟩
theorem Xs.new {w : World} {A B : Option Addr} {ca cb : Nat} {a b : List Pt} (ra : RdC w w.heap.size (encPs a) (.slice A a.length ca)) (rb : RdC w w.heap.size (encPs b) (.slice B b.length cb)) (oa : ∀ x ∈ a, okPt x = true) (ob : ∀ x ∈ b, okPt x = true) (la : a.length ≤ 1048576) (lb : b.length ≤ 1048576) :
  Xs ⟨w.heap.size, w.heap.size, w⟩ [] (fun _ => False) (fun _ => False) [] [] (w.alloc (.cells #[.int .i64 0, .int .i64 0, .slice none 0 0, .slice A a.length ca, .int .i64 0, .int .i64 0, .slice none 0 0, .slice B b.length cb, .slice none 0 0, .slice none 0 0, .int .i64 0, .slice none 0 0, .slice none 0 0, .int .i64 0] 185)) ⟨0, 0, []⟩ a ⟨0, 0, []⟩ b := by
 have hb := alloc_below w (.cells #[.int .i64 0, .int .i64 0, .slice none 0 0, .slice A a.length ca, .int .i64 0, .int .i64 0, .slice none 0 0, .slice B b.length cb, .slice none 0 0, .slice none 0 0, .int .i64 0, .slice none 0 0, .slice none 0 0, .int .i64 0] 185)
 have hn := heap_alloc_new w (.cells #[.int .i64 0, .int .i64 0, .slice none 0 0, .slice A a.length ca, .int .i64 0, .int .i64 0, .slice none 0 0, .slice B b.length cb, .slice none 0 0, .slice none 0 0, .int .i64 0, .slice none 0 0, .slice none 0 0, .int .i64 0] 185)
 generalize w.alloc _ = w1 at *
 have v0 : Vp ⟨0, 0, []⟩ := .inr (.inr ⟨rfl, rfl, rfl⟩)
 have bd : ∀ o D, D o = some (.slice none 0 0) → D (o + 1) = some (.slice none 0 0) → D (o + 2) = some (.int .i64 0) → BdV (fun _ => False) w.heap.size w.heap.size w1 D o [] := fun o D h1 h2 h3 =>
  ⟨⟨.slice none 0 0, .slice none 0 0, [], h1, h2, h3, World.ownsRow_nil _ _ _ _, rfl, Apart.bare 2 0 ⟨rfl, fun i p u hp _ => by simp [foldN] at hp, fun i j k u v hu _ _ _ => by simp at hu⟩, fun k hk => by simp [Value.ownBlock] at hk, fun i k x hx hk => by
   cases i with
   | zero => simp at hx; subst hx; simp [Value.ownBlock] at hk
   | succ i => simp at hx⟩, fun p hp => by simp at hp, by simp, fun b hb => hb.elim, fun h => h⟩
 exact ⟨⟨_, ⟨_, hn, fun i => rfl⟩, ⟨⟨none, 0, A, ca, rfl, rfl, rfl, rfl, ints_none, ra.below hb⟩, v0, oa, la⟩, ⟨⟨none, 0, B, cb, rfl, rfl, rfl, rfl, ints_none, rb.below hb⟩, v0, ob, lb⟩, bd 8 _ rfl rfl rfl, bd 11 _ rfl rfl rfl⟩, Nat.le_refl _, fun _ h => h.elim, fun x hx => by simp at hx, hb⟩
theorem least_ex {Q : Nat → Prop} : ∀ n, Q n → ∃ m, Q m ∧ ∀ k, Q k → m ≤ k := by
 intro n
 induction n using Nat.strongRecOn with
 | ind n ih =>
  intro h
  by_cases hk : ∃ k, k < n ∧ Q k
  ·obtain ⟨k, h1, h2⟩ := hk
   exact ih k h1 h2
  ·exact ⟨n, h, fun k hq => by
    rcases Nat.lt_or_ge k n with h1 | h1
    ·exact absurd ⟨k, h1, hq⟩ hk
    ·exact h1⟩
noncomputable def leastOf (St : World → Nat → Prop) (w : World) : Nat := Classical.epsilon (fun m => St w m ∧ ∀ k, St w k → m ≤ k)
theorem leastOf_at {St : World → Nat → Prop} {w : World} {n : Nat} (h : St w n) : St w (leastOf St w) ∧ leastOf St w ≤ n := by
 have := Classical.epsilon_spec (least_ex n h)
 exact ⟨this.1, this.2 n h⟩
section
variable {a b L M : List Pt} {p q : Pt} {R S RX RY : List U} {m : Nat}
theorem ePx (h : XInv a b (unitsP p ++ R) RY L M) (hv : Vp p) (h0 : 0 < sizeP p) (hk : p.kind = 2) : XInv a b (unitsP (cutR p (sizeP p)) ++ R) RY (L ++ [p]) (M ++ [⟨1, (sizeP p : Int), []⟩]) := by
 rw [units_cutR_all hv, List.nil_append]
 rcases hv.form h0 with ⟨k, _⟩ | ⟨k, _⟩ | ⟨_, e1, l, e2⟩
 ·omega
 ·omega
 ·rw [e2] at h
  rw [l]
  have := h.px (by omega)
  rw [e1]
  exact this
theorem ePy (h : XInv a b RX (unitsP q ++ S) L M) (hn : noP RX) (hv : Vp q) (h0 : 0 < sizeP q) (hk : q.kind = 2) : XInv a b RX (unitsP (cutR q (sizeP q)) ++ S) (L ++ [⟨1, (sizeP q : Int), []⟩]) (M ++ [q]) := by
 rw [units_cutR_all hv, List.nil_append]
 rcases hv.form h0 with ⟨k, _⟩ | ⟨k, _⟩ | ⟨_, e1, l, e2⟩
 ·omega
 ·omega
 ·rw [e2] at h
  rw [l]
  have := h.py hn (by omega)
  rw [e1]
  exact this
theorem cutL_u (hk : p.kind = 1 ∨ p.kind = 3) : unitsP (cutL p m) = if p.kind = 1 then List.replicate m .k else List.replicate m .d := by
 rw [cutL_n (by omega)]
 rcases hk with hk | hk <;> simp [hk, unitsP]
theorem eM (h : XInv a b (unitsP p ++ R) (unitsP q ++ S) L M) (hv : Vp p) (hw : Vp q) (h0 : 0 < m) (h1 : m ≤ sizeP p) (h2 : m ≤ sizeP q) (hk : p.kind = 1 ∨ p.kind = 3) (hk' : q.kind = 1 ∨ q.kind = 3) :
  (p.kind = 1 → q.kind = 1 → XInv a b (unitsP (cutR p m) ++ R) (unitsP (cutR q m) ++ S) (L ++ [⟨1, (m : Int), []⟩]) (M ++ [⟨1, (m : Int), []⟩])) ∧
  (p.kind = 1 → q.kind = 3 → XInv a b (unitsP (cutR p m) ++ R) (unitsP (cutR q m) ++ S) L (M ++ [⟨3, (m : Int), []⟩])) ∧
  (p.kind = 3 → q.kind = 1 → XInv a b (unitsP (cutR p m) ++ R) (unitsP (cutR q m) ++ S) (L ++ [⟨3, (m : Int), []⟩]) M) ∧
  (p.kind = 3 → q.kind = 3 → XInv a b (unitsP (cutR p m) ++ R) (unitsP (cutR q m) ++ S) L M) := by
 rw [units_cut hv h1, units_cut hw h2, List.append_assoc, List.append_assoc, cutL_u hk, cutL_u hk'] at h
 refine ⟨fun e e' => ?_, fun e e' => ?_, fun e e' => ?_, fun e e' => ?_⟩ <;> rw [e, e'] at h <;> simp only [if_true, show ¬ ((3 : Int) = 1) by decide, if_false] at h
 ·exact h.kk h0
 ·exact h.kd h0
 ·exact h.dk h0
 ·exact h.dd
theorem noP_of (hv : Vp p) (h0 : 0 < sizeP p) (hk : ¬ p.kind = 2) : noP (unitsP p ++ R) := by
 obtain ⟨m, hm⟩ : ∃ m, sizeP p = m + 1 := ⟨sizeP p - 1, by omega⟩
 rcases hv.form h0 with ⟨_, _, e⟩ | ⟨_, _, e⟩ | ⟨k, _⟩
 ·rw [e, hm, List.replicate_succ]; trivial
 ·rw [e, hm, List.replicate_succ]; trivial
 ·exact absurd k hk
end
theorem kindP_nat {p : Pt} (hv : Vp p) : ∃ k : Nat, kindP p = (k : Int) ∧ k < 4 ∧ (sizeP p = 0 → k = 0) ∧ (0 < sizeP p → (k = 1 ∧ p.kind = 1) ∨ (k = 2 ∧ p.kind = 2) ∨ (k = 3 ∧ p.kind = 3)) := by
 by_cases h0 : 0 < sizeP p
 ·have e : kindP p = p.kind := by simp [kindP, h0]
  rcases hv.form h0 with ⟨k, _⟩ | ⟨k, _⟩ | ⟨k, _⟩
  ·exact ⟨1, by rw [e, k]; rfl, by omega, by omega, fun _ => .inl ⟨rfl, k⟩⟩
  ·exact ⟨3, by rw [e, k]; rfl, by omega, by omega, fun _ => .inr (.inr ⟨rfl, k⟩)⟩
  ·exact ⟨2, by rw [e, k]; rfl, by omega, by omega, fun _ => .inr (.inl ⟨rfl, k⟩)⟩
 ·exact ⟨0, by simp [kindP, h0], by omega, fun _ => rfl, fun h => absurd h h0⟩
theorem xcases {a b L M : List Pt} {p q : Pt} {ps qs : List Pt} {k1 k2 : Nat} {tv : Value} (ht : tabC.getD (k1 * 4 + k2) .nilFunc = tv) (hi : XInv a b (unitsP p ++ units ps) (unitsP q ++ units qs) L M) (hv : Vp p) (hw : Vp q) (l2 : k2 < 4)
  (hp : (sizeP p = 0 → ps = []) ∧ (sizeP p = 0 → k1 = 0) ∧ (0 < sizeP p → (k1 = 1 ∧ p.kind = 1) ∨ (k1 = 2 ∧ p.kind = 2) ∨ (k1 = 3 ∧ p.kind = 3))) (hq : (sizeP q = 0 → qs = []) ∧ (sizeP q = 0 → k2 = 0) ∧ (0 < sizeP q → (k2 = 1 ∧ q.kind = 1) ∨ (k2 = 2 ∧ q.kind = 2) ∨ (k2 = 3 ∧ q.kind = 3))) :
  (tv = .nilFunc ∧ unitsP p ++ units ps = [] ∧ unitsP q ++ units qs = []) ∨
  (tv = .func (.func 152) #[] #[] ∧ 0 < sizeP p ∧ p.kind = 2) ∨
  (tv = .func (.func 149) #[] #[] ∧ 0 < sizeP q ∧ q.kind = 2 ∧ noP (unitsP p ++ units ps)) ∨
  (0 < sizeP p ∧ 0 < sizeP q ∧ ((tv = .func (.func 150) #[] #[] ∧ p.kind = 1 ∧ q.kind = 1) ∨ (tv = .func (.func 151) #[] #[] ∧ p.kind = 1 ∧ q.kind = 3) ∨ (tv = .func (.func 153) #[] #[] ∧ p.kind = 3 ∧ q.kind = 1) ∨ (tv = .func (.func 154) #[] #[] ∧ p.kind = 3 ∧ q.kind = 3))) := by
 have bal := hi.bal
 have nil : ∀ {r : Pt} {rs : List Pt}, sizeP r = 0 → rs = [] → unitsP r ++ units rs = [] := fun h e => by rw [sizeP_nil h, e, units_nil]; rfl
 by_cases h0 : sizeP p = 0
 ·have e1 := nil h0 (hp.1 h0)
  have ek := hp.2.1 h0
  subst ek
  by_cases h1 : sizeP q = 0
  ·have ek := hq.2.1 h1
   subst ek
   exact .inl ⟨ht.symm, e1, nil h1 (hq.1 h1)⟩
  ·have h1' : 0 < sizeP q := by omega
   rcases hq.2.2 h1' with ⟨ek, hk⟩ | ⟨ek, hk⟩ | ⟨ek, hk⟩
   ·have := src_pos (R := units qs) hw h1' (by omega)
    rw [← bal, e1] at this
    simp [src] at this
   ·subst ek
    exact .inr (.inr (.inl ⟨ht.symm, h1', hk, by rw [e1]; trivial⟩))
   ·have := src_pos (R := units qs) hw h1' (by omega)
    rw [← bal, e1] at this
    simp [src] at this
 ·have h0' : 0 < sizeP p := by omega
  rcases hp.2.2 h0' with ⟨ek, hk⟩ | ⟨ek, hk⟩ | ⟨ek, hk⟩
  all_goals subst ek
  ·by_cases h1 : sizeP q = 0
   ·have := src_pos (R := units ps) hv h0' (by omega)
    rw [bal, nil h1 (hq.1 h1)] at this
    simp [src] at this
   ·have h1' : 0 < sizeP q := by omega
    rcases hq.2.2 h1' with ⟨ek, hk2⟩ | ⟨ek, hk2⟩ | ⟨ek, hk2⟩
    all_goals subst ek
    ·exact .inr (.inr (.inr ⟨h0', h1', .inl ⟨ht.symm, hk, hk2⟩⟩))
    ·exact .inr (.inr (.inl ⟨ht.symm, h1', hk2, noP_of hv h0' (by omega)⟩))
    ·exact .inr (.inr (.inr ⟨h0', h1', .inr (.inl ⟨ht.symm, hk, hk2⟩)⟩))
  ·refine .inr (.inl ⟨?_, h0', hk⟩)
   rcases (show k2 = 0 ∨ k2 = 1 ∨ k2 = 2 ∨ k2 = 3 by omega) with rfl | rfl | rfl | rfl <;> exact ht.symm
  ·by_cases h1 : sizeP q = 0
   ·have := src_pos (R := units ps) hv h0' (by omega)
    rw [bal, nil h1 (hq.1 h1)] at this
    simp [src] at this
   ·have h1' : 0 < sizeP q := by omega
    rcases hq.2.2 h1' with ⟨ek, hk2⟩ | ⟨ek, hk2⟩ | ⟨ek, hk2⟩
    all_goals subst ek
    ·exact .inr (.inr (.inr ⟨h0', h1', .inr (.inr (.inl ⟨ht.symm, hk, hk2⟩))⟩))
    ·exact .inr (.inr (.inl ⟨ht.symm, h1', hk2, noP_of hv h0' (by omega)⟩))
    ·exact .inr (.inr (.inr ⟨h0', h1', .inr (.inr (.inr ⟨ht.symm, hk, hk2⟩))⟩))
section
variable {P : Program} {w : World} {t : TypeId} {ps rs : Array TypeId} {v : Bool}
theorem eqlIn_fn (d f : Nat) (h : P.underlying t = some (.func ps rs v)) : (Op.equalIn (d + 1) t (.func (.func f) #[] #[]) .nilFunc).run P w = .ok false w := by
 simp [Op.equalIn, run_underlying h]
theorem eqlIn_nil (d : Nat) (h : P.underlying t = some (.func ps rs v)) : (Op.equalIn (d + 1) t .nilFunc .nilFunc).run P w = .ok true w := by
 simp [Op.equalIn, run_underlying h]
theorem eql_fn (f : Nat) (h : P.underlying t = some (.func ps rs v)) : Sem.run P (binOp .eql t (.func (.func f) #[] #[]) .nilFunc) w = .ok (.bool false) w := by
 have h1 : (Op.equal t (.func (.func f) #[] #[]) .nilFunc).run P w = .ok false w := eqlIn_fn 9999 f h
 simp only [binOp]
 simp [h1]
theorem eql_nil (h : P.underlying t = some (.func ps rs v)) : Sem.run P (binOp .eql t .nilFunc .nilFunc) w = .ok (.bool true) w := by
 have h1 : (Op.equal t .nilFunc .nilFunc).run P w = .ok true w := eqlIn_nil 9999 h
 simp only [binOp]
 simp [h1]
end
def DoneXP (F : Fy) (P : Nat → Prop) (L M : List Pt) (w : World) (e : Ending) (w' : World) : Prop := ∃ v c D, e = .returned v ∧ OwB F.lo w'.heap.size w' (encPs (doneN (foldN L))) v c ∧ Bld P F.lo F.g 11 D w' M ∧ (∀ x ∈ c, ¬ P x ∧ ¬ x = F.g) ∧ Below F.lo w w'
theorem Xs.doneX {F : Fy} {KL : List (Nat × Obj)} {O P : Nat → Prop} {L M : List Pt} {w : World} {p : Pt} {ps : List Pt} {q : Pt} {qs : List Pt} (h : Xs F KL O P L M w p ps q qs) : Calls Tryz.prog 132 #[.pointer (some ⟨F.g, 8, none⟩)] w (DoneXP F P L M w) := by
 obtain ⟨D, hD, ra, rb, bx, by_⟩ := h.box
 refine (implDoneB O F.lo F.g 8 D L w ⟨⟨D, hD, bx, fun _ _ => rfl⟩, h.ge⟩).mono ?_
 rintro e w' ⟨v, c, h1, h2, h3, h4, h5, D', hD', hC'⟩
 refine ⟨v, c, D', h1, h2, ⟨⟨D', hD', by_.keep h5.size (fun b hlt hp => h5.block b hlt (fun ho => h.dis b ho hp) (fun e => by_.ng (by rw [← e]; exact hp))) (fun i _ _ => hC' i (by omega)), fun _ _ => rfl⟩, h.ge⟩, fun x hx => ⟨fun hp => ?_, (h3 x hx).2⟩, h4⟩
 rcases (h3 x hx).1 with k | k
 ·exact h.dis x k hp
 ·have := by_.old x hp; omega
theorem OwB.grewX {O O' : Nat → Prop} {g lo hi : Nat} {w w' : World} {d : Dat} {v : Value} {b : List Nat} (h : OwB lo hi w d v b) (hg : GrewX O O' g w w') (hO : ∀ x ∈ b, ¬ O x ∧ ¬ x = g) : OwB lo hi w' d v b :=
 ⟨OwC.keep d v b h.ow (fun x hx => hg.block x (OwC.lt d v b h.ow x hx) (hO x hx).1 (hO x hx).2), h.nd, h.rng, Nat.le_trans h.top hg.size, h.le⟩
def StX (F : Fy) (KL : List (Nat × Obj)) (a b : List Pt) (w : World) (n : Nat) : Prop := ∃ O P L M p ps q qs, Xs F KL O P L M w p ps q qs ∧ XInv a b (unitsP p ++ units ps) (unitsP q ++ units qs) L M ∧ n = (unitsP p ++ units ps).length + (unitsP q ++ units qs).length
theorem StX.next {F : Fy} {KL : List (Nat × Obj)} {a b : List Pt} {w w' : World} {O P : Nat → Prop} {L M : List Pt} {p : Pt} {ps : List Pt} {q : Pt} {qs : List Pt} {n : Nat} (h : Xs F KL O P L M w' p ps q qs) (hi : XInv a b (unitsP p ++ units ps) (unitsP q ++ units qs) L M) (hn : leastOf (StX F KL a b) w = n) (hl : (unitsP p ++ units ps).length + (unitsP q ++ units qs).length < n) : StX F KL a b w' ((unitsP p ++ units ps).length + (unitsP q ++ units qs).length) ∧ leastOf (StX F KL a b) w' < leastOf (StX F KL a b) w := by
 have st : StX F KL a b w' ((unitsP p ++ units ps).length + (unitsP q ++ units qs).length) := ⟨O, P, L, M, p, ps, q, qs, h, hi, rfl⟩
 have := (leastOf_at st).2
 exact ⟨st, by omega⟩
def CrossP (a b : List Pt) (w : World) (e : Ending) (w' : World) : Prop :=
 ∃ v v' c c', e = .returned (.tuple #[v, v']) ∧ OwB w.heap.size w'.heap.size w' (encPs (xfA a b)) v c ∧ OwB w.heap.size w'.heap.size w' (encPs (xfB a b)) v' c' ∧ (∀ x ∈ c, x ∉ c') ∧ Below w.heap.size w w' ∧ SmP (xfA a b) ∧ SmP (xfB a b)
theorem implCrossed (A B : Option Addr) (ca cb : Nat) (a b : List Pt) (w : World) (ra : RdC w w.heap.size (encPs a) (.slice A a.length ca)) (rb : RdC w w.heap.size (encPs b) (.slice B b.length cb)) (oa : ∀ x ∈ a, okPt x = true) (ob : ∀ x ∈ b, okPt x = true) (la : a.length ≤ 1048576) (lb : b.length ≤ 1048576) (hi : XInv a b (units a) (units b) [] []) :
  Calls Tryz.prog 133 #[.slice A a.length ca, .slice B b.length cb] w (CrossP a b w) := by
 have HX := Lib.hid (Xs.new ra rb oa ob la lb)
 have HI := Lib.hid hi
 clear ra rb oa ob la lb hi
 go_enter Tryz.func133, Tryz.ntmps133
 go_wp2_with fail
 refine (implEffects _).mono ?_
 rintro e w1 ⟨rfl, b1⟩
 have H1 := Lib.hid ((HX.out.past b1).made (.cells tabC 189)).1
 clear b1 HX
 go_wp2
 change Code.wp _ _ _ _ (w1.alloc (.cells tabC 189))
 generalize w1.alloc (.cells tabC 189) = W0 at *
 generalize w1.heap.size = lt at *
 obtain ⟨F, hF⟩ : ∃ F : Fy, F = ⟨w.heap.size, w.heap.size, w⟩ := ⟨_, rfl⟩
 rw [← hF] at H1
 have hg : w.heap.size = F.g := by rw [hF]
 have HF := Lib.hid hF
 clear hF
 rw [hg]
 clear hg
 go_loopw [8] (fun t wr => ∃ n, StX F [(lt, .cells tabC 189 (0, 0))] a b wr n) (fun _ wr => leastOf (StX F [(lt, .cells tabC 189 (0, 0))] a b) wr)
 case atStart => exact ⟨_, _, _, _, _, _, _, _, _, H1.out, HI.out, rfl⟩
 case round =>
  clear H1 HI
  obtain ⟨n, hn⟩ := hrel
  obtain ⟨O, P, L, M, p, ps, q, qs, hx, hi, hlen⟩ := (leastOf_at hn).1
  have HS := Lib.hid hx.drew
  have HI := Lib.hid hi
  have HLEN := Lib.hid hlen
  clear hn hx hi hlen
  go_wp2
  refine wp_region_held_drew (S := fun _ => True) (by kernel_rfl) trivial (fun _ => ?_)
  generalize wr.drew = wd at *
  refine wpAnyH_take (i := 0) (v := .pointer (some ⟨F.g, 0, none⟩)) rfl (by kernel_rfl) (by kernel_rfl) (by kernel_rfl) (fun _ _ _ h => h) (Or.inl ⟨by rfl, fun w' hS => ?_⟩) trivial ?_
  ·clear HS HI HLEN; go_simp
  try simp only [Act.put]
  refine wpAnyH_take (i := 1) (v := .pointer (some ⟨F.g, 0, none⟩)) rfl (by kernel_rfl) (by kernel_rfl) (by kernel_rfl) (fun _ _ _ h => h) (Or.inl ⟨by rfl, fun w' hS => ?_⟩) trivial ?_
  ·clear HS HI HLEN; go_simp
  try simp only [Act.put]
  refine wpAnyH_take (i := 2) (v := .pointer (some ⟨F.g, 0, none⟩)) rfl (by kernel_rfl) (by kernel_rfl) (by kernel_rfl) (fun _ _ _ h => h) (Or.inl ⟨by rfl, fun w' hS => ?_⟩) trivial ?_
  ·clear HS HI HLEN; go_simp
  try simp only [Act.put]
  refine wpAnyH_take (i := 4) (v := .pointer (some ⟨F.g, 0, none⟩)) rfl (by kernel_rfl) (by kernel_rfl) (by kernel_rfl) (fun _ _ _ h => h) (Or.inl ⟨by rfl, fun w' hS => ?_⟩) trivial ?_
  ·clear HS HI HLEN; go_simp
  try simp only [Act.put]
  refine wpAnyH_take (i := 5) (v := .pointer (some ⟨F.g, 0, none⟩)) rfl (by kernel_rfl) (by kernel_rfl) (by kernel_rfl) (fun _ _ _ h => h) (Or.inl ⟨by rfl, fun w' hS => ?_⟩) trivial ?_
  ·clear HS HI HLEN; go_simp
  try simp only [Act.put]
  refine wpAnyH_take (i := 6) (v := .pointer (some ⟨F.g, 4, none⟩)) rfl (by kernel_rfl) (by kernel_rfl) (by kernel_rfl) (fun _ _ _ h => h) (Or.inl ⟨by rfl, fun w' hS => ?_⟩) trivial ?_
  ·clear HS HI HLEN; go_simp
  try simp only [Act.put]
  refine wpAnyH_ready (rs := [3]) (by kernel_rfl) (by simp) ?_
  refine AllReadyH.cons rfl (fun K hK => ?_) AllReadyH.nil
  go_simp
  refine HS.out.kindA.mono ?_
  rintro e w2 ⟨p1, ps1, rfl, h2, u2, z2⟩
  obtain ⟨k1, hk1, hk1l, hk1z, hk1p⟩ := kindP_nat h2.vp
  rw [hk1]
  have hk1i : (k1 : Int) < 4 := by omega
  refine hK.out _ _ trivial (fun _ => ?_)
  clear hK K
  try simp only [Act.put, low.pa, low.pb, low.pc]
  replace HI := Lib.hid (show XInv a b (unitsP p1 ++ units ps1) (unitsP q ++ units qs) L M by rw [u2]; exact HI.out)
  replace HLEN := Lib.hid (show leastOf (StX F [(lt, .cells tabC 189 (0, 0))] a b) wr = (unitsP p1 ++ units ps1).length + (unitsP q ++ units qs).length by rw [u2]; exact HLEN.out)
  have HZ := Lib.hid (And.intro z2 (And.intro hk1z hk1p))
  have H2 := Lib.hid h2
  clear HS h2 u2 z2 hk1z hk1p hk1
  refine wpAnyH_take (i := 8) (v := .pointer (some ⟨lt, k1 * 4, none⟩)) rfl (by kernel_rfl) (by kernel_rfl) (by kernel_rfl) (fun _ _ _ h => h) (Or.inl ⟨by rfl, fun w' hS => ?_⟩) trivial ?_
  ·clear H2 HI HLEN HZ
   go_simp
  try simp only [Act.put]
  refine wpAnyH_ready (rs := [7]) (by kernel_rfl) (by simp) ?_
  refine AllReadyH.cons rfl (fun K hK => ?_) AllReadyH.nil
  go_simp
  refine H2.out.kindB.mono ?_
  rintro e w3 ⟨q1, qs1, rfl, h3, u3, z3⟩
  obtain ⟨k2, hk2, hk2l, hk2z, hk2p⟩ := kindP_nat h3.vq
  rw [hk2]
  have hk2i : (k2 : Int) < 4 := by omega
  refine hK.out _ _ trivial (fun _ => ?_)
  clear hK K
  try simp only [Act.put, low.pa, low.pb, low.pc]
  replace HI := Lib.hid (show XInv a b (unitsP p1 ++ units ps1) (unitsP q1 ++ units qs1) L M by rw [u3]; exact HI.out)
  replace HLEN := Lib.hid (show leastOf (StX F [(lt, .cells tabC 189 (0, 0))] a b) wr = (unitsP p1 ++ units ps1).length + (unitsP q1 ++ units qs1).length by rw [u3]; exact HLEN.out)
  have HZ2 := Lib.hid (And.intro z3 (And.intro hk2z hk2p))
  have H3 := Lib.hid h3
  clear H2 h3 u3 z3 hk2z hk2p hk2
  refine wpAnyH_take (i := 9) (v := .pointer (some ⟨lt, k1 * 4 + k2, none⟩)) rfl (by kernel_rfl) (by kernel_rfl) (by kernel_rfl) (fun _ _ _ h => h) (Or.inl ⟨by rfl, fun w' hS => ?_⟩) trivial ?_
  ·clear H3 HI HLEN HZ HZ2
   go_simp
  try simp only [Act.put]
  have ht : tabC[k1 * 4 + k2]? = some (tabC.getD (k1 * 4 + k2) .nilFunc) := by
   have : k1 * 4 + k2 < tabC.size := by show k1 * 4 + k2 < 16; omega
   rw [Array.getElem?_eq_getElem this, Array.getD]
   simp only [this, dif_pos]
   rfl
  have c0 := H3.out.cellK List.mem_cons_self ht
  clear ht
  generalize htv : tabC.getD (k1 * 4 + k2) .nilFunc = tv at *
  have HTV := Lib.hid htv
  clear htv
  refine wpAnyH_ready (rs := [10]) (by kernel_rfl) (by simp) ?_
  refine AllReadyH.cons rfl (fun K hK => ?_) AllReadyH.nil
  go_simp
  refine hK.out _ _ trivial (fun _ => ?_)
  clear hK K c0
  try simp only [Act.put, low.pa, low.pb, low.pc]
  refine wpAnyH_take (i := 11) (v := tv) rfl (by kernel_rfl) (by kernel_rfl) (by kernel_rfl) (fun _ _ _ h => h) (Or.inl ⟨by rfl, fun w' hS => ?_⟩) trivial ?_
  ·clear H3 HI HLEN HZ HZ2 HTV
   go_simp
  try simp only [Act.put]
  refine wpAnyH_done (by kernel_rfl) ?_ _
  have hLM := HI.out.len
  have hvp := H3.out.vp
  have hvq := H3.out.vq
  rcases xcases HTV.out HI.out hvp hvq hk2l HZ.out HZ2.out with ⟨htv, e1, e2⟩ | ⟨htv, h0, hk⟩ | ⟨htv, h0, hk, hnp⟩ | ⟨h0, h0', hc⟩
  ·clear hk1l hk2l hk1i hk2i HTV
   subst htv
   have hsx : ∀ r ∈ L, szP_ r := by obtain ⟨D, _, _, _, h1, _⟩ := H3.out.box; exact h1.sz
   have hsy : ∀ r ∈ M, szP_ r := by obtain ⟨D, _, _, _, _, h1⟩ := H3.out.box; exact h1.sz
   have q1 : doneN (foldN L) = xfA a b := by
    have h1 := HI.out.eq1
    rw [e1, e2, xf_nil, List.append_nil] at h1
    unfold xfA
    rw [foldN_units hsx, h1]
   have q2 : doneN (foldN M) = xfB a b := by
    have h1 := HI.out.eq2
    rw [e1, e2, xf_nil, List.append_nil] at h1
    unfold xfB
    rw [foldN_units hsy, h1]
   have HS1 := Lib.hid (show SmP (xfA a b) by rw [← q1]; exact built_small hsx (by omega))
   have HS2 := Lib.hid (show SmP (xfB a b) by rw [← q2]; exact built_small hsy (by omega))
   have HQ1 := Lib.hid q1
   have HQ2 := Lib.hid q2
   have hq : ∀ w, Sem.run Tryz.prog (binOp .eql 186 .nilFunc .nilFunc) w = .ok (.bool true) w := fun w => eql_nil Tryz.underlying186
   clear q1 q2 hsx hsy e1 e2 HLEN HZ HZ2 hLM hvp hvq HI
   go_wp2
   clear hq
   have H3d := Lib.hid H3.out.drew
   clear H3
   go_region_held3 (fun _ => True) (trivial)
    (first | (go_at_call 132; ((with_reducible refine (Xs.doneX H3d.out).mono ?_); rintro e w4 ⟨v4, c4, D4, rfl, o4, bd4, ds4, bl4⟩; have H4 := Lib.hid (And.intro o4 (And.intro ds4 (H3d.out.bl.trans bl4))); have HB4 := Lib.hid bd4; clear o4 bd4 ds4 bl4)) | (go_at_call 132; ((with_reducible refine (implDoneB P F.lo F.g 11 D4 M _ HB4.out).mono ?_); rintro e w5 ⟨v5, c5, rfl, o5, in5, bl5, gr5, _⟩; have H5 := Lib.hid (And.intro o5 (And.intro in5 (And.intro bl5 gr5))); clear o5 in5 bl5 gr5)))
   go_wp2
   go_ret2
   obtain ⟨o4, ds4, bl4⟩ := H4.out
   obtain ⟨o5, in5, bl5, gr5⟩ := H5.out
   rw [HQ1.out] at o4
   rw [HQ2.out] at o5
   have o4' := OwB.grewX o4 gr5 ds4
   have bl := bl4.trans bl5
   have eF := HF.out
   subst eF
   exact ⟨v4, v5, c4, c5, rfl, o4'.upto gr5.size (Nat.le_refl _), o5, fun x h1 h2 => by
    rcases (in5 x h2).1 with k | k
    ·exact (ds4 x h1).1 k
    ·have := OwC.lt _ _ _ o4.ow x h1; omega, bl, HS1.out, HS2.out⟩
  ·clear hk1l hk2l hk1i hk2i HTV
   have HD := Lib.hid (show (unitsP (cutR p1 (sizeP p1)) ++ units ps1).length + (unitsP q1 ++ units qs1).length < (unitsP p1 ++ units ps1).length + (unitsP q1 ++ units qs1).length by
    have := cutR_len hvp (Nat.le_refl _) h0
    simp only [List.length_append]
    omega)
   subst htv
   have hq : ∀ w, Sem.run Tryz.prog (binOp .eql 186 (.func (.func 152) #[] #[]) .nilFunc) w = .ok (.bool false) w := fun w => eql_fn _ Tryz.underlying186
   go_wp2_with fail
   clear hq
   refine (H3.out.putFirst h0 (by omega) (by omega)).mono ?_
   rintro e w4 ⟨rfl, O4, P4, h4⟩
   obtain ⟨st, lt4⟩ := StX.next (w := wr) h4 (ePx HI.out hvp h0 hk) HLEN.out HD.out
   have HST := Lib.hid st
   have HLT := Lib.hid lt4
   clear st lt4 h4 H3 HI HLEN HZ HZ2 h0 HD hLM
   go_wp2
   go_roundw
   case rel => exact ⟨_, HST.out⟩
   case measure => exact HLT.out
  ·clear hk1l hk2l hk1i hk2i HTV
   have HD := Lib.hid (show (unitsP p1 ++ units ps1).length + (unitsP (cutR q1 (sizeP q1)) ++ units qs1).length < (unitsP p1 ++ units ps1).length + (unitsP q1 ++ units qs1).length by
    have := cutR_len hvq (Nat.le_refl _) h0
    simp only [List.length_append]
    omega)
   subst htv
   have hq : ∀ w, Sem.run Tryz.prog (binOp .eql 186 (.func (.func 149) #[] #[]) .nilFunc) w = .ok (.bool false) w := fun w => eql_fn _ Tryz.underlying186
   go_wp2_with fail
   clear hq
   refine (H3.out.putSecond h0 (by omega) (by omega)).mono ?_
   rintro e w4 ⟨rfl, O4, P4, h4⟩
   obtain ⟨st, lt4⟩ := StX.next (w := wr) h4 (ePy HI.out hnp hvq h0 hk) HLEN.out HD.out
   have HST := Lib.hid st
   have HLT := Lib.hid lt4
   clear st lt4 h4 H3 HI HLEN HZ HZ2 h0 HD hLM
   go_wp2
   go_roundw
   case rel => exact ⟨_, HST.out⟩
   case measure => exact HLT.out
  ·clear hk1l hk2l hk1i hk2i HTV
   obtain ⟨m, hm0, hm1, hm2, hm⟩ : ∃ m, 0 < m ∧ m ≤ sizeP p1 ∧ m ≤ sizeP q1 ∧ (m = sizeP p1 ∨ m = sizeP q1) := ⟨min (sizeP p1) (sizeP q1), by omega, by omega, by omega, by omega⟩
   have HM := Lib.hid hm
   have HD := Lib.hid (show (unitsP (cutR p1 m) ++ units ps1).length + (unitsP (cutR q1 m) ++ units qs1).length < (unitsP p1 ++ units ps1).length + (unitsP q1 ++ units qs1).length by
    have h1 := cutR_len hvp hm1 hm0
    have h2 := cutR_len hvq hm2 hm0
    simp only [List.length_append]
    omega)
   clear hm
   rcases hc with ⟨htv, hk, hk'⟩ | ⟨htv, hk, hk'⟩ | ⟨htv, hk, hk'⟩ | ⟨htv, hk, hk'⟩
   ·subst htv
    have hq : ∀ w, Sem.run Tryz.prog (binOp .eql 186 (.func (.func 150) #[] #[]) .nilFunc) w = .ok (.bool false) w := fun w => eql_fn _ Tryz.underlying186
    go_wp2_with fail
    clear hq
    refine (H3.out.keepBoth hm0 hm1 hm2 HM.out (by omega) (by omega)).mono ?_
    rintro e w4 ⟨rfl, O4, P4, h4⟩
    obtain ⟨st, lt4⟩ := StX.next (w := wr) h4 ((eM HI.out hvp hvq hm0 hm1 hm2 (.inl hk) (.inl hk')).1 hk hk') HLEN.out HD.out
    have HST := Lib.hid st
    have HLT := Lib.hid lt4
    clear st lt4 h4 H3 HI HLEN HZ HZ2 h0 HD hLM
    go_wp2
    go_roundw
    case rel => exact ⟨_, HST.out⟩
    case measure => exact HLT.out
   ·subst htv
    have hq : ∀ w, Sem.run Tryz.prog (binOp .eql 186 (.func (.func 151) #[] #[]) .nilFunc) w = .ok (.bool false) w := fun w => eql_fn _ Tryz.underlying186
    go_wp2_with fail
    clear hq
    refine (H3.out.dropSecond hm0 hm1 hm2 HM.out (by omega)).mono ?_
    rintro e w4 ⟨rfl, O4, P4, h4⟩
    obtain ⟨st, lt4⟩ := StX.next (w := wr) h4 ((eM HI.out hvp hvq hm0 hm1 hm2 (.inl hk) (.inr hk')).2.1 hk hk') HLEN.out HD.out
    have HST := Lib.hid st
    have HLT := Lib.hid lt4
    clear st lt4 h4 H3 HI HLEN HZ HZ2 h0 HD hLM
    go_wp2
    go_roundw
    case rel => exact ⟨_, HST.out⟩
    case measure => exact HLT.out
   ·subst htv
    have hq : ∀ w, Sem.run Tryz.prog (binOp .eql 186 (.func (.func 153) #[] #[]) .nilFunc) w = .ok (.bool false) w := fun w => eql_fn _ Tryz.underlying186
    go_wp2_with fail
    clear hq
    refine (H3.out.dropFirst hm0 hm1 hm2 HM.out (by omega)).mono ?_
    rintro e w4 ⟨rfl, O4, P4, h4⟩
    obtain ⟨st, lt4⟩ := StX.next (w := wr) h4 ((eM HI.out hvp hvq hm0 hm1 hm2 (.inr hk) (.inl hk')).2.2.1 hk hk') HLEN.out HD.out
    have HST := Lib.hid st
    have HLT := Lib.hid lt4
    clear st lt4 h4 H3 HI HLEN HZ HZ2 h0 HD hLM
    go_wp2
    go_roundw
    case rel => exact ⟨_, HST.out⟩
    case measure => exact HLT.out
   ·subst htv
    have hq : ∀ w, Sem.run Tryz.prog (binOp .eql 186 (.func (.func 154) #[] #[]) .nilFunc) w = .ok (.bool false) w := fun w => eql_fn _ Tryz.underlying186
    go_wp2_with fail
    clear hq
    refine (H3.out.dropBoth hm0 hm1 hm2 HM.out).mono ?_
    rintro e w4 ⟨rfl, O4, P4, h4⟩
    obtain ⟨st, lt4⟩ := StX.next (w := wr) h4 ((eM HI.out hvp hvq hm0 hm1 hm2 (.inr hk) (.inr hk')).2.2.2 hk hk') HLEN.out HD.out
    have HST := Lib.hid st
    have HLT := Lib.hid lt4
    clear st lt4 h4 H3 HI HLEN HZ HZ2 h0 HD hLM
    go_wp2
    go_roundw
    case rel => exact ⟨_, HST.out⟩
    case measure => exact HLT.out
end Go.Proofs.YtbpeeokgpkjnmaaGreatDoor.low.xb
namespace Go.Proofs.YtbpeeokgpkjnmaaGreatDoor.low
open Go.RowKit
set_option linter.unusedVariables false
theorem implOpNorm_d (v : Value) (ps : List Pt) (w : World) (h : RdC w w.heap.size (encPs ps) v) (hs : SmP ps) : Calls Tryz.prog 112 #[v] w (OwnPost (encPs (normL ps)) w) := by
 obtain ⟨A, c, rfl, hr, _⟩ := parts_rd h
 have hl := hs.1
 refine (implOpNorm_any A c ps w hr (by omega) hs.all4 hs.2).mono ?_
 rintro e w1 ⟨v1, rfl, p1, b1⟩
 exact ⟨v1, rfl, own_parts p1, b1⟩
structure InvS (B gr g z2 z3 : Nat) (t : List Int) (qs : List Pt) (Qv : Value) (bq : List Nat) (O : Nat → Prop) (at_ : Nat) (L : List Pt) (w0 wr : World) : Prop where
 rd : Rdr B gr wr (t.drop at_)
 bd : Bld O B g 171 wr L
 far : ∀ x, O x → (x < z2 ∨ z3 ≤ x) ∧ ¬ x = gr
 ow : OwB z2 z3 wr (encPs qs) Qv bq
 low : gr < z2
 bel : Below B w0 wr
theorem InvS.base {B gr g z2 z3 : Nat} {t : List Int} {qs : List Pt} {Qv : Value} {bq : List Nat} {O : Nat → Prop} {at_ : Nat} {L : List Pt} {w0 wr : World} (h : InvS B gr g z2 z3 t qs Qv bq O at_ L w0 wr) : B ≤ gr := by
 obtain ⟨_, _, _, _, _, h4⟩ := h.rd
 exact h4
theorem InvS.past {B gr g z2 z3 : Nat} {t : List Int} {qs : List Pt} {Qv : Value} {bq : List Nat} {O : Nat → Prop} {at_ : Nat} {L : List Pt} {w0 wr w' : World} (h : InvS B gr g z2 z3 t qs Qv bq O at_ L w0 wr) (hb : Below wr.heap.size wr w') (hB : B ≤ wr.heap.size) : InvS B gr g z2 z3 t qs Qv bq O at_ L w0 w' :=
 ⟨h.rd.past hb, h.bd.past hb, h.far, h.ow.past hb, h.low, h.bel.trans (hb.mono hB)⟩
theorem InvS.next {B gr g z2 z3 : Nat} {t : List Int} {qs : List Pt} {Qv : Value} {bq : List Nat} {O : Nat → Prop} {at_ m : Nat} {L : List Pt} {w0 wr w' : World} (h : InvS B gr g z2 z3 t qs Qv bq O at_ L w0 wr) (hr : Rdr B gr w' ((t.drop at_).drop m)) (ht : Touch (fun b => b = gr) wr w') : InvS B gr g z2 z3 t qs Qv bq O (at_ + m) L w0 w' := by
 have hB := h.base
 have hl := h.low
 exact ⟨by rw [List.drop_drop] at hr; exact hr, h.bd.keep (by rw [ht.size]; exact Nat.le_refl _) (fun b _ hO => ht.block b (h.far b hO).2), h.far, h.ow.touch ht (fun x hx e => by have := h.ow.rng x hx; have e' : x = gr := e; omega), h.low, h.bel.trans (ht.below (fun b hb => by have e' : b = gr := hb; omega))⟩
theorem InvS.grow {B gr g z2 z3 : Nat} {t : List Int} {qs : List Pt} {Qv : Value} {bq : List Nat} {O O' : Nat → Prop} {at_ : Nat} {L L' : List Pt} {w0 wr w' : World} (h : InvS B gr g z2 z3 t qs Qv bq O at_ L w0 wr) (hb : Bld O' B g 171 w' L') (b : Below B wr w') (hg : Grew O O' wr w') : InvS B gr g z2 z3 t qs Qv bq O' at_ L' w0 w' := by
 have hlt := h.rd.lt
 refine ⟨h.rd.keep (hg.block gr hlt (fun ho => (h.far gr ho).2 rfl)) (fun p hp => b.cell hp), hb, fun x hx => ?_, h.ow.grew hg (fun x hx => (h.far x hx).1), h.low, h.bel.trans b⟩
 rcases hg.more x hx with h1 | h1
 ·exact h.far x h1
 ·exact ⟨.inr (Nat.le_trans h.ow.top h1), by omega⟩
theorem partsB_all {ps : List Pt} (h : okOp ps = true) : ∀ x ∈ ps, okPt x = true := by
 have h1 := okOp_partsB h
 unfold partsB okPs at h1
 rw [Bool.and_eq_true] at h1
 exact List.all_eq_true.1 h1.1
theorem implTransform_t (A B : Option Addr) (ca cb : Nat) (a b : List Pt) (w : World) (h : RdC w w.heap.size (encPs a) (.slice A a.length ca)) (h' : RdC w w.heap.size (encPs b) (.slice B b.length cb)) (hs : SmP a) (hs' : SmP b) (hoa : okOp a = true) (hob : okOp b = true) (hbal : sumK a + sumD a = sumK b + sumD b) :
  Calls Tryz.prog 113 #[.slice A a.length ca, .slice B b.length cb] w (Res2B (encPs (xformA a b)) (encPs (xformB a b)) (xformOk a b) w) := by
 obtain ⟨A_, ca_, eA, hra, _⟩ := parts_rd h
 obtain ⟨rfl, rfl⟩ : A = A_ ∧ ca = ca_ := by injection eA with e1 _ e3; exact ⟨e1, e3⟩
 obtain ⟨B_, cb_, eB, hrb, _⟩ := parts_rd h'
 obtain ⟨rfl, rfl⟩ : B = B_ ∧ cb = cb_ := by injection eB with e1 _ e3; exact ⟨e1, e3⟩
 clear eA eB
 have hlA := hs.1
 have hlB := hs'.1
 have hne : ((sumK a + sumD a) != (sumK b + sumD b)) = false := by simp [hbal]
 have HI := Lib.hid (xinv0 hoa hob hbal)
 have HOA := Lib.hid hoa
 have HOB := Lib.hid hob
 have HBAL := Lib.hid hbal
 clear hbal
 go_enter Tryz.func113, Tryz.ntmps113
 go_wp2_with fail
 refine (implOpOk_any A ca a _ hra (by omega) hs.all4).mono ?_
 rintro e w1 ⟨rfl, b1⟩
 rw [hoa]
 go_wp2_with fail
 refine (implOpOk_any B cb b _ (hrb.past b1) (by omega) hs'.all4).mono ?_
 rintro e w2 ⟨rfl, b2⟩
 rw [hob]
 have d2 := b1.trans (b2.mono b1.size)
 go_wp2_with fail
 refine (implOpFrom_any A ca a _ (hra.past d2) (by omega) hs.all4).mono ?_
 rintro e w3 ⟨rfl, b3⟩
 have d3 := d2.trans (b3.mono d2.size)
 go_wp2_with fail
 refine (implOpFrom_any B cb b _ (hrb.past d3) (by omega) hs'.all4).mono ?_
 rintro e w4 ⟨rfl, b4⟩
 have d4 := d3.trans (b4.mono d3.size)
 clear hoa hob b1 b2 d2 b3 d3 b4
 go_wp2_with fail
 refine (xb.implCrossed A B ca cb a b w4 (h.past d4) (h'.past d4) (partsB_all HOA.out) (partsB_all HOB.out) hlA hlB HI.out).mono ?_
 rintro e w10 ⟨v9, v10, k9, k10, rfl, o9, o10, ds, b10, hs1, hs2⟩
 have D := d4.trans (b10.mono d4.size)
 have HB2 := Lib.hid (show xformOk a b = (okOp (xfA a b) && okOp (xfB a b)) by unfold xformOk; rw [HOA.out, HOB.out, HBAL.out]; simp)
 clear HBAL HI
 have l1 := hs1.1
 have l2 := hs2.1
 generalize hUA : xfA a b = UA at *
 generalize hUB : xfB a b = UB at *
 have HUA := Lib.hid hUA
 have HUB := Lib.hid hUB
 clear hUA hUB
 obtain ⟨A9, c9, rfl, r9, _⟩ := parts_rd o9.read
 obtain ⟨A10, c10, rfl, r10, _⟩ := parts_rd o10.read
 have lw := d4.size
 have H9' := Lib.hid (show OwB w.heap.size w10.heap.size w10 (encPs UA) (.slice A9 UA.length c9) k9 from ⟨o9.ow, o9.nd, fun x hx => ⟨Nat.le_trans lw (o9.rng x hx).1, (o9.rng x hx).2⟩, o9.top, Nat.le_trans lw o9.le⟩)
 have H10 := Lib.hid (show OwB w.heap.size w10.heap.size w10 (encPs UB) (.slice A10 UB.length c10) k10 from ⟨o10.ow, o10.nd, fun x hx => ⟨Nat.le_trans lw (o10.rng x hx).1, (o10.rng x hx).2⟩, o10.top, Nat.le_trans lw o10.le⟩)
 have HDS := Lib.hid ds
 have hz10 := Nat.le_refl w10.heap.size
 clear o9 o10 ds b10 d4 lw hne
 go_wp2_with fail
 refine (implOpOk_any A9 c9 UA _ r9 (by omega) hs1.all4).mono ?_
 rintro e w11 ⟨rfl, b11⟩
 replace D := D.trans (b11.mono D.size)
 cases ho1 : okOp UA
 ·have HN := Lib.hid (xform_f (a := a) (b := b) (by rw [HB2.out, ho1]; rfl))
  clear HB2
  go_wp2
  go_ret3
  rw [HN.out.1, HN.out.2.1, HN.out.2.2]
  exact nil2 D
 ·go_wp2_with fail
  refine (implOpOk_any A10 c10 UB _ (r10.past b11) (by omega) hs2.all4).mono ?_
  rintro e w12 ⟨rfl, b12⟩
  replace D := D.trans (b12.mono D.size)
  have HP9 := Lib.hid ((H9'.out.past b11).past b12)
  have HP10 := Lib.hid ((H10.out.past b11).past b12)
  have hzz := Nat.le_trans b11.size b12.size
  clear H9' H10 r9 r10 b11 b12
  cases ho2 : okOp UB
  ·have HN := Lib.hid (xform_f (a := a) (b := b) (by rw [HB2.out, ho1, ho2]; rfl))
   clear HB2
   go_wp2
   go_ret3
   rw [HN.out.1, HN.out.2.1, HN.out.2.2]
   exact nil2 D
  ·have HN := Lib.hid (show xformOk a b = true ∧ xformA a b = UA ∧ xformB a b = UB by
    have e : xformOk a b = true := by rw [HB2.out, ho1, ho2]; rfl
    exact ⟨e, by unfold xformA; rw [if_pos e, HUA.out], by unfold xformB; rw [if_pos e, HUB.out]⟩)
   clear HB2
   go_wp2
   go_ret3
   rw [HN.out.1, HN.out.2.1, HN.out.2.2]
   exact ⟨_, _, k9, k10, rfl, HP9.out.upto (Nat.le_trans hz10 hzz) (Nat.le_refl _), HP10.out.upto hzz (Nat.le_refl _), HDS.out, D⟩
theorem implTransform_d (v v' : Value) (a b : List Pt) (w : World) (h : RdC w w.heap.size (encPs a) v) (h' : RdC w w.heap.size (encPs b) v') (hs : SmP a) (hs' : SmP b) : Calls Tryz.prog 113 #[v, v'] w (Res2B (encPs (xformA a b)) (encPs (xformB a b)) (xformOk a b) w) := by
 obtain ⟨A, ca, rfl, hra, _⟩ := parts_rd h
 obtain ⟨B, cb, rfl, hrb, _⟩ := parts_rd h'
 have hlA := hs.1
 have hlB := hs'.1
 cases hoa : okOp a
 ·have HN := Lib.hid (xform_f (a := a) (b := b) (by unfold xformOk; rw [hoa]; rfl))
  go_enter Tryz.func113, Tryz.ntmps113
  go_wp2_with fail
  refine (implOpOk_any A ca a _ hra (by omega) hs.all4).mono ?_
  rintro e w1 ⟨rfl, b1⟩
  rw [hoa]
  go_wp2
  go_ret3
  rw [HN.out.1, HN.out.2.1, HN.out.2.2]
  exact nil2 b1
 cases hob : okOp b
 ·have HN := Lib.hid (xform_f (a := a) (b := b) (by unfold xformOk; rw [hoa, hob]; rfl))
  go_enter Tryz.func113, Tryz.ntmps113
  go_wp2_with fail
  refine (implOpOk_any A ca a _ hra (by omega) hs.all4).mono ?_
  rintro e w1 ⟨rfl, b1⟩
  rw [hoa]
  go_wp2_with fail
  refine (implOpOk_any B cb b _ (hrb.past b1) (by omega) hs'.all4).mono ?_
  rintro e w2 ⟨rfl, b2⟩
  rw [hob]
  have d2 := b1.trans (b2.mono b1.size)
  go_wp2
  go_ret3
  rw [HN.out.1, HN.out.2.1, HN.out.2.2]
  exact nil2 d2
 by_cases hbal : sumK a + sumD a = sumK b + sumD b
 ·exact implTransform_t A B ca cb a b w h h' hs hs' hoa hob hbal
 ·have hne : ((sumK a + sumD a) != (sumK b + sumD b)) = true := by simp [hbal]
  have HN := Lib.hid (xform_f (a := a) (b := b) (by unfold xformOk; rw [hoa, hob]; simp [hbal]))
  clear hbal
  go_enter Tryz.func113, Tryz.ntmps113
  go_wp2_with fail
  refine (implOpOk_any A ca a _ hra (by omega) hs.all4).mono ?_
  rintro e w1 ⟨rfl, b1⟩
  rw [hoa]
  go_wp2_with fail
  refine (implOpOk_any B cb b _ (hrb.past b1) (by omega) hs'.all4).mono ?_
  rintro e w2 ⟨rfl, b2⟩
  rw [hob]
  have d2 := b1.trans (b2.mono b1.size)
  go_wp2_with fail
  refine (implOpFrom_any A ca a _ (hra.past d2) (by omega) hs.all4).mono ?_
  rintro e w3 ⟨rfl, b3⟩
  have d3 := d2.trans (b3.mono d2.size)
  go_wp2_with fail
  refine (implOpFrom_any B cb b _ (hrb.past d3) (by omega) hs'.all4).mono ?_
  rintro e w4 ⟨rfl, b4⟩
  have d4 := d3.trans (b4.mono d3.size)
  go_wp2
  go_ret3
  rw [HN.out.1, HN.out.2.1, HN.out.2.2]
  exact nil2 d4
theorem implPassed_d (v v' : Value) (l : List (List Pt)) (b : List Pt) (w : World) (h : RdC w w.heap.size (encPss l) v) (h' : RdC w w.heap.size (encPs b) v') (hs : SmPP l) (hs' : SmP b) : Calls Tryz.prog 89 #[v, v'] w (Res2B (encPss (pastAllT l b)) (encPs (pastT l b)) (pastB l b) w) := by
 obtain ⟨A, c, rfl⟩ := pss_len h
 obtain ⟨B, cb, rfl, hrb, _⟩ := parts_rd h'
 obtain ⟨i0, hi0, hz0, hz1, hz2⟩ := info_parts pss_info
 have hl := hs.1
 have hlb := hs'.1
 cases hob : okOp b
 ·have HN := Lib.hid (past_f (l := l) (b := b) (by unfold pastS; rw [hob]; rfl))
  go_enter Tryz.func89, Tryz.ntmps89
  go_wp2_with fail
  refine (implOpOk_any B cb b _ hrb (by omega) hs'.all4).mono ?_
  rintro e w1 ⟨rfl, b1⟩
  rw [hob]
  go_wp2
  go_ret3
  rw [HN.out.1, HN.out.2.1, HN.out.2.2]
  exact nilPP b1
 ·have HOB := Lib.hid hob
  go_enter Tryz.func89, Tryz.ntmps89
  go_wp2_with fail
  refine (implOpOk_any B cb b _ hrb (by omega) hs'.all4).mono ?_
  rintro e w1 ⟨rfl, b1⟩
  rw [hob]
  clear hob
  go_wp2_with fail
  refine (implOpNorm_d _ b w1 (h'.past b1) hs').mono ?_
  rintro e w3 ⟨v3, rfl, o3, b3⟩
  obtain ⟨k3, o3⟩ := o3.blocks
  obtain ⟨k0, i0'⟩ := (nilOwn (lo := w.heap.size) (encPss []) w3 rfl (Nat.le_trans b1.size b3.size)).blocks
  have e0 : k0 = [] := by obtain ⟨_, _, ho, hr, he⟩ := i0'.ow; obtain ⟨_, hc⟩ := hr; rw [he, hc]; rfl
  subst e0
  have HR0 := Lib.hid (show PastR w.heap.size w3 (.slice none 0 0) v3 [] (normL b) from ⟨_, _, i0', ⟨o3.ow, o3.nd, fun x hx => ⟨Nat.le_trans b1.size (o3.rng x hx).1, (o3.rng x hx).2⟩, o3.top, Nat.le_trans b1.size o3.le⟩, by simp⟩)
  have D := b1.trans (b3.mono b1.size)
  clear o3 b3 b1 i0'
  obtain ⟨A3, c3, rfl⟩ : ∃ A3 c3, v3 = .slice A3 (normL b).length c3 := by obtain ⟨_, _, _, h1, _⟩ := HR0.out; exact sliceP h1.read
  go_wp2
  go_loopw [7, 8, 21] (fun o q i wr => ∃ (k : Nat) (xs : List (List Pt)) (cur : List Pt), k ≤ l.length ∧ i = .int .i64 k ∧ foldPast (l.take k) b = some (xs, cur) ∧ PastR w.heap.size wr o q xs cur ∧ Below w.heap.size w wr) (fun _ _ i _ => l.length - (intOf i).toNat)
  case atStart => exact ⟨0, [], normL b, Nat.zero_le _, rfl, rfl, HR0.out, D⟩
  case round =>
   obtain ⟨k, xs, cur, hk, rfl, hf, hpr, hbel⟩ := hrel
   clear HR0 D
   have HF := Lib.hid hf
   obtain ⟨hsc, hxl, hxs⟩ := foldPast_small HOB.out hk hf
   have HXL := Lib.hid hxl
   clear hf hxs hxl
   obtain ⟨b1, b2, o1, o2, dis⟩ := hpr
   obtain ⟨A1, c1, rfl⟩ := pss_len o1.read
   obtain ⟨A2, c2, rfl⟩ := sliceP o2.read
   have HO1 := Lib.hid o1
   have HO2 := Lib.hid o2
   have HDS := Lib.hid dis
   clear o1 o2 dis
   by_cases hlt : k < l.length
   ·obtain ⟨ad, ps, A4, c4, rfl, hb, hp, hc, hprd⟩ := pss_at (h.below hbel) hlt
    have K1 := Lib.hid (foldPast_snoc (b := b) hp)
    rw [HF.out] at K1
    have hsp := hs.all ps (List.mem_of_getElem? hp)
    clear hp
    have HPR := Lib.hid (RdC.more hbel.size _ _ hprd)
    clear hprd
    have hxl2 : xs.length ≤ 1048576 := by rw [HXL.out]; omega
    go_wp2_with fail
    refine (implTransform_d _ _ ps cur _ HPR.out HO2.out.read hsp hsc).mono ?_
    rintro e w4 ⟨x4, y4, kx, ky, rfl, ox, oy, ds4, b4⟩
    obtain ⟨A5, c5, rfl⟩ := sliceP ox.read
    obtain ⟨A6, c6, rfl⟩ := sliceP oy.read
    have hz4 := b4.size
    have HX := Lib.hid ox
    have HY := Lib.hid oy
    have HDS4 := Lib.hid ds4
    have D4 := hbel.trans (b4.mono hbel.size)
    clear ox oy ds4
    cases hfit : xformOk ps cur
    ·have HN := Lib.hid (past_f (l := l) (b := b) (by
      have : foldPast l b = none := foldPast_none (k := k + 1) (by rw [K1.out]; simp [stepPast, hfit])
      unfold pastS; rw [this]; simp))
     go_wp2
     go_ret3
     rw [HN.out.1, HN.out.2.1, HN.out.2.2]
     exact nilPP D4
    ·have K2 := Lib.hid (show foldPast (l.take (k + 1)) b = some (xs ++ [xformA ps cur], xformB ps cur) by rw [K1.out]; simp [stepPast, hfit])
     have bA := alloc_below w4 (.cells #[.slice A5 (xformA ps cur).length c5] 30)
     have HO1' := Lib.hid ((HO1.out.past b4).past bA)
     have HX' := Lib.hid (HX.out.past bA)
     have HY' := Lib.hid (HY.out.past bA)
     have hnews : ∀ (j : Nat) (u : Value), [Value.slice A5 (xformA ps cur).length c5][j]? = some u → (w4.alloc (.cells #[.slice A5 (xformA ps cur).length c5] 30)).cell? ((⟨w4.heap.size, 0, none⟩ : Addr).add j) = some u := fun j u hu => by
      cases j with
      | zero =>
       simp at hu
       subst hu
       exact cell_of_row _ _ 0 _ _ _ (heap_alloc_new w4 _)
      | succ j => simp at hu
     have HNW := Lib.hid hnews
     have hlx : (xs.map fun ps => [encPs ps]).length ≤ 2000000 := by rw [List.length_map]; omega
     have DA := D4.trans (bA.mono D4.size)
     have hlo := hbel.size
     clear hnews bA
     go_wp2_with (at_builtin; refine wpList_append_row rfl (.tmp 34) (.tmp 36) 61 rfl 30 i0 (.slice none 0 0) 1 24 Tryz.underlying61 hi0 hz0 hz1 hz2 rfl (by decide) (by decide) w.heap.size _ (.slice A1 xs.length c1) (xs.map fun ps => [encPs ps]) b1 HO1'.out rfl hlx ⟨w4.heap.size, 0, none⟩ _ [.slice A5 (xformA ps cur).length c5] rfl rfl HNW.out (by simp [Value.oneCell']) [encPs (xformA ps cur)] kx HX'.out.ow.row1 HX.out.nd (fun q hq hq' => by have q1 := (HO1.out.rng q hq).2; have q2 := (HX.out.rng q hq').1; omega) (fun q hq => by have q2 := (HX.out.rng q hq).1; omega) ?_; intro A7 c7 w7 b7 o7 in7 g7 bl7)
     have o7' : OwB w.heap.size w7.heap.size w7 (encPss (xs ++ [xformA ps cur])) (.slice A7 (xs.length + 1) c7) b7 := by
      have e : encPss (xs ++ [xformA ps cur]) = .rows 30 1 ((xs.map fun ps => [encPs ps]) ++ [[encPs (xformA ps cur)]]) := by unfold encPss; rw [List.map_append]; rfl
      rw [e]
      simpa using o7
     have HPR7 := Lib.hid (show PastR w.heap.size w7 (.slice A7 (xs.length + 1) c7) (.slice A6 (xformB ps cur).length c6) (xs ++ [xformA ps cur]) (xformB ps cur) from by
      have oy7 := HY'.out.grew2 g7 (fun q hq hq' => by have q1 := (HO1.out.rng q hq').2; have q2 := (HY.out.rng q hq).1; omega)
      refine ⟨b7, ky, o7', ⟨oy7.ow, oy7.nd, fun q hq => ⟨by have q2 := (HY.out.rng q hq).1; omega, ?_⟩, Nat.le_refl _, (DA.trans bl7).size⟩, fun q hq hq' => ?_⟩
      ·exact OwC.lt _ _ _ oy7.ow q hq
      ·rcases in7 q hq with h1 | h1 | h1
       ·have q1 := (HO1.out.rng q h1).2; have q2 := (HY.out.rng q hq').1; omega
       ·exact HDS4.out q h1 hq'
       ·have q1 := (HY.out.rng q hq').2
        have q3 : w4.heap.size ≤ q := by simp at h1; omega
        omega)
     have D7 := DA.trans bl7
     clear o7 o7' in7 g7 bl7 HO1' HX' HY' HNW
     go_wp2
     go_roundw
     case rel => exact ⟨k + 1, _, _, by omega, by go_num, K2.out, by simpa using HPR7.out, D7⟩
     case measure => simp [intOf]; omega
   ·have hke : l.take k = l := List.take_of_length_le (by omega)
    have HN := Lib.hid (past_t (l := l) (b := b) (xs := xs) (q := cur) (by unfold pastS; rw [if_pos HOB.out, ← HF.out, hke]))
    go_wp2
    go_ret3
    rw [HN.out.1, HN.out.2.1, HN.out.2.2]
    exact ⟨_, _, b1, b2, rfl, HO1.out, HO2.out, HDS.out, hbel⟩
theorem implPast_d (v v' : Value) (l : List (List Pt)) (b : List Pt) (w : World) (h : RdC w w.heap.size (encPss l) v) (h' : RdC w w.heap.size (encPs b) v') (hs : SmPP l) (hs' : SmP b) : Calls Tryz.prog 70 #[v, v'] w (ResB (encPs (pastT l b)) (pastB l b) w) := by
 obtain ⟨A, c, rfl⟩ := pss_len h
 obtain ⟨B, cb, rfl⟩ := sliceP h'
 go_enter Tryz.func70, Tryz.ntmps70
 go_wp2_with fail
 refine (implPassed_d _ _ l b _ h h' hs hs').mono ?_
 rintro e w1 ⟨x, y, kx, ky, rfl, ox, oy, ds, b1⟩
 obtain ⟨A1, c1, rfl⟩ := pss_len ox.read
 obtain ⟨A2, c2, rfl⟩ := sliceP oy.read
 have HY := Lib.hid oy
 clear ox oy ds
 generalize pastB l b = q at *
 go_wp2
 go_ret2
 exact ⟨_, rfl, ⟨ky, HY.out.ow, HY.out.nd, HY.out.rng, HY.out.top, HY.out.le⟩, b1⟩
def errV (k : Int) : Value := if k = 0 then .nilIface else .iface 105 (.int .i64 k)
theorem codeOf_any (k : Int) (w : World) (hg : ET w) : Calls Tryz.prog 42 #[errV k] w (Nums1 k w) := by
 by_cases h : k = 0
 ·subst h
  exact codeOf_nil w
 ·have e : errV k = .iface 105 (.int .i64 k) := by unfold errV; rw [if_neg h]
  rw [e]
  exact codeOf_hit k w hg
def ErrPost (k : Int) (w : World) (e : Ending) (w' : World) : Prop := e = .returned (errV k) ∧ Below w.heap.size w w'
def ResE (d : Dat) (k : Int) (w : World) (e : Ending) (w' : World) : Prop := ∃ v, e = .returned (.tuple #[v, errV k]) ∧ Own w.heap.size w'.heap.size w' d v ∧ Below w.heap.size w w'
theorem checkStored_d (v : Value) (x : Do) (r : Int) (w : World) (h : RdC w w.heap.size (datDo x) v) (hs : SmDo x) : Calls Tryz.prog 50 #[v, .int .i64 r] w (ErrPost (checkCode x r) w) := by
 have HR := Lib.hid h
 obtain ⟨A2, c2, A3, c3, A4, c4, rfl, r2, r3, -⟩ := aggDo h
 have R3 := Lib.hid r3
 have hl := hs.list.len
 have hcl : x.list.length ≤ c3 := RdC.cap_le r3
 clear h r2 r3
 have HM := Lib.hid (Ms.start w)
 replace HM := Lib.hid (HM.out.new #[.string x.name, .int .i64 x.from_, .slice A2 x.text.length c2, .slice A3 x.list.length c3, .slice A4 x.seen.length c4] 36)
 go_enter Tryz.func50, Tryz.ntmps50
 go_wp2_with fail
 obtain ⟨W1, hW, hm⟩ := HM.out.name
 rw [← hW]
 replace HM := Lib.hid hm
 clear hm hW
 refine (implDocOk_d _ x _ (HM.out.arg HR.out) hs).mono ?_
 rintro e' W2 ⟨rfl, b'⟩
 replace HM := Lib.hid (HM.out.past b')
 clear b'
 cases hd : docB x
 ·have HN := Lib.hid (show checkCode x r = 1 by unfold checkCode; simp [hd])
  go_wp2
  go_ret
  exact ⟨by rw [HN.out]; rfl, HM.out.bl⟩
 obtain ⟨kx0, kx1, kx2, kx3, kx4⟩ := HM.out.c5 0 rfl
 go_wp2_with fail
 clear kx0 kx1 kx2 kx3 kx4
 refine (implHeadRev_d _ x _ (HM.out.arg HR.out) hs).mono ?_
 rintro e' W3 ⟨rfl, b'⟩
 replace HM := Lib.hid (HM.out.past b')
 clear b'
 by_cases h2 : headRevT x < r
 ·have HN := Lib.hid (show checkCode x r = 2 by unfold checkCode; simp [hd, h2])
  have g2 : decide (headRevT x < r) = true := decide_eq_true h2
  go_wp2
  go_ret
  exact ⟨by rw [HN.out]; rfl, HM.out.bl⟩
 have g2 : decide (headRevT x < r) = false := decide_eq_false h2
 by_cases h3 : r < x.from_
 ·have HN := Lib.hid (show checkCode x r = 3 by unfold checkCode; simp [hd, h2, h3])
  have g3 : decide (r < x.from_) = true := decide_eq_true h3
  obtain ⟨kx0, kx1, kx2, kx3, kx4⟩ := HM.out.c5 0 rfl
  go_wp2
  go_ret
  exact ⟨by rw [HN.out]; rfl, HM.out.bl⟩
 ·have HN := Lib.hid (show checkCode x r = 0 by unfold checkCode; simp [hd, h2, h3])
  have g3 : decide (r < x.from_) = false := decide_eq_false h3
  obtain ⟨kx0, kx1, kx2, kx3, kx4⟩ := HM.out.c5 0 rfl
  go_wp2
  go_ret
  exact ⟨by rw [HN.out]; rfl, HM.out.bl⟩
theorem implFetch_d (v : Value) (x : Do) (r : Int) (w : World) (h : RdC w w.heap.size (datDo x) v) (hs : SmDo x) (hg : ET w) : Calls Tryz.prog 18 #[v, .int .i64 r] w (ResN (encEns (fetchT x r)) (checkCode x r) w) := by
 have HR := Lib.hid h
 obtain ⟨A2, c2, A3, c3, A4, c4, rfl, r2, r3, -⟩ := aggDo h
 have R3 := Lib.hid r3
 have hl := hs.list.len
 have hcl : x.list.length ≤ c3 := RdC.cap_le r3
 clear h r2 r3
 have HM := Lib.hid (Ms.start w)
 replace HM := Lib.hid (HM.out.new #[.string x.name, .int .i64 x.from_, .slice A2 x.text.length c2, .slice A3 x.list.length c3, .slice A4 x.seen.length c4] 36)
 have HG := Lib.hid hg
 clear hg
 go_enter Tryz.func18, Tryz.ntmps18
 go_wp2_with fail
 obtain ⟨W1, hW, hm⟩ := HM.out.name
 rw [← hW]
 replace HM := Lib.hid hm
 clear hm hW
 refine (checkStored_d _ x r _ (HM.out.arg HR.out) hs).mono ?_
 rintro e' W2 ⟨rfl, b'⟩
 replace HM := Lib.hid (HM.out.past b')
 clear b'
 by_cases hk : checkCode x r = 0
 rotate_left
 ·have HN := Lib.hid (check_no hk rfl)
  have HE := Lib.hid (show errV (checkCode x r) = .iface 105 (.int .i64 (checkCode x r)) by unfold errV; rw [if_neg hk])
  clear hk
  rw [HE.out]
  go_wp2_with fail
  refine (codeOf_hit _ _ (HG.out.past rfl HM.out.bl)).mono ?_
  rintro e' W3 ⟨rfl, b'⟩
  replace HM := Lib.hid (HM.out.past b')
  clear b'
  go_wp2
  go_ret2
  rw [HN.out.2]
  exact (HM.out.nil 86 3).resN _
 rw [show errV (checkCode x r) = .nilIface by unfold errV; rw [if_pos hk]]
 obtain ⟨hd, h1, h2⟩ := check_ok hk
 obtain ⟨f0, f1, f2, f3⟩ := docB_of hd
 rw [f3] at h2
 obtain ⟨m, hm⟩ : ∃ m : Nat, r = x.from_ + (m : Int) := ⟨(r - x.from_).toNat, by omega⟩
 subst hm
 have hm1 : m ≤ x.list.length := by omega
 have HN := Lib.hid (And.intro hk (check_fetch hk))
 have g3 : x.from_ + (m : Int) - x.from_ = (m : Int) := by omega
 have F3 := Lib.hid f3
 clear f3 hk
 by_cases hlast : m = x.list.length
 ·have h00 : x.list.length - m = 0 := by omega
  have H0 := Lib.hid h00
  have HLA := Lib.hid hlast
  clear h00 hlast
  by_cases hcap : m = c3
  ·subst hcap
   obtain ⟨kx0, kx1, kx2, kx3, kx4⟩ := HM.out.c5 0 rfl
   go_wp2_with fail
   clear kx0 kx1 kx2 kx3 kx4
   try rw [H0.out]
   refine (implCopyEntries_d _ (x.list.drop m) _ (HM.out.arg (rdEns_drop0 H0.out)) (smEns_drop hs.list m)).mono ?_
   rintro e' W4 ⟨v', rfl, o', b'⟩
   obtain ⟨Al, nl, cl, rfl⟩ := sliceV o'.read
   obtain ⟨bl, hm⟩ := HM.out.got o' b'
   clear o' b'
   replace HM := Lib.hid hm
   clear hm
   go_wp2
   go_ret2
   rw [HN.out.1, HN.out.2]
   exact HM.out.resN 0
  ·have hcap2 : ¬ c3 = m := fun e => hcap e.symm
   obtain ⟨kx0, kx1, kx2, kx3, kx4⟩ := HM.out.c5 0 rfl
   go_wp2_with fail
   clear kx0 kx1 kx2 kx3 kx4
   refine (implCopyEntries_d _ (x.list.drop m) _ (HM.out.arg (rdEns_dropF H0.out)) (smEns_drop hs.list m)).mono ?_
   rintro e' W5 ⟨v', rfl, o', b'⟩
   obtain ⟨Al, nl, cl, rfl⟩ := sliceV o'.read
   obtain ⟨bl, hm⟩ := HM.out.got o' b'
   clear o' b'
   replace HM := Lib.hid hm
   clear hm
   go_wp2
   go_ret2
   rw [HN.out.1, HN.out.2]
   exact HM.out.resN 0
 have hlt : m < x.list.length := by omega
 have hcap : ¬ m = c3 := by omega
 have hcap2 : ¬ c3 = m := fun e => hcap e.symm
 obtain ⟨b0, off0, e0, A50, c50, rfl, -, -, -⟩ := atEns R3.out (i := 0) (by omega)
 obtain ⟨kx0, kx1, kx2, kx3, kx4⟩ := HM.out.c5 0 rfl
 go_wp2_with fail
 clear kx0 kx1 kx2 kx3 kx4
 refine (implCopyEntries_d _ (x.list.drop m) _ (HM.out.arg (by have h := RdC.drop_ m R3.out; rw [← List.map_drop] at h; exact h)) (smEns_drop hs.list m)).mono ?_
 rintro e' W6 ⟨v', rfl, o', b'⟩
 obtain ⟨Al, nl, cl, rfl⟩ := sliceV o'.read
 obtain ⟨bl, hm⟩ := HM.out.got o' b'
 clear o' b'
 replace HM := Lib.hid hm
 clear hm
 go_wp2
 go_ret2
 rw [HN.out.1, HN.out.2]
 exact HM.out.resN 0
theorem implMissed_d (v : Value) (x : Do) (r : Int) (w : World) (h : RdC w w.heap.size (datDo x) v) (hs : SmDo x) (hg : ET w) : Calls Tryz.prog 23 #[v, .int .i64 r] w (Nums1 (missedT x r) w) := by
 have HR := Lib.hid h
 obtain ⟨A2, c2, A3, c3, A4, c4, rfl, r2, r3, -⟩ := aggDo h
 have R3 := Lib.hid r3
 have hl := hs.list.len
 have hcl : x.list.length ≤ c3 := RdC.cap_le r3
 clear h r2 r3
 have HM := Lib.hid (Ms.start w)
 replace HM := Lib.hid (HM.out.new #[.string x.name, .int .i64 x.from_, .slice A2 x.text.length c2, .slice A3 x.list.length c3, .slice A4 x.seen.length c4] 36)
 have HG := Lib.hid hg
 clear hg
 go_enter Tryz.func23, Tryz.ntmps23
 go_wp2_with fail
 obtain ⟨W1, hW, hm⟩ := HM.out.name
 rw [← hW]
 replace HM := Lib.hid hm
 clear hm hW
 refine (implFetch_d _ x r _ (HM.out.arg HR.out) hs (HG.out.past rfl HM.out.bl)).mono ?_
 rintro e' W2 ⟨v', rfl, o', b'⟩
 obtain ⟨Al, cl, rfl⟩ := sliceEns o'.read
 clear o'
 replace HM := Lib.hid (HM.out.past b')
 clear b'
 by_cases hk : checkCode x r = 0
 ·have HN := Lib.hid (show missedT x r = ((fetchT x r).length : Int) by unfold missedT; rw [if_pos hk])
  have g : (checkCode x r != 0) = false := by simp [hk]
  clear hk
  go_wp2
  go_ret
  exact ⟨by rw [HN.out]; rfl, HM.out.bl⟩
 ·have HN := Lib.hid (show missedT x r = -1 by unfold missedT; rw [if_neg hk])
  have g : (checkCode x r != 0) = true := by simpa using hk
  clear hk
  go_wp2
  go_ret
  exact ⟨by rw [HN.out]; rfl, HM.out.bl⟩
theorem implOpOk_r (v : Value) (ps : List Pt) (w : World) (h : RdC w w.heap.size (encPs ps) v) (hs : SmP ps) : Calls Tryz.prog 66 #[v] w (Tells (okOp ps) w) := by
 obtain ⟨A, c, rfl, hr, _⟩ := parts_rd h
 exact implOpOk_any A c ps w hr (by have := hs.1; omega) hs.all4
theorem implOpFrom_r (v : Value) (ps : List Pt) (w : World) (h : RdC w w.heap.size (encPs ps) v) (hs : SmP ps) : Calls Tryz.prog 68 #[v] w (Nums1 (sumK ps + sumD ps) w) := by
 obtain ⟨A, c, rfl, hr, _⟩ := parts_rd h
 exact implOpFrom_any A c ps w hr (by have := hs.1; omega) hs.all4
theorem reb_op {x : Do} {base : Int} {o : List Pt} (h : okOp o = false) : rebCode x base o = 1 := by
 unfold rebCode
 rw [h]
 split <;> simp
theorem reb_check {x : Do} {base : Int} {o : List Pt} (h : okOp o = true) (hk : ¬ checkCode x base = 0) : rebCode x base o = checkCode x base := by
 unfold checkCode at hk ⊢
 unfold rebCode
 rw [h]
 split
 ·rfl
 ·rename_i h1
  rw [if_neg h1] at hk
  rw [if_neg (by simp)]
  split
  ·rfl
  ·rename_i h2
   rw [if_neg h2] at hk
   split
   ·rfl
   ·rename_i h3
    rw [if_neg h3] at hk
    exact absurd rfl hk
theorem reb_rest {x : Do} {base : Int} {o : List Pt} (h : okOp o = true) (hk : checkCode x base = 0) : textAtB x base = true ∧ rebCode x base o = if ¬ sumK o + sumD o = ((textAtT x base).length : Int) then 1 else if pastB (opsSinceT x base) o = false then 5 else 0 := by
 obtain ⟨h1, h2, h3⟩ := check_ok hk
 have hb : textAtB x base = true := by unfold textAtB; rw [h1, inB_t ⟨h2, h3⟩]; rfl
 refine ⟨hb, ?_⟩
 unfold rebCode
 rw [h1, h, if_neg (by simp), if_neg (by simp), if_neg (by omega), if_neg (by omega)]
 split
 ·rfl
 ·rename_i h4
  split
  ·rfl
  ·rename_i h5
   rw [past_fits h1 hb h (by simpa using h4) (by simpa using h5), if_neg (by simp)]
theorem implRebaseE_d (v v2 : Value) (x : Do) (base : Int) (o : List Pt) (w : World) (h : RdC w w.heap.size (datDo x) v) (h2 : RdC w w.heap.size (encPs o) v2) (hs : SmDo x) (hs2 : SmP o) : Calls Tryz.prog 41 #[v, .int .i64 base, v2] w (ResE (encPs (rebOp x base o)) (rebCode x base o) w) := by
 have HR := Lib.hid h
 have HO := Lib.hid h2
 obtain ⟨A2, c2, A3, c3, A4, c4, rfl, -, -, -⟩ := aggDo h
 obtain ⟨Ao, co, rfl⟩ := sliceP h2
 clear h h2
 have hl := hs.list.len
 have HM := Lib.hid (Ms.start w)
 replace HM := Lib.hid (HM.out.new #[.string x.name, .int .i64 x.from_, .slice A2 x.text.length c2, .slice A3 x.list.length c3, .slice A4 x.seen.length c4] 36)
 go_enter Tryz.func41, Tryz.ntmps41
 go_wp2_with fail
 obtain ⟨W1, hW, hm⟩ := HM.out.name
 rw [← hW]
 replace HM := Lib.hid hm
 clear hm hW
 refine (implOpOk_r _ o _ (HM.out.arg HO.out) hs2).mono ?_
 rintro e' W2 ⟨rfl, b'⟩
 replace HM := Lib.hid (HM.out.past b')
 clear b'
 cases ho : okOp o
 ·have HN := Lib.hid (reb_no (x := x) (base := base) (o := o) (k := 1) (by decide) (reb_op ho))
  go_wp2
  go_ret2
  rw [HN.out.1, HN.out.2]
  exact ⟨_, by first | rfl | (rw [show errV 1 = .iface 105 (.int .i64 1) from rfl]; rfl), (HM.out.nil 71 3).own (i := 0) rfl, HM.out.bl⟩
 obtain ⟨kx0, kx1, kx2, kx3, kx4⟩ := HM.out.c5 0 rfl
 go_wp2_with fail
 clear kx0 kx1 kx2 kx3 kx4
 refine (checkStored_d _ x base _ (HM.out.arg HR.out) hs).mono ?_
 rintro e' W3 ⟨rfl, b'⟩
 replace HM := Lib.hid (HM.out.past b')
 clear b'
 by_cases hk : checkCode x base = 0
 rotate_left
 ·have HN := Lib.hid (reb_no (x := x) (base := base) (o := o) hk (reb_check ho hk))
  have HE := Lib.hid (show errV (checkCode x base) = .iface 105 (.int .i64 (checkCode x base)) by unfold errV; rw [if_neg hk])
  clear hk
  rw [HE.out]
  go_wp2
  go_ret2
  rw [HN.out.1, HN.out.2]
  exact ⟨_, by rw [HE.out]; rfl, (HM.out.nil 71 3).own (i := 0) rfl, HM.out.bl⟩
 obtain ⟨hb, hr⟩ := reb_rest ho hk
 have HB := Lib.hid hb
 have HRB := Lib.hid hr
 rw [show errV (checkCode x base) = .nilIface by unfold errV; rw [if_pos hk]]
 have HK := Lib.hid hk
 clear hb hr hk
 obtain ⟨kx0, kx1, kx2, kx3, kx4⟩ := HM.out.c5 0 rfl
 go_wp2_with fail
 clear kx0 kx1 kx2 kx3 kx4
 refine (implTextAt_d _ x _ _ (HM.out.arg HR.out) hs).mono ?_
 rintro e' W4 ⟨v', rfl, o', b'⟩
 obtain ⟨At, ct, rfl⟩ := sliceI o'.read
 obtain ⟨bt, hm⟩ := HM.out.got o' b'
 clear o' b'
 replace HM := Lib.hid hm
 clear hm
 go_wp2_with fail
 refine (implOpFrom_r _ o _ (HM.out.arg HO.out) hs2).mono ?_
 rintro e' W5 ⟨rfl, b'⟩
 replace HM := Lib.hid (HM.out.past b')
 clear b'
 by_cases h5 : sumK o + sumD o = ((textAtT x base).length : Int)
 rotate_left
 ·have HN := Lib.hid (reb_no (x := x) (base := base) (o := o) (k := 1) (by decide) (by rw [HRB.out, if_pos h5]))
  have g5 : ((sumK o + sumD o) != ((textAtT x base).length : Int)) = true := by simpa using h5
  go_wp2
  go_ret2
  rw [HN.out.1, HN.out.2]
  exact ⟨_, by first | rfl | (rw [show errV 1 = .iface 105 (.int .i64 1) from rfl]; rfl), (HM.out.nil 71 3).own (i := 0) rfl, HM.out.bl⟩
 have g5 : ((sumK o + sumD o) != ((textAtT x base).length : Int)) = false := by simpa using h5
 obtain ⟨kx0, kx1, kx2, kx3, kx4⟩ := HM.out.c5 1 rfl
 go_wp2_with fail
 clear kx0 kx1 kx2 kx3 kx4
 refine (implOpsSince_d _ x _ _ (HM.out.arg HR.out) hs).mono ?_
 rintro e' W6 ⟨v', rfl, o', b'⟩
 obtain ⟨Al, nl, cl, rfl⟩ := sliceV o'.read
 obtain ⟨bl, hm⟩ := HM.out.got o' b'
 clear o' b' g5
 replace HM := Lib.hid hm
 clear hm
 go_wp2_with fail
 refine (implPast_d _ _ (opsSinceT x base) o _ (HM.out.read (i := 0) rfl) (HM.out.arg HO.out) (opsSince_pp (check_ok HK.out).1) hs2).mono ?_
 rintro e' W7 ⟨v', rfl, o', b'⟩
 obtain ⟨Aq, nq, cq, rfl⟩ := sliceV o'.read
 obtain ⟨bq, hm⟩ := HM.out.got o' b'
 clear o' b'
 replace HM := Lib.hid hm
 clear hm
 cases hp : pastB (opsSinceT x base) o
 ·have HN := Lib.hid (reb_no (x := x) (base := base) (o := o) (k := 5) (by decide) (by rw [HRB.out, if_neg (by simpa using h5), if_pos hp]))
  go_wp2
  go_ret2
  rw [HN.out.1, HN.out.2]
  exact ⟨_, by first | rfl | (rw [show errV 5 = .iface 105 (.int .i64 5) from rfl]; rfl), (HM.out.nil 71 3).own (i := 0) rfl, HM.out.bl⟩
 have HN := Lib.hid (reb_yes (show rebCode x base o = 0 by rw [HRB.out, if_neg (by simpa using h5), if_neg (by simp [hp])]))
 go_wp2
 go_ret2
 rw [HN.out.1, HN.out.2]
 exact ⟨_, rfl, HM.out.own (i := 0) rfl, HM.out.bl⟩
theorem implRebase_d (v v2 : Value) (x : Do) (base : Int) (o : List Pt) (w : World) (h : RdC w w.heap.size (datDo x) v) (h2 : RdC w w.heap.size (encPs o) v2) (hs : SmDo x) (hs2 : SmP o) (hg : ET w) : Calls Tryz.prog 11 #[v, .int .i64 base, v2] w (ResN (encPs (rebOp x base o)) (rebCode x base o) w) := by
 have HR := Lib.hid h
 have HO := Lib.hid h2
 have HG := Lib.hid hg
 obtain ⟨A2, c2, A3, c3, A4, c4, rfl, -, -, -⟩ := aggDo h
 obtain ⟨Ao, co, rfl⟩ := sliceP h2
 clear h h2 hg
 have hl := hs.list.len
 have HM := Lib.hid (Ms.start w)
 replace HM := Lib.hid (HM.out.new #[.string x.name, .int .i64 x.from_, .slice A2 x.text.length c2, .slice A3 x.list.length c3, .slice A4 x.seen.length c4] 36)
 go_enter Tryz.func11, Tryz.ntmps11
 go_wp2_with fail
 obtain ⟨W1, hW, hm⟩ := HM.out.name
 rw [← hW]
 replace HM := Lib.hid hm
 clear hm hW
 refine (implRebaseE_d _ _ x base o _ (HM.out.arg HR.out) (HM.out.arg HO.out) hs hs2).mono ?_
 rintro e' W2 ⟨v', rfl, o', b'⟩
 obtain ⟨Aq, nq, cq, rfl⟩ := sliceV o'.read
 obtain ⟨bq, hm⟩ := HM.out.got o' b'
 clear o' b'
 replace HM := Lib.hid hm
 clear hm
 generalize hE : errV (rebCode x base o) = E
 have HE := Lib.hid hE
 clear hE
 go_wp2_with fail
 rw [← HE.out]
 refine (codeOf_any _ _ (HG.out.past rfl HM.out.bl)).mono ?_
 rintro e' W3 ⟨rfl, b'⟩
 replace HM := Lib.hid (HM.out.past b')
 clear b'
 go_wp2
 go_ret2
 exact HM.out.resN _
end Go.Proofs.YtbpeeokgpkjnmaaGreatDoor.low
