/-
  Texts that the proofs over this seat rest on, one behind the other (5 of 5).
-/
import Derived.Test.YtbbpapaobehlcaaDoorM4
import Derived.Shelf.Abstract
import Derived.Test.YtbbpapaobehlcaaDoorM3
import Derived.Test.YtbbpapaobehlcaaDoorM2

/-
  The program's composition: its state (two readers, a builder, blocks that stay), and the contracts of what it calls in the words of that state; a region that draws its order, in a round: a call that alone may come up.
-/
namespace Go.Proofs.YtbbpapaobehlcaaDoor.low
open Go.RowKit
set_option linter.unusedVariables false

/-- what stays: the readers' blocks, the builder's, the world at the start, the part of the memory that is the caller's -/
structure Fz where
  lo : Nat
  gx : Nat
  gy : Nat
  go : Nat
  w0 : World
/-- the state: the readers stand at p, ps and q, qs; the builder holds L; the blocks of KL hold what KL says -/
structure Co (F : Fz) (KL : List (Nat × Obj)) (O : Nat → Prop) (L : List Pt) (w : World) (p : Pt) (ps : List Pt) (q : Pt) (qs : List Pt) : Prop where
  ox : Orr F.lo F.gx w p ps
  oy : Orr F.lo F.gy w q qs
  bd : Bld O F.lo F.go 62 w L
  ne : ¬ F.gx = F.gy
  nx : ¬ O F.gx
  ny : ¬ O F.gy
  kp : ∀ x ∈ KL, w.heap[x.1]? = some x.2 ∧ F.lo ≤ x.1 ∧ ¬ x.1 = F.gx ∧ ¬ x.1 = F.gy ∧ ¬ O x.1
  bl : Below F.lo F.w0 w
section
variable {F : Fz} {KL : List (Nat × Obj)} {O O' : Nat → Prop} {L L' : List Pt} {w w' : World} {p p' : Pt} {ps ps' : List Pt} {q q' : Pt} {qs qs' : List Pt}
theorem Co.low (h : Co F KL O L w p ps q qs) : F.lo ≤ w.heap.size := h.bd.low
theorem Co.past (h : Co F KL O L w p ps q qs) (hb : Below w.heap.size w w') : Co F KL O L w' p ps q qs :=
  ⟨h.ox.past hb, h.oy.past hb, h.bd.past hb, h.ne, h.nx, h.ny, fun x hx => let ⟨h1, h2⟩ := h.kp x hx; ⟨(hb.block _ (lt_of_some h1)).trans h1, h2⟩, h.bl.trans (hb.mono h.low)⟩
theorem Co.drew (h : Co F KL O L w p ps q qs) : Co F KL O L w.drew p ps q qs := h.past ((Below.refl _ _).drew)
theorem Co.movx (h : Co F KL O L w p ps q qs) (ho : Orr F.lo F.gx w' p' ps') (hb : Below F.lo w w') (hf : Fr (fun b => b = F.gx) w w') : Co F KL O L w' p' ps' q qs :=
  ⟨ho, h.oy.keep (hf.block _ h.oy.lt (fun e => h.ne e.symm)) hb, h.bd.keep hf.size (fun b hlt ho => hf.block b hlt (fun e => h.nx (by have e' : b = F.gx := e; rw [← e']; exact ho))), h.ne, h.nx, h.ny, fun x hx => let ⟨h1, h2, h3, h4⟩ := h.kp x hx; ⟨(hf.block _ (lt_of_some h1) h3).trans h1, h2, h3, h4⟩, h.bl.trans hb⟩
theorem Co.movy (h : Co F KL O L w p ps q qs) (ho : Orr F.lo F.gy w' q' qs') (hb : Below F.lo w w') (hf : Fr (fun b => b = F.gy) w w') : Co F KL O L w' p ps q' qs' :=
  ⟨h.ox.keep (hf.block _ h.ox.lt h.ne) hb, ho, h.bd.keep hf.size (fun b hlt ho => hf.block b hlt (fun e => h.ny (by have e' : b = F.gy := e; rw [← e']; exact ho))), h.ne, h.nx, h.ny, fun x hx => let ⟨h1, h2, h3, h4, h5⟩ := h.kp x hx; ⟨(hf.block _ (lt_of_some h1) h4).trans h1, h2, h3, h4, h5⟩, h.bl.trans hb⟩
theorem Co.bldr (h : Co F KL O L w p ps q qs) (hd : Bld O' F.lo F.go 62 w' L') (hb : Below F.lo w w') (hg : Grew O O' w w') : Co F KL O' L' w' p ps q qs := by
  have out : ∀ b, b < w.heap.size → ¬ O b → ¬ O' b := fun b hlt hn ho => by
    rcases hg.more b ho with h1 | h1
    · exact hn h1
    · omega
  exact ⟨h.ox.keep (hg.block _ h.ox.lt h.nx) hb, h.oy.keep (hg.block _ h.oy.lt h.ny) hb, hd, h.ne, out _ h.ox.lt h.nx, out _ h.oy.lt h.ny, fun x hx => let ⟨h1, h2, h3, h4, h5⟩ := h.kp x hx; ⟨(hg.block _ (lt_of_some h1) h5).trans h1, h2, h3, h4, out _ (lt_of_some h1) h5⟩, h.bl.trans hb⟩
/-- a block more that stays: one that lies beyond all blocks that stood -/
theorem Co.also (h : Co F KL O L w p ps q qs) (hb : Below w.heap.size w w') {b : Nat} {o : Obj} (hbl : w.heap.size ≤ b) (ho : w'.heap[b]? = some o) : Co F ((b, o) :: KL) O L w' p ps q qs := by
  have h' := h.past hb
  refine ⟨h'.ox, h'.oy, h'.bd, h'.ne, h'.nx, h'.ny, fun x hx => ?_, h'.bl⟩
  rcases List.mem_cons.1 hx with rfl | hx
  · exact ⟨ho, Nat.le_trans h.low hbl, by have := h.ox.lt; show ¬ b = F.gx; omega, by have := h.oy.lt; show ¬ b = F.gy; omega, fun hO => by have := h.bd.old _ hO; simp at this; omega⟩
  · exact h'.kp x hx
theorem Co.less {KM : List (Nat × Obj)} (h : Co F KL O L w p ps q qs) (hs : ∀ x ∈ KM, x ∈ KL) : Co F KM O L w p ps q qs := ⟨h.ox, h.oy, h.bd, h.ne, h.nx, h.ny, fun x hx => h.kp x (hs x hx), h.bl⟩
theorem put_below {lo l : Nat} {o : Obj} (hl : lo ≤ l) (hz : l < w.heap.size) : Below lo w (w.putObj l o) :=
  (Below.refl lo w).grown (grownBy_putObj' w l o) (by omega) (fun k e => by cases e; exact hl)
/-- a block that stays is written whole -/
theorem Co.put {l : Nat} {o o' : Obj} (h : Co F ((l, o) :: KL) O L w p ps q qs) (hn : ∀ x ∈ KL, ¬ x.1 = l) : Co F ((l, o') :: KL) O L (w.putObj l o') p ps q qs := by
  obtain ⟨h1, h2, h3, h4, h5⟩ := h.kp (l, o) (by simp)
  simp only at h1 h2 h3 h4 h5
  have hz := lt_of_some h1
  have hb := put_below (o := o') h2 hz
  have other : ∀ b, ¬ b = l → (w.putObj l o').heap[b]? = w.heap[b]? := fun b hb => World.putObj_heap_other hb
  refine ⟨h.ox.keep (other _ (fun e => h3 e.symm)) hb, h.oy.keep (other _ (fun e => h4 e.symm)) hb, h.bd.keep (by simp) (fun b _ ho => other b (fun e => h5 (by rw [← e]; exact ho))), h.ne, h.nx, h.ny, fun x hx => ?_, h.bl.trans hb⟩
  rcases List.mem_cons.1 hx with rfl | hx
  · exact ⟨World.putObj_heap_same hz, h2, h3, h4, h5⟩
  · obtain ⟨k1, k2⟩ := h.kp x (by simp [hx])
    exact ⟨(other _ (hn x hx)).trans k1, k2⟩
/-- a look for more -/
theorem Co.morex (h : Co F KL O L w p ps q qs) : Calls Tryd.prog 121 #[.pointer (some ⟨F.gx, 0, none⟩)] w (fun e w' => ∃ p' ps', e = .returned (.bool (decide (0 < sizeP p'))) ∧ Co F KL O L w' p' ps' q qs ∧ unitsP p' ++ units ps' = unitsP p ++ units ps ∧ (sizeP p' = 0 → ps' = [])) := by
  refine (implMore F.lo F.gx p ps w h.ox).mono ?_
  rintro e w' ⟨p', ps', h1, h2, h3, h4, h5, h6⟩
  exact ⟨p', ps', h1, h.movx h2 h5 h6, h3, h4⟩
theorem Co.morey (h : Co F KL O L w p ps q qs) : Calls Tryd.prog 121 #[.pointer (some ⟨F.gy, 0, none⟩)] w (fun e w' => ∃ q' qs', e = .returned (.bool (decide (0 < sizeP q'))) ∧ Co F KL O L w' p ps q' qs' ∧ unitsP q' ++ units qs' = unitsP q ++ units qs ∧ (sizeP q' = 0 → qs' = [])) := by
  refine (implMore F.lo F.gy q qs w h.oy).mono ?_
  rintro e w' ⟨p', ps', h1, h2, h3, h4, h5, h6⟩
  exact ⟨p', ps', h1, h.movy h2 h5 h6, h3, h4⟩
def TakeX (F : Fz) (KL : List (Nat × Obj)) (O : Nat → Prop) (L : List Pt) (p : Pt) (ps : List Pt) (q : Pt) (qs : List Pt) (n : Nat) (e : Ending) (w' : World) : Prop := ∃ v, e = .returned v ∧ PtV F.lo w' (cutL p n) v ∧ Co F KL O L w' (cutR p n) ps q qs
def TakeY (F : Fz) (KL : List (Nat × Obj)) (O : Nat → Prop) (L : List Pt) (p : Pt) (ps : List Pt) (q : Pt) (qs : List Pt) (n : Nat) (e : Ending) (w' : World) : Prop := ∃ v, e = .returned v ∧ PtV F.lo w' (cutL q n) v ∧ Co F KL O L w' p ps (cutR q n) qs
theorem Co.takex {n : Nat} (h : Co F KL O L w p ps q qs) (h0 : 0 < n) (hn : n ≤ sizeP p) : Calls Tryd.prog 97 #[.pointer (some ⟨F.gx, 0, none⟩), .int .i64 (n : Int)] w (TakeX F KL O L p ps q qs n) := by
  refine (implTake F.lo F.gx p ps n w h.ox h0 hn).mono ?_
  rintro e w' ⟨v, h1, h2, h3, h4, h5⟩
  exact ⟨v, h1, h2, h.movx h3 h4 h5⟩
theorem Co.takey {n : Nat} (h : Co F KL O L w p ps q qs) (h0 : 0 < n) (hn : n ≤ sizeP q) : Calls Tryd.prog 97 #[.pointer (some ⟨F.gy, 0, none⟩), .int .i64 (n : Int)] w (TakeY F KL O L p ps q qs n) := by
  refine (implTake F.lo F.gy q qs n w h.oy h0 hn).mono ?_
  rintro e w' ⟨v, h1, h2, h3, h4, h5⟩
  exact ⟨v, h1, h2, h.movy h3 h4 h5⟩
theorem Co.takeyb {n : Nat} (h : Co F KL O L w p ps q qs) (h0 : 0 < n) (hn : n ≤ sizeP q) : Calls Tryd.prog 97 #[.pointer (some ⟨F.gy, 0, none⟩), .int .i64 (n : Int)] w (fun e w' => ∃ v, e = .returned v ∧ PtV F.lo w' (cutL q n) v ∧ Co F KL O L w' p ps (cutR q n) qs ∧ Below F.lo w w') := by
  refine (implTake F.lo F.gy q qs n w h.oy h0 hn).mono ?_
  rintro e w' ⟨v, h1, h2, h3, h4, h5⟩
  exact ⟨v, h1, h2, h.movy h3 h4 h5, h4⟩
theorem cutL_kind {n : Nat} (h : ¬ p.kind = 0) : ¬ (cutL p n).kind = 0 := by
  unfold cutL
  split
  · simp
  · exact h
def AddC (F : Fz) (KL : List (Nat × Obj)) (L : List Pt) (p : Pt) (ps : List Pt) (q : Pt) (qs : List Pt) (e : Ending) (w' : World) : Prop := e = .returned (.tuple #[]) ∧ ∃ O, Co F KL O L w' p ps q qs
theorem Co.add {r : Pt} {v : Value} (h : Co F KL O L w p ps q qs) (hv : PtV F.lo w r v) (hr : Vp r) (hk : ¬ r.kind = 0) (hl : L.length < 100000) : Calls Tryd.prog 51 #[.pointer (some ⟨F.go, 0, none⟩), v] w (AddC F KL (L ++ [r]) p ps q qs) := by
  refine (implAddB O F.lo F.go L r v w h.bd hv hr hk hl).mono ?_
  rintro e w' ⟨h1, O', h2, h3, h4⟩
  exact ⟨h1, O', h.bldr h2 h3 h4⟩
theorem Co.both {r s : Pt} {v u : Value} (h : Co F KL O L w p ps q qs) (hv : PtV F.lo w r v) (hu : PtV F.lo w s u) (hr : Vp r) (hs : Vp s) (hk : ¬ r.kind = 0) (hk' : ¬ s.kind = 0) (hl : L.length < 100000) : Calls Tryd.prog 99 #[.pointer (some ⟨F.go, 0, none⟩), v, u] w (AddC F KL (bothL L r s) p ps q qs) := by
  refine (implBothB O F.lo F.go L r s v u w h.bd hv hu hr hs hk hk' hl).mono ?_
  rintro e w' ⟨h1, O', h2, h3, h4⟩
  exact ⟨h1, O', h.bldr h2 h3 h4⟩
def SizeC (F : Fz) (KL : List (Nat × Obj)) (O : Nat → Prop) (L : List Pt) (p : Pt) (ps : List Pt) (q : Pt) (qs : List Pt) (n : Nat) (w : World) (e : Ending) (w' : World) : Prop := e = .returned (.int .i64 (n : Int)) ∧ Co F KL O L w' p ps q qs ∧ Below w.heap.size w w'
theorem Co.size {r : Pt} {v : Value} (h : Co F KL O L w p ps q qs) (hv : PtV F.lo w r v) (hr : Vp r) : Calls Tryd.prog 98 #[v] w (SizeC F KL O L p ps q qs (sizeP r) w) := by
  obtain ⟨A, c, rfl, _⟩ := hv
  have hz := hr.size
  refine (implSize_any r.kind r.n A r.signs.length c w (by omega) (by omega) (by omega)).mono ?_
  rintro e w' ⟨rfl, h2⟩
  exact ⟨by rw [hz.1], h.past h2, h2⟩
end

/-- the blocks of KL, in the world at hand -/
def Ks (KL : List (Nat × Obj)) (w : World) : Prop := ∀ x ∈ KL, w.heap[x.1]? = some x.2
theorem Co.ks {F : Fz} {KL : List (Nat × Obj)} {O : Nat → Prop} {L : List Pt} {w : World} {p : Pt} {ps : List Pt} {q : Pt} {qs : List Pt} (h : Co F KL O L w p ps q qs) : Ks KL w := fun x hx => (h.kp x hx).1
theorem Ks.cell {KL : List (Nat × Obj)} {w : World} {b : Nat} {xs : Array Value} {T : TypeId} {i : Nat} {v : Value} (h : Ks KL w) (hm : (b, Obj.cells xs T (0, 0)) ∈ KL) (hv : xs[i]? = some v) : w.cell? ⟨b, i, none⟩ = some v := (cell_of_row _ _ i _ _ _ (h _ hm)).trans hv

section
variable {P : Program} {ops : Array Oper} {Q : Exit → Act → World → Prop} {md : Region.Mode} {S : World → Prop}
/-- in a region that draws its order: a call of a function that alone may come up -/
theorem wpAnyH_call {i : Nat} {o : Oper} {fuel : Nat} {listed : Array Bool} {a : Act} {w : World} {f : FuncId} {args : Array Value} (hi : ops[i]? = some o) (hr : Region.ready md ops listed = [i]) (hw : Region.wanted o (yielded ops a.tmps) = true)
    (hrun : (execOp a.eval o).run P w = .ok (.enter f args) w) (hc : Calls P f args w (fun e w' => ∃ v, e = .returned v ∧ S w' ∧ wpAnyH P md ops Q S fuel (listed.setIfInBounds i true) (a.put o.dst v) w')) : wpAnyH P md ops Q S (fuel + 1) listed a w := by
  refine wpAnyH_all hr (by simp) (fun j hj => ?_)
  obtain rfl : j = i := by simpa using hj
  unfold wpOp
  simp only [hi, hw, if_true, Oper.wp, hrun, Oper.upon]
  refine .inl (hc.mono ?_)
  rintro e w' ⟨v, rfl, h1, h2⟩
  exact ⟨h1, h2⟩
theorem fall_n {K : Act → World → Prop} {a : Act} {w : World} (h : K a w) : Fall K .normal a w := h
def noDeferB (ops : Array Oper) : Bool := ops.toList.all (fun o => match o.op with | .defer _ => false | _ => true)
theorem noDefer_of {ops : Array Oper} (h : noDeferB ops = true) : NoDefer ops := fun i o ho c e => by
  have := List.all_eq_true.1 h o (by rw [← Array.getElem?_toList] at ho; exact List.mem_of_getElem? ho)
  rw [e] at this
  simp at this
end
end Go.Proofs.YtbbpapaobehlcaaDoor.low


/-
  The rounds of impl.composed's ranges over functions: their codes, taken out of the translation; each round a theorem over the frame.
-/
namespace Go.Proofs.YtbbpapaobehlcaaDoor.low
open Go.RowKit
set_option linter.unusedVariables false
attribute [local go_sem] Oper.semAt_some

/-- the ranges over functions in a piece of code: what is assigned, and the body -/
def rfs : Code → List (Code × Code)
  | .rangeFunc _ _ a b => (a, b) :: rfs b
  | .seq a b => rfs a ++ rfs b
  | .cond _ a b => rfs a ++ rfs b
  | .block _ c => rfs c
  | .scope c => rfs c
  | _ => []
noncomputable def rfA (k : Nat) : Code := (((Tryd.f60.body.map rfs).getD []).getD k (.skip, .skip)).1
noncomputable def rfB (k : Nat) : Code := (((Tryd.f60.body.map rfs).getD []).getD k (.skip, .skip)).2
theorem cutL_all {p : Pt} (h : Vp p) (hk : ¬ p.kind = 0) : cutL p (sizeP p) = p := by
  obtain ⟨k, m, zs⟩ := p
  rcases h with ⟨h1, h2, h3, h4⟩ | ⟨h1, h2, h3⟩ | ⟨h1, h2, h3⟩ <;> simp only at * <;> subst_vars
  · have hk : ¬ k = 2 := by omega
    simp only [cutL, sizeP, if_neg hk]
    rw [Int.toNat_of_nonneg h2]
  · simp [cutL, sizeP]
  · exact absurd rfl hk
set_option maxRecDepth 1000000 in
set_option maxHeartbeats 6400000 in
theorem innP (F : Fz) (KL : List (Nat × Obj)) (O : Nat → Prop) (L : List Pt) (W : World) (p : Pt) (ps : List Pt) (q : Pt) (qs : List Pt) (bx bY bo bp bq l n : Nat) (A B : Option Addr) (ca cb : Nat) {c0 c1 c2 c3 c4 c10 c11 c12 c13 c14 c15 c16 c17 c18 c19 c20 c21 c22 c23 c24 c25 c26 c27 c28 c29 c30 c31 c32 c33 c34 c35 c36 c37 c38 c39 c40 c41 c42 c43 c44 c45 c46 c47 c48 c49 c50 c51 c52 c53 c54 c55 c56 c57 c58 c59 c60 c61 c62 c63 c64 c65 c66 c67 : Value} (Q : Exit → Act → World → Prop) (hs : Co F KL O L W p ps q qs) (mx : (bx, Obj.cells #[.pointer (some ⟨F.gx, 0, none⟩)] 109 (0, 0)) ∈ KL) (my : (bY, Obj.cells #[.pointer (some ⟨F.gy, 0, none⟩)] 109 (0, 0)) ∈ KL) (mo : (bo, Obj.cells #[.pointer (some ⟨F.go, 0, none⟩)] 60 (0, 0)) ∈ KL) (mq : (bq, Obj.cells #[.int .i64 q.kind, .int .i64 q.n, .slice B q.signs.length cb] 64 (0, 0)) ∈ KL) (hr : RdC W F.lo (encInts q.signs) (.slice B q.signs.length cb)) (hk : q.kind = 2) (hz : 0 < sizeP q) (hL : L.length < 100000)
    (hQ : ∀ O' a W', Co F KL O' (L ++ [q]) W' p ps (cutR q (sizeP q)) qs → Q .normal a W') : (rfB 1).wpIn (Fence.wide.inRound l) n Tryd.prog Q ⟨#[c0, c1, c2, c3, c4, .pointer (some ⟨bx, 0, none⟩), .pointer (some ⟨bY, 0, none⟩), .pointer (some ⟨bo, 0, none⟩), .pointer (some ⟨bp, 0, none⟩), .pointer (some ⟨bq, 0, none⟩), c10, c11, c12, c13, c14, c15, c16, c17, c18, c19, c20, c21, c22, c23, c24, c25, c26, c27, c28, c29, c30, c31, c32, c33, c34, c35, c36, c37, c38, c39, c40, c41, c42, c43, c44, c45, c46, c47, c48, c49, c50, c51, c52, c53, c54, c55, c56, c57, c58, c59, c60, c61, c62, c63, c64, c65, c66, c67], []⟩ W := by
  have HS := Lib.hid hs
  have HQ := Lib.hid hQ
  clear hs hQ
  have c0 := HS.out.ks.cell mq (i := 0) rfl
  have g0 : (q.kind == 2) = true := by simp [hk]
  have hv := HS.out.oy.vp
  have hk0 : ¬ q.kind = 0 := by omega
  have HV := Lib.hid hr
  clear hr hk
  conv => arg 4; whnf
  gi_wp2_with fail
  have HLO := Lib.hid HS.out.drew.low
  refine wpIn_fall (wpIn_region_held (S := Ks KL) (by kernel_rfl) (noDefer_of (by kernel_rfl)) (Fall.out _) ?_) (fun _ _ h => h)
  replace HS := Lib.hid HS.out.drew
  have hS0 := HS.out.ks
  refine wpAnyH_take (i := 0) (v := .pointer (some ⟨F.go, 0, none⟩)) rfl (by kernel_rfl) (by kernel_rfl) (by kernel_rfl) (fun _ _ _ h => h) (Or.inl ⟨by rfl, fun w' hS => ?_⟩) hS0 ?_
  · have k0 := hS.cell mo (i := 0) rfl; clear hS HS; go_simp
  try simp only [Act.put]
  refine wpAnyH_take (i := 1) (v := .pointer (some ⟨F.gy, 0, none⟩)) rfl (by kernel_rfl) (by kernel_rfl) (by kernel_rfl) (fun _ _ _ h => h) (Or.inl ⟨by rfl, fun w' hS => ?_⟩) hS0 ?_
  · have k0 := hS.cell my (i := 0) rfl; clear hS HS; go_simp
  try simp only [Act.put]
  refine wpAnyH_take (i := 2) (v := (.agg #[.int .i64 q.kind, .int .i64 q.n, .slice B q.signs.length cb])) rfl (by kernel_rfl) (by kernel_rfl) (by kernel_rfl) (fun _ _ _ h => h) (Or.inl ⟨by rfl, fun w' hS => ?_⟩) hS0 ?_
  · have k0 := hS.cell mq (i := 0) rfl; have k1 := hS.cell mq (i := 1) rfl; have k2 := hS.cell mq (i := 2) rfl; clear hS HS; go_simp
  try simp only [Act.put]
  refine wpAnyH_ready (rs := [3]) (by kernel_rfl) (by simp) ?_
  refine AllReadyH.cons rfl (fun K hK => ?_) AllReadyH.nil
  go_simp
  refine (HS.out.size (r := q) ⟨B, cb, rfl, HV.out.below ((Below.refl _ _).drew)⟩ hv).mono ?_
  rintro e w1 ⟨rfl, h1, b1⟩
  refine hK.out _ _ h1.ks (fun hS1 => ?_)
  clear hK K hS0
  have hS0 := hS1
  clear hS1
  try simp only [Act.put, List.setIfInBounds_toArray, List.set_cons_zero, List.set_cons_succ]
  replace HS := Lib.hid h1
  clear h1
  clear b1
  refine wpAnyH_ready (rs := [4]) (by kernel_rfl) (by simp) ?_
  refine AllReadyH.cons rfl (fun K hK => ?_) AllReadyH.nil
  go_simp
  refine (HS.out.takey hz (Nat.le_refl _)).mono ?_
  rintro e w2 ⟨v2, rfl, pv2, h2⟩
  refine hK.out _ _ h2.ks (fun hS2 => ?_)
  clear hK K hS0
  have hS0 := hS2
  clear hS2
  try simp only [Act.put, List.setIfInBounds_toArray, List.set_cons_zero, List.set_cons_succ]
  replace HS := Lib.hid h2
  clear h2
  rw [cutL_all hv hk0] at pv2
  refine wpAnyH_ready (rs := [5]) (by kernel_rfl) (by simp) ?_
  refine AllReadyH.cons rfl (fun K hK => ?_) AllReadyH.nil
  go_simp
  refine (HS.out.add pv2 hv hk0 hL).mono ?_
  rintro e w3 ⟨rfl, O3, h3⟩
  refine hK.out _ _ h3.ks (fun hS3 => ?_)
  clear hK K hS0
  have hS0 := hS3
  clear hS3
  try simp only [Act.put, List.setIfInBounds_toArray, List.set_cons_zero, List.set_cons_succ]
  replace HS := Lib.hid h3
  clear h3
  refine wpAnyH_done (by kernel_rfl) (fall_n ?_) _
  clear hS0
  gi_wp2
  exact HQ.out _ _ _ HS.out
set_option maxRecDepth 1000000 in
set_option maxHeartbeats 6400000 in
theorem innB (F : Fz) (KL : List (Nat × Obj)) (O : Nat → Prop) (L : List Pt) (W : World) (p : Pt) (ps : List Pt) (q : Pt) (qs : List Pt) (bx bY bo bp bq l n : Nat) (A B : Option Addr) (ca cb : Nat) {c0 c1 c2 c3 c4 c10 c11 c12 c13 c14 c15 c16 c17 c18 c19 c20 c21 c22 c23 c24 c25 c26 c27 c28 c29 c30 c31 c32 c33 c34 c35 c36 c37 c38 c39 c40 c41 c42 c43 c44 c45 c46 c47 c48 c49 c50 c51 c52 c53 c54 c55 c56 c57 c58 c59 c60 c61 c62 c63 c64 c65 c66 c67 : Value} (Q : Exit → Act → World → Prop) (hs : Co F KL O L W p ps q qs) (mx : (bx, Obj.cells #[.pointer (some ⟨F.gx, 0, none⟩)] 109 (0, 0)) ∈ KL) (my : (bY, Obj.cells #[.pointer (some ⟨F.gy, 0, none⟩)] 109 (0, 0)) ∈ KL) (mo : (bo, Obj.cells #[.pointer (some ⟨F.go, 0, none⟩)] 60 (0, 0)) ∈ KL) (mp : (bp, Obj.cells #[.int .i64 p.kind, .int .i64 p.n, .slice A p.signs.length ca] 64 (0, 0)) ∈ KL) (mq : (bq, Obj.cells #[.int .i64 q.kind, .int .i64 q.n, .slice B q.signs.length cb] 64 (0, 0)) ∈ KL) (hr : RdC W F.lo (encInts p.signs) (.slice A p.signs.length ca)) (hr2 : RdC W F.lo (encInts q.signs) (.slice B q.signs.length cb)) (hk : ¬ q.kind = 2) (hkp : ¬ p.kind = 0) (hk0 : ¬ q.kind = 0) (hz : 0 < sizeP p) (hz2 : 0 < sizeP q) (m : Nat) (hm : m = min (sizeP p) (sizeP q)) (hL : L.length < 100000)
    (hQ : ∀ O' a W', Co F KL O' (bothL L (cutL p m) (cutL q m)) W' (cutR p m) ps (cutR q m) qs → Q (.exit 1) a W') : (rfB 1).wpIn (Fence.wide.inRound l) n Tryd.prog Q ⟨#[c0, c1, c2, c3, c4, .pointer (some ⟨bx, 0, none⟩), .pointer (some ⟨bY, 0, none⟩), .pointer (some ⟨bo, 0, none⟩), .pointer (some ⟨bp, 0, none⟩), .pointer (some ⟨bq, 0, none⟩), c10, c11, c12, c13, c14, c15, c16, c17, c18, c19, c20, c21, c22, c23, c24, c25, c26, c27, c28, c29, c30, c31, c32, c33, c34, c35, c36, c37, c38, c39, c40, c41, c42, c43, c44, c45, c46, c47, c48, c49, c50, c51, c52, c53, c54, c55, c56, c57, c58, c59, c60, c61, c62, c63, c64, c65, c66, c67], []⟩ W := by
  have HS := Lib.hid hs
  have HQ := Lib.hid hQ
  clear hs hQ
  have c0 := HS.out.ks.cell mq (i := 0) rfl
  have g0 : (q.kind == 2) = false := by simp [hk]
  have hv := HS.out.ox.vp
  have hv2 := HS.out.oy.vp
  have HV := Lib.hid hr
  have HV2 := Lib.hid hr2
  have hm0 : 0 < m := by omega
  have hm1 : m ≤ sizeP p := by omega
  have hm2 : m ≤ sizeP q := by omega
  have HM := Lib.hid hm
  have hs1 := hv.size.2.1
  have hs2 := hv2.size.2.1
  clear hr hr2 hk hm
  conv => arg 4; whnf
  gi_wp2_with fail
  have HLO := Lib.hid HS.out.drew.low
  refine wpIn_fall (wpIn_region_held (S := Ks KL) (by kernel_rfl) (noDefer_of (by kernel_rfl)) (Fall.out _) ?_) (fun _ _ h => h)
  replace HS := Lib.hid HS.out.drew
  have hS0 := HS.out.ks
  refine wpAnyH_take (i := 0) (v := (.agg #[.int .i64 p.kind, .int .i64 p.n, .slice A p.signs.length ca])) rfl (by kernel_rfl) (by kernel_rfl) (by kernel_rfl) (fun _ _ _ h => h) (Or.inl ⟨by rfl, fun w' hS => ?_⟩) hS0 ?_
  · have k0 := hS.cell mp (i := 0) rfl; have k1 := hS.cell mp (i := 1) rfl; have k2 := hS.cell mp (i := 2) rfl; clear hS HS; go_simp
  try simp only [Act.put]
  refine wpAnyH_take (i := 2) (v := (.agg #[.int .i64 q.kind, .int .i64 q.n, .slice B q.signs.length cb])) rfl (by kernel_rfl) (by kernel_rfl) (by kernel_rfl) (fun _ _ _ h => h) (Or.inl ⟨by rfl, fun w' hS => ?_⟩) hS0 ?_
  · have k0 := hS.cell mq (i := 0) rfl; have k1 := hS.cell mq (i := 1) rfl; have k2 := hS.cell mq (i := 2) rfl; clear hS HS; go_simp
  try simp only [Act.put]
  refine wpAnyH_ready (rs := [1]) (by kernel_rfl) (by simp) ?_
  refine AllReadyH.cons rfl (fun K hK => ?_) AllReadyH.nil
  go_simp
  refine (HS.out.size (r := p) ⟨A, ca, rfl, HV.out.below ((Below.refl _ _).drew)⟩ hv).mono ?_
  rintro e w1 ⟨rfl, h1, b1⟩
  refine hK.out _ _ h1.ks (fun hS1 => ?_)
  clear hK K hS0
  have hS0 := hS1
  clear hS1
  try simp only [Act.put, List.setIfInBounds_toArray, List.set_cons_zero, List.set_cons_succ]
  replace HS := Lib.hid h1
  clear h1
  have HB1 := Lib.hid b1
  clear b1
  refine wpAnyH_ready (rs := [3]) (by kernel_rfl) (by simp) ?_
  refine AllReadyH.cons rfl (fun K hK => ?_) AllReadyH.nil
  go_simp
  refine (HS.out.size (r := q) ⟨B, cb, rfl, (HV2.out.below ((Below.refl _ _).drew)).below (HB1.out.mono HLO.out)⟩ hv2).mono ?_
  rintro e w2 ⟨rfl, h2, b2⟩
  refine hK.out _ _ h2.ks (fun hS2 => ?_)
  clear hK K hS0
  have hS0 := hS2
  clear hS2
  try simp only [Act.put, List.setIfInBounds_toArray, List.set_cons_zero, List.set_cons_succ]
  replace HS := Lib.hid h2
  clear h2
  clear b2
  refine wpAnyH_take (i := 4) (v := .int .i64 (m : Int)) rfl (by kernel_rfl) (by kernel_rfl) (by kernel_rfl) (fun _ _ _ h => h) (Or.inl ⟨by rfl, fun w' hS => ?_⟩) hS0 ?_
  · clear hS HS; go_simp; have := HM.out; first | omega | (split <;> omega)
  try simp only [Act.put]
  refine wpAnyH_ready (rs := [5]) (by kernel_rfl) (by simp) ?_
  refine AllReadyH.cons rfl (fun K hK => ?_) AllReadyH.nil
  go_simp
  refine hK.out _ _ hS0 (fun _ => ?_)
  clear hK K
  try simp only [Act.put, List.setIfInBounds_toArray, List.set_cons_zero, List.set_cons_succ]
  refine wpAnyH_done (by kernel_rfl) (fall_n ?_) _
  clear hS0
  gi_wp2_with fail
  have HLO := Lib.hid HS.out.drew.low
  refine wpIn_fall (wpIn_region_held (S := Ks KL) (by kernel_rfl) (noDefer_of (by kernel_rfl)) (Fall.out _) ?_) (fun _ _ h => h)
  replace HS := Lib.hid HS.out.drew
  have hS0 := HS.out.ks
  refine wpAnyH_take (i := 0) (v := .pointer (some ⟨F.go, 0, none⟩)) rfl (by kernel_rfl) (by kernel_rfl) (by kernel_rfl) (fun _ _ _ h => h) (Or.inl ⟨by rfl, fun w' hS => ?_⟩) hS0 ?_
  · have k0 := hS.cell mo (i := 0) rfl; clear hS HS; go_simp
  try simp only [Act.put]
  refine wpAnyH_take (i := 1) (v := .pointer (some ⟨F.gx, 0, none⟩)) rfl (by kernel_rfl) (by kernel_rfl) (by kernel_rfl) (fun _ _ _ h => h) (Or.inl ⟨by rfl, fun w' hS => ?_⟩) hS0 ?_
  · have k0 := hS.cell mx (i := 0) rfl; clear hS HS; go_simp
  try simp only [Act.put]
  refine wpAnyH_take (i := 2) (v := .int .i64 (m : Int)) rfl (by kernel_rfl) (by kernel_rfl) (by kernel_rfl) (fun _ _ _ h => h) (Or.inl ⟨by rfl, fun w' hS => ?_⟩) hS0 ?_
  · clear hS HS; go_simp
  try simp only [Act.put]
  refine wpAnyH_take (i := 4) (v := .pointer (some ⟨F.gy, 0, none⟩)) rfl (by kernel_rfl) (by kernel_rfl) (by kernel_rfl) (fun _ _ _ h => h) (Or.inl ⟨by rfl, fun w' hS => ?_⟩) hS0 ?_
  · have k0 := hS.cell my (i := 0) rfl; clear hS HS; go_simp
  try simp only [Act.put]
  refine wpAnyH_take (i := 5) (v := .int .i64 (m : Int)) rfl (by kernel_rfl) (by kernel_rfl) (by kernel_rfl) (fun _ _ _ h => h) (Or.inl ⟨by rfl, fun w' hS => ?_⟩) hS0 ?_
  · clear hS HS; go_simp
  try simp only [Act.put]
  refine wpAnyH_ready (rs := [3]) (by kernel_rfl) (by simp) ?_
  refine AllReadyH.cons rfl (fun K hK => ?_) AllReadyH.nil
  go_simp
  refine (HS.out.takex hm0 hm1).mono ?_
  rintro e w3 ⟨v3, rfl, pv3, h3⟩
  refine hK.out _ _ h3.ks (fun hS3 => ?_)
  clear hK K hS0
  have hS0 := hS3
  clear hS3
  try simp only [Act.put, List.setIfInBounds_toArray, List.set_cons_zero, List.set_cons_succ]
  replace HS := Lib.hid h3
  clear h3
  have HC := Lib.hid HS.out.bl
  refine wpAnyH_ready (rs := [6]) (by kernel_rfl) (by simp) ?_
  refine AllReadyH.cons rfl (fun K hK => ?_) AllReadyH.nil
  go_simp
  refine (HS.out.takeyb hm0 hm2).mono ?_
  rintro e w4 ⟨v4, rfl, pv4, h4, b4⟩
  refine hK.out _ _ h4.ks (fun hS4 => ?_)
  clear hK K hS0
  have hS0 := hS4
  clear hS4
  try simp only [Act.put, List.setIfInBounds_toArray, List.set_cons_zero, List.set_cons_succ]
  replace HS := Lib.hid h4
  clear h4
  have pw := pv3.below b4
  refine wpAnyH_ready (rs := [7]) (by kernel_rfl) (by simp) ?_
  refine AllReadyH.cons rfl (fun K hK => ?_) AllReadyH.nil
  go_simp
  refine (HS.out.both pw pv4 (cutL_vp hv hm1) (cutL_vp hv2 hm2) (cutL_kind hkp) (cutL_kind hk0) hL).mono ?_
  rintro e w5 ⟨rfl, O5, h5⟩
  refine hK.out _ _ h5.ks (fun hS5 => ?_)
  clear hK K hS0
  have hS0 := hS5
  clear hS5
  try simp only [Act.put, List.setIfInBounds_toArray, List.set_cons_zero, List.set_cons_succ]
  replace HS := Lib.hid h5
  clear h5
  refine wpAnyH_done (by kernel_rfl) (fall_n ?_) _
  clear hS0
  gi_wp2
  exact HQ.out _ _ _ HS.out
set_option maxRecDepth 1000000 in
set_option maxHeartbeats 6400000 in
theorem outD (F : Fz) (KL : List (Nat × Obj)) (O : Nat → Prop) (L : List Pt) (W : World) (p : Pt) (ps : List Pt) (q : Pt) (qs : List Pt) (bx bY bo bp bq l n : Nat) (A B : Option Addr) (ca cb : Nat) {c0 c1 c2 c3 c4 c9 c10 c11 c12 c13 c14 c15 c16 c17 c18 c19 c20 c21 c22 c23 c24 c25 c26 c27 c28 c29 c30 c31 c32 c33 c34 c35 c36 c37 c38 c39 c40 c41 c42 c43 c44 c45 c46 c47 c48 c49 c50 c51 c52 c53 c54 c55 c56 c57 c58 c59 c60 c61 c62 c63 c64 c65 c66 c67 : Value} (Q : Exit → Act → World → Prop) (hs : Co F KL O L W p ps q qs) (mx : (bx, Obj.cells #[.pointer (some ⟨F.gx, 0, none⟩)] 109 (0, 0)) ∈ KL) (my : (bY, Obj.cells #[.pointer (some ⟨F.gy, 0, none⟩)] 109 (0, 0)) ∈ KL) (mo : (bo, Obj.cells #[.pointer (some ⟨F.go, 0, none⟩)] 60 (0, 0)) ∈ KL) (mp : (bp, Obj.cells #[.int .i64 p.kind, .int .i64 p.n, .slice A p.signs.length ca] 64 (0, 0)) ∈ KL) (hr : RdC W F.lo (encInts p.signs) (.slice A p.signs.length ca)) (hk : p.kind = 3) (hz : 0 < sizeP p) (hL : L.length < 100000)
    (hQ : ∀ O' a W', Co F KL O' (L ++ [p]) W' (cutR p (sizeP p)) ps q qs → Q .normal a W') : (rfB 0).wpIn (Fence.wide.inRound l) n Tryd.prog Q ⟨#[c0, c1, c2, c3, c4, .pointer (some ⟨bx, 0, none⟩), .pointer (some ⟨bY, 0, none⟩), .pointer (some ⟨bo, 0, none⟩), .pointer (some ⟨bp, 0, none⟩), c9, c10, c11, c12, c13, c14, c15, c16, c17, c18, c19, c20, c21, c22, c23, c24, c25, c26, c27, c28, c29, c30, c31, c32, c33, c34, c35, c36, c37, c38, c39, c40, c41, c42, c43, c44, c45, c46, c47, c48, c49, c50, c51, c52, c53, c54, c55, c56, c57, c58, c59, c60, c61, c62, c63, c64, c65, c66, c67], []⟩ W := by
  have HS := Lib.hid hs
  have HQ := Lib.hid hQ
  clear hs hQ
  have c0 := HS.out.ks.cell mp (i := 0) rfl
  have g0 : (p.kind == 3) = true := by simp [hk]
  have hv := HS.out.ox.vp
  have hk0 : ¬ p.kind = 0 := by omega
  have HV := Lib.hid hr
  clear hr hk
  conv => arg 4; whnf
  gi_wp2_with fail
  have HLO := Lib.hid HS.out.drew.low
  refine wpIn_fall (wpIn_region_held (S := Ks KL) (by kernel_rfl) (noDefer_of (by kernel_rfl)) (Fall.out _) ?_) (fun _ _ h => h)
  replace HS := Lib.hid HS.out.drew
  have hS0 := HS.out.ks
  refine wpAnyH_take (i := 0) (v := .pointer (some ⟨F.go, 0, none⟩)) rfl (by kernel_rfl) (by kernel_rfl) (by kernel_rfl) (fun _ _ _ h => h) (Or.inl ⟨by rfl, fun w' hS => ?_⟩) hS0 ?_
  · have k0 := hS.cell mo (i := 0) rfl; clear hS HS; go_simp
  try simp only [Act.put]
  refine wpAnyH_take (i := 1) (v := .pointer (some ⟨F.gx, 0, none⟩)) rfl (by kernel_rfl) (by kernel_rfl) (by kernel_rfl) (fun _ _ _ h => h) (Or.inl ⟨by rfl, fun w' hS => ?_⟩) hS0 ?_
  · have k0 := hS.cell mx (i := 0) rfl; clear hS HS; go_simp
  try simp only [Act.put]
  refine wpAnyH_take (i := 2) (v := (.agg #[.int .i64 p.kind, .int .i64 p.n, .slice A p.signs.length ca])) rfl (by kernel_rfl) (by kernel_rfl) (by kernel_rfl) (fun _ _ _ h => h) (Or.inl ⟨by rfl, fun w' hS => ?_⟩) hS0 ?_
  · have k0 := hS.cell mp (i := 0) rfl; have k1 := hS.cell mp (i := 1) rfl; have k2 := hS.cell mp (i := 2) rfl; clear hS HS; go_simp
  try simp only [Act.put]
  refine wpAnyH_ready (rs := [3]) (by kernel_rfl) (by simp) ?_
  refine AllReadyH.cons rfl (fun K hK => ?_) AllReadyH.nil
  go_simp
  refine (HS.out.size (r := p) ⟨A, ca, rfl, HV.out.below ((Below.refl _ _).drew)⟩ hv).mono ?_
  rintro e w1 ⟨rfl, h1, b1⟩
  refine hK.out _ _ h1.ks (fun hS1 => ?_)
  clear hK K hS0
  have hS0 := hS1
  clear hS1
  try simp only [Act.put, List.setIfInBounds_toArray, List.set_cons_zero, List.set_cons_succ]
  replace HS := Lib.hid h1
  clear h1
  clear b1
  refine wpAnyH_ready (rs := [4]) (by kernel_rfl) (by simp) ?_
  refine AllReadyH.cons rfl (fun K hK => ?_) AllReadyH.nil
  go_simp
  refine (HS.out.takex hz (Nat.le_refl _)).mono ?_
  rintro e w2 ⟨v2, rfl, pv2, h2⟩
  refine hK.out _ _ h2.ks (fun hS2 => ?_)
  clear hK K hS0
  have hS0 := hS2
  clear hS2
  try simp only [Act.put, List.setIfInBounds_toArray, List.set_cons_zero, List.set_cons_succ]
  replace HS := Lib.hid h2
  clear h2
  rw [cutL_all hv hk0] at pv2
  refine wpAnyH_ready (rs := [5]) (by kernel_rfl) (by simp) ?_
  refine AllReadyH.cons rfl (fun K hK => ?_) AllReadyH.nil
  go_simp
  refine (HS.out.add pv2 hv hk0 hL).mono ?_
  rintro e w3 ⟨rfl, O3, h3⟩
  refine hK.out _ _ h3.ks (fun hS3 => ?_)
  clear hK K hS0
  have hS0 := hS3
  clear hS3
  try simp only [Act.put, List.setIfInBounds_toArray, List.set_cons_zero, List.set_cons_succ]
  replace HS := Lib.hid h3
  clear h3
  refine wpAnyH_done (by kernel_rfl) (fall_n ?_) _
  clear hS0
  gi_wp2
  exact HQ.out _ _ _ HS.out
set_option maxRecDepth 1000000 in
set_option maxHeartbeats 6400000 in
theorem endP (F : Fz) (KL : List (Nat × Obj)) (O : Nat → Prop) (L : List Pt) (W : World) (p : Pt) (ps : List Pt) (q : Pt) (qs : List Pt) (bx bY bo bp bq l n : Nat) (A B : Option Addr) (ca cb : Nat) {c0 c1 c2 c3 c4 c8 c9 c10 c12 c13 c14 c15 c16 c17 c18 c19 c20 c21 c22 c23 c24 c25 c26 c27 c28 c29 c30 c31 c32 c33 c34 c35 c36 c37 c38 c39 c40 c41 c42 c43 c44 c45 c46 c47 c48 c49 c50 c51 c52 c53 c54 c55 c56 c57 c58 c59 c60 c61 c62 c63 c64 c65 c66 c67 : Value} (Q : Exit → Act → World → Prop) (hs : Co F KL O L W p ps q qs) (mx : (bx, Obj.cells #[.pointer (some ⟨F.gx, 0, none⟩)] 109 (0, 0)) ∈ KL) (my : (bY, Obj.cells #[.pointer (some ⟨F.gy, 0, none⟩)] 109 (0, 0)) ∈ KL) (mo : (bo, Obj.cells #[.pointer (some ⟨F.go, 0, none⟩)] 60 (0, 0)) ∈ KL) (mq : (bq, Obj.cells #[.int .i64 q.kind, .int .i64 q.n, .slice B q.signs.length cb] 64 (0, 0)) ∈ KL) (hr : RdC W F.lo (encInts q.signs) (.slice B q.signs.length cb)) (hk0 : ¬ q.kind = 0) (hz : 0 < sizeP q) (hL : L.length < 100000)
    (hQ : ∀ O' a W', Co F KL O' (L ++ [q]) W' p ps (cutR q (sizeP q)) qs → Q .normal a W') : (rfB 2).wpIn (Fence.wide.inRound l) n Tryd.prog Q ⟨#[c0, c1, c2, c3, c4, .pointer (some ⟨bx, 0, none⟩), .pointer (some ⟨bY, 0, none⟩), .pointer (some ⟨bo, 0, none⟩), c8, c9, c10, .pointer (some ⟨bq, 0, none⟩), c12, c13, c14, c15, c16, c17, c18, c19, c20, c21, c22, c23, c24, c25, c26, c27, c28, c29, c30, c31, c32, c33, c34, c35, c36, c37, c38, c39, c40, c41, c42, c43, c44, c45, c46, c47, c48, c49, c50, c51, c52, c53, c54, c55, c56, c57, c58, c59, c60, c61, c62, c63, c64, c65, c66, c67], []⟩ W := by
  have HS := Lib.hid hs
  have HQ := Lib.hid hQ
  clear hs hQ
  have hv := HS.out.oy.vp
  have HV := Lib.hid hr
  clear hr
  conv => arg 4; whnf
  gi_wp2_with fail
  have HLO := Lib.hid HS.out.drew.low
  refine wpIn_fall (wpIn_region_held (S := Ks KL) (by kernel_rfl) (noDefer_of (by kernel_rfl)) (Fall.out _) ?_) (fun _ _ h => h)
  replace HS := Lib.hid HS.out.drew
  have hS0 := HS.out.ks
  refine wpAnyH_take (i := 0) (v := .pointer (some ⟨F.go, 0, none⟩)) rfl (by kernel_rfl) (by kernel_rfl) (by kernel_rfl) (fun _ _ _ h => h) (Or.inl ⟨by rfl, fun w' hS => ?_⟩) hS0 ?_
  · have k0 := hS.cell mo (i := 0) rfl; clear hS HS; go_simp
  try simp only [Act.put]
  refine wpAnyH_take (i := 1) (v := .pointer (some ⟨F.gy, 0, none⟩)) rfl (by kernel_rfl) (by kernel_rfl) (by kernel_rfl) (fun _ _ _ h => h) (Or.inl ⟨by rfl, fun w' hS => ?_⟩) hS0 ?_
  · have k0 := hS.cell my (i := 0) rfl; clear hS HS; go_simp
  try simp only [Act.put]
  refine wpAnyH_take (i := 2) (v := (.agg #[.int .i64 q.kind, .int .i64 q.n, .slice B q.signs.length cb])) rfl (by kernel_rfl) (by kernel_rfl) (by kernel_rfl) (fun _ _ _ h => h) (Or.inl ⟨by rfl, fun w' hS => ?_⟩) hS0 ?_
  · have k0 := hS.cell mq (i := 0) rfl; have k1 := hS.cell mq (i := 1) rfl; have k2 := hS.cell mq (i := 2) rfl; clear hS HS; go_simp
  try simp only [Act.put]
  refine wpAnyH_ready (rs := [3]) (by kernel_rfl) (by simp) ?_
  refine AllReadyH.cons rfl (fun K hK => ?_) AllReadyH.nil
  go_simp
  refine (HS.out.size (r := q) ⟨B, cb, rfl, HV.out.below ((Below.refl _ _).drew)⟩ hv).mono ?_
  rintro e w1 ⟨rfl, h1, b1⟩
  refine hK.out _ _ h1.ks (fun hS1 => ?_)
  clear hK K hS0
  have hS0 := hS1
  clear hS1
  try simp only [Act.put, List.setIfInBounds_toArray, List.set_cons_zero, List.set_cons_succ]
  replace HS := Lib.hid h1
  clear h1
  clear b1
  refine wpAnyH_ready (rs := [4]) (by kernel_rfl) (by simp) ?_
  refine AllReadyH.cons rfl (fun K hK => ?_) AllReadyH.nil
  go_simp
  refine (HS.out.takey hz (Nat.le_refl _)).mono ?_
  rintro e w2 ⟨v2, rfl, pv2, h2⟩
  refine hK.out _ _ h2.ks (fun hS2 => ?_)
  clear hK K hS0
  have hS0 := hS2
  clear hS2
  try simp only [Act.put, List.setIfInBounds_toArray, List.set_cons_zero, List.set_cons_succ]
  replace HS := Lib.hid h2
  clear h2
  rw [cutL_all hv hk0] at pv2
  refine wpAnyH_ready (rs := [5]) (by kernel_rfl) (by simp) ?_
  refine AllReadyH.cons rfl (fun K hK => ?_) AllReadyH.nil
  go_simp
  refine (HS.out.add pv2 hv hk0 hL).mono ?_
  rintro e w3 ⟨rfl, O3, h3⟩
  refine hK.out _ _ h3.ks (fun hS3 => ?_)
  clear hK K hS0
  have hS0 := hS3
  clear hS3
  try simp only [Act.put, List.setIfInBounds_toArray, List.set_cons_zero, List.set_cons_succ]
  replace HS := Lib.hid h3
  clear h3
  refine wpAnyH_done (by kernel_rfl) (fall_n ?_) _
  clear hS0
  gi_wp2
  exact HQ.out _ _ _ HS.out
end Go.Proofs.YtbbpapaobehlcaaDoor.low


/-
  The program's composition: what its rounds do to the units that are left (the composition's invariant).
-/
namespace Go.Proofs.YtbbpapaobehlcaaDoor.low
open Go.RowKit
set_option linter.unusedVariables false

theorem Vp.form {p : Pt} (h : Vp p) (h0 : 0 < sizeP p) : (p.kind = 1 ∧ p = ⟨1, (sizeP p : Int), []⟩ ∧ unitsP p = List.replicate (sizeP p) .k) ∨ (p.kind = 3 ∧ p = ⟨3, (sizeP p : Int), []⟩ ∧ unitsP p = List.replicate (sizeP p) .d) ∨ (p.kind = 2 ∧ p = ⟨2, 0, p.signs⟩ ∧ sizeP p = p.signs.length ∧ unitsP p = p.signs.map .p) := by
  obtain ⟨k, m, zs⟩ := p
  rcases h with ⟨h1, h2, h3, h4⟩ | ⟨h1, h2, h3⟩ | ⟨h1, h2, h3⟩ <;> simp only at * <;> subst_vars
  · rcases h1 with rfl | rfl
    · exact .inl ⟨rfl, by simp [sizeP, Int.toNat_of_nonneg h2], by simp [sizeP, unitsP]⟩
    · exact .inr (.inl ⟨rfl, by simp [sizeP, Int.toNat_of_nonneg h2], by simp [sizeP, unitsP]⟩)
  · exact .inr (.inr ⟨rfl, rfl, by simp [sizeP], by simp [unitsP]⟩)
  · simp [sizeP] at h0
theorem Vp.kind_ne {p : Pt} (h : Vp p) (h0 : 0 < sizeP p) : ¬ p.kind = 0 := by
  rcases h.form h0 with h | h | h <;> omega
theorem units_cut {p : Pt} {n : Nat} (h : Vp p) (hn : n ≤ sizeP p) : unitsP p = unitsP (cutL p n) ++ unitsP (cutR p n) := by
  obtain ⟨k, m, zs⟩ := p
  rcases h with ⟨h1, h2, h3, h4⟩ | ⟨h1, h2, h3⟩ | ⟨h1, h2, h3⟩ <;> simp only at * <;> subst_vars
  · rcases h1 with rfl | rfl
    · simp [sizeP] at hn
      simp [unitsP, cutL, cutR]
      congr 1
      omega
    · simp [sizeP] at hn
      simp [unitsP, cutL, cutR]
      congr 1
      omega
  · simp [unitsP, cutL, cutR]
  · simp [sizeP] at hn
    subst hn
    simp [unitsP, cutL, cutR]
theorem units_cutR_all {p : Pt} (h : Vp p) : unitsP (cutR p (sizeP p)) = [] := by
  have e := congrArg List.length (units_cut h (Nat.le_refl (sizeP p)))
  rw [List.length_append, unitsP_len, unitsP_len (cutL p (sizeP p))] at e
  have : sizeP (cutL p (sizeP p)) = sizeP p := by
    obtain ⟨k, m, zs⟩ := p
    rcases h with ⟨h1, h2, h3, h4⟩ | ⟨h1, h2, h3⟩ | ⟨h1, h2, h3⟩ <;> simp only at * <;> subst_vars
    · have hk : ¬ k = 2 := by omega
      simp [sizeP, cutL, hk]
      omega
    · simp [sizeP, cutL]
    · simp [sizeP, cutL]
  exact List.eq_nil_of_length_eq_zero (by omega)
theorem sizeP_nil {p : Pt} (h : sizeP p = 0) : unitsP p = [] := List.eq_nil_of_length_eq_zero (by rw [unitsP_len, h])
theorem noD_of {p : Pt} {R : List U} (h : Vp p) (h0 : 0 < sizeP p) (hk : ¬ p.kind = 3) : noD (unitsP p ++ R) := by
  rcases h.form h0 with ⟨_, _, e⟩ | ⟨k, _⟩ | ⟨_, _, l, e⟩
  · rw [e]
    obtain ⟨m, hm⟩ : ∃ m, sizeP p = m + 1 := ⟨sizeP p - 1, by omega⟩
    rw [hm, List.replicate_succ]
    trivial
  · exact absurd k hk
  · rw [e]
    cases hz : p.signs with
    | nil => rw [hz] at l; simp at l; omega
    | cons z zs => trivial
theorem tgt_pos {p : Pt} {R : List U} (h : Vp p) (h0 : 0 < sizeP p) (hk : ¬ p.kind = 3) : 0 < tgt (unitsP p ++ R) := by
  rw [tgt_app]
  rcases h.form h0 with ⟨_, _, e⟩ | ⟨k, _⟩ | ⟨_, _, l, e⟩
  · rw [e, (src_rk _).2]; omega
  · exact absurd k hk
  · rw [e, (src_mp _).2]; omega
theorem src_pos {p : Pt} {R : List U} (h : Vp p) (h0 : 0 < sizeP p) (hk : ¬ p.kind = 2) : 0 < src (unitsP p ++ R) := by
  rw [src_app]
  rcases h.form h0 with ⟨_, _, e⟩ | ⟨k, _, e⟩ | ⟨k, _⟩
  · rw [e, (src_rk _).1]; omega
  · rw [e, (src_rd _).1]; omega
  · exact absurd k hk
section
variable {a b L : List Pt} {p q : Pt} {R S RX RY : List U}
theorem CInv.eD (h : CInv a b (unitsP p ++ R) RY L) (hv : Vp p) (h0 : 0 < sizeP p) (hk : p.kind = 3) : CInv a b (unitsP (cutR p (sizeP p)) ++ R) RY (L ++ [p]) := by
  rw [units_cutR_all hv, List.nil_append]
  rcases hv.form h0 with ⟨k, _⟩ | ⟨_, e1, e2⟩ | ⟨k, _⟩
  · omega
  · rw [e2] at h
    rw [e1]
    exact h.drop h0
  · omega
theorem CInv.eP (h : CInv a b RX (unitsP q ++ S) L) (hd : noD RX) (hv : Vp q) (h0 : 0 < sizeP q) (hk : q.kind = 2) : CInv a b RX (unitsP (cutR q (sizeP q)) ++ S) (L ++ [q]) := by
  rw [units_cutR_all hv, List.nil_append]
  rcases hv.form h0 with ⟨k, _⟩ | ⟨k, _⟩ | ⟨_, e1, l, e2⟩
  · omega
  · omega
  · rw [e2] at h
    rw [e1]
    exact h.put hd (by omega)
theorem cutL_n {n : Nat} (hk : ¬ p.kind = 2) : cutL p n = ⟨p.kind, (n : Int), []⟩ := by simp [cutL, hk]
theorem cutL_p {n : Nat} (hk : p.kind = 2) : cutL p n = ⟨2, 0, p.signs.take n⟩ := by simp [cutL, hk]
theorem CInv.eB {m : Nat} (h : CInv a b (unitsP p ++ R) (unitsP q ++ S) L) (hv : Vp p) (hw : Vp q) (h0 : 0 < m) (h1 : m ≤ sizeP p) (h2 : m ≤ sizeP q) (hk : ¬ p.kind = 3) (hk' : ¬ q.kind = 2) : CInv a b (unitsP (cutR p m) ++ R) (unitsP (cutR q m) ++ S) (bothL L (cutL p m) (cutL q m)) := by
  rw [units_cut hv h1, units_cut hw h2, List.append_assoc, List.append_assoc] at h
  rcases hv.form (by omega) with ⟨kp, _⟩ | ⟨kp, _⟩ | ⟨kp, _, lp, _⟩
  · have ep := cutL_n (p := p) (n := m) (by omega)
    rw [kp] at ep
    have up : unitsP (cutL p m) = List.replicate m .k := by rw [ep]; simp [unitsP]
    rcases hw.form (by omega) with ⟨kq, _⟩ | ⟨kq, _⟩ | ⟨kq, _⟩
    · have eq := cutL_n (p := q) (n := m) (by omega)
      rw [kq] at eq
      have uq : unitsP (cutL q m) = List.replicate m .k := by rw [eq]; simp [unitsP]
      rw [up, uq] at h
      rw [ep, eq]
      simpa [bothL] using h.kk h0
    · have eq := cutL_n (p := q) (n := m) (by omega)
      rw [kq] at eq
      have uq : unitsP (cutL q m) = List.replicate m .d := by rw [eq]; simp [unitsP]
      rw [up, uq] at h
      rw [ep, eq]
      simpa [bothL] using h.kd h0
    · omega
  · omega
  · have ep := cutL_p (p := p) (n := m) kp
    have lz : (p.signs.take m).length = m := by rw [List.length_take]; omega
    have up : unitsP (cutL p m) = (p.signs.take m).map .p := by rw [ep]; simp [unitsP]
    rcases hw.form (by omega) with ⟨kq, _⟩ | ⟨kq, _⟩ | ⟨kq, _⟩
    · have eq := cutL_n (p := q) (n := m) (by omega)
      rw [kq] at eq
      have uq : unitsP (cutL q m) = List.replicate (p.signs.take m).length .k := by rw [eq, lz]; simp [unitsP]
      rw [up, uq] at h
      rw [ep, eq]
      simpa [bothL] using h.pk (by omega)
    · have eq := cutL_n (p := q) (n := m) (by omega)
      rw [kq] at eq
      have uq : unitsP (cutL q m) = List.replicate (p.signs.take m).length .d := by rw [eq, lz]; simp [unitsP]
      rw [up, uq] at h
      rw [ep, eq]
      simpa [bothL] using h.pd
    · omega
end
theorem cutR_len {p : Pt} {n : Nat} (h : Vp p) (hn : n ≤ sizeP p) (h0 : 0 < n) : (unitsP (cutR p n)).length < (unitsP p).length := by
  have e := congrArg List.length (units_cut h hn)
  have l : (unitsP (cutL p n)).length = n := by
    obtain ⟨k, m, zs⟩ := p
    rcases h with ⟨h1, h2, h3, h4⟩ | ⟨h1, h2, h3⟩ | ⟨h1, h2, h3⟩ <;> simp only at * <;> subst_vars
    · have hk : ¬ k = 2 := by omega
      rw [unitsP_len]
      simp [sizeP, cutL, hk]
    · simp [sizeP] at hn
      rw [unitsP_len]
      simp [sizeP, cutL]
      omega
    · simp [sizeP] at hn
      omega
  rw [List.length_append, l] at e
  omega
/-- what lies below F.lo reads the same in two worlds of the state -/
theorem Co.rd {F : Fz} {KL KM : List (Nat × Obj)} {O O' : Nat → Prop} {L L' : List Pt} {w w' : World} {p p' : Pt} {ps ps' : List Pt} {q q' : Pt} {qs qs' : List Pt} (h : Co F KL O L w p ps q qs) (h' : Co F KM O' L' w' p' ps' q' qs') {d : Dat} {v : Value} (hr : RdC w F.lo d v) : RdC w' F.lo d v :=
  RdC.keep (fun _ hp => (h'.bl.cell hp).trans (h.bl.cell hp).symm) d v hr
end Go.Proofs.YtbbpapaobehlcaaDoor.low


/-
  The ranges over functions of impl.composed, as statements.
-/
namespace Go.Proofs.YtbbpapaobehlcaaDoor.low
open Go.RowKit
set_option linter.unusedVariables false
attribute [local go_sem] Oper.semAt_some


theorem wpIn_body {F : Fence} {n : Nat} {P : Program} {c c' : Code} {Q : Exit → Act → World → Prop} {a : Act} {w : World} (e : c = c') (h : c'.wpIn F n P Q a w) : c.wpIn F n P Q a w := e ▸ h
theorem rem_enters (args : Array Value) (w : World) : (callFunc 96 args).run Tryd.prog w = .ok (.enter 96 args) w := enters_of Tryd.func96 (by kernel_rfl) rfl args w
/-- the value that a reader holds -/
theorem Orr.val {lo g : Nat} {w : World} {p : Pt} {ps : List Pt} (h : Orr lo g w p ps) : ∃ B cb, w.cell? ⟨g, 0, none⟩ = some (.int .i64 p.kind) ∧ w.cell? ⟨g, 1, none⟩ = some (.int .i64 p.n) ∧ w.cell? ⟨g, 2, none⟩ = some (.slice B p.signs.length cb) ∧ RdC w lo (encInts p.signs) (.slice B p.signs.length cb) := by
  obtain ⟨B, cb, A, c, h1, h2, h3⟩ := h.box
  exact ⟨B, cb, cell_of_row _ _ 0 _ _ _ h1, cell_of_row _ _ 1 _ _ _ h1, cell_of_row _ _ 2 _ _ _ h1, h2⟩
/-- the inner loop between two rounds -/
def InJ (F : Fz) (KL : List (Nat × Obj)) (a b : List Pt) (p : Pt) (ps : List Pt) (m : Nat) (w : World) : Prop := ∃ O L q qs, Co F KL O L w p ps q qs ∧ CInv a b (unitsP p ++ units ps) (unitsP q ++ units qs) L ∧ m = (unitsP q ++ units qs).length
/-- a part of b has come -/
def InY (F : Fz) (KL : List (Nat × Obj)) (a b : List Pt) (p : Pt) (ps : List Pt) (m : Nat) (q : Pt) (v : Value) (w : World) : Prop := ∃ O L qs B cb, v = .agg #[.int .i64 q.kind, .int .i64 q.n, .slice B q.signs.length cb] ∧ RdC w F.lo (encInts q.signs) (.slice B q.signs.length cb) ∧ Co F KL O L w p ps q qs ∧ CInv a b (unitsP p ++ units ps) (unitsP q ++ units qs) L ∧ m = (unitsP q ++ units qs).length ∧ 0 < sizeP q
/-- a part of a has met one of b -/
def InX (F : Fz) (KL : List (Nat × Obj)) (a b : List Pt) (p : Pt) (ps : List Pt) (w : World) : Prop := ∃ O L p' q' qs', Co F KL O L w p' ps q' qs' ∧ CInv a b (unitsP p' ++ units ps) (unitsP q' ++ units qs') L ∧ (unitsP p').length < (unitsP p).length
theorem InX.put {F : Fz} {KL : List (Nat × Obj)} {a b : List Pt} {p : Pt} {ps : List Pt} {w : World} {l : Nat} {o o' : Obj} (h : InX F ((l, o) :: KL) a b p ps w) (hn : ∀ x ∈ KL, ¬ x.1 = l) : InX F ((l, o') :: KL) a b p ps (w.putObj l o') := by
  obtain ⟨O, L, p', q', qs', h1, h2⟩ := h
  exact ⟨O, L, p', q', qs', h1.put hn, h2⟩
theorem InX.less {F : Fz} {KL KM : List (Nat × Obj)} {a b : List Pt} {p : Pt} {ps : List Pt} {w : World} (h : InX F KL a b p ps w) (hs : ∀ x ∈ KM, x ∈ KL) : InX F KM a b p ps w := by
  obtain ⟨O, L, p', q', qs', h1, h2⟩ := h
  exact ⟨O, L, p', q', qs', h1.less hs, h2⟩
/-- a look for more in b: there is more -/
theorem inMore {F : Fz} {KL : List (Nat × Obj)} {a b : List Pt} {p : Pt} {ps : List Pt} (hz : 0 < sizeP p) (hk : ¬ p.kind = 3) (m : Nat) (w : World) (h : InJ F KL a b p ps m w) : Calls Tryd.prog 121 #[.pointer (some ⟨F.gy, 0, none⟩)] w (MoreJ F.gy (InY F KL a b p ps m) (fun _ => False)) := by
  obtain ⟨O, L, q, qs, hc, hi, hm⟩ := h
  refine hc.morey.mono ?_
  rintro e w' ⟨q', qs', rfl, h1, h2, h3⟩
  have hi' : CInv a b (unitsP p ++ units ps) (unitsP q' ++ units qs') L := by rw [h2]; exact hi
  by_cases h0 : 0 < sizeP q'
  · obtain ⟨B, cb, k0, k1, k2, kr⟩ := h1.oy.val
    exact .inl ⟨q', B, cb, by simp [h0], k0, k1, k2, O, L, qs', B, cb, rfl, kr, h1, hi', by rw [h2]; exact hm, h0⟩
  · have e1 := sizeP_nil (p := q') (by omega)
    have e2 := h3 (by omega)
    have hb := hi'.bal
    rw [e1, e2] at hb
    have := tgt_pos (R := units ps) h1.ox.vp hz hk
    have e0 : src ([] ++ units []) = 0 := by simp [units, src]
    rw [e0] at hb
    omega

set_option maxRecDepth 1000000 in
set_option maxHeartbeats 3200000 in
/-- a round of the inner loop -/
theorem inYield (F : Fz) (base : List (Nat × Obj)) (a b : List Pt) (p : Pt) (ps : List Pt) (bx bY bo bp l2 n D : Nat) (fn : FuncId) (A : Option Addr) (ca : Nat) {c0 c1 c2 c3 c4 c9 c10 c11 c12 c13 c14 c15 c16 c17 c18 c19 c20 c21 c22 c23 c24 c25 c26 c27 c28 c29 c30 c31 c32 c34 c35 c36 c37 c38 c39 c40 c41 c42 c43 c44 c45 c46 c47 c48 c49 c50 c51 c52 c53 c54 c55 c56 c57 c58 c59 c60 c61 c62 c63 c64 c65 c66 c67 : Value} (mx : (bx, Obj.cells #[.pointer (some ⟨F.gx, 0, none⟩)] 109 (0, 0)) ∈ base) (my : (bY, Obj.cells #[.pointer (some ⟨F.gy, 0, none⟩)] 109 (0, 0)) ∈ base) (mo : (bo, Obj.cells #[.pointer (some ⟨F.go, 0, none⟩)] 60 (0, 0)) ∈ base) (mp : (bp, Obj.cells #[.int .i64 p.kind, .int .i64 p.n, .slice A p.signs.length ca] 64 (0, 0)) ∈ base) (hr : RdC F.w0 F.lo (encInts p.signs) (.slice A p.signs.length ca)) (hz : 0 < sizeP p) (hkp : ¬ p.kind = 3) (hnl : ∀ x ∈ base, ¬ x.1 = l2)
    (r2 : Loop) (hr2 : r2 = recOf fn #[c0, c1, c2, c3, c4, .pointer (some ⟨bx, 0, none⟩), .pointer (some ⟨bY, 0, none⟩), .pointer (some ⟨bo, 0, none⟩), .pointer (some ⟨bp, 0, none⟩), c9, c10, c11, c12, c13, c14, c15, c16, c17, c18, c19, c20, c21, c22, c23, c24, c25, c26, c27, c28, c29, c30, c31, c32, .func (.func 96) #[.pointer (some ⟨F.gy, 0, none⟩)] #[], c34, c35, c36, c37, c38, c39, c40, c41, c42, c43, c44, c45, c46, c47, c48, c49, c50, c51, c52, c53, c54, c55, c56, c57, c58, c59, c60, c61, c62, c63, c64, c65, c66, c67] #[34] (rfA 1) (rfB 1) D) (m : Nat) (q' : Pt) (v : Value) (w : World) (h : InY F ((l2, .loop r2) :: base) a b p ps m q' v w) :
    YieldAt Fence.wide n Tryd.prog l2 #[v] w (RoundJ (InJ F ((l2, .loop r2) :: base) a b p ps) m (fun w' => InX F ((l2, .loop { r2 with state := .done, pending := some (.exit 1) }) :: base) a b p ps w')) := by
  obtain ⟨O, L, qs, B, cb, rfl, hrq, hc, hi, hm, h0⟩ := h
  have hl := (hc.kp _ (List.mem_cons_self)).1
  simp only at hl
  have hlt := lt_of_some hl
  have hLb : L.length < 100000 := by have := hi.len; omega
  refine yield_of (r := r2) (K := fun a₁ w₁ => a₁ = ⟨#[c0, c1, c2, c3, c4, .pointer (some ⟨bx, 0, none⟩), .pointer (some ⟨bY, 0, none⟩), .pointer (some ⟨bo, 0, none⟩), .pointer (some ⟨bp, 0, none⟩), .pointer (some ⟨w.heap.size, 0, none⟩), c10, c11, c12, c13, c14, c15, c16, c17, c18, c19, c20, c21, c22, c23, c24, c25, c26, c27, c28, c29, c30, c31, c32, .func (.func 96) #[.pointer (some ⟨F.gy, 0, none⟩)] #[], (.agg #[.int .i64 q'.kind, .int .i64 q'.n, .slice B q'.signs.length cb]), c35, c36, c37, c38, c39, c40, c41, c42, c43, c44, c45, c46, c47, c48, c49, c50, c51, c52, c53, c54, c55, c56, c57, c58, c59, c60, c61, c62, c63, c64, c65, c66, c67], []⟩ ∧ w₁ = w.alloc (.cells #[.int .i64 q'.kind, .int .i64 q'.n, .slice B q'.signs.length cb] 64)) hl (by rw [hr2]; rfl) (by rw [hr2]; rfl) ?assign ?body
  case assign =>
    have HR2 := Lib.hid hr2
    clear hr2 hm hi hc hrq
    rw [HR2.out]
    simp only [recOf, List.zip_toArray, List.zip_cons_cons, List.zip_nil_right, List.size_toArray, List.length_cons, List.length_nil, List.foldl_toArray', List.foldl_cons, List.foldl_nil, List.setIfInBounds_toArray, List.set_cons_zero, List.set_cons_succ]
    conv => arg 4; whnf
    gi_wp2
  case body =>
    rintro a₁ w₁ ⟨rfl, rfl⟩
    have hb := alloc_below w (.cells #[.int .i64 q'.kind, .int .i64 q'.n, .slice B q'.signs.length cb] 64)
    refine ⟨(hb.block _ hlt).trans hl, ?_⟩
    have c1 := hc.also hb (Nat.le_refl _) (heap_alloc_new w (.cells #[.int .i64 q'.kind, .int .i64 q'.n, .slice B q'.signs.length cb] 64))
    have c2 : Co F ((l2, .loop r2) :: (w.heap.size, .cells #[.int .i64 q'.kind, .int .i64 q'.n, .slice B q'.signs.length cb] 64) :: base) O L (w.alloc (.cells #[.int .i64 q'.kind, .int .i64 q'.n, .slice B q'.signs.length cb] 64)) p ps q' qs := c1.less (fun x hx => by simp only [List.mem_cons] at hx ⊢; rcases hx with h | h | h <;> simp [h])
    have hn2 : ∀ x ∈ (w.heap.size, .cells #[.int .i64 q'.kind, .int .i64 q'.n, .slice B q'.signs.length cb] 64) :: base, ¬ x.1 = l2 := fun x hx => by
      rcases List.mem_cons.1 hx with rfl | hx
      · show ¬ w.heap.size = l2; omega
      · exact hnl x hx
    have c3 := c2.put (o' := .loop { r2 with state := .busy }) hn2
    have eb : r2.body = rfB 1 := by rw [hr2]; rfl
    have ed : Loop.mk .ready none r2.fn r2.tmps r2.params r2.assign r2.body r2.defers = r2 := by rw [hr2]; rfl
    have hv := hc.ox.vp
    have hw := hc.oy.vp
    have hdrop : ∀ (o : Obj) (x : Nat × Obj), x ∈ (l2, o) :: base → x ∈ (l2, o) :: (w.heap.size, .cells #[.int .i64 q'.kind, .int .i64 q'.n, .slice B q'.signs.length cb] 64) :: base := fun o x hx => by
      rcases List.mem_cons.1 hx with h | h <;> simp [h]
    refine wpIn_body eb ?_
    by_cases hk : q'.kind = 2
    · refine innP F _ O L _ p ps q' qs bx bY bo bp w.heap.size l2 n A B ca cb _ c3 (by simp [mx]) (by simp [my]) (by simp [mo]) (by simp) (hc.rd c3 hrq) hk h0 hLb ?_
      intro O' a' W' c4
      refine ⟨c4.ks (l2, _) (by simp), .inl ⟨rfl, (unitsP (cutR q' (sizeP q')) ++ units qs).length, ?_, O', L ++ [q'], cutR q' (sizeP q'), qs, ?_, hi.eP (noD_of hv hz hkp) hw h0 hk, rfl⟩⟩
      · rw [hm, units_cutR_all hw, List.length_append, List.length_append, unitsP_len]
        simp
        omega
      · have c5 := (c4.put (o' := .loop r2) hn2).less (hdrop _)
        rw [← ed] at c5 ⊢
        exact c5
    · refine innB F _ O L _ p ps q' qs bx bY bo bp w.heap.size l2 n A B ca cb _ c3 (by simp [mx]) (by simp [my]) (by simp [mo]) (by simp [mp]) (by simp) (RdC.keep (fun _ hp => c3.bl.cell hp) _ _ hr) (hc.rd c3 hrq) hk (hv.kind_ne hz) (hw.kind_ne h0) hz h0 (min (sizeP p) (sizeP q')) rfl hLb ?_
      intro O' a' W' c4
      refine ⟨c4.ks (l2, _) (by simp), .inr ⟨rfl, O', _, _, _, qs, (c4.put hn2).less (hdrop _), hi.eB hv hw (by omega) (by omega) (by omega) hkp hk, cutR_len hv (by omega) (by omega)⟩⟩

set_option maxRecDepth 1000000 in
set_option maxHeartbeats 3200000 in
/-- the inner loop -/
theorem innLoop (F : Fz) (base : List (Nat × Obj)) (O : Nat → Prop) (L : List Pt) (W : World) (a b : List Pt) (p : Pt) (ps : List Pt) (q : Pt) (qs : List Pt) (bx bY bo bp l n : Nat) (A : Option Addr) (ca : Nat) {c0 c1 c2 c3 c4 c9 c10 c11 c12 c13 c14 c15 c16 c17 c18 c19 c20 c21 c22 c23 c24 c25 c26 c27 c28 c29 c30 c31 c32 c34 c35 c36 c37 c38 c39 c40 c41 c42 c43 c44 c45 c46 c47 c48 c49 c50 c51 c52 c53 c54 c55 c56 c57 c58 c59 c60 c61 c62 c63 c64 c65 c66 c67 : Value} (mx : (bx, Obj.cells #[.pointer (some ⟨F.gx, 0, none⟩)] 109 (0, 0)) ∈ base) (my : (bY, Obj.cells #[.pointer (some ⟨F.gy, 0, none⟩)] 109 (0, 0)) ∈ base) (mo : (bo, Obj.cells #[.pointer (some ⟨F.go, 0, none⟩)] 60 (0, 0)) ∈ base) (mp : (bp, Obj.cells #[.int .i64 p.kind, .int .i64 p.n, .slice A p.signs.length ca] 64 (0, 0)) ∈ base) (hr : RdC F.w0 F.lo (encInts p.signs) (.slice A p.signs.length ca)) (hz : 0 < sizeP p) (hkp : ¬ p.kind = 3)
    (r : Loop) (ml : (l, Obj.loop r) ∈ base) (Q : Exit → Act → World → Prop) (hs : Co F base O L W p ps q qs) (hi : CInv a b (unitsP p ++ units ps) (unitsP q ++ units qs) L) (hQ : ∀ a' W', InX F base a b p ps W' → Q (.exit 1) a' W') :
    (Code.rangeFunc (.tmp 33) #[34] (rfA 1) (rfB 1)).wpIn (Fence.wide.inRound l) n Tryd.prog Q ⟨#[c0, c1, c2, c3, c4, .pointer (some ⟨bx, 0, none⟩), .pointer (some ⟨bY, 0, none⟩), .pointer (some ⟨bo, 0, none⟩), .pointer (some ⟨bp, 0, none⟩), c9, c10, c11, c12, c13, c14, c15, c16, c17, c18, c19, c20, c21, c22, c23, c24, c25, c26, c27, c28, c29, c30, c31, c32, .func (.func 96) #[.pointer (some ⟨F.gy, 0, none⟩)] #[], c34, c35, c36, c37, c38, c39, c40, c41, c42, c43, c44, c45, c46, c47, c48, c49, c50, c51, c52, c53, c54, c55, c56, c57, c58, c59, c60, c61, c62, c63, c64, c65, c66, c67], []⟩ W := by
  have hlt : ∀ x ∈ base, ¬ x.1 = W.heap.size := fun x hx => by have := lt_of_some (hs.kp x hx).1; omega
  have hc1 : ∀ fn, Co F ((W.heap.size, .loop (recOf fn #[c0, c1, c2, c3, c4, .pointer (some ⟨bx, 0, none⟩), .pointer (some ⟨bY, 0, none⟩), .pointer (some ⟨bo, 0, none⟩), .pointer (some ⟨bp, 0, none⟩), c9, c10, c11, c12, c13, c14, c15, c16, c17, c18, c19, c20, c21, c22, c23, c24, c25, c26, c27, c28, c29, c30, c31, c32, .func (.func 96) #[.pointer (some ⟨F.gy, 0, none⟩)] #[], c34, c35, c36, c37, c38, c39, c40, c41, c42, c43, c44, c45, c46, c47, c48, c49, c50, c51, c52, c53, c54, c55, c56, c57, c58, c59, c60, c61, c62, c63, c64, c65, c66, c67] #[34] (rfA 1) (rfB 1) r.defers)) :: base) O L (W.alloc (.loop (recOf fn #[c0, c1, c2, c3, c4, .pointer (some ⟨bx, 0, none⟩), .pointer (some ⟨bY, 0, none⟩), .pointer (some ⟨bo, 0, none⟩), .pointer (some ⟨bp, 0, none⟩), c9, c10, c11, c12, c13, c14, c15, c16, c17, c18, c19, c20, c21, c22, c23, c24, c25, c26, c27, c28, c29, c30, c31, c32, .func (.func 96) #[.pointer (some ⟨F.gy, 0, none⟩)] #[], c34, c35, c36, c37, c38, c39, c40, c41, c42, c43, c44, c45, c46, c47, c48, c49, c50, c51, c52, c53, c54, c55, c56, c57, c58, c59, c60, c61, c62, c63, c64, c65, c66, c67] #[34] (rfA 1) (rfB 1) r.defers))) p ps q qs := fun fn => hs.also (alloc_below _ _) (Nat.le_refl _) (heap_alloc_new W (.loop (recOf fn #[c0, c1, c2, c3, c4, .pointer (some ⟨bx, 0, none⟩), .pointer (some ⟨bY, 0, none⟩), .pointer (some ⟨bo, 0, none⟩), .pointer (some ⟨bp, 0, none⟩), c9, c10, c11, c12, c13, c14, c15, c16, c17, c18, c19, c20, c21, c22, c23, c24, c25, c26, c27, c28, c29, c30, c31, c32, .func (.func 96) #[.pointer (some ⟨F.gy, 0, none⟩)] #[], c34, c35, c36, c37, c38, c39, c40, c41, c42, c43, c44, c45, c46, c47, c48, c49, c50, c51, c52, c53, c54, c55, c56, c57, c58, c59, c60, c61, c62, c63, c64, c65, c66, c67] #[34] (rfA 1) (rfB 1) r.defers)))
  refine rf_inner (l₀ := l) (r₀ := r) (gf := 96) (b := #[.pointer (some ⟨F.gy, 0, none⟩)]) (Jd := fun _ => False) (Jx := fun c w' => c = .exit 1 ∧ ∃ fn, InX F ((W.heap.size, .loop { (recOf fn #[c0, c1, c2, c3, c4, .pointer (some ⟨bx, 0, none⟩), .pointer (some ⟨bY, 0, none⟩), .pointer (some ⟨bo, 0, none⟩), .pointer (some ⟨bp, 0, none⟩), c9, c10, c11, c12, c13, c14, c15, c16, c17, c18, c19, c20, c21, c22, c23, c24, c25, c26, c27, c28, c29, c30, c31, c32, .func (.func 96) #[.pointer (some ⟨F.gy, 0, none⟩)] #[], c34, c35, c36, c37, c38, c39, c40, c41, c42, c43, c44, c45, c46, c47, c48, c49, c50, c51, c52, c53, c54, c55, c56, c57, c58, c59, c60, c61, c62, c63, c64, c65, c66, c67] #[34] (rfA 1) (rfB 1) r.defers) with state := .done, pending := some (.exit 1) }) :: base) a b p ps w') (hs.kp _ ml).1 rfl rem_enters (fun fn => ?_) (fun _ h => h) (fun fn c w' hl hx => ?_)
  · refine (implRemaining (n - 1) F.gy W.heap.size (InJ F ((W.heap.size, .loop (recOf fn #[c0, c1, c2, c3, c4, .pointer (some ⟨bx, 0, none⟩), .pointer (some ⟨bY, 0, none⟩), .pointer (some ⟨bo, 0, none⟩), .pointer (some ⟨bp, 0, none⟩), c9, c10, c11, c12, c13, c14, c15, c16, c17, c18, c19, c20, c21, c22, c23, c24, c25, c26, c27, c28, c29, c30, c31, c32, .func (.func 96) #[.pointer (some ⟨F.gy, 0, none⟩)] #[], c34, c35, c36, c37, c38, c39, c40, c41, c42, c43, c44, c45, c46, c47, c48, c49, c50, c51, c52, c53, c54, c55, c56, c57, c58, c59, c60, c61, c62, c63, c64, c65, c66, c67] #[34] (rfA 1) (rfB 1) r.defers)) :: base) a b p ps) (InY F ((W.heap.size, .loop (recOf fn #[c0, c1, c2, c3, c4, .pointer (some ⟨bx, 0, none⟩), .pointer (some ⟨bY, 0, none⟩), .pointer (some ⟨bo, 0, none⟩), .pointer (some ⟨bp, 0, none⟩), c9, c10, c11, c12, c13, c14, c15, c16, c17, c18, c19, c20, c21, c22, c23, c24, c25, c26, c27, c28, c29, c30, c31, c32, .func (.func 96) #[.pointer (some ⟨F.gy, 0, none⟩)] #[], c34, c35, c36, c37, c38, c39, c40, c41, c42, c43, c44, c45, c46, c47, c48, c49, c50, c51, c52, c53, c54, c55, c56, c57, c58, c59, c60, c61, c62, c63, c64, c65, c66, c67] #[34] (rfA 1) (rfB 1) r.defers)) :: base) a b p ps) (fun _ => False) (fun w' => InX F ((W.heap.size, .loop { (recOf fn #[c0, c1, c2, c3, c4, .pointer (some ⟨bx, 0, none⟩), .pointer (some ⟨bY, 0, none⟩), .pointer (some ⟨bo, 0, none⟩), .pointer (some ⟨bp, 0, none⟩), c9, c10, c11, c12, c13, c14, c15, c16, c17, c18, c19, c20, c21, c22, c23, c24, c25, c26, c27, c28, c29, c30, c31, c32, .func (.func 96) #[.pointer (some ⟨F.gy, 0, none⟩)] #[], c34, c35, c36, c37, c38, c39, c40, c41, c42, c43, c44, c45, c46, c47, c48, c49, c50, c51, c52, c53, c54, c55, c56, c57, c58, c59, c60, c61, c62, c63, c64, c65, c66, c67] #[34] (rfA 1) (rfB 1) r.defers) with state := .done, pending := some (.exit 1) }) :: base) a b p ps w') _ _ (inMore hz hkp) (fun m q' v w h => inYield F base a b p ps bx bY bo bp W.heap.size (n - 1 - 1) r.defers fn A ca mx my mo mp hr hz hkp hlt (recOf fn #[c0, c1, c2, c3, c4, .pointer (some ⟨bx, 0, none⟩), .pointer (some ⟨bY, 0, none⟩), .pointer (some ⟨bo, 0, none⟩), .pointer (some ⟨bp, 0, none⟩), c9, c10, c11, c12, c13, c14, c15, c16, c17, c18, c19, c20, c21, c22, c23, c24, c25, c26, c27, c28, c29, c30, c31, c32, .func (.func 96) #[.pointer (some ⟨F.gy, 0, none⟩)] #[], c34, c35, c36, c37, c38, c39, c40, c41, c42, c43, c44, c45, c46, c47, c48, c49, c50, c51, c52, c53, c54, c55, c56, c57, c58, c59, c60, c61, c62, c63, c64, c65, c66, c67] #[34] (rfA 1) (rfB 1) r.defers) rfl m q' v w h) ⟨O, L, q, qs, hc1 fn, hi, rfl⟩).mono ?_
    rintro e w' ⟨h1, (h2 | h2)⟩
    · exact h2.elim
    · refine ⟨h1, .inr ⟨.exit 1, ?_, rfl, fn, h2⟩⟩
      obtain ⟨O', L', p', q', qs', h3, _⟩ := h2
      exact (h3.kp _ (List.mem_cons_self)).1
  · obtain ⟨rfl, fn', hx⟩ := hx
    refine wpIn_exit (hQ _ _ ?_)
    exact (hx.put (o' := .loop { (recOf fn #[c0, c1, c2, c3, c4, .pointer (some ⟨bx, 0, none⟩), .pointer (some ⟨bY, 0, none⟩), .pointer (some ⟨bo, 0, none⟩), .pointer (some ⟨bp, 0, none⟩), c9, c10, c11, c12, c13, c14, c15, c16, c17, c18, c19, c20, c21, c22, c23, c24, c25, c26, c27, c28, c29, c30, c31, c32, .func (.func 96) #[.pointer (some ⟨F.gy, 0, none⟩)] #[], c34, c35, c36, c37, c38, c39, c40, c41, c42, c43, c44, c45, c46, c47, c48, c49, c50, c51, c52, c53, c54, c55, c56, c57, c58, c59, c60, c61, c62, c63, c64, c65, c66, c67] #[34] (rfA 1) (rfB 1) r.defers) with state := .exhausted, pending := some (.exit 1) }) hlt).less (fun x hx => List.mem_cons_of_mem _ hx)
end Go.Proofs.YtbbpapaobehlcaaDoor.low


/-
  The outer range over a function of impl.composed, and the last one.
-/
namespace Go.Proofs.YtbbpapaobehlcaaDoor.low
open Go.RowKit
set_option linter.unusedVariables false
attribute [local go_sem] Oper.semAt_some


set_option maxRecDepth 1000000 in
set_option maxHeartbeats 3200000 in
/-- the outer round, where a part of a goes on against b -/
theorem outN (F : Fz) (KL : List (Nat × Obj)) (O : Nat → Prop) (L : List Pt) (W : World) (a b : List Pt) (p : Pt) (ps : List Pt) (q : Pt) (qs : List Pt) (bx bY bo bp l n : Nat) (A : Option Addr) (ca : Nat) {c0 c1 c2 c3 c4 c9 c10 c11 c12 c13 c14 c15 c16 c17 c18 c19 c20 c21 c22 c23 c24 c25 c26 c27 c28 c29 c30 c31 c32 c33 c34 c35 c36 c37 c38 c39 c40 c41 c42 c43 c44 c45 c46 c47 c48 c49 c50 c51 c52 c53 c54 c55 c56 c57 c58 c59 c60 c61 c62 c63 c64 c65 c66 c67 : Value} (mx : (bx, Obj.cells #[.pointer (some ⟨F.gx, 0, none⟩)] 109 (0, 0)) ∈ KL) (my : (bY, Obj.cells #[.pointer (some ⟨F.gy, 0, none⟩)] 109 (0, 0)) ∈ KL) (mo : (bo, Obj.cells #[.pointer (some ⟨F.go, 0, none⟩)] 60 (0, 0)) ∈ KL) (mp : (bp, Obj.cells #[.int .i64 p.kind, .int .i64 p.n, .slice A p.signs.length ca] 64 (0, 0)) ∈ KL) (hr : RdC F.w0 F.lo (encInts p.signs) (.slice A p.signs.length ca)) (hz : 0 < sizeP p) (hkp : ¬ p.kind = 3)
    (r : Loop) (ml : (l, Obj.loop r) ∈ KL) (Q : Exit → Act → World → Prop) (hs : Co F KL O L W p ps q qs) (hi : CInv a b (unitsP p ++ units ps) (unitsP q ++ units qs) L) (hQ : ∀ a' W', InX F KL a b p ps W' → Q .normal a' W') :
    (rfB 0).wpIn (Fence.wide.inRound l) n Tryd.prog Q ⟨#[c0, c1, c2, c3, c4, .pointer (some ⟨bx, 0, none⟩), .pointer (some ⟨bY, 0, none⟩), .pointer (some ⟨bo, 0, none⟩), .pointer (some ⟨bp, 0, none⟩), c9, c10, c11, c12, c13, c14, c15, c16, c17, c18, c19, c20, c21, c22, c23, c24, c25, c26, c27, c28, c29, c30, c31, c32, c33, c34, c35, c36, c37, c38, c39, c40, c41, c42, c43, c44, c45, c46, c47, c48, c49, c50, c51, c52, c53, c54, c55, c56, c57, c58, c59, c60, c61, c62, c63, c64, c65, c66, c67], []⟩ W := by
  have k0 : W.cell? ⟨bp, 0, none⟩ = some (.int .i64 p.kind) := hs.ks.cell mp (i := 0) rfl
  have k1 : W.cell? ⟨bY, 0, none⟩ = some (.pointer (some ⟨F.gy, 0, none⟩)) := hs.ks.cell my (i := 0) rfl
  have g0 : (p.kind == 3) = false := by simp [hkp]
  have HS := Lib.hid hs
  have HI := Lib.hid hi
  have HQ := Lib.hid hQ
  have HR := Lib.hid hr
  clear hs hi hQ hr
  conv => arg 4; whnf
  gi_wp2_with fail
  exact innLoop F KL O L W a b p ps q qs bx bY bo bp l n A ca mx my mo mp HR.out hz hkp r ml _ HS.out HI.out (fun a' W' h => by simp only [Exit.inBlock, ↓reduceIte, Nat.reduceEqDiff]; exact HQ.out a' W' h)
def OutJ (F : Fz) (KL : List (Nat × Obj)) (a b : List Pt) (m : Nat) (w : World) : Prop := ∃ O L p ps q qs, Co F KL O L w p ps q qs ∧ CInv a b (unitsP p ++ units ps) (unitsP q ++ units qs) L ∧ m = (unitsP p ++ units ps).length
def OutY (F : Fz) (KL : List (Nat × Obj)) (a b : List Pt) (m : Nat) (p : Pt) (v : Value) (w : World) : Prop := ∃ O L ps q qs B cb, v = .agg #[.int .i64 p.kind, .int .i64 p.n, .slice B p.signs.length cb] ∧ RdC w F.lo (encInts p.signs) (.slice B p.signs.length cb) ∧ Co F KL O L w p ps q qs ∧ CInv a b (unitsP p ++ units ps) (unitsP q ++ units qs) L ∧ m = (unitsP p ++ units ps).length ∧ 0 < sizeP p
def EndJ (F : Fz) (KL : List (Nat × Obj)) (a b : List Pt) (m : Nat) (w : World) : Prop := ∃ O L p q qs, Co F KL O L w p [] q qs ∧ CInv a b [] (unitsP q ++ units qs) L ∧ m = (unitsP q ++ units qs).length
def OutD (F : Fz) (KL : List (Nat × Obj)) (a b : List Pt) (w : World) : Prop := ∃ m, EndJ F KL a b m w
def EndY (F : Fz) (KL : List (Nat × Obj)) (a b : List Pt) (m : Nat) (q : Pt) (v : Value) (w : World) : Prop := ∃ O L p qs B cb, v = .agg #[.int .i64 q.kind, .int .i64 q.n, .slice B q.signs.length cb] ∧ RdC w F.lo (encInts q.signs) (.slice B q.signs.length cb) ∧ Co F KL O L w p [] q qs ∧ CInv a b [] (unitsP q ++ units qs) L ∧ m = (unitsP q ++ units qs).length ∧ 0 < sizeP q
def EndD (F : Fz) (KL : List (Nat × Obj)) (a b : List Pt) (w : World) : Prop := ∃ O L p q, Co F KL O L w p [] q [] ∧ CInv a b [] [] L
theorem outMore {F : Fz} {KL : List (Nat × Obj)} {a b : List Pt} (m : Nat) (w : World) (h : OutJ F KL a b m w) : Calls Tryd.prog 121 #[.pointer (some ⟨F.gx, 0, none⟩)] w (MoreJ F.gx (OutY F KL a b m) (OutD F KL a b)) := by
  obtain ⟨O, L, p, ps, q, qs, hc, hi, hm⟩ := h
  refine hc.morex.mono ?_
  rintro e w' ⟨q', qs', rfl, h1, h2, h3⟩
  rw [← h2] at hi hm
  by_cases h0 : 0 < sizeP q'
  · obtain ⟨B, cb, k0, k1, k2, kr⟩ := h1.ox.val
    exact .inl ⟨q', B, cb, by simp [h0], k0, k1, k2, O, L, qs', q, qs, B, cb, rfl, kr, h1, hi, hm, h0⟩
  · have e1 := sizeP_nil (p := q') (by omega)
    obtain rfl := h3 (by omega)
    rw [e1] at hi
    exact .inr ⟨by simp [h0], _, O, L, q', q, qs, h1, hi, rfl⟩
theorem endMore {F : Fz} {KL : List (Nat × Obj)} {a b : List Pt} (m : Nat) (w : World) (h : EndJ F KL a b m w) : Calls Tryd.prog 121 #[.pointer (some ⟨F.gy, 0, none⟩)] w (MoreJ F.gy (EndY F KL a b m) (EndD F KL a b)) := by
  obtain ⟨O, L, p, q, qs, hc, hi, hm⟩ := h
  refine hc.morey.mono ?_
  rintro e w' ⟨q', qs', rfl, h1, h2, h3⟩
  rw [← h2] at hi hm
  by_cases h0 : 0 < sizeP q'
  · obtain ⟨B, cb, k0, k1, k2, kr⟩ := h1.oy.val
    exact .inl ⟨q', B, cb, by simp [h0], k0, k1, k2, O, L, p, qs', B, cb, rfl, kr, h1, hi, hm, h0⟩
  · have e1 := sizeP_nil (p := q') (by omega)
    obtain rfl := h3 (by omega)
    rw [e1] at hi
    exact .inr ⟨by simp [h0], O, L, p, q', h1, hi⟩

set_option maxRecDepth 1000000 in
set_option maxHeartbeats 3200000 in
theorem outYield (F : Fz) (base : List (Nat × Obj)) (a b : List Pt) (bx bY bo l n D : Nat) (fn : FuncId) {c0 c1 c2 c3 c4 c8 c9 c10 c11 c12 c13 c14 c15 c16 c17 c18 c19 c20 c22 c23 c24 c25 c26 c27 c28 c29 c30 c31 c32 c33 c34 c35 c36 c37 c38 c39 c40 c41 c42 c43 c44 c45 c46 c47 c48 c49 c50 c51 c52 c53 c54 c55 c56 c57 c58 c59 c60 c61 c62 c63 c64 c65 c66 c67 : Value} (mx : (bx, Obj.cells #[.pointer (some ⟨F.gx, 0, none⟩)] 109 (0, 0)) ∈ base) (my : (bY, Obj.cells #[.pointer (some ⟨F.gy, 0, none⟩)] 109 (0, 0)) ∈ base) (mo : (bo, Obj.cells #[.pointer (some ⟨F.go, 0, none⟩)] 60 (0, 0)) ∈ base) (hnl : ∀ x ∈ base, ¬ x.1 = l)
    (r : Loop) (hr2 : r = recOf fn #[c0, c1, c2, c3, c4, .pointer (some ⟨bx, 0, none⟩), .pointer (some ⟨bY, 0, none⟩), .pointer (some ⟨bo, 0, none⟩), c8, c9, c10, c11, c12, c13, c14, c15, c16, c17, c18, c19, c20, .func (.func 96) #[.pointer (some ⟨F.gx, 0, none⟩)] #[], c22, c23, c24, c25, c26, c27, c28, c29, c30, c31, c32, c33, c34, c35, c36, c37, c38, c39, c40, c41, c42, c43, c44, c45, c46, c47, c48, c49, c50, c51, c52, c53, c54, c55, c56, c57, c58, c59, c60, c61, c62, c63, c64, c65, c66, c67] #[22] (rfA 0) (rfB 0) D) (m : Nat) (p : Pt) (v : Value) (w : World) (h : OutY F ((l, .loop r) :: base) a b m p v w) :
    YieldAt Fence.wide n Tryd.prog l #[v] w (RoundJ (OutJ F ((l, .loop r) :: base) a b) m (fun _ => False)) := by
  obtain ⟨O, L, ps, q, qs, B, cb, rfl, hrq, hc, hi, hm, h0⟩ := h
  have hl := (hc.kp _ (List.mem_cons_self)).1
  simp only at hl
  have hlt := lt_of_some hl
  have hLb : L.length < 100000 := by have := hi.len; omega
  refine yield_of (r := r) (K := fun a₁ w₁ => a₁ = ⟨#[c0, c1, c2, c3, c4, .pointer (some ⟨bx, 0, none⟩), .pointer (some ⟨bY, 0, none⟩), .pointer (some ⟨bo, 0, none⟩), .pointer (some ⟨w.heap.size, 0, none⟩), c9, c10, c11, c12, c13, c14, c15, c16, c17, c18, c19, c20, .func (.func 96) #[.pointer (some ⟨F.gx, 0, none⟩)] #[], (.agg #[.int .i64 p.kind, .int .i64 p.n, .slice B p.signs.length cb]), c23, c24, c25, c26, c27, c28, c29, c30, c31, c32, c33, c34, c35, c36, c37, c38, c39, c40, c41, c42, c43, c44, c45, c46, c47, c48, c49, c50, c51, c52, c53, c54, c55, c56, c57, c58, c59, c60, c61, c62, c63, c64, c65, c66, c67], []⟩ ∧ w₁ = w.alloc (.cells #[.int .i64 p.kind, .int .i64 p.n, .slice B p.signs.length cb] 64)) hl (by rw [hr2]; rfl) (by rw [hr2]; rfl) ?assign ?body
  case assign =>
    have HR2 := Lib.hid hr2
    clear hr2 hm hi hc hrq
    rw [HR2.out]
    simp only [recOf, List.zip_toArray, List.zip_cons_cons, List.zip_nil_right, List.size_toArray, List.length_cons, List.length_nil, List.foldl_toArray', List.foldl_cons, List.foldl_nil, List.setIfInBounds_toArray, List.set_cons_zero, List.set_cons_succ]
    conv => arg 4; whnf
    gi_wp2
  case body =>
    rintro a₁ w₁ ⟨rfl, rfl⟩
    have hb := alloc_below w (.cells #[.int .i64 p.kind, .int .i64 p.n, .slice B p.signs.length cb] 64)
    refine ⟨(hb.block _ hlt).trans hl, ?_⟩
    have d1 := hc.also hb (Nat.le_refl _) (heap_alloc_new w (.cells #[.int .i64 p.kind, .int .i64 p.n, .slice B p.signs.length cb] 64))
    have d2 : Co F ((l, .loop r) :: (w.heap.size, .cells #[.int .i64 p.kind, .int .i64 p.n, .slice B p.signs.length cb] 64) :: base) O L (w.alloc (.cells #[.int .i64 p.kind, .int .i64 p.n, .slice B p.signs.length cb] 64)) p ps q qs := d1.less (fun x hx => by simp only [List.mem_cons] at hx ⊢; rcases hx with h | h | h <;> simp [h])
    have hn2 : ∀ x ∈ (w.heap.size, .cells #[.int .i64 p.kind, .int .i64 p.n, .slice B p.signs.length cb] 64) :: base, ¬ x.1 = l := fun x hx => by
      rcases List.mem_cons.1 hx with rfl | hx
      · show ¬ w.heap.size = l; omega
      · exact hnl x hx
    have d3 := d2.put (o' := .loop { r with state := .busy }) hn2
    have eb : r.body = rfB 0 := by rw [hr2]; rfl
    have ed : Loop.mk .ready none r.fn r.tmps r.params r.assign r.body r.defers = r := by rw [hr2]; rfl
    have hv := hc.ox.vp
    have hw := hc.oy.vp
    have hdrop : ∀ (o : Obj) (x : Nat × Obj), x ∈ (l, o) :: base → x ∈ (l, o) :: (w.heap.size, .cells #[.int .i64 p.kind, .int .i64 p.n, .slice B p.signs.length cb] 64) :: base := fun o x hx => by
      rcases List.mem_cons.1 hx with h | h <;> simp [h]
    refine wpIn_body eb ?_
    by_cases hk : p.kind = 3
    · refine outD F _ O L _ p ps q qs bx bY bo w.heap.size 0 l n B none cb 0 _ d3 (by simp [mx]) (by simp [my]) (by simp [mo]) (by simp) (hc.rd d3 hrq) hk h0 hLb ?_
      intro O' a' W' d4
      refine ⟨d4.ks (l, _) (by simp), .inl ⟨rfl, (unitsP (cutR p (sizeP p)) ++ units ps).length, ?_, O', L ++ [p], cutR p (sizeP p), ps, q, qs, ?_, hi.eD hv h0 hk, rfl⟩⟩
      · rw [hm, units_cutR_all hv, List.length_append, List.length_append, unitsP_len]
        simp
        omega
      · have d5 := (d4.put (o' := .loop r) hn2).less (hdrop _)
        rw [← ed] at d5 ⊢
        exact d5
    · refine outN F _ O L _ a b p ps q qs bx bY bo w.heap.size l n B cb (by simp [mx]) (by simp [my]) (by simp [mo]) (by simp) (RdC.keep (fun _ hp => (hc.bl.cell hp).symm) _ _ hrq) h0 hk { r with state := .busy } (by simp) _ d3 hi ?_
      intro a' W' hX
      have hX2 := (hX.put (o' := .loop r) hn2).less (hdrop _)
      obtain ⟨O1, L1, p1, q1, qs1, x1, x2, x3⟩ := hX
      refine ⟨x1.ks (l, _) (by simp), ?_⟩
      obtain ⟨O', L', p', q', qs', y1, y2, y3⟩ := hX2
      refine .inl ⟨rfl, (unitsP p' ++ units ps).length, ?_, O', L', p', ps, q', qs', ?_, y2, rfl⟩
      · rw [hm, List.length_append, List.length_append]
        omega
      · rw [← ed] at y1 ⊢
        exact y1

set_option maxRecDepth 1000000 in
set_option maxHeartbeats 3200000 in
theorem endYield (F : Fz) (base : List (Nat × Obj)) (a b : List Pt) (bx bY bo l n D : Nat) (fn : FuncId) {c0 c1 c2 c3 c4 c8 c9 c10 c11 c12 c13 c14 c15 c16 c17 c18 c19 c20 c21 c22 c23 c24 c25 c26 c27 c28 c29 c30 c31 c32 c33 c34 c35 c36 c37 c38 c39 c40 c41 c42 c43 c44 c45 c46 c47 c48 c49 c50 c51 c52 c53 c54 c55 c56 c57 c59 c60 c61 c62 c63 c64 c65 c66 c67 : Value} (mx : (bx, Obj.cells #[.pointer (some ⟨F.gx, 0, none⟩)] 109 (0, 0)) ∈ base) (my : (bY, Obj.cells #[.pointer (some ⟨F.gy, 0, none⟩)] 109 (0, 0)) ∈ base) (mo : (bo, Obj.cells #[.pointer (some ⟨F.go, 0, none⟩)] 60 (0, 0)) ∈ base) (hnl : ∀ x ∈ base, ¬ x.1 = l)
    (r : Loop) (hr2 : r = recOf fn #[c0, c1, c2, c3, c4, .pointer (some ⟨bx, 0, none⟩), .pointer (some ⟨bY, 0, none⟩), .pointer (some ⟨bo, 0, none⟩), c8, c9, c10, c11, c12, c13, c14, c15, c16, c17, c18, c19, c20, c21, c22, c23, c24, c25, c26, c27, c28, c29, c30, c31, c32, c33, c34, c35, c36, c37, c38, c39, c40, c41, c42, c43, c44, c45, c46, c47, c48, c49, c50, c51, c52, c53, c54, c55, c56, c57, .func (.func 96) #[.pointer (some ⟨F.gy, 0, none⟩)] #[], c59, c60, c61, c62, c63, c64, c65, c66, c67] #[59] (rfA 2) (rfB 2) D) (m : Nat) (q : Pt) (v : Value) (w : World) (h : EndY F ((l, .loop r) :: base) a b m q v w) :
    YieldAt Fence.wide n Tryd.prog l #[v] w (RoundJ (EndJ F ((l, .loop r) :: base) a b) m (fun _ => False)) := by
  obtain ⟨O, L, p, qs, B, cb, rfl, hrq, hc, hi, hm, h0⟩ := h
  have hl := (hc.kp _ (List.mem_cons_self)).1
  simp only at hl
  have hlt := lt_of_some hl
  have hLb : L.length < 100000 := by have := hi.len; omega
  refine yield_of (r := r) (K := fun a₁ w₁ => a₁ = ⟨#[c0, c1, c2, c3, c4, .pointer (some ⟨bx, 0, none⟩), .pointer (some ⟨bY, 0, none⟩), .pointer (some ⟨bo, 0, none⟩), c8, c9, c10, .pointer (some ⟨w.heap.size, 0, none⟩), c12, c13, c14, c15, c16, c17, c18, c19, c20, c21, c22, c23, c24, c25, c26, c27, c28, c29, c30, c31, c32, c33, c34, c35, c36, c37, c38, c39, c40, c41, c42, c43, c44, c45, c46, c47, c48, c49, c50, c51, c52, c53, c54, c55, c56, c57, .func (.func 96) #[.pointer (some ⟨F.gy, 0, none⟩)] #[], (.agg #[.int .i64 q.kind, .int .i64 q.n, .slice B q.signs.length cb]), c60, c61, c62, c63, c64, c65, c66, c67], []⟩ ∧ w₁ = w.alloc (.cells #[.int .i64 q.kind, .int .i64 q.n, .slice B q.signs.length cb] 64)) hl (by rw [hr2]; rfl) (by rw [hr2]; rfl) ?assign ?body
  case assign =>
    have HR2 := Lib.hid hr2
    clear hr2 hm hi hc hrq
    rw [HR2.out]
    simp only [recOf, List.zip_toArray, List.zip_cons_cons, List.zip_nil_right, List.size_toArray, List.length_cons, List.length_nil, List.foldl_toArray', List.foldl_cons, List.foldl_nil, List.setIfInBounds_toArray, List.set_cons_zero, List.set_cons_succ]
    conv => arg 4; whnf
    gi_wp2
  case body =>
    rintro a₁ w₁ ⟨rfl, rfl⟩
    have hb := alloc_below w (.cells #[.int .i64 q.kind, .int .i64 q.n, .slice B q.signs.length cb] 64)
    refine ⟨(hb.block _ hlt).trans hl, ?_⟩
    have d1 := hc.also hb (Nat.le_refl _) (heap_alloc_new w (.cells #[.int .i64 q.kind, .int .i64 q.n, .slice B q.signs.length cb] 64))
    have d2 : Co F ((l, .loop r) :: (w.heap.size, .cells #[.int .i64 q.kind, .int .i64 q.n, .slice B q.signs.length cb] 64) :: base) O L (w.alloc (.cells #[.int .i64 q.kind, .int .i64 q.n, .slice B q.signs.length cb] 64)) p [] q qs := d1.less (fun x hx => by simp only [List.mem_cons] at hx ⊢; rcases hx with h | h | h <;> simp [h])
    have hn2 : ∀ x ∈ (w.heap.size, .cells #[.int .i64 q.kind, .int .i64 q.n, .slice B q.signs.length cb] 64) :: base, ¬ x.1 = l := fun x hx => by
      rcases List.mem_cons.1 hx with rfl | hx
      · show ¬ w.heap.size = l; omega
      · exact hnl x hx
    have d3 := d2.put (o' := .loop { r with state := .busy }) hn2
    have eb : r.body = rfB 2 := by rw [hr2]; rfl
    have ed : Loop.mk .ready none r.fn r.tmps r.params r.assign r.body r.defers = r := by rw [hr2]; rfl
    have hv := hc.ox.vp
    have hw := hc.oy.vp
    have hdrop : ∀ (o : Obj) (x : Nat × Obj), x ∈ (l, o) :: base → x ∈ (l, o) :: (w.heap.size, .cells #[.int .i64 q.kind, .int .i64 q.n, .slice B q.signs.length cb] 64) :: base := fun o x hx => by
      rcases List.mem_cons.1 hx with h | h <;> simp [h]
    refine wpIn_body eb ?_
    have hk : q.kind = 2 := by
      by_cases hk : q.kind = 2
      · exact hk
      · have := src_pos (R := units qs) hw h0 hk
        have hb := hi.bal
        simp only [tgt] at hb
        omega
    refine endP F _ O L _ p [] q qs bx bY bo 0 w.heap.size l n none B 0 cb _ d3 (by simp [mx]) (by simp [my]) (by simp [mo]) (by simp) (hc.rd d3 hrq) (by omega) h0 hLb ?_
    intro O' a' W' d4
    refine ⟨d4.ks (l, _) (by simp), .inl ⟨rfl, (unitsP (cutR q (sizeP q)) ++ units qs).length, ?_, O', L ++ [q], p, cutR q (sizeP q), qs, ?_, hi.eP trivial hw h0 hk, rfl⟩⟩
    · rw [hm, units_cutR_all hw, List.length_append, List.length_append, unitsP_len]
      simp
      omega
    · have d5 := (d4.put (o' := .loop r) hn2).less (hdrop _)
      rw [← ed] at d5 ⊢
      exact d5

theorem OutD.ks {F : Fz} {KL : List (Nat × Obj)} {a b : List Pt} {w : World} (h : OutD F KL a b w) : Ks KL w := by
  obtain ⟨m, O, L, p, q, qs, h1, h2⟩ := h
  exact h1.ks
theorem OutD.put {F : Fz} {KL : List (Nat × Obj)} {a b : List Pt} {w : World} {l : Nat} {o o' : Obj} (h : OutD F ((l, o) :: KL) a b w) (hn : ∀ x ∈ KL, ¬ x.1 = l) : OutD F ((l, o') :: KL) a b (w.putObj l o') := by
  obtain ⟨m, O, L, p, q, qs, h1, h2⟩ := h
  exact ⟨m, O, L, p, q, qs, h1.put hn, h2⟩
theorem OutD.less {F : Fz} {KL KM : List (Nat × Obj)} {a b : List Pt} {w : World} (h : OutD F KL a b w) (hs : ∀ x ∈ KM, x ∈ KL) : OutD F KM a b w := by
  obtain ⟨m, O, L, p, q, qs, h1, h2⟩ := h
  exact ⟨m, O, L, p, q, qs, h1.less hs, h2⟩

theorem EndD.ks {F : Fz} {KL : List (Nat × Obj)} {a b : List Pt} {w : World} (h : EndD F KL a b w) : Ks KL w := by
  obtain ⟨O, L, p, q, h1, h2⟩ := h
  exact h1.ks
theorem EndD.put {F : Fz} {KL : List (Nat × Obj)} {a b : List Pt} {w : World} {l : Nat} {o o' : Obj} (h : EndD F ((l, o) :: KL) a b w) (hn : ∀ x ∈ KL, ¬ x.1 = l) : EndD F ((l, o') :: KL) a b (w.putObj l o') := by
  obtain ⟨O, L, p, q, h1, h2⟩ := h
  exact ⟨O, L, p, q, h1.put hn, h2⟩
theorem EndD.less {F : Fz} {KL KM : List (Nat × Obj)} {a b : List Pt} {w : World} (h : EndD F KL a b w) (hs : ∀ x ∈ KM, x ∈ KL) : EndD F KM a b w := by
  obtain ⟨O, L, p, q, h1, h2⟩ := h
  exact ⟨O, L, p, q, h1.less hs, h2⟩

theorem OutJ.lt {F : Fz} {KL : List (Nat × Obj)} {a b : List Pt} {m : Nat} {w : World} (h : OutJ F KL a b m w) : ∀ x ∈ KL, x.1 < w.heap.size := by
  obtain ⟨O, L, p, ps, q, qs, h1, h2⟩ := h
  exact fun x hx => lt_of_some (h1.kp x hx).1
theorem OutJ.grow2 {F : Fz} {KL : List (Nat × Obj)} {a b : List Pt} {m : Nat} {w : World} (h : OutJ F KL a b m w) (o1 o2 : Obj) : OutJ F ((w.heap.size + 1, o2) :: (w.heap.size, o1) :: KL) a b m ((w.alloc o1).alloc o2) := by
  obtain ⟨O, L, p, ps, q, qs, h1, h2⟩ := h
  have h3 := h1.also (alloc_below w o1) (Nat.le_refl _) (heap_alloc_new w o1)
  have h4 := h3.also (alloc_below _ o2) (Nat.le_refl _) (heap_alloc_new _ o2)
  rw [World.size_alloc] at h4
  exact ⟨O, L, p, ps, q, qs, h4, h2⟩

theorem EndJ.lt {F : Fz} {KL : List (Nat × Obj)} {a b : List Pt} {m : Nat} {w : World} (h : EndJ F KL a b m w) : ∀ x ∈ KL, x.1 < w.heap.size := by
  obtain ⟨O, L, p, q, qs, h1, h2⟩ := h
  exact fun x hx => lt_of_some (h1.kp x hx).1
theorem EndJ.grow2 {F : Fz} {KL : List (Nat × Obj)} {a b : List Pt} {m : Nat} {w : World} (h : EndJ F KL a b m w) (o1 o2 : Obj) : EndJ F ((w.heap.size + 1, o2) :: (w.heap.size, o1) :: KL) a b m ((w.alloc o1).alloc o2) := by
  obtain ⟨O, L, p, q, qs, h1, h2⟩ := h
  have h3 := h1.also (alloc_below w o1) (Nat.le_refl _) (heap_alloc_new w o1)
  have h4 := h3.also (alloc_below _ o2) (Nat.le_refl _) (heap_alloc_new _ o2)
  rw [World.size_alloc] at h4
  exact ⟨O, L, p, q, qs, h4, h2⟩

theorem EndJ.ks {F : Fz} {KL : List (Nat × Obj)} {a b : List Pt} {m : Nat} {w : World} (h : EndJ F KL a b m w) : Ks KL w := by
  obtain ⟨O, L, p, q, qs, h1, h2⟩ := h
  exact h1.ks

set_option maxRecDepth 1000000 in
set_option maxHeartbeats 3200000 in
theorem outLoop (F : Fz) (base : List (Nat × Obj)) (a b : List Pt) (m : Nat) (W : World) (bx bY bo n : Nat) (ds : List Deferred) {c0 c1 c2 c3 c4 c8 c9 c10 c11 c12 c13 c14 c15 c16 c17 c18 c19 c20 c22 c23 c24 c25 c26 c27 c28 c29 c30 c31 c32 c33 c34 c35 c36 c37 c38 c39 c40 c41 c42 c43 c44 c45 c46 c47 c48 c49 c50 c51 c52 c53 c54 c55 c56 c57 c58 c59 c60 c61 c62 c63 c64 c65 c66 c67 : Value} (mx : (bx, Obj.cells #[.pointer (some ⟨F.gx, 0, none⟩)] 109 (0, 0)) ∈ base) (my : (bY, Obj.cells #[.pointer (some ⟨F.gy, 0, none⟩)] 109 (0, 0)) ∈ base) (mo : (bo, Obj.cells #[.pointer (some ⟨F.go, 0, none⟩)] 60 (0, 0)) ∈ base) (Q : Exit → Act → World → Prop) (hs : OutJ F base a b m W)
    (hQ : ∀ W', OutD F ((W.heap.size, .deferred (some [])) :: base) a b W' → Q .normal ⟨#[c0, c1, c2, c3, c4, .pointer (some ⟨bx, 0, none⟩), .pointer (some ⟨bY, 0, none⟩), .pointer (some ⟨bo, 0, none⟩), c8, c9, c10, c11, c12, c13, c14, c15, c16, c17, c18, c19, c20, .func (.func 96) #[.pointer (some ⟨F.gx, 0, none⟩)] #[], c22, c23, c24, c25, c26, c27, c28, c29, c30, c31, c32, c33, c34, c35, c36, c37, c38, c39, c40, c41, c42, c43, c44, c45, c46, c47, c48, c49, c50, c51, c52, c53, c54, c55, c56, c57, c58, c59, c60, c61, c62, c63, c64, c65, c66, c67], { target := .collected W.heap.size, args := #[] } :: ds⟩ W') :
    (Code.rangeFunc (.tmp 21) #[22] (rfA 0) (rfB 0)).wpIn Fence.wide n Tryd.prog Q ⟨#[c0, c1, c2, c3, c4, .pointer (some ⟨bx, 0, none⟩), .pointer (some ⟨bY, 0, none⟩), .pointer (some ⟨bo, 0, none⟩), c8, c9, c10, c11, c12, c13, c14, c15, c16, c17, c18, c19, c20, .func (.func 96) #[.pointer (some ⟨F.gx, 0, none⟩)] #[], c22, c23, c24, c25, c26, c27, c28, c29, c30, c31, c32, c33, c34, c35, c36, c37, c38, c39, c40, c41, c42, c43, c44, c45, c46, c47, c48, c49, c50, c51, c52, c53, c54, c55, c56, c57, c58, c59, c60, c61, c62, c63, c64, c65, c66, c67], ds⟩ W := by
  have hb2 : ∀ fn, OutJ F ((W.heap.size + 1, .loop (recOf fn #[c0, c1, c2, c3, c4, .pointer (some ⟨bx, 0, none⟩), .pointer (some ⟨bY, 0, none⟩), .pointer (some ⟨bo, 0, none⟩), c8, c9, c10, c11, c12, c13, c14, c15, c16, c17, c18, c19, c20, .func (.func 96) #[.pointer (some ⟨F.gx, 0, none⟩)] #[], c22, c23, c24, c25, c26, c27, c28, c29, c30, c31, c32, c33, c34, c35, c36, c37, c38, c39, c40, c41, c42, c43, c44, c45, c46, c47, c48, c49, c50, c51, c52, c53, c54, c55, c56, c57, c58, c59, c60, c61, c62, c63, c64, c65, c66, c67] #[22] (rfA 0) (rfB 0) W.heap.size)) :: (W.heap.size, .deferred (some [])) :: base) a b m ((W.alloc (.deferred (some []))).alloc (.loop (recOf fn #[c0, c1, c2, c3, c4, .pointer (some ⟨bx, 0, none⟩), .pointer (some ⟨bY, 0, none⟩), .pointer (some ⟨bo, 0, none⟩), c8, c9, c10, c11, c12, c13, c14, c15, c16, c17, c18, c19, c20, .func (.func 96) #[.pointer (some ⟨F.gx, 0, none⟩)] #[], c22, c23, c24, c25, c26, c27, c28, c29, c30, c31, c32, c33, c34, c35, c36, c37, c38, c39, c40, c41, c42, c43, c44, c45, c46, c47, c48, c49, c50, c51, c52, c53, c54, c55, c56, c57, c58, c59, c60, c61, c62, c63, c64, c65, c66, c67] #[22] (rfA 0) (rfB 0) W.heap.size))) := fun fn => hs.grow2 _ _
  have hlt : ∀ x ∈ (W.heap.size, Obj.deferred (some [])) :: base, ¬ x.1 = W.heap.size + 1 := fun x hx => by
    rcases List.mem_cons.1 hx with rfl | hx
    · show ¬ W.heap.size = W.heap.size + 1; omega
    · have := hs.lt x hx; omega
  refine rf_outer (gf := 96) (b := #[.pointer (some ⟨F.gx, 0, none⟩)]) (Jd := fun w' => ∃ fn, OutD F ((W.heap.size + 1, .loop (recOf fn #[c0, c1, c2, c3, c4, .pointer (some ⟨bx, 0, none⟩), .pointer (some ⟨bY, 0, none⟩), .pointer (some ⟨bo, 0, none⟩), c8, c9, c10, c11, c12, c13, c14, c15, c16, c17, c18, c19, c20, .func (.func 96) #[.pointer (some ⟨F.gx, 0, none⟩)] #[], c22, c23, c24, c25, c26, c27, c28, c29, c30, c31, c32, c33, c34, c35, c36, c37, c38, c39, c40, c41, c42, c43, c44, c45, c46, c47, c48, c49, c50, c51, c52, c53, c54, c55, c56, c57, c58, c59, c60, c61, c62, c63, c64, c65, c66, c67] #[22] (rfA 0) (rfB 0) W.heap.size)) :: (W.heap.size, .deferred (some [])) :: base) a b w') (Jx := fun _ _ => False) rfl rem_enters (fun fn => ?_) (fun fn w' hl hx => ?_) (fun _ _ h => h)
  · refine (implRemaining (n - 1) F.gx (W.heap.size + 1) (OutJ F ((W.heap.size + 1, .loop (recOf fn #[c0, c1, c2, c3, c4, .pointer (some ⟨bx, 0, none⟩), .pointer (some ⟨bY, 0, none⟩), .pointer (some ⟨bo, 0, none⟩), c8, c9, c10, c11, c12, c13, c14, c15, c16, c17, c18, c19, c20, .func (.func 96) #[.pointer (some ⟨F.gx, 0, none⟩)] #[], c22, c23, c24, c25, c26, c27, c28, c29, c30, c31, c32, c33, c34, c35, c36, c37, c38, c39, c40, c41, c42, c43, c44, c45, c46, c47, c48, c49, c50, c51, c52, c53, c54, c55, c56, c57, c58, c59, c60, c61, c62, c63, c64, c65, c66, c67] #[22] (rfA 0) (rfB 0) W.heap.size)) :: (W.heap.size, .deferred (some [])) :: base) a b) (OutY F ((W.heap.size + 1, .loop (recOf fn #[c0, c1, c2, c3, c4, .pointer (some ⟨bx, 0, none⟩), .pointer (some ⟨bY, 0, none⟩), .pointer (some ⟨bo, 0, none⟩), c8, c9, c10, c11, c12, c13, c14, c15, c16, c17, c18, c19, c20, .func (.func 96) #[.pointer (some ⟨F.gx, 0, none⟩)] #[], c22, c23, c24, c25, c26, c27, c28, c29, c30, c31, c32, c33, c34, c35, c36, c37, c38, c39, c40, c41, c42, c43, c44, c45, c46, c47, c48, c49, c50, c51, c52, c53, c54, c55, c56, c57, c58, c59, c60, c61, c62, c63, c64, c65, c66, c67] #[22] (rfA 0) (rfB 0) W.heap.size)) :: (W.heap.size, .deferred (some [])) :: base) a b) (OutD F ((W.heap.size + 1, .loop (recOf fn #[c0, c1, c2, c3, c4, .pointer (some ⟨bx, 0, none⟩), .pointer (some ⟨bY, 0, none⟩), .pointer (some ⟨bo, 0, none⟩), c8, c9, c10, c11, c12, c13, c14, c15, c16, c17, c18, c19, c20, .func (.func 96) #[.pointer (some ⟨F.gx, 0, none⟩)] #[], c22, c23, c24, c25, c26, c27, c28, c29, c30, c31, c32, c33, c34, c35, c36, c37, c38, c39, c40, c41, c42, c43, c44, c45, c46, c47, c48, c49, c50, c51, c52, c53, c54, c55, c56, c57, c58, c59, c60, c61, c62, c63, c64, c65, c66, c67] #[22] (rfA 0) (rfB 0) W.heap.size)) :: (W.heap.size, .deferred (some [])) :: base) a b) (fun _ => False) m _ outMore (fun m q' v w h => outYield F _ a b bx bY bo (W.heap.size + 1) (n - 1 - 1) W.heap.size fn (by simp [mx]) (by simp [my]) (by simp [mo]) hlt (recOf fn #[c0, c1, c2, c3, c4, .pointer (some ⟨bx, 0, none⟩), .pointer (some ⟨bY, 0, none⟩), .pointer (some ⟨bo, 0, none⟩), c8, c9, c10, c11, c12, c13, c14, c15, c16, c17, c18, c19, c20, .func (.func 96) #[.pointer (some ⟨F.gx, 0, none⟩)] #[], c22, c23, c24, c25, c26, c27, c28, c29, c30, c31, c32, c33, c34, c35, c36, c37, c38, c39, c40, c41, c42, c43, c44, c45, c46, c47, c48, c49, c50, c51, c52, c53, c54, c55, c56, c57, c58, c59, c60, c61, c62, c63, c64, c65, c66, c67] #[22] (rfA 0) (rfB 0) W.heap.size) rfl m q' v w h) (hb2 fn)).mono ?_
    rintro e w' ⟨h1, (h2 | h2)⟩
    · exact ⟨h1, .inl ⟨h2.ks _ (List.mem_cons_self), fn, h2⟩⟩
    · exact h2.elim
  · obtain ⟨fn', hx⟩ := hx
    exact hQ _ ((hx.put (o' := .loop { (recOf fn #[c0, c1, c2, c3, c4, .pointer (some ⟨bx, 0, none⟩), .pointer (some ⟨bY, 0, none⟩), .pointer (some ⟨bo, 0, none⟩), c8, c9, c10, c11, c12, c13, c14, c15, c16, c17, c18, c19, c20, .func (.func 96) #[.pointer (some ⟨F.gx, 0, none⟩)] #[], c22, c23, c24, c25, c26, c27, c28, c29, c30, c31, c32, c33, c34, c35, c36, c37, c38, c39, c40, c41, c42, c43, c44, c45, c46, c47, c48, c49, c50, c51, c52, c53, c54, c55, c56, c57, c58, c59, c60, c61, c62, c63, c64, c65, c66, c67] #[22] (rfA 0) (rfB 0) W.heap.size) with state := .exhausted }) hlt).less (fun x hx => List.mem_cons_of_mem _ hx))

set_option maxRecDepth 1000000 in
set_option maxHeartbeats 3200000 in
theorem endLoop (F : Fz) (base : List (Nat × Obj)) (a b : List Pt) (m : Nat) (W : World) (bx bY bo n : Nat) (ds : List Deferred) {c0 c1 c2 c3 c4 c8 c9 c10 c11 c12 c13 c14 c15 c16 c17 c18 c19 c20 c21 c22 c23 c24 c25 c26 c27 c28 c29 c30 c31 c32 c33 c34 c35 c36 c37 c38 c39 c40 c41 c42 c43 c44 c45 c46 c47 c48 c49 c50 c51 c52 c53 c54 c55 c56 c57 c59 c60 c61 c62 c63 c64 c65 c66 c67 : Value} (mx : (bx, Obj.cells #[.pointer (some ⟨F.gx, 0, none⟩)] 109 (0, 0)) ∈ base) (my : (bY, Obj.cells #[.pointer (some ⟨F.gy, 0, none⟩)] 109 (0, 0)) ∈ base) (mo : (bo, Obj.cells #[.pointer (some ⟨F.go, 0, none⟩)] 60 (0, 0)) ∈ base) (Q : Exit → Act → World → Prop) (hs : EndJ F base a b m W)
    (hQ : ∀ W', EndD F ((W.heap.size, .deferred (some [])) :: base) a b W' → Q .normal ⟨#[c0, c1, c2, c3, c4, .pointer (some ⟨bx, 0, none⟩), .pointer (some ⟨bY, 0, none⟩), .pointer (some ⟨bo, 0, none⟩), c8, c9, c10, c11, c12, c13, c14, c15, c16, c17, c18, c19, c20, c21, c22, c23, c24, c25, c26, c27, c28, c29, c30, c31, c32, c33, c34, c35, c36, c37, c38, c39, c40, c41, c42, c43, c44, c45, c46, c47, c48, c49, c50, c51, c52, c53, c54, c55, c56, c57, .func (.func 96) #[.pointer (some ⟨F.gy, 0, none⟩)] #[], c59, c60, c61, c62, c63, c64, c65, c66, c67], { target := .collected W.heap.size, args := #[] } :: ds⟩ W') :
    (Code.rangeFunc (.tmp 58) #[59] (rfA 2) (rfB 2)).wpIn Fence.wide n Tryd.prog Q ⟨#[c0, c1, c2, c3, c4, .pointer (some ⟨bx, 0, none⟩), .pointer (some ⟨bY, 0, none⟩), .pointer (some ⟨bo, 0, none⟩), c8, c9, c10, c11, c12, c13, c14, c15, c16, c17, c18, c19, c20, c21, c22, c23, c24, c25, c26, c27, c28, c29, c30, c31, c32, c33, c34, c35, c36, c37, c38, c39, c40, c41, c42, c43, c44, c45, c46, c47, c48, c49, c50, c51, c52, c53, c54, c55, c56, c57, .func (.func 96) #[.pointer (some ⟨F.gy, 0, none⟩)] #[], c59, c60, c61, c62, c63, c64, c65, c66, c67], ds⟩ W := by
  have hb2 : ∀ fn, EndJ F ((W.heap.size + 1, .loop (recOf fn #[c0, c1, c2, c3, c4, .pointer (some ⟨bx, 0, none⟩), .pointer (some ⟨bY, 0, none⟩), .pointer (some ⟨bo, 0, none⟩), c8, c9, c10, c11, c12, c13, c14, c15, c16, c17, c18, c19, c20, c21, c22, c23, c24, c25, c26, c27, c28, c29, c30, c31, c32, c33, c34, c35, c36, c37, c38, c39, c40, c41, c42, c43, c44, c45, c46, c47, c48, c49, c50, c51, c52, c53, c54, c55, c56, c57, .func (.func 96) #[.pointer (some ⟨F.gy, 0, none⟩)] #[], c59, c60, c61, c62, c63, c64, c65, c66, c67] #[59] (rfA 2) (rfB 2) W.heap.size)) :: (W.heap.size, .deferred (some [])) :: base) a b m ((W.alloc (.deferred (some []))).alloc (.loop (recOf fn #[c0, c1, c2, c3, c4, .pointer (some ⟨bx, 0, none⟩), .pointer (some ⟨bY, 0, none⟩), .pointer (some ⟨bo, 0, none⟩), c8, c9, c10, c11, c12, c13, c14, c15, c16, c17, c18, c19, c20, c21, c22, c23, c24, c25, c26, c27, c28, c29, c30, c31, c32, c33, c34, c35, c36, c37, c38, c39, c40, c41, c42, c43, c44, c45, c46, c47, c48, c49, c50, c51, c52, c53, c54, c55, c56, c57, .func (.func 96) #[.pointer (some ⟨F.gy, 0, none⟩)] #[], c59, c60, c61, c62, c63, c64, c65, c66, c67] #[59] (rfA 2) (rfB 2) W.heap.size))) := fun fn => hs.grow2 _ _
  have hlt : ∀ x ∈ (W.heap.size, Obj.deferred (some [])) :: base, ¬ x.1 = W.heap.size + 1 := fun x hx => by
    rcases List.mem_cons.1 hx with rfl | hx
    · show ¬ W.heap.size = W.heap.size + 1; omega
    · have := hs.lt x hx; omega
  refine rf_outer (gf := 96) (b := #[.pointer (some ⟨F.gy, 0, none⟩)]) (Jd := fun w' => ∃ fn, EndD F ((W.heap.size + 1, .loop (recOf fn #[c0, c1, c2, c3, c4, .pointer (some ⟨bx, 0, none⟩), .pointer (some ⟨bY, 0, none⟩), .pointer (some ⟨bo, 0, none⟩), c8, c9, c10, c11, c12, c13, c14, c15, c16, c17, c18, c19, c20, c21, c22, c23, c24, c25, c26, c27, c28, c29, c30, c31, c32, c33, c34, c35, c36, c37, c38, c39, c40, c41, c42, c43, c44, c45, c46, c47, c48, c49, c50, c51, c52, c53, c54, c55, c56, c57, .func (.func 96) #[.pointer (some ⟨F.gy, 0, none⟩)] #[], c59, c60, c61, c62, c63, c64, c65, c66, c67] #[59] (rfA 2) (rfB 2) W.heap.size)) :: (W.heap.size, .deferred (some [])) :: base) a b w') (Jx := fun _ _ => False) rfl rem_enters (fun fn => ?_) (fun fn w' hl hx => ?_) (fun _ _ h => h)
  · refine (implRemaining (n - 1) F.gy (W.heap.size + 1) (EndJ F ((W.heap.size + 1, .loop (recOf fn #[c0, c1, c2, c3, c4, .pointer (some ⟨bx, 0, none⟩), .pointer (some ⟨bY, 0, none⟩), .pointer (some ⟨bo, 0, none⟩), c8, c9, c10, c11, c12, c13, c14, c15, c16, c17, c18, c19, c20, c21, c22, c23, c24, c25, c26, c27, c28, c29, c30, c31, c32, c33, c34, c35, c36, c37, c38, c39, c40, c41, c42, c43, c44, c45, c46, c47, c48, c49, c50, c51, c52, c53, c54, c55, c56, c57, .func (.func 96) #[.pointer (some ⟨F.gy, 0, none⟩)] #[], c59, c60, c61, c62, c63, c64, c65, c66, c67] #[59] (rfA 2) (rfB 2) W.heap.size)) :: (W.heap.size, .deferred (some [])) :: base) a b) (EndY F ((W.heap.size + 1, .loop (recOf fn #[c0, c1, c2, c3, c4, .pointer (some ⟨bx, 0, none⟩), .pointer (some ⟨bY, 0, none⟩), .pointer (some ⟨bo, 0, none⟩), c8, c9, c10, c11, c12, c13, c14, c15, c16, c17, c18, c19, c20, c21, c22, c23, c24, c25, c26, c27, c28, c29, c30, c31, c32, c33, c34, c35, c36, c37, c38, c39, c40, c41, c42, c43, c44, c45, c46, c47, c48, c49, c50, c51, c52, c53, c54, c55, c56, c57, .func (.func 96) #[.pointer (some ⟨F.gy, 0, none⟩)] #[], c59, c60, c61, c62, c63, c64, c65, c66, c67] #[59] (rfA 2) (rfB 2) W.heap.size)) :: (W.heap.size, .deferred (some [])) :: base) a b) (EndD F ((W.heap.size + 1, .loop (recOf fn #[c0, c1, c2, c3, c4, .pointer (some ⟨bx, 0, none⟩), .pointer (some ⟨bY, 0, none⟩), .pointer (some ⟨bo, 0, none⟩), c8, c9, c10, c11, c12, c13, c14, c15, c16, c17, c18, c19, c20, c21, c22, c23, c24, c25, c26, c27, c28, c29, c30, c31, c32, c33, c34, c35, c36, c37, c38, c39, c40, c41, c42, c43, c44, c45, c46, c47, c48, c49, c50, c51, c52, c53, c54, c55, c56, c57, .func (.func 96) #[.pointer (some ⟨F.gy, 0, none⟩)] #[], c59, c60, c61, c62, c63, c64, c65, c66, c67] #[59] (rfA 2) (rfB 2) W.heap.size)) :: (W.heap.size, .deferred (some [])) :: base) a b) (fun _ => False) m _ endMore (fun m q' v w h => endYield F _ a b bx bY bo (W.heap.size + 1) (n - 1 - 1) W.heap.size fn (by simp [mx]) (by simp [my]) (by simp [mo]) hlt (recOf fn #[c0, c1, c2, c3, c4, .pointer (some ⟨bx, 0, none⟩), .pointer (some ⟨bY, 0, none⟩), .pointer (some ⟨bo, 0, none⟩), c8, c9, c10, c11, c12, c13, c14, c15, c16, c17, c18, c19, c20, c21, c22, c23, c24, c25, c26, c27, c28, c29, c30, c31, c32, c33, c34, c35, c36, c37, c38, c39, c40, c41, c42, c43, c44, c45, c46, c47, c48, c49, c50, c51, c52, c53, c54, c55, c56, c57, .func (.func 96) #[.pointer (some ⟨F.gy, 0, none⟩)] #[], c59, c60, c61, c62, c63, c64, c65, c66, c67] #[59] (rfA 2) (rfB 2) W.heap.size) rfl m q' v w h) (hb2 fn)).mono ?_
    rintro e w' ⟨h1, (h2 | h2)⟩
    · exact ⟨h1, .inl ⟨h2.ks _ (List.mem_cons_self), fn, h2⟩⟩
    · exact h2.elim
  · obtain ⟨fn', hx⟩ := hx
    exact hQ _ ((hx.put (o' := .loop { (recOf fn #[c0, c1, c2, c3, c4, .pointer (some ⟨bx, 0, none⟩), .pointer (some ⟨bY, 0, none⟩), .pointer (some ⟨bo, 0, none⟩), c8, c9, c10, c11, c12, c13, c14, c15, c16, c17, c18, c19, c20, c21, c22, c23, c24, c25, c26, c27, c28, c29, c30, c31, c32, c33, c34, c35, c36, c37, c38, c39, c40, c41, c42, c43, c44, c45, c46, c47, c48, c49, c50, c51, c52, c53, c54, c55, c56, c57, .func (.func 96) #[.pointer (some ⟨F.gy, 0, none⟩)] #[], c59, c60, c61, c62, c63, c64, c65, c66, c67] #[59] (rfA 2) (rfB 2) W.heap.size) with state := .exhausted }) hlt).less (fun x hx => List.mem_cons_of_mem _ hx))
end Go.Proofs.YtbbpapaobehlcaaDoor.low


/-
  The program's side: contract of impl.PartCount.
-/
namespace Go.Proofs.YtbbpapaobehlcaaDoor.low
open Go.RowKit
set_option linter.unusedVariables false

end Go.Proofs.YtbbpapaobehlcaaDoor.low


/-
  The program's side: contracts of impl.composed and impl.Compose.
-/
namespace Go.Proofs.YtbbpapaobehlcaaDoor.low
open Go.RowKit
set_option linter.unusedVariables false
attribute [local go_sem] Oper.semAt_some

/-- the readers' and the builder's blocks as composed makes them -/
def fz (w : World) : Fz := ⟨w.heap.size, w.heap.size, w.heap.size + 1, w.heap.size + 4, w⟩
def baseOf (w : World) : List (Nat × Obj) := [(w.heap.size + 2, .cells #[.pointer (some ⟨w.heap.size, 0, none⟩)] 109 (0, 0)), (w.heap.size + 3, .cells #[.pointer (some ⟨w.heap.size + 1, 0, none⟩)] 109 (0, 0)), (w.heap.size + 5, .cells #[.pointer (some ⟨w.heap.size + 4, 0, none⟩)] 60 (0, 0))]
def startW (A B : Option Addr) (na ca nb cb : Nat) (w : World) : World :=
  (((((w.alloc (.cells #[.int .i64 0, .int .i64 0, .slice none 0 0, .slice A na ca] 111)).alloc (.cells #[.int .i64 0, .int .i64 0, .slice none 0 0, .slice B nb cb] 111)).alloc (.cells #[.pointer (some ⟨w.heap.size, 0, none⟩)] 109)).alloc (.cells #[.pointer (some ⟨w.heap.size + 1, 0, none⟩)] 109)).alloc (.cells #[.slice none 0 0, .slice none 0 0, .int .i64 0] 62)).alloc (.cells #[.pointer (some ⟨w.heap.size + 4, 0, none⟩)] 60)
theorem startW_below (A B : Option Addr) (na ca nb cb : Nat) (w : World) : Below w.heap.size w (startW A B na ca nb cb w) := by
  unfold startW
  exact ((((((Below.refl _ w).alloc (Nat.le_refl _) _).alloc (by simp) _).alloc (by simp; omega) _).alloc (by simp; omega) _).alloc (by simp; omega) _).alloc (by simp; omega) _
theorem heap_at (w : World) (o : Obj) {n : Nat} (h : w.heap.size = n) : (w.alloc o).heap[n]? = some o := by rw [← h]; exact heap_alloc_new w o
theorem zeroP : Vp ⟨0, 0, []⟩ := .inr (.inr ⟨rfl, rfl, rfl⟩)
theorem units_zero : unitsP ⟨0, 0, []⟩ = [] := by simp [unitsP]
theorem coStart (A B : Option Addr) (ca cb : Nat) (a b : List Pt) (w : World) (h : RdC w w.heap.size (encPs a) (.slice A a.length ca)) (h' : RdC w w.heap.size (encPs b) (.slice B b.length cb)) (hoa : okOp a = true) (hob : okOp b = true) (hbal : sumK a + sumP a = sumK b + sumD b) :
    OutJ (fz w) (baseOf w) a b (units a).length (startW A B a.length ca b.length cb w) := by
  have hb := startW_below A B a.length ca b.length cb w
  obtain ⟨a1, _⟩ := okOp_of hoa
  obtain ⟨b1, _⟩ := okOp_of hob
  have la := (okOp_units hoa).2.2
  have lb := (okOp_units hob).2.2
  refine ⟨fun x => x = w.heap.size + 4, [], ⟨0, 0, []⟩, a, ⟨0, 0, []⟩, b, ⟨⟨⟨none, 0, A, ca, ?_, ints_none, h.below hb⟩, Nat.le_refl _, zeroP, ?_, by omega⟩, ⟨⟨none, 0, B, cb, ?_, ints_none, h'.below hb⟩, Nat.le_succ _, zeroP, ?_, by omega⟩, ?_, ?_, ?_, ?_, ?_, hb⟩, ?_, ?_⟩
  · exact heap_old _ _ (heap_old _ _ (heap_old _ _ (heap_old _ _ (heap_old _ _ (heap_at _ _ rfl)))))
  · exact fun x hx => okPs_mem a1 hx
  · exact heap_old _ _ (heap_old _ _ (heap_old _ _ (heap_old _ _ (heap_at _ _ (by simp [fz])))))
  · exact fun x hx => okPs_mem b1 hx
  · have s4 : ((((w.alloc (.cells #[.int .i64 0, .int .i64 0, .slice none 0 0, .slice A a.length ca] 111)).alloc (.cells #[.int .i64 0, .int .i64 0, .slice none 0 0, .slice B b.length cb] 111)).alloc (.cells #[.pointer (some ⟨w.heap.size, 0, none⟩)] 109)).alloc (.cells #[.pointer (some ⟨w.heap.size + 1, 0, none⟩)] 109)).heap.size = w.heap.size + 4 := by simp
    have n := Bld.new w.heap.size 62 ((((w.alloc (.cells #[.int .i64 0, .int .i64 0, .slice none 0 0, .slice A a.length ca] 111)).alloc (.cells #[.int .i64 0, .int .i64 0, .slice none 0 0, .slice B b.length cb] 111)).alloc (.cells #[.pointer (some ⟨w.heap.size, 0, none⟩)] 109)).alloc (.cells #[.pointer (some ⟨w.heap.size + 1, 0, none⟩)] 109)) (by rw [s4]; omega)
    rw [s4] at n
    exact n.past (alloc_below _ _)
  · show ¬ w.heap.size = w.heap.size + 1; omega
  · show ¬ w.heap.size = w.heap.size + 4; omega
  · show ¬ w.heap.size + 1 = w.heap.size + 4; omega
  · intro x hx
    have hx' : x = (w.heap.size + 2, .cells #[.pointer (some ⟨w.heap.size, 0, none⟩)] 109 (0, 0)) ∨ x = (w.heap.size + 3, .cells #[.pointer (some ⟨w.heap.size + 1, 0, none⟩)] 109 (0, 0)) ∨ x = (w.heap.size + 5, .cells #[.pointer (some ⟨w.heap.size + 4, 0, none⟩)] 60 (0, 0)) := by simpa [baseOf] using hx
    rcases hx' with rfl | rfl | rfl
    · exact ⟨heap_old _ _ (heap_old _ _ (heap_old _ _ (heap_at _ _ (by simp)))), by show w.heap.size ≤ w.heap.size + 2; omega, by show ¬ w.heap.size + 2 = w.heap.size; omega, by show ¬ w.heap.size + 2 = w.heap.size + 1; omega, by show ¬ w.heap.size + 2 = w.heap.size + 4; omega⟩
    · exact ⟨heap_old _ _ (heap_old _ _ (heap_at _ _ (by simp))), by show w.heap.size ≤ w.heap.size + 3; omega, by show ¬ w.heap.size + 3 = w.heap.size; omega, by show ¬ w.heap.size + 3 = w.heap.size + 1; omega, by show ¬ w.heap.size + 3 = w.heap.size + 4; omega⟩
    · exact ⟨heap_at _ _ (by simp), by show w.heap.size ≤ w.heap.size + 5; omega, by show ¬ w.heap.size + 5 = w.heap.size; omega, by show ¬ w.heap.size + 5 = w.heap.size + 1; omega, by show ¬ w.heap.size + 5 = w.heap.size + 4; omega⟩
  · rw [units_zero, List.nil_append, List.nil_append]
    exact cinv0 hoa hob hbal
  · rw [units_zero, List.nil_append]
/-- behind composed -/
def CompP (a b : List Pt) (w : World) (e : Ending) (w' : World) : Prop := ∃ v, e = .returned v ∧ Own w.heap.size w'.heap.size w' (encPs (compL a b)) v ∧ Below w.heap.size w w'

set_option maxRecDepth 1000000 in
set_option maxHeartbeats 6400000 in
theorem implComposed (A B : Option Addr) (ca cb : Nat) (a b : List Pt) (w : World) (h : RdC w w.heap.size (encPs a) (.slice A a.length ca)) (h' : RdC w w.heap.size (encPs b) (.slice B b.length cb)) (hoa : okOp a = true) (hob : okOp b = true) (hbal : sumK a + sumP a = sumK b + sumD b) :
    Calls Tryd.prog 60 #[.slice A a.length ca, .slice B b.length cb] w (CompP a b w) := by
  have HJ := Lib.hid (coStart A B ca cb a b w h h' hoa hob hbal)
  clear h h' hoa hob hbal
  refine (callsIn_wide (n := 0)).1 (callsIn_of_wp_marks Tryd.func60 rfl trivial ?_ rfl)
  simp only [Tryd.ntmps60, List.size_toArray, List.length_cons, List.length_nil, Nat.reduceAdd, Nat.reduceSub, Array.replicate_succ, Array.replicate_zero, List.push_toArray, List.append_toArray, List.nil_append, List.cons_append]
  gi_wp2_with (first | (refine wpIn_label ?_) | (refine wpIn_wide.2 (wp_scope_straight ((wpIn_wide (n := 0)).1 ?_))))
  refine outLoop (fz w) (baseOf w) a b _ _ (w.heap.size + 1 + 1) (w.heap.size + 1 + 1 + 1) (w.heap.size + 1 + 1 + 1 + 1 + 1) 0 [] (by simp [baseOf, fz]) (by simp [baseOf, fz]) (by simp [baseOf, fz]) _ HJ.out ?_
  intro W1 hD
  clear HJ
  obtain ⟨m, hE⟩ := hD
  have k1 : W1.cell? ⟨w.heap.size + 1 + 1 + 1, 0, none⟩ = some (.pointer (some ⟨w.heap.size + 1, 0, none⟩)) := hE.ks.cell (T := 109) (xs := #[.pointer (some ⟨w.heap.size + 1, 0, none⟩)]) (i := 0) (by simp [baseOf]) rfl
  have HE := Lib.hid hE
  clear hE
  gi_wp2_with fail
  refine endLoop (fz w) _ a b m W1 (w.heap.size + 1 + 1) (w.heap.size + 1 + 1 + 1) (w.heap.size + 1 + 1 + 1 + 1 + 1) 0 _ (by simp [baseOf, fz]) (by simp [baseOf, fz]) (by simp [baseOf, fz]) _ HE.out ?_
  intro W2 hF
  have hlt1 := HE.out.lt _ (List.mem_cons_self)
  clear HE k1
  obtain ⟨O, L, p, q, hc, hi⟩ := hF
  have k2 : W2.cell? ⟨w.heap.size + 1 + 1 + 1 + 1 + 1, 0, none⟩ = some (.pointer (some ⟨w.heap.size + 1 + 1 + 1 + 1, 0, none⟩)) := hc.ks.cell (T := 60) (xs := #[.pointer (some ⟨w.heap.size + 1 + 1 + 1 + 1, 0, none⟩)]) (i := 0) (by simp [baseOf]) rfl
  have eL : doneN (foldN L) = compL a b := by
    have h1 := hi.eq
    rw [comp_nil, List.append_nil] at h1
    unfold compL
    rw [foldN_units hc.bd.sz, h1]
  have q1 := hc.kp _ (List.mem_cons_self)
  have q2 := hc.kp _ (List.mem_cons_of_mem _ (List.mem_cons_self))
  simp only [World.size_alloc] at q1 q2 hlt1
  have HEL := Lib.hid eL
  have HC := Lib.hid hc
  have Q1 := Lib.hid q1
  have Q2 := Lib.hid q2
  have HL1 := Lib.hid hlt1
  clear hc hi eL q1 q2 hlt1
  gi_wp2_with fail
  refine ⟨trivial, rfl, (callsIn_wide.2 (implDoneB O _ _ L _ HC.out.bd)).mono ?_⟩
  rintro e w9 ⟨v9, k9, rfl, o9, hk9, bl9, g9⟩
  have HO9 := Lib.hid o9
  have HK9 := Lib.hid hk9
  have HB9 := Lib.hid bl9
  have HG9 := Lib.hid g9
  clear o9 hk9 bl9 g9 k2
  gi_wp2
  obtain ⟨x1, x2, _, _, x5⟩ := Q1.out
  obtain ⟨y1, y2, _, _, y5⟩ := Q2.out
  have l1 := lt_of_some x1
  have l2 := lt_of_some y1
  have hne : ¬ w.heap.size + 1 + 1 + 1 + 1 + 1 + 1 = W1.heap.size := by have := HL1.out; omega
  have n1 := (HG9.out.block _ l1 x5).trans x1
  have n2 := (HG9.out.block _ l2 y5).trans y1
  refine ⟨by simp, .inl ⟨_, _, rfl, run_takeDeferred n1, ?_⟩⟩
  refine ⟨by simp, .inl ⟨_, _, rfl, run_takeDeferred ((World.putObj_heap_other hne).trans n2), ?_⟩⟩
  refine ⟨_, results_tmp rfl _ _ _, v9, rfl, ⟨k9, ?_, HO9.out.nd, fun x hx => ?_, Nat.le_refl _, ?_⟩, ?_⟩
  · have ho := HO9.out.ow
    rw [HEL.out] at ho
    refine OwC.keep _ _ _ ho (fun x hx => ?_)
    have hx' := HK9.out x hx
    have e1 : ¬ x = W1.heap.size := fun e => by
      rcases hx' with h | h
      · exact x5 (e ▸ h)
      · omega
    have e2 : ¬ x = w.heap.size + 1 + 1 + 1 + 1 + 1 + 1 := fun e => by
      rcases hx' with h | h
      · exact y5 (e ▸ h)
      · omega
    exact (World.putObj_heap_other e2).trans (World.putObj_heap_other e1)
  · have := HO9.out.rng x hx
    simp only [World.putObj_size]
    exact this
  · simp only [World.putObj_size]
    exact HO9.out.le
  · refine ((HC.out.bl.trans HB9.out).trans (put_below x2 (lt_of_some n1))).trans (put_below y2 ?_)
    simp only [World.putObj_size]
    exact lt_of_some n2

/-- what composition makes of valid operations that fit is valid -/
theorem compose_true {a b : List Pt} (hoa : okOp a = true) (hob : okOp b = true) (hbal : sumK a + sumP a = sumK b + sumD b) : composeB a b = true ∧ composeT a b = compL a b := by
  have h := (compose_ok hoa hob hbal).1
  exact ⟨h, by unfold composeT; rw [h]; rfl⟩
set_option maxHeartbeats 1600000 in
theorem implCompose_d (v v' : Value) (a b : List Pt) (w : World) (h : RdC w w.heap.size (encPs a) v) (h' : RdC w w.heap.size (encPs b) v') (hs : SmP a) (hs' : SmP b) : Calls Tryd.prog 14 #[v, v'] w (ResB (encPs (composeT a b)) (composeB a b) w) := by
  obtain ⟨A, ca, rfl, hra, _⟩ := parts_rd h
  obtain ⟨B, cb, rfl, hrb, _⟩ := parts_rd h'
  have hlA := hs.1
  have hlB := hs'.1
  cases hoa : okOp a
  · have HN := Lib.hid (composeB_f (a := a) (b := b) (by rw [hoa]; rfl))
    go_enter Tryd.func14, Tryd.ntmps14
    go_wp2_with fail
    refine (implOpOk_any A ca a _ hra (by omega) hs.all4).mono ?_
    rintro e w1 ⟨rfl, b1⟩
    rw [hoa]
    go_wp2
    go_ret2
    rw [HN.out.1, HN.out.2]
    exact ⟨_, rfl, nilOwn _ _ rfl b1.size, b1⟩
  cases hob : okOp b
  · have HN := Lib.hid (composeB_f (a := a) (b := b) (by rw [hoa, hob]; rfl))
    go_enter Tryd.func14, Tryd.ntmps14
    go_wp2_with fail
    refine (implOpOk_any A ca a _ hra (by omega) hs.all4).mono ?_
    rintro e w1 ⟨rfl, b1⟩
    rw [hoa]
    go_wp2_with fail
    refine (implOpOk_any B cb b _ (hrb.past b1) (by omega) hs'.all4).mono ?_
    rintro e w2 ⟨rfl, b2⟩
    rw [hob]
    have d2 := b1.trans (b2.mono b1.size)
    go_wp2
    go_ret2
    rw [HN.out.1, HN.out.2]
    exact ⟨_, rfl, nilOwn _ _ rfl d2.size, d2⟩
  by_cases hbal : sumK a + sumP a = sumK b + sumD b
  · have hne : ((sumK a + sumP a) != (sumK b + sumD b)) = false := by simp [hbal]
    have HN := Lib.hid (compose_true hoa hob hbal)
    have HO := Lib.hid (show okOp a = true ∧ okOp b = true ∧ sumK a + sumP a = sumK b + sumD b from ⟨hoa, hob, hbal⟩)
    clear hbal
    go_enter Tryd.func14, Tryd.ntmps14
    go_wp2_with fail
    refine (implOpOk_any A ca a _ hra (by omega) hs.all4).mono ?_
    rintro e w1 ⟨rfl, b1⟩
    rw [hoa]
    go_wp2_with fail
    refine (implOpOk_any B cb b _ (hrb.past b1) (by omega) hs'.all4).mono ?_
    rintro e w2 ⟨rfl, b2⟩
    rw [hob]
    have d2 := b1.trans (b2.mono b1.size)
    go_wp2_with fail
    refine (implOpTo_any A ca a _ (hra.past d2) (by omega) hs.all4).mono ?_
    rintro e w3 ⟨rfl, b3⟩
    have d3 := d2.trans (b3.mono d2.size)
    go_wp2_with fail
    refine (implOpFrom_any B cb b _ (hrb.past d3) (by omega) hs'.all4).mono ?_
    rintro e w4 ⟨rfl, b4⟩
    have d4 := d3.trans (b4.mono d3.size)
    clear hoa hob b1 b2 d2 b3 d3 b4
    go_wp2_with fail
    refine (implComposed A B ca cb a b _ (h.past d4) (h'.past d4) HO.out.1 HO.out.2.1 HO.out.2.2).mono ?_
    rintro e w5 ⟨v5, rfl, o5, b5⟩
    have O5 := Lib.hid o5
    have d5 := d4.trans (b5.mono d4.size)
    clear o5 b5 hne
    go_wp2
    go_ret2
    rw [HN.out.1, HN.out.2]
    exact ⟨_, rfl, O5.out.wide d4.size (Nat.le_refl _) (Nat.le_refl _), d5⟩
  · have hne : ((sumK a + sumP a) != (sumK b + sumD b)) = true := by simp [hbal]
    have HN := Lib.hid (composeB_f (a := a) (b := b) (by rw [hoa, hob]; simp [hbal]))
    clear hbal
    go_enter Tryd.func14, Tryd.ntmps14
    go_wp2_with fail
    refine (implOpOk_any A ca a _ hra (by omega) hs.all4).mono ?_
    rintro e w1 ⟨rfl, b1⟩
    rw [hoa]
    go_wp2_with fail
    refine (implOpOk_any B cb b _ (hrb.past b1) (by omega) hs'.all4).mono ?_
    rintro e w2 ⟨rfl, b2⟩
    rw [hob]
    have d2 := b1.trans (b2.mono b1.size)
    go_wp2_with fail
    refine (implOpTo_any A ca a _ (hra.past d2) (by omega) hs.all4).mono ?_
    rintro e w3 ⟨rfl, b3⟩
    have d3 := d2.trans (b3.mono d2.size)
    go_wp2_with fail
    refine (implOpFrom_any B cb b _ (hrb.past d3) (by omega) hs'.all4).mono ?_
    rintro e w4 ⟨rfl, b4⟩
    have d4 := d3.trans (b4.mono d3.size)
    go_wp2
    go_ret2
    rw [HN.out.1, HN.out.2]
    exact ⟨_, rfl, nilOwn _ _ rfl d4.size, d4⟩

theorem inB_of {n : Int} : inB n 0 200 = (decide (0 ≤ n) && decide (n ≤ 200)) := by
  unfold inB
  first | rfl | (by_cases h1 : 0 ≤ n <;> by_cases h2 : n ≤ 200 <;> simp [h1, h2])
end Go.Proofs.YtbbpapaobehlcaaDoor.low


/-
  Operations one behind the other: composing them all, leading one past them all.
-/
namespace Go.Proofs.YtbbpapaobehlcaaDoor.low
open Go.RowKit
set_option linter.unusedVariables false

theorem okOp_nil : okOp [] = true := by decide
theorem keepL_ok {n : Nat} (h : n ≤ 200) : okOp (keepL (n : Int)) = true ∧ normL (keepL (n : Int)) = keepL (n : Int) ∧ units (keepL (n : Int)) = List.replicate n .k ∧ sumK (keepL (n : Int)) + sumD (keepL (n : Int)) = (n : Int) ∧ sumK (keepL (n : Int)) + sumP (keepL (n : Int)) = (n : Int) := by
  have hu : units (keepL (n : Int)) = List.replicate n .k := by
    unfold keepL
    split
    · simp [units, unitsP]
    · obtain rfl : n = 0 := by omega
      rfl
  have hok : okOp (keepL (n : Int)) = true := by
    unfold keepL
    split
    · refine of_okOp ?_ (by simp) (by simp [sumOf, keepOf, dropOf]; omega) (by simp [sumOf, keepOf, putOf]; omega)
      simp [okPs, okPt]
      omega
    · exact okOp_nil
  obtain ⟨u1, u2, _⟩ := op_units hok
  rw [hu, (src_rk n).1] at u1
  rw [hu, (src_rk n).2] at u2
  refine ⟨hok, ?_, hu, u1.symm, u2.symm⟩
  refine norm_normal ?_ hok
  unfold keepL
  split
  · refine ⟨fun p hp => ?_, trivial⟩
    simp at hp
    subst hp
    exact .inl ⟨rfl, by simp; omega, rfl⟩
  · exact ⟨fun p hp => by simp at hp, trivial⟩
theorem applyU_keep : ∀ (n : Nat) (t : List Int), n = t.length → applyU (List.replicate n .k) t = t := fun n t h => by
  have := applyU_ks n [] t
  rw [List.append_nil] at this
  rw [this, h]
  simp [applyU]
/-- composing goes through, and has the effect of the operations in order -/
theorem chain_co : ∀ (l : List (List Pt)) (cur : List Pt) (n : Int) (t u : List Int), okOp cur = true → normL cur = cur → sumK cur + sumD cur = (t.length : Int) → okText t = true → applyT cur t = u → chain (sumK cur + sumP cur) l →
    ∃ c u', l.foldl stepCo (some cur) = some c ∧ l.foldl stepAll (some u) = some u' ∧ okOp c = true ∧ normL c = c ∧ sumK c + sumD c = (t.length : Int) ∧ applyT c t = u' ∧ okText u' = true ∧ fitsB c t = true
  | [], cur, n, t, u, ho, hn, hs, ht, hu, _ => by
    obtain ⟨a1, _, a3, _⟩ := apply_ok ho ht hs
    exact ⟨cur, u, rfl, rfl, ho, hn, hs, hu, by rw [← hu]; exact a3, a1⟩
  | o :: l, cur, n, t, u, ho, hn, hs, ht, hu, hc => by
    obtain ⟨c1, c2, _, c3⟩ := hc
    obtain ⟨k1, k2, k3, k4, k5, k6, k7, k8⟩ := compose_ok ho c1 c2.symm
    obtain ⟨a1, a2, a3, a4, a5⟩ := apply_ok ho ht hs
    have hf := (apply_ok c1 a3 (by omega)).1
    have ha := compose_apply ho c1 c2.symm ht hs
    have s1 : stepCo (some cur) o = some (composeT cur o) := by simp [stepCo, k1]
    have s2 : stepAll (some u) o = some (applyT o u) := by rw [← hu]; simp [stepAll, hf]
    rw [List.foldl_cons, List.foldl_cons, s1, s2]
    exact chain_co l (composeT cur o) n t (applyT o u) k3 k4 (by omega) ht (by rw [ha, hu]) (by rw [k7]; exact c3)
theorem composeAll_ok {l : List (List Pt)} {t : List Int} (ht : okText t = true) (hc : chain (t.length : Int) l) : composeAllB l (t.length : Int) = true ∧ applyAllB l t = true ∧ fitsB (composeAllT l (t.length : Int)) t = true ∧ applyAllT l t = applyT (composeAllT l (t.length : Int)) t ∧ okOp (composeAllT l (t.length : Int)) = true ∧ normL (composeAllT l (t.length : Int)) = composeAllT l (t.length : Int) ∧ okText (applyAllT l t) = true := by
  have htl := okText_len' ht
  obtain ⟨p1, p2, p3, p4, p5⟩ := keepL_ok htl
  have hap : applyT (keepL (t.length : Int)) t = t := by
    rw [(apply_ok p1 ht p4).2.1, p3, applyU_keep _ _ rfl]
  obtain ⟨c, u, f1, f2, h1, h2, h3, h4, h5, h6⟩ := chain_co l (keepL (t.length : Int)) 0 t t p1 p2 p4 ht hap (by rw [p5]; exact hc)
  have e1 : composeAllB l (t.length : Int) = true := by
    unfold composeAllB foldCo
    rw [f1, inB_t (by omega)]
    rfl
  have e2 : composeAllT l (t.length : Int) = c := by
    unfold composeAllT
    rw [if_pos e1]
    unfold foldCo
    rw [f1]
    rfl
  have e3 : applyAllB l t = true := by
    unfold applyAllB foldAll
    rw [f2, ht]
    rfl
  have e4 : applyAllT l t = u := by
    unfold applyAllT
    rw [if_pos e3]
    unfold foldAll
    rw [f2]
    rfl
  rw [e2, e4]
  exact ⟨e1, e3, h6, h4.symm, h1, h2, h5⟩
theorem chain3 {n : Int} {l : List (List Pt)} {a b c : List Pt} (h : chain n l) (ha : l[0]? = some a) (hb : l[1]? = some b) (hc : l[2]? = some c) : okOp a = true ∧ okOp b = true ∧ okOp c = true ∧ sumK a + sumP a = sumK b + sumD b ∧ sumK b + sumP b = sumK c + sumD c := by
  match l, h, ha, hb, hc with
  | x :: y :: z :: r, h, ha, hb, hc =>
    simp at ha hb hc
    subst ha
    subst hb
    subst hc
    obtain ⟨q1, q2, _, q3, q4, _, q5, q6, _⟩ := h
    exact ⟨q1, q3, q5, q4.symm, q6.symm⟩
end Go.Proofs.YtbbpapaobehlcaaDoor.low


/-
  What FnNorm wants: the normal form has the same effect, is normal, and is recovered from its text.
-/
namespace Go.Proofs.YtbbpapaobehlcaaDoor.low
open Go.RowKit
set_option linter.unusedVariables false

theorem comp_keepU : ∀ u : List U, comp (List.replicate (src u) .k) u = u
  | [] => comp_nil
  | .k :: r => by
    have := comp_kk 1 (List.replicate (src r) .k) r
    rw [comp_keepU r] at this
    have e : src (.k :: r) = src r + 1 := by simp [src]
    rw [e, List.replicate_succ]
    simpa using this
  | .d :: r => by
    have := comp_kd 1 (List.replicate (src r) .k) r
    rw [comp_keepU r] at this
    have e : src (.d :: r) = src r + 1 := by simp [src]
    rw [e, List.replicate_succ]
    simpa using this
  | .p x :: r => by
    have e : src (.p x :: r) = src r := by simp [src]
    rw [e, comp_put1 _ _ _ (by cases src r <;> trivial), comp_keepU r]
theorem signs_units : ∀ {ps : List Pt}, okPs ps = true → signsIn ps ≤ (units ps).length
  | [], _ => by simp [signsIn]
  | p :: ps, h => by
    have h1 : okPt p = true ∧ okPs ps = true := by simpa [okPs] using h
    have ih := signs_units h1.2
    have e : signsIn (p :: ps) = p.signs.length + signsIn ps := by simp [signsIn]
    rw [e, units_cons, List.length_append, unitsP_len]
    have : p.signs.length ≤ sizeP p := by
      unfold sizeP
      rcases of_okPt h1.1 with ⟨hk, hn, hz⟩ | ⟨hk, hn, ha, hl⟩
      · omega
      · rw [if_pos hk]; exact Nat.le_refl _
    omega
theorem partL_len2 {p : Pt} (h : okPt p = true) : (partL p).length ≤ 12 + 11 * p.signs.length := by
  unfold partL
  rcases of_okPt h with ⟨hk, hn, hz⟩ | ⟨hk, hn, ha, hl⟩
  · have := (numL_len (z := p.n) (by omega)).2
    rcases hk with hk | hk
    · rw [if_pos hk, List.length_cons]; omega
    · rw [if_neg (by omega), if_neg (by omega), List.length_cons]; omega
  · rw [if_neg (by omega), if_pos hk, List.length_cons]
    have := signL_len ha
    omega
theorem opJ_len2 : ∀ {ps : List Pt}, okPs ps = true → (opJ ps).length ≤ 13 * ps.length + 11 * signsIn ps
  | [], _ => by simp [opJ, joinL]
  | [p], h => by
    have h1 : okPt p = true := by simpa [okPs] using h
    have := partL_len2 h1
    have e : signsIn [p] = p.signs.length := by simp [signsIn]
    rw [e]
    simp only [opJ, List.map_cons, List.map_nil, joinL, List.length_cons, List.length_nil]
    omega
  | p :: q :: ps, h => by
    have h1 : okPt p = true ∧ okPs (q :: ps) = true := by simpa [okPs] using h
    have := partL_len2 h1.1
    have ih := opJ_len2 h1.2
    have e : signsIn (p :: q :: ps) = p.signs.length + signsIn (q :: ps) := by simp [signsIn]
    rw [e]
    simp only [opJ, List.map_cons, joinL, List.length_append, List.length_cons] at ih ⊢
    omega
theorem opT_size {a : List Pt} (h : okOp a = true) : (opT a).size ≤ 1048576 := by
  obtain ⟨n1, n2⟩ := norm_parts h
  have hu := (okOp_units (norm_ok h).1).1
  have hs := signs_units n1
  have hj := opJ_len2 n1
  rw [opT_t h, mkB_size]
  unfold opL
  split
  · simp
  · omega
theorem norm_law {a : List Pt} {t : List Int} (ha : okOp a = true) (ht : okText t = true) (sa : sumK a + sumD a = (t.length : Int)) :
    fitsB a t = true ∧ fitsB (normL a) t = true ∧ applyT a t = applyT (normL a) t ∧ okText (applyT a t) = true ∧ okOp (normL a) = true ∧ toL (opT a) = normL a ∧ toB (opT a) = true ∧ okOp (keepL (t.length : Int)) = true ∧ composeB (keepL (t.length : Int)) a = true ∧ composeT (keepL (t.length : Int)) a = normL a ∧ ((applyT a t).length : Int) = sumK a + sumP a ∧ putsN a = sumP a ∧ dropsN a = sumD a := by
  obtain ⟨a1, a2, a3, a4, a5⟩ := apply_ok ha ht sa
  obtain ⟨n1, _, s1, s2, s3⟩ := norm_ok ha
  obtain ⟨p1, p2, p3⟩ := sum_t (okOp_partsB ha)
  obtain ⟨q1, q2, q3⟩ := sum_t (okOp_partsB n1)
  obtain ⟨b1, b2, b3, b4, b5⟩ := apply_ok n1 ht (by rw [q1, q3, s1, s3, ← p1, ← p3]; exact sa)
  obtain ⟨t1, t2⟩ := to_t (textOp_of ha)
  have htl := okText_len' ht
  obtain ⟨k1, k2, k3, k4, k5⟩ := keepL_ok htl
  obtain ⟨c1, c2, _⟩ := compose_ok k1 ha (by rw [k5]; exact sa.symm)
  refine ⟨a1, b1, ?_, a3, n1, t1, t2, k1, c1, ?_, a4, ?_, ?_⟩
  · rw [a2, b2, norm_made ha, units_made, apply_nf]
  · rw [c2, k3, ← a5, comp_keepU, norm_made ha]
  · unfold putsN; rw [ha]; rfl
  · unfold dropsN; rw [ha]; rfl
theorem implKeeping_d (n : Int) (w : World) : Calls Tryd.prog 15 #[.int .i64 n] w (OwnPost (encPs (keepL n)) w) := by
  refine (implKeeping_any n w).mono ?_
  rintro e w1 ⟨v1, rfl, p1, b1⟩
  exact ⟨v1, rfl, own_parts p1, b1⟩
theorem implOpFrom_d (v : Value) (a : List Pt) (w : World) (h : RdC w w.heap.size (encPs a) v) (hs : SmP a) : Calls Tryd.prog 19 #[v] w (Nums1 (sumK a + sumD a) w) := by
  obtain ⟨A, c, rfl, hr, _⟩ := parts_rd h
  exact implOpFrom_any A c a w hr (by have := hs.1; omega) hs.all4
theorem implOpTo_d (v : Value) (a : List Pt) (w : World) (h : RdC w w.heap.size (encPs a) v) (hs : SmP a) : Calls Tryd.prog 20 #[v] w (Nums1 (sumK a + sumP a) w) := by
  obtain ⟨A, c, rfl, hr, _⟩ := parts_rd h
  exact implOpTo_any A c a w hr (by have := hs.1; omega) hs.all4
theorem implPuts_d (v : Value) (a : List Pt) (w : World) (h : RdC w w.heap.size (encPs a) v) (hs : SmP a) : Calls Tryd.prog 22 #[v] w (Nums1 (putsN a) w) := by
  obtain ⟨A, c, rfl, hr, _⟩ := parts_rd h
  exact implPuts_any A c a w hr (by have := hs.1; omega) hs.all4
theorem implDrops_d (v : Value) (a : List Pt) (w : World) (h : RdC w w.heap.size (encPs a) v) (hs : SmP a) : Calls Tryd.prog 23 #[v] w (Nums1 (dropsN a) w) := by
  obtain ⟨A, c, rfl, hr, _⟩ := parts_rd h
  exact implDrops_any A c a w hr (by have := hs.1; omega) hs.all4
theorem opOk_t (v : Value) (a : List Pt) (w : World) (h : RdC w w.heap.size (encPs a) v) (hs : SmP a) (ho : okOp a = true) : Calls Tryd.prog 21 #[v] w (Tells true w) := by
  obtain ⟨A, c, rfl, hr, _⟩ := parts_rd h
  rw [← ho]
  exact implOpOk_any A c a w hr (by have := hs.1; omega) hs.all4
end Go.Proofs.YtbbpapaobehlcaaDoor.low


/-
  Characters are recovered from their encoding.
-/
namespace Go.Proofs.YtbbpapaobehlcaaDoor.low
open Go.RowKit
set_option linter.unusedVariables false

theorem drop_byte {s : ByteArray} {p : Nat} {c : Int} {r : List Int} (h : (numsOf s).drop p = c :: r) : p < s.size ∧ (bAt s p : Int) = c ∧ (numsOf s).drop (p + 1) = r := by
  have hp : p < s.size := by
    rcases Nat.lt_or_ge p s.size with hlt | hge
    · exact hlt
    · have e : (numsOf s).drop p = [] := by rw [List.drop_eq_nil_iff, numsOf_len]; exact hge
      rw [e] at h
      cases h
  rw [drop_num s p hp] at h
  injection h with h1 h2
  exact ⟨hp, h1, h2⟩
theorem dec_of_enc {s : ByteArray} {p : Nat} {z : Int} {r : List Int} (hz : signB z = true) (h : (numsOf s).drop p = encI z ++ r) : p < s.size ∧ Utf8.decode s p = (z.toNat, (encI z).length) ∧ (numsOf s).drop (p + (encI z).length) = r := by
  have hb : (0 ≤ z ∧ z < 55296) ∨ (57343 < z ∧ z ≤ 1114111) := by
    unfold signB at hz
    simp at hz
    omega
  rcases encI_cases z with ⟨h1, hl⟩ | ⟨h1, hl⟩ | ⟨h1, hl⟩ | ⟨h1, hl⟩
  · rw [encI_1 h1] at h
    obtain ⟨a1, a2, a3⟩ := drop_byte h
    refine ⟨a1, ?_, by rw [hl]; exact a3⟩
    rw [hl]
    rcases dec_cases s p with ⟨_, e⟩ | ⟨k, e⟩ | ⟨k, e⟩ | ⟨k, e⟩ | ⟨k, _⟩
    · rw [e, show z.toNat = bAt s p by omega]
    · obtain ⟨k1, _⟩ := k; omega
    · obtain ⟨k1, _⟩ := k; omega
    · obtain ⟨k1, _⟩ := k; omega
    · omega
  · rw [encI_2 h1.1 h1.2] at h
    obtain ⟨a1, a2, a3⟩ := drop_byte h
    obtain ⟨b1, b2, b3⟩ := drop_byte a3
    refine ⟨a1, ?_, by rw [hl]; exact b3⟩
    rw [hl]
    have hd : Dec2 s p := ⟨by omega, ⟨b1, by omega⟩, by omega⟩
    rcases dec_cases s p with ⟨k, e⟩ | ⟨_, e⟩ | ⟨k, e⟩ | ⟨k, e⟩ | ⟨_, k, _⟩
    · omega
    · rw [e, show z.toNat = (bAt s p - 192) * 64 + (bAt s (p + 1) - 128) by omega]
    · obtain ⟨k1, _⟩ := k; omega
    · obtain ⟨k1, _⟩ := k; omega
    · exact absurd hd k
  · rw [encI_3 h1.1 h1.2] at h
    obtain ⟨a1, a2, a3⟩ := drop_byte h
    obtain ⟨b1, b2, b3⟩ := drop_byte a3
    obtain ⟨c1, c2, c3⟩ := drop_byte b3
    rw [show p + 1 + 1 = p + 2 from rfl] at c1 c2 c3
    refine ⟨a1, ?_, by rw [hl]; exact c3⟩
    rw [hl]
    have hd : Dec3 s p := ⟨by omega, ⟨b1, by omega⟩, ⟨c1, by omega⟩, by omega⟩
    rcases dec_cases s p with ⟨k, e⟩ | ⟨k, e⟩ | ⟨_, e⟩ | ⟨k, e⟩ | ⟨_, _, k, _⟩
    · omega
    · obtain ⟨k1, _⟩ := k; omega
    · rw [e, show z.toNat = (bAt s p - 224) * 4096 + (bAt s (p + 1) - 128) * 64 + (bAt s (p + 2) - 128) by omega]
    · obtain ⟨k1, _⟩ := k; omega
    · exact absurd hd k
  · rw [encI_4 h1] at h
    obtain ⟨a1, a2, a3⟩ := drop_byte h
    obtain ⟨b1, b2, b3⟩ := drop_byte a3
    obtain ⟨c1, c2, c3⟩ := drop_byte b3
    rw [show p + 1 + 1 = p + 2 from rfl] at c1 c2 c3
    obtain ⟨d1, d2, d3⟩ := drop_byte c3
    rw [show p + 2 + 1 = p + 3 from rfl] at d1 d2 d3
    refine ⟨a1, ?_, by rw [hl]; exact d3⟩
    rw [hl]
    have hd : Dec4 s p := ⟨by omega, ⟨b1, by omega⟩, ⟨c1, by omega⟩, ⟨d1, by omega⟩, by omega⟩
    rcases dec_cases s p with ⟨k, e⟩ | ⟨k, e⟩ | ⟨k, e⟩ | ⟨_, e⟩ | ⟨_, _, _, k, _⟩
    · omega
    · obtain ⟨k1, _⟩ := k; omega
    · obtain ⟨k1, _⟩ := k; omega
    · rw [e, show z.toNat = (bAt s p - 240) * 262144 + (bAt s (p + 1) - 128) * 4096 + (bAt s (p + 2) - 128) * 64 + (bAt s (p + 3) - 128) by omega]
    · exact absurd hd k
theorem runes_enc {s : ByteArray} : ∀ (zs : List Int) (b p : Nat), (numsOf s).drop p = encL zs → s.size ≤ p + b → allB zs = true → runesAt s b p = zs ∧ okFrom s b p = true
  | [], b, p, h, hb, _ => by
    have hp : ¬ p < s.size := by
      intro hp
      have e : (numsOf s).drop p = [] := h
      rw [List.drop_eq_nil_iff, numsOf_len] at e
      omega
    exact ⟨runesAt_end s b p hp, okFrom_end s b p hp⟩
  | z :: zs, b, p, h, hb, ha => by
    have h1 : signB z = true ∧ allB zs = true := by simpa [allB] using ha
    rw [encL_cons] at h
    obtain ⟨hp, hd, hr⟩ := dec_of_enc h1.1 h
    have hz : 0 ≤ z := by
      have := h1.1
      unfold signB at this
      simp at this
      omega
    obtain ⟨b', rfl⟩ : ∃ b', b = b' + 1 := ⟨b - 1, by omega⟩
    have hl := encI_len z
    obtain ⟨i1, i2⟩ := runes_enc zs b' (p + (encI z).length) hr (by omega) h1.2
    rw [runesAt_step s b' p hp, okFrom_step s b' p hp, hd]
    simp only
    rw [i1, i2]
    refine ⟨by rw [Int.toNat_of_nonneg hz], ?_⟩
    unfold okAt
    rw [hd]
    simp only [Bool.and_true, decide_eq_true_eq]
    intro e
    injection e with e1 e2
    rcases encI_cases z with ⟨k, l⟩ | ⟨k, l⟩ | ⟨k, l⟩ | ⟨k, l⟩ <;> omega
theorem nums_of (l : List Int) (h : ∀ i ∈ l, 0 ≤ i ∧ i ≤ 255) : numsOf (strOfNums l) = l := by
  unfold numsOf strOfNums
  simp only [List.map_map]
  conv => rhs; rw [← List.map_id l]
  refine List.map_congr_left (fun i hi => ?_)
  have := h i hi
  simp
  omega
theorem signs_bytes {zs : List Int} (h : allB zs = true) : okS (bytesOf zs) = true ∧ signsOf (bytesOf zs) = zs := by
  have hn : numsOf (bytesOf zs) = encL zs := by
    rw [bytesOf_t h]
    refine nums_of _ (fun i hi => ?_)
    unfold encL at hi
    obtain ⟨z, hz, hi⟩ := List.mem_flatMap.1 hi
    exact encI_byte (List.all_eq_true.1 h z hz) i hi
  obtain ⟨h1, h2⟩ := runes_enc (s := bytesOf zs) zs (bytesOf zs).size 0 (by rw [hn]; rfl) (by omega) h
  have ho : okS (bytesOf zs) = true := h2
  exact ⟨ho, by rw [signsOf_t ho]; exact h1⟩
end Go.Proofs.YtbbpapaobehlcaaDoor.low


/-
  The specification's draws: a number below n (spec.MakeNum), a text (spec.MakeText).
-/
namespace Go.Proofs.YtbbpapaobehlcaaDoor.low
open Go.RowKit
set_option linter.unusedVariables false

/-- the cursor with another sum -/
theorem DC.sum {B g : Nat} {w : World} (h : DC B g w) : ∃ x : Int, w.cell? ⟨g, 2, none⟩ = some (.int .i64 x) ∧ w.frozen? ⟨g, 2, none⟩ = false ∧ ∀ y : Int, DC B g (w.setCell ⟨g, 2, none⟩ (.int .i64 y)) ∧ Below B w (w.setCell ⟨g, 2, none⟩ (.int .i64 y)) := by
  obtain ⟨A, c, zs, i, x, h1, h2, h3, h4, h5⟩ := h
  refine ⟨x, cell_of_row _ _ 2 _ _ _ h1, by simp [World.frozen?, h1], fun y => ⟨⟨A, c, zs, i, y, set2_row (n := 0) h1, h2, h3.keep (fun p hp => ?_), h4, h5⟩, (Below.refl B w).setCell (p := ⟨g, 2, none⟩) h5 _⟩⟩
  exact World.cell?_of_block (heap_setCell_other _ _ _ _ (fun e => by have e' : p.block = g := e; omega))
theorem Code8.past {w w' : World} {v : Value} (h : Code8 w v) (hb : Below w.heap.size w w') : Code8 w' v := by
  obtain ⟨A, c, zs, h1, h2, h3, h4⟩ := h
  exact ⟨A, c, zs, h1, h2, h3.past hb, h4⟩
def MNum (n : Int) (w : World) (e : Ending) (w' : World) : Prop := ∃ x, e = .returned (.int .i64 x) ∧ 0 ≤ x ∧ (0 < n → x < n) ∧ Below w.heap.size w w'
def MText (w : World) (e : Ending) (w' : World) : Prop := ∃ t v, e = .returned v ∧ okText t = true ∧ t.length ≤ 12 ∧ RdC w' w'.heap.size (encInts t) v ∧ Below w.heap.size w w'
set_option maxRecDepth 100000 in
set_option maxHeartbeats 1600000 in
theorem specMakeNum_d (v : Value) (n : Int) (w : World) (h : Code8 w v) (hn : n ≤ 2147483648) : Calls Tryd.prog 29 #[v, .int .i64 n] w (MNum n w) := by
  obtain ⟨A0, c0, zs0, rfl, _⟩ : ∃ A c zs, v = .slice A (List.length (α := Int) zs) c ∧ True := by obtain ⟨A, c, zs, e, _⟩ := h; exact ⟨A, c, zs, e, trivial⟩
  go_enter Tryd.func29, Tryd.ntmps29
  go_wp2_with fail
  refine (specNew_d _ w h).mono ?_
  rintro e w1 ⟨rfl, dc, b1⟩
  obtain ⟨x, k1, k2, k3⟩ := dc.sum
  have K3 := Lib.hid k3
  clear k3 dc
  go_wp2_with fail
  refine (specBelow_d _ _ n _ (K3.out _).1 hn).mono ?_
  rintro e w2 ⟨y, rfl, ⟨h1, h2, _⟩, _, _, bl⟩
  have B2 := Lib.hid bl
  have B3 := Lib.hid (K3.out (wrap64 (x + 777))).2
  clear bl k1 k2 K3
  go_wp2
  go_ret
  exact ⟨y, rfl, h1, h2, (b1.trans B3.out).trans B2.out⟩
set_option maxRecDepth 100000 in
set_option maxHeartbeats 1600000 in
theorem specMakeText_d (v : Value) (n : Int) (w : World) (h : Code8 w v) : Calls Tryd.prog 24 #[v, .int .i64 n] w (MText w) := by
  obtain ⟨A0, c0, zs0, rfl, _⟩ : ∃ A c zs, v = .slice A (List.length (α := Int) zs) c ∧ True := by obtain ⟨A, c, zs, e, _⟩ := h; exact ⟨A, c, zs, e, trivial⟩
  go_enter Tryd.func24, Tryd.ntmps24
  go_wp2_with fail
  refine (specNew_d _ w h).mono ?_
  rintro e w1 ⟨rfl, dc, b1⟩
  obtain ⟨x, k1, k2, k3⟩ := dc.sum
  have K3 := Lib.hid k3
  clear k3 dc
  go_wp2_with fail
  refine (specSigns_d _ _ 12 _ (K3.out _).1 (by omega)).mono ?_
  rintro e w2 ⟨t, vt, kt, rfl, tl, ta, ot, _, _, bl⟩
  obtain ⟨At, ct, rfl⟩ := sliceI ot.read
  have B2 := Lib.hid bl
  have B3 := Lib.hid (K3.out (wrap64 (x + n))).2
  have OT := Lib.hid ot.read
  have HTA := Lib.hid ta
  clear bl k1 k2 K3 ot ta
  go_wp2
  go_ret
  exact ⟨t, _, rfl, okText_of HTA.out (by omega), tl, OT.out, (b1.trans B3.out).trans B2.out⟩
end Go.Proofs.YtbbpapaobehlcaaDoor.low


/-
  What FnSigns wants: characters are recovered from their encodings.
-/
namespace Go.Proofs.YtbbpapaobehlcaaDoor.low
open Go.RowKit
set_option linter.unusedVariables false

theorem okText_allB {t : List Int} (h : okText t = true) : allB t = true ∧ t.length ≤ 200 := by
  refine ⟨?_, okText_len' h⟩
  unfold okText at h
  simp at h
  exact h.1
theorem implBytes_d (v : Value) (zs : List Int) (w : World) (h : RdC w w.heap.size (encInts zs) v) (hs : SmI zs) : Calls Tryd.prog 26 #[v] w (Strs (bytesOf zs) w) := by
  obtain ⟨A, c, rfl, hr, _⟩ := ints_rd h
  exact implBytes_any A c zs w hr (by unfold SmI at hs; omega)
theorem implSigns_t {t : List Int} (w : World) (ht : allB t = true) (hl : t.length ≤ 200) : Calls Tryd.prog 25 #[.string (bytesOf t)] w (ResB (encInts t) true w) := by
  obtain ⟨h1, h2⟩ := signs_bytes ht
  have hsz : (bytesOf t).size ≤ 1048576 := by
    rw [bytesOf_t ht, strOfNums_size]
    have := encL_len t
    omega
  refine (implSigns_any (bytesOf t) w hsz).mono ?_
  rintro e w1 ⟨v, rfl, hb, b⟩
  rw [h1]
  rw [h2] at hb
  obtain ⟨A, c, rfl, _⟩ := hb.slice
  exact ⟨_, rfl, ownInts hb.1 b.size, b⟩
theorem implSignsOk_t (v : Value) (zs : List Int) (w : World) (h : RdC w w.heap.size (encInts zs) v) (hs : SmI zs) (ha : allB zs = true) : Calls Tryd.prog 32 #[v] w (Tells true w) := by
  obtain ⟨A, c, rfl, hr, _⟩ := ints_rd h
  refine (implSignsOk_any A c zs w hr (by unfold SmI at hs; omega)).mono ?_
  rintro e w1 ⟨rfl, rfl⟩
  exact ⟨by rw [ha], Below.refl _ _⟩
theorem signT_size {t : List Int} (ht : allB t = true) (hl : t.length ≤ 200) : (signT t).size ≤ 1048576 := by
  rw [signT_t ht, mkB_size]
  have := signL_len ht
  omega
theorem num_numT {n : Int} (h0 : 0 ≤ n) (h1 : n ≤ 1000000000) : nt.Num (nt.numT n) ∧ ((nt.parse (nt.numT n).data.toList : Nat) : Int) = n ∧ (nt.numT n).size ≤ 1048576 := by
  have hs : (nt.numT n).size = (numL n).length := by rw [numT_mk h0 h1, mkB_size]
  have hl := numL_len (z := n) h1
  obtain ⟨k1, k2⟩ := nt.num_of_eq (s := nt.numT n) (n := n) (by omega) rfl
  exact ⟨k1, k2.symm, by omega⟩
end Go.Proofs.YtbbpapaobehlcaaDoor.low

