/-
  Texts that the proofs over this seat rest on, one behind the other (3 of 4).
-/
import Derived.Test.YtihajkppeiainaaM2
import Derived.Test.YtihajkppeiainaaM1
import Derived.StillTailTactics
import Derived.RangeFuncNested
import Derived.RangeFuncBound
import Derived.OrdersHeld
import Derived.OrdersIn
import Derived.TacticsIn
import Derived.RangeFuncLeaves
import Derived.OwnWalkIn
import Derived.TacticsInMore
import Derived.LoopNIn
import Derived.LoopIn
import Derived.Shelf.Abstract

/-
  Contract of spec.Compose.
-/
namespace Go.Proofs.Ytihajkppeiainaa.low
open Go.RowKit
set_option linter.unusedVariables false

theorem heap_old (w : World) (o : Obj) {g : Nat} {x : Obj} (h : w.heap[g]? = some x) : (w.alloc o).heap[g]? = some x := by
  rw [Below.heap_alloc _ _ _ (lt_of_some h)]
  exact h
theorem cur_new {w : World} {g : Nat} {T : TypeId} {A : Option Addr} {c : Nat} {ps : List Pt} (h : w.heap[g]? = some (.cells #[.slice A ps.length c, .int .i64 0, .int .i64 0] T (0, 0))) : ∃ i d, Cur g T w A c ps i d ∧ rem ps i d = units ps ∧ Sett ps i d none :=
  ⟨0, 0, ⟨h, Nat.zero_le _, fun _ _ => Nat.zero_le _, fun _ => rfl⟩, by simp [rem], trivial⟩
/-- two cursors as they are made, at w.heap.size and behind it -/
theorem Cs.new {w w' : World} {A B : Option Addr} {ca cb lo : Nat} {a b : List Pt} {TC : TypeId} (hlo : lo ≤ w.heap.size) (ra : RdC w lo (encPs a) (.slice A a.length ca)) (rb : RdC w lo (encPs b) (.slice B b.length cb)) (sa : ∀ p ∈ a, szP_ p) (sb : ∀ p ∈ b, szP_ p) (na : a.length ≤ 1048576) (nb : b.length ≤ 1048576)
    (hx : w'.heap[w.heap.size]? = some (.cells #[.slice A a.length ca, .int .i64 0, .int .i64 0] TC (0, 0))) (hy : w'.heap[w.heap.size + 1]? = some (.cells #[.slice B b.length cb, .int .i64 0, .int .i64 0] TC (0, 0))) (hb : Below lo w w') : Cs ⟨lo, w.heap.size, w.heap.size + 1, TC, A, ca, a, B, cb, b⟩ w' none none (units a) (units b) :=
  ⟨cur_new hx, cur_new hy, ra.below hb, rb.below hb, by simp, hlo, Nat.le_succ_of_le hlo, sa, sb, na, nb⟩

theorem CB.new {w : World} {A B : Option Addr} {ca cb lo : Nat} {a b : List Pt} {TC TB : TypeId} (hlo : lo ≤ w.heap.size) (ra : RdC w lo (encPs a) (.slice A a.length ca)) (rb : RdC w lo (encPs b) (.slice B b.length cb)) (sa : ∀ p ∈ a, szP_ p) (sb : ∀ p ∈ b, szP_ p) (na : a.length ≤ 1048576) (nb : b.length ≤ 1048576) :
    CB ⟨lo, w.heap.size, w.heap.size + 1, TC, A, ca, a, B, cb, b⟩ (w.heap.size + 1 + 1) TB (fun q => q = w.heap.size + 1 + 1) [] (((w.alloc (.cells #[.slice A a.length ca, .int .i64 0, .int .i64 0] TC)).alloc (.cells #[.slice B b.length cb, .int .i64 0, .int .i64 0] TC)).alloc (.cells #[.slice none 0 0, .slice none 0 0, .int .i64 0] TB)) none none (units a) (units b) ∧
    Below lo w (((w.alloc (.cells #[.slice A a.length ca, .int .i64 0, .int .i64 0] TC)).alloc (.cells #[.slice B b.length cb, .int .i64 0, .int .i64 0] TC)).alloc (.cells #[.slice none 0 0, .slice none 0 0, .int .i64 0] TB)) := by
  have s1 : (w.alloc (.cells #[.slice A a.length ca, .int .i64 0, .int .i64 0] TC)).heap.size = w.heap.size + 1 := Array.size_push ..
  have s2 : ((w.alloc (.cells #[.slice A a.length ca, .int .i64 0, .int .i64 0] TC)).alloc (.cells #[.slice B b.length cb, .int .i64 0, .int .i64 0] TC)).heap.size = w.heap.size + 1 + 1 := by rw [← s1]; exact Array.size_push ..
  have b1 := (((alloc_below w (.cells #[.slice A a.length ca, .int .i64 0, .int .i64 0] TC)).mono hlo).alloc (by rw [s1]; omega) (.cells #[.slice B b.length cb, .int .i64 0, .int .i64 0] TC)).alloc (by rw [s2]; omega) (.cells #[.slice none 0 0, .slice none 0 0, .int .i64 0] TB)
  have hb := Bld.new lo TB ((w.alloc (.cells #[.slice A a.length ca, .int .i64 0, .int .i64 0] TC)).alloc (.cells #[.slice B b.length cb, .int .i64 0, .int .i64 0] TC)) (by rw [s2]; omega)
  rw [s2] at hb
  exact ⟨⟨Cs.new hlo ra rb sa sb na nb (heap_old _ _ (heap_old _ _ (heap_alloc_new w _))) (heap_old _ _ (by rw [← s1]; exact heap_alloc_new _ _)) b1, hb, by show ¬ w.heap.size = _; omega, by show ¬ w.heap.size + 1 = _; omega⟩, b1⟩
theorem cinv0 {a b : List Pt} (hoa : okOp a = true) (hob : okOp b = true) (hbal : sumK a + sumP a = sumK b + sumD b) : CInv a b (units a) (units b) [] := by
  obtain ⟨ua, hsa, _⟩ := okOp_units hoa
  obtain ⟨ub, hsb, _⟩ := okOp_units hob
  refine ⟨by simp [units_nil], ?_, by simp; omega⟩
  have s1 := (src_units hsa).2
  have s2 := (src_units hsb).1
  obtain ⟨t1, t2, t3⟩ := sum_t (okOp_partsB hoa)
  obtain ⟨u1, u2, u3⟩ := sum_t (okOp_partsB hob)
  rw [t1, t2, u1, u3] at hbal
  omega

set_option maxRecDepth 1000000 in
set_option maxHeartbeats 6400000 in
theorem specCompose_t (A B : Option Addr) (ca cb : Nat) (a b : List Pt) (w : World) (h : RdC w w.heap.size (encPs a) (.slice A a.length ca)) (h' : RdC w w.heap.size (encPs b) (.slice B b.length cb)) (hs : SmP a) (hs' : SmP b) (hoa : okOp a = true) (hob : okOp b = true) (hbal : sumK a + sumP a = sumK b + sumD b) :
    Calls Try.prog 20 #[.slice A a.length ca, .slice B b.length cb] w (ResB (encPs (composeT a b)) (composeB a b) w) := by
  obtain ⟨A_, ca_, eA, hra, _⟩ := parts_rd h
  obtain ⟨rfl, rfl⟩ : A = A_ ∧ ca = ca_ := by injection eA with e1 _ e3; exact ⟨e1, e3⟩
  obtain ⟨B_, cb_, eB, hrb, _⟩ := parts_rd h'
  obtain ⟨rfl, rfl⟩ : B = B_ ∧ cb = cb_ := by injection eB with e1 _ e3; exact ⟨e1, e3⟩
  clear eA eB
  have hlA := hs.1
  have hlB := hs'.1
  have hne : ((sumK a + sumP a) != (sumK b + sumD b)) = false := by simp [hbal]
  have HI := Lib.hid (cinv0 hoa hob hbal)
  have HOA := Lib.hid hoa
  have HOB := Lib.hid hob
  have HBAL := Lib.hid hbal
  clear hbal
  go_enter Try.func20, Try.ntmps20
  go_wp2_with fail
  refine (specOpOk_any A ca a _ hra (by omega) hs.all4).mono ?_
  rintro e w1 ⟨rfl, b1⟩
  rw [hoa]
  go_wp2_with fail
  refine (specOpOk_any B cb b _ (hrb.past b1) (by omega) hs'.all4).mono ?_
  rintro e w2 ⟨rfl, b2⟩
  rw [hob]
  have d2 := b1.trans (b2.mono b1.size)
  go_wp2_with fail
  refine (specOpTo_any A ca a _ (hra.past d2) (by omega) hs.all4).mono ?_
  rintro e w3 ⟨rfl, b3⟩
  have d3 := d2.trans (b3.mono d2.size)
  go_wp2_with fail
  refine (specOpFrom_any B cb b _ (hrb.past d3) (by omega) hs'.all4).mono ?_
  rintro e w4 ⟨rfl, b4⟩
  have d4 := d3.trans (b4.mono d3.size)
  clear hoa hob b1 b2 d2 b3 d3 b4
  go_wp2
  obtain ⟨hcb, bN⟩ := CB.new (TC := 83) (TB := 86) d4.size (h.below d4) (h'.below d4) (okOp_units HOA.out).2.1 (okOp_units HOB.out).2.1 hlA hlB
  have D := d4.trans bN
  have HCB := Lib.hid hcb
  clear hcb bN hne
  refine coLoop ⟨w.heap.size, w4.heap.size, w4.heap.size + 1, 83, A, ca, a, B, cb, b⟩ rfl (w4.heap.size + 1 + 1) w _ _ _ _ _ _ _ _ _ _ _ _ _ _ _ _ _ _ _ _ _ _ _ _ _ _ _ _ _ _ _ _ _ _ _ _ _ _ _ _ _ _ _ _ _ _ _ _ _ _ _ _ _ _ _ _ _ _ _ _ _ _ _ _ _ _ _ _ _ _ _ _ _ _ _ _ _ _ _ _ _ _ _ _ _ _ _ _ _ _ _ _ _ _ _ _ _ _ _ _ _ _ _ _ _ _ _ _ _ _ _ _ _ _ _ _ _ _ _ _ _ _ _ _ _ _ _ _ _ _ _ _ _ _ _ _ _ _ _ _ _ _ _ ⟨_, _, _, _, HCB.out, HI.out, D⟩ ?_
  intro act w8 hE
  clear HCB D HI
  unfold CoE at hE
  obtain ⟨u9, hE⟩ := hE
  obtain ⟨u10, hE⟩ := hE
  obtain ⟨u11, hE⟩ := hE
  obtain ⟨u12, hE⟩ := hE
  obtain ⟨u37, hE⟩ := hE
  obtain ⟨u38, hE⟩ := hE
  obtain ⟨u39, hE⟩ := hE
  obtain ⟨u40, hE⟩ := hE
  obtain ⟨u41, hE⟩ := hE
  obtain ⟨u42, hE⟩ := hE
  obtain ⟨u43, hE⟩ := hE
  obtain ⟨u44, hE⟩ := hE
  obtain ⟨u45, hE⟩ := hE
  obtain ⟨u46, hE⟩ := hE
  obtain ⟨u47, hE⟩ := hE
  obtain ⟨u48, hE⟩ := hE
  obtain ⟨u49, hE⟩ := hE
  obtain ⟨u50, hE⟩ := hE
  obtain ⟨u51, hE⟩ := hE
  obtain ⟨u52, hE⟩ := hE
  obtain ⟨u53, hE⟩ := hE
  obtain ⟨u54, hE⟩ := hE
  obtain ⟨u55, hE⟩ := hE
  obtain ⟨u56, hE⟩ := hE
  obtain ⟨u57, hE⟩ := hE
  obtain ⟨u58, hE⟩ := hE
  obtain ⟨u59, hE⟩ := hE
  obtain ⟨u60, hE⟩ := hE
  obtain ⟨u61, hE⟩ := hE
  obtain ⟨u62, hE⟩ := hE
  obtain ⟨u63, hE⟩ := hE
  obtain ⟨u64, hE⟩ := hE
  obtain ⟨u65, hE⟩ := hE
  obtain ⟨u66, hE⟩ := hE
  obtain ⟨u67, hE⟩ := hE
  obtain ⟨u68, hE⟩ := hE
  obtain ⟨u69, hE⟩ := hE
  obtain ⟨u70, hE⟩ := hE
  obtain ⟨u71, hE⟩ := hE
  obtain ⟨u72, hE⟩ := hE
  obtain ⟨u73, hE⟩ := hE
  obtain ⟨u74, hE⟩ := hE
  obtain ⟨u75, hE⟩ := hE
  obtain ⟨u76, hE⟩ := hE
  obtain ⟨u77, hE⟩ := hE
  obtain ⟨u78, hE⟩ := hE
  obtain ⟨u79, hE⟩ := hE
  obtain ⟨u80, hE⟩ := hE
  obtain ⟨u81, hE⟩ := hE
  obtain ⟨u82, hE⟩ := hE
  obtain ⟨u83, hE⟩ := hE
  obtain ⟨u84, hE⟩ := hE
  obtain ⟨u85, hE⟩ := hE
  obtain ⟨u86, hE⟩ := hE
  obtain ⟨u87, hE⟩ := hE
  obtain ⟨u88, hE⟩ := hE
  obtain ⟨u89, hE⟩ := hE
  obtain ⟨u90, hE⟩ := hE
  obtain ⟨u91, hE⟩ := hE
  obtain ⟨u92, hE⟩ := hE
  obtain ⟨u93, hE⟩ := hE
  obtain ⟨u94, hE⟩ := hE
  obtain ⟨u95, hE⟩ := hE
  obtain ⟨u96, hE⟩ := hE
  obtain ⟨u97, hE⟩ := hE
  obtain ⟨u98, hE⟩ := hE
  obtain ⟨u99, hE⟩ := hE
  obtain ⟨u100, hE⟩ := hE
  obtain ⟨u101, hE⟩ := hE
  obtain ⟨u102, hE⟩ := hE
  obtain ⟨u103, hE⟩ := hE
  obtain ⟨u104, hE⟩ := hE
  obtain ⟨u105, hE⟩ := hE
  obtain ⟨u106, hE⟩ := hE
  obtain ⟨u107, hE⟩ := hE
  obtain ⟨u108, hE⟩ := hE
  obtain ⟨u109, hE⟩ := hE
  obtain ⟨u110, hE⟩ := hE
  obtain ⟨u111, hE⟩ := hE
  obtain ⟨u112, hE⟩ := hE
  obtain ⟨u113, hE⟩ := hE
  obtain ⟨u114, hE⟩ := hE
  obtain ⟨u115, hE⟩ := hE
  obtain ⟨u116, hE⟩ := hE
  obtain ⟨u117, hE⟩ := hE
  obtain ⟨u118, hE⟩ := hE
  obtain ⟨u119, hE⟩ := hE
  obtain ⟨u120, hE⟩ := hE
  obtain ⟨u121, hE⟩ := hE
  obtain ⟨u122, hE⟩ := hE
  obtain ⟨u123, hE⟩ := hE
  obtain ⟨u124, hE⟩ := hE
  obtain ⟨u125, hE⟩ := hE
  obtain ⟨u126, hE⟩ := hE
  obtain ⟨u127, hE⟩ := hE
  obtain ⟨u128, hE⟩ := hE
  obtain ⟨u129, hE⟩ := hE
  obtain ⟨u130, hE⟩ := hE
  obtain ⟨u131, hE⟩ := hE
  obtain ⟨u132, hE⟩ := hE
  obtain ⟨u133, hE⟩ := hE
  obtain ⟨u134, hE⟩ := hE
  obtain ⟨u135, hE⟩ := hE
  obtain ⟨u136, hE⟩ := hE
  obtain ⟨u137, hE⟩ := hE
  obtain ⟨⟨O, L, hb, hi, D⟩, rfl⟩ := hE
  have HB := Lib.hid hb.bd
  have eL : doneN (foldN L) = compL a b := by
    have h1 := hi.eq
    rw [comp_nil, List.append_nil] at h1
    unfold compL
    rw [foldN_units hb.bd.sz, h1]
  have HEL := Lib.hid eL
  have hsm : SmP (compL a b) := by rw [← eL]; exact built_small hb.bd.sz (by have := hi.len; omega)
  have HB2 := Lib.hid (show composeB a b = okOp (compL a b) by unfold composeB; rw [HOA.out, HOB.out, HBAL.out]; simp)
  clear hb hi eL
  go_wp2_with fail
  refine (specDoneB O _ _ L _ HB.out).mono ?_
  rintro e w9 ⟨v9, k9, rfl, o9, _, bl9, _⟩
  rw [HEL.out] at o9
  replace D := D.trans bl9
  obtain ⟨A9, c9, rfl, r9, _⟩ := parts_rd o9.read
  have H9 := Lib.hid o9
  clear o9 bl9 HEL HB
  have hsm1 := hsm.1
  go_wp2_with fail
  refine (specOpOk_any A9 c9 (compL a b) _ r9 (by omega) hsm.all4).mono ?_
  rintro e w10 ⟨rfl, b10⟩
  replace D := D.trans (b10.mono D.size)
  cases hoc : okOp (compL a b)
  · have HN := Lib.hid (show composeB a b = false ∧ composeT a b = [] by rw [HB2.out, hoc]; exact ⟨rfl, by unfold composeT; rw [HB2.out, hoc]; rfl⟩)
    clear HB2
    go_wp2
    go_ret2
    rw [HN.out.1, HN.out.2]
    exact ⟨_, rfl, nilOwn _ _ rfl D.size, D⟩
  · have HN := Lib.hid (show composeB a b = true ∧ composeT a b = compL a b by rw [HB2.out, hoc]; exact ⟨rfl, by unfold composeT; rw [HB2.out, hoc]; rfl⟩)
    clear HB2
    go_wp2
    go_ret2
    rw [HN.out.1, HN.out.2]
    have o10 := H9.out.past b10
    exact ⟨_, rfl, ⟨k9, o10.ow, o10.nd, fun x hx => ⟨(o10.rng x hx).1, Nat.lt_of_lt_of_le (o10.rng x hx).2 b10.size⟩, Nat.le_refl _, D.size⟩, D⟩

theorem composeB_f {a b : List Pt} (h : (okOp a && okOp b && (sumK a + sumP a == sumK b + sumD b)) = false) : composeB a b = false ∧ composeT a b = [] := by
  have e : composeB a b = false := by unfold composeB; rw [h]; rfl
  exact ⟨e, by unfold composeT; rw [e]; rfl⟩
set_option maxHeartbeats 1600000 in
theorem specCompose_d (v v' : Value) (a b : List Pt) (w : World) (h : RdC w w.heap.size (encPs a) v) (h' : RdC w w.heap.size (encPs b) v') (hs : SmP a) (hs' : SmP b) : Calls Try.prog 20 #[v, v'] w (ResB (encPs (composeT a b)) (composeB a b) w) := by
  obtain ⟨A, ca, rfl, hra, _⟩ := parts_rd h
  obtain ⟨B, cb, rfl, hrb, _⟩ := parts_rd h'
  have hlA := hs.1
  have hlB := hs'.1
  cases hoa : okOp a
  · have HN := Lib.hid (composeB_f (a := a) (b := b) (by rw [hoa]; rfl))
    go_enter Try.func20, Try.ntmps20
    go_wp2_with fail
    refine (specOpOk_any A ca a _ hra (by omega) hs.all4).mono ?_
    rintro e w1 ⟨rfl, b1⟩
    rw [hoa]
    go_wp2
    go_ret2
    rw [HN.out.1, HN.out.2]
    exact ⟨_, rfl, nilOwn _ _ rfl b1.size, b1⟩
  cases hob : okOp b
  · have HN := Lib.hid (composeB_f (a := a) (b := b) (by rw [hoa, hob]; rfl))
    go_enter Try.func20, Try.ntmps20
    go_wp2_with fail
    refine (specOpOk_any A ca a _ hra (by omega) hs.all4).mono ?_
    rintro e w1 ⟨rfl, b1⟩
    rw [hoa]
    go_wp2_with fail
    refine (specOpOk_any B cb b _ (hrb.past b1) (by omega) hs'.all4).mono ?_
    rintro e w2 ⟨rfl, b2⟩
    rw [hob]
    have d2 := b1.trans (b2.mono b1.size)
    go_wp2
    go_ret2
    rw [HN.out.1, HN.out.2]
    exact ⟨_, rfl, nilOwn _ _ rfl d2.size, d2⟩
  by_cases hbal : sumK a + sumP a = sumK b + sumD b
  · exact specCompose_t A B ca cb a b w h h' hs hs' hoa hob hbal
  · have hne : ((sumK a + sumP a) != (sumK b + sumD b)) = true := by simp [hbal]
    have HN := Lib.hid (composeB_f (a := a) (b := b) (by rw [hoa, hob]; simp [hbal]))
    clear hbal
    go_enter Try.func20, Try.ntmps20
    go_wp2_with fail
    refine (specOpOk_any A ca a _ hra (by omega) hs.all4).mono ?_
    rintro e w1 ⟨rfl, b1⟩
    rw [hoa]
    go_wp2_with fail
    refine (specOpOk_any B cb b _ (hrb.past b1) (by omega) hs'.all4).mono ?_
    rintro e w2 ⟨rfl, b2⟩
    rw [hob]
    have d2 := b1.trans (b2.mono b1.size)
    go_wp2_with fail
    refine (specOpTo_any A ca a _ (hra.past d2) (by omega) hs.all4).mono ?_
    rintro e w3 ⟨rfl, b3⟩
    have d3 := d2.trans (b3.mono d2.size)
    go_wp2_with fail
    refine (specOpFrom_any B cb b _ (hrb.past d3) (by omega) hs'.all4).mono ?_
    rintro e w4 ⟨rfl, b4⟩
    have d4 := d3.trans (b4.mono d3.size)
    go_wp2
    go_ret2
    rw [HN.out.1, HN.out.2]
    exact ⟨_, rfl, nilOwn _ _ rfl d4.size, d4⟩
theorem compose_small {a b : List Pt} (h0 : SmP a) (h1 : SmP b) : SmP (composeT a b) := by
  unfold composeT
  split
  · rename_i h
    unfold composeB at h
    rw [Bool.and_eq_true] at h
    obtain ⟨_, h2, h3⟩ := okOp_units h.2
    refine ⟨by omega, ?_⟩
    have := signsIn_le h2
    omega
  · exact ⟨by simp, by simp [signsIn]⟩
end Go.Proofs.Ytihajkppeiainaa.low


/-
  Composing several operations, and counting parts: the functions on lists, and the contracts of spec.ComposeAll and spec.PartCount.
-/
namespace Go.Proofs.Ytihajkppeiainaa.low
open Go.RowKit
set_option linter.unusedVariables false

def stepCo (s : Option (List Pt)) (ps : List Pt) : Option (List Pt) := match s with
  | none => none
  | some o => if composeB o ps = true then some (composeT o ps) else none
def foldCo (l : List (List Pt)) (n : Int) : Option (List Pt) := l.foldl stepCo (some (keepL n))
def composeAllB (l : List (List Pt)) (n : Int) : Bool := inB n 0 200 && (foldCo l n).isSome
def composeAllT (l : List (List Pt)) (n : Int) : List Pt := if composeAllB l n = true then (foldCo l n).getD [] else []
theorem foldCo_snoc {l : List (List Pt)} {n : Int} {k : Nat} {ps : List Pt} (h : l[k]? = some ps) : foldCo (l.take (k + 1)) n = stepCo (foldCo (l.take k) n) ps := by
  unfold foldCo
  rw [List.take_add_one, h]
  simp
theorem foldlCo_none (l : List (List Pt)) : l.foldl stepCo none = none := by
  induction l with
  | nil => rfl
  | cons p l ih => exact ih
theorem foldCo_none {l : List (List Pt)} {n : Int} {k : Nat} (h : foldCo (l.take k) n = none) : foldCo l n = none := by
  have e : foldCo l n = (l.drop k).foldl stepCo (foldCo (l.take k) n) := by
    unfold foldCo
    rw [← List.foldl_append, List.take_append_drop]
  rw [e, h, foldlCo_none]
theorem composeT_small (a b : List Pt) : SmP (composeT a b) := by
  unfold composeT
  split
  · rename_i h
    unfold composeB at h
    rw [Bool.and_eq_true] at h
    obtain ⟨_, h2, h3⟩ := okOp_units h.2
    refine ⟨by omega, ?_⟩
    have := signsIn_le h2
    omega
  · exact ⟨by simp, by simp [signsIn]⟩
theorem keepL_small (n : Int) : SmP (keepL n) := ⟨by have := keepL_len n; omega, by rw [keepL_signs]; omega⟩
theorem foldCo_small {l : List (List Pt)} {n : Int} {cur : List Pt} {k : Nat} (hk : k ≤ l.length) (h : foldCo (l.take k) n = some cur) : SmP cur := by
  cases k with
  | zero =>
    have : cur = keepL n := by simpa [foldCo] using h.symm
    rw [this]
    exact keepL_small n
  | succ k =>
    obtain ⟨ps, hp⟩ := idx_some (l := l) (i := k) (by omega)
    rw [foldCo_snoc hp] at h
    cases hq : foldCo (l.take k) n with
    | none => rw [hq] at h; cases h
    | some u =>
      rw [hq] at h
      unfold stepCo at h
      simp only at h
      split at h
      · injection h with h
        rw [← h]
        exact composeT_small _ _
      · cases h
theorem composeAll_small {l : List (List Pt)} {n : Int} (h0 : SmPP l) : SmP (composeAllT l n) := by
  unfold composeAllT
  split
  · cases h : foldCo l n with
    | none => exact ⟨by simp, by simp [signsIn]⟩
    | some cur =>
      simp only [Option.getD_some]
      exact foldCo_small (l := l) (k := l.length) (Nat.le_refl _) (by rw [List.take_length]; exact h)
  · exact ⟨by simp, by simp [signsIn]⟩
theorem composeAll_f {l : List (List Pt)} {n : Int} (h : composeAllB l n = false) : composeAllT l n = [] := by unfold composeAllT; rw [h]; rfl

theorem specKeeping_d (n : Int) (w : World) : Calls Try.prog 69 #[.int .i64 n] w (OwnPost (encPs (keepL n)) w) := by
  refine (specKeeping_any n w).mono ?_
  rintro e w1 ⟨v1, rfl, p1, b1⟩
  exact ⟨v1, rfl, own_parts p1, b1⟩

set_option maxRecDepth 100000 in
set_option maxHeartbeats 3200000 in
theorem specComposeAll_d (v : Value) (l : List (List Pt)) (n : Int) (w : World) (h : RdC w w.heap.size (encPss l) v) (hs : SmPP l) : Calls Try.prog 26 #[v, .int .i64 n] w (ResB (encPs (composeAllT l n)) (composeAllB l n) w) := by
  obtain ⟨A, c, rfl⟩ := pss_len h
  have hl := hs.1
  cases hin : inB n 0 200
  · have HN := Lib.hid (show composeAllB l n = false by unfold composeAllB; rw [hin]; rfl)
    go_enter Try.func26, Try.ntmps26
    go_wp2_with fail
    refine (in_any _ _ _ _).mono ?_
    rintro e w1 ⟨rfl, rfl⟩
    rw [hin]
    go_wp2
    go_ret2
    rw [HN.out, composeAll_f HN.out]
    exact ⟨_, rfl, nilOwn _ _ rfl (Nat.le_refl _), Below.refl _ _⟩
  · have HIN := Lib.hid hin
    go_enter Try.func26, Try.ntmps26
    go_wp2_with fail
    refine (in_any _ _ _ _).mono ?_
    rintro e w1 ⟨rfl, rfl⟩
    rw [hin]
    clear hin
    go_wp2_with fail
    refine (specKeeping_d n _).mono ?_
    rintro e w1 ⟨v1, rfl, o1, b1⟩
    have HO1 := Lib.hid o1
    clear o1
    go_wp2
    go_loopw [6, 18] (fun o i wr => ∃ (k : Nat) (cur : List Pt), k ≤ l.length ∧ i = .int .i64 k ∧ foldCo (l.take k) n = some cur ∧ Own w.heap.size wr.heap.size wr (encPs cur) o ∧ Below w.heap.size w wr) (fun _ i _ => l.length - (intOf i).toNat)
    case atStart => exact ⟨0, keepL n, Nat.zero_le _, rfl, rfl, HO1.out, b1⟩
    case round =>
      obtain ⟨k, cur, hk, rfl, hf, ho, hbel⟩ := hrel
      clear HO1 b1
      have HF := Lib.hid hf
      have hsc := foldCo_small hk hf
      clear hf
      by_cases hlt : k < l.length
      · obtain ⟨ad, ps, A1, c1, rfl, hb, hp, hc, hpr⟩ := pss_at (h.below hbel) hlt
        have K1 := Lib.hid (foldCo_snoc (n := n) hp)
        rw [HF.out] at K1
        have hsp := hs.all ps (List.mem_of_getElem? hp)
        clear hp
        obtain ⟨Ao, co, rfl⟩ := sliceP ho.read
        have HO := Lib.hid ho
        have HPR := Lib.hid (RdC.more hbel.size _ _ hpr)
        clear ho hpr
        go_wp2_with fail
        refine (specCompose_d _ _ cur ps _ HO.out.read HPR.out hsc hsp).mono ?_
        rintro e w2 ⟨v2, rfl, o2, b2⟩
        obtain ⟨A3, c3, rfl⟩ := sliceP o2.read
        have HO2 := Lib.hid o2
        clear o2
        cases hfit : composeB cur ps
        · have HN := Lib.hid (show composeAllB l n = false by
            have : foldCo l n = none := foldCo_none (k := k + 1) (by rw [K1.out]; simp [stepCo, hfit])
            unfold composeAllB; rw [this]; simp)
          go_wp2
          go_ret2
          rw [HN.out, composeAll_f HN.out]
          exact ⟨_, rfl, nilOwn _ _ rfl (hbel.trans (b2.mono hbel.size)).size, hbel.trans (b2.mono hbel.size)⟩
        · have K2 := Lib.hid (show foldCo (l.take (k + 1)) n = some (composeT cur ps) by rw [K1.out]; simp [stepCo, hfit])
          go_wp2
          go_roundw
          case rel => exact ⟨k + 1, composeT cur ps, by omega, by go_num, K2.out, HO2.out.wide hbel.size (Nat.le_refl _) (Nat.le_refl _), hbel.trans (b2.mono hbel.size)⟩
          case measure => simp [intOf]; omega
      · have hke : l.take k = l := List.take_of_length_le (by omega)
        have HF2 := Lib.hid (show foldCo l n = some cur by rw [← HF.out, hke])
        obtain ⟨Ao, co, rfl⟩ := sliceP ho.read
        have HO := Lib.hid ho
        clear ho
        have HN := Lib.hid (show composeAllB l n = true ∧ composeAllT l n = cur by
          have e1 : composeAllB l n = true := by unfold composeAllB; rw [HIN.out, HF2.out]; rfl
          exact ⟨e1, by unfold composeAllT; rw [if_pos e1, HF2.out]; rfl⟩)
        go_wp2
        go_ret2
        rw [HN.out.1, HN.out.2]
        exact ⟨_, rfl, HO.out, hbel⟩

/-- how many parts are of this kind -/
def countK (ps : List Pt) (k : Int) : Int := ((ps.filter (fun p => p.kind == k)).length : Int)
theorem countK_snoc {ps : List Pt} {k : Int} {i : Nat} {p : Pt} (h : ps[i]? = some p) : countK (ps.take (i + 1)) k = countK (ps.take i) k + (if p.kind = k then 1 else 0) := by
  unfold countK
  rw [List.take_add_one, h]
  by_cases e : p.kind = k <;> simp [List.filter_append, e]
theorem countK_le (ps : List Pt) (k : Int) (i : Nat) : 0 ≤ countK (ps.take i) k ∧ countK (ps.take i) k ≤ ps.length := by
  unfold countK
  have := List.length_filter_le (fun p : Pt => p.kind == k) (ps.take i)
  rw [List.length_take] at this
  omega
set_option maxHeartbeats 1600000 in
theorem specPartCount_d (v : Value) (ps : List Pt) (k : Int) (w : World) (h : RdC w w.heap.size (encPs ps) v) (hs : SmP ps) : Calls Try.prog 30 #[v, .int .i64 k] w (Nums1 (countK ps k) w) := by
  obtain ⟨A, c, rfl, hr, _⟩ := parts_rd h
  have hl := hs.1
  go_enter Try.func30, Try.ntmps30
  go_wp2
  go_loopw [5, 10] (fun o i wr => ∃ j : Nat, j ≤ ps.length ∧ i = .int .i64 j ∧ o = .int .i64 (countK (ps.take j) k) ∧ Below w.heap.size w wr) (fun _ i _ => ps.length - (intOf i).toNat)
  case atStart => exact ⟨0, Nat.zero_le _, rfl, rfl, Below.refl _ _⟩
  case round =>
    obtain ⟨j, hj, rfl, rfl, hbel⟩ := hrel
    have hb2 := countK_le ps k j
    by_cases hlt : j < ps.length
    · obtain ⟨b, off, p, rfl, hb, hp, hc⟩ := hr.at_ hlt
      obtain ⟨x0, x1, A1, e1, x2, r1⟩ := hc.keep (w' := wr) hb (fun _ hq => hbel.cell hq)
      have K1 := Lib.hid (countK_snoc (k := k) hp)
      clear hp hc
      generalize countK (ps.take j) k = q at *
      obtain ⟨pk, pn, pz⟩ := p
      simp only at x0 x1 x2
      by_cases he : pk = k
      · have he' : (pk == k) = true := by simp [he]
        have K2 := Lib.hid (show countK (ps.take (j + 1)) k = q + 1 by rw [K1.out]; simp [he])
        clear he
        go_wp2
        go_roundw
        case rel => exact ⟨j + 1, by omega, by go_num, by rw [K2.out], hbel.trans ((alloc_below wr _).mono hbel.size)⟩
        case measure => simp [intOf]; omega
      · have he' : (pk == k) = false := by simp [he]
        have K2 := Lib.hid (show countK (ps.take (j + 1)) k = q by rw [K1.out]; simp [he])
        clear he
        go_wp2
        go_roundw
        case rel => exact ⟨j + 1, by omega, by go_num, by rw [K2.out], hbel.trans ((alloc_below wr _).mono hbel.size)⟩
        case measure => simp [intOf]; omega
    · have hke : ps.take j = ps := List.take_of_length_le (by omega)
      rw [hke] at hb2 ⊢
      generalize countK ps k = q at *
      go_wp2
      go_ret
      exact ⟨rfl, hbel⟩
end Go.Proofs.Ytihajkppeiainaa.low


/-
  Contracts of the program's builder: endRun, drop, put, done, keep.
-/
namespace Go.Proofs.Ytihajkppeiainaa.low
open Go.RowKit
set_option linter.unusedVariables false

set_option maxRecDepth 100000 in
set_option maxHeartbeats 3200000 in
theorem implFlush_f (S : Nat → Prop) (lo g : Nat) (ps : List Pt) (put : List Int) (d : Int) (w : World) (hb : BAtS S lo g 74 w ps put d) (hS : ∀ b, w.heap.size ≤ b → S b) (hl : ps.length ≤ 4294967296) (hp : put.length ≤ 4294967296) :
    Calls Try.prog 81 #[.pointer (some ⟨g, 0, none⟩)] w (FlushedS S lo g 74 w (ps ++ putL put ++ dropL d)) := by
  obtain ⟨i0, hi0, hz0, hz1, hz2⟩ := info_parts part_info
  obtain ⟨v, u, us, hx, ha, hos⟩ := hb
  have HS := Lib.hid hS
  have HOS := Lib.hid hos
  clear hS hos
  have ha0 := ha.init hx.len
  obtain ⟨A, c, rfl⟩ := own_form (ha.last hx.len)
  have c0 := hx.cell0
  have c1 := hx.cell1
  have c2 := hx.cell2
  have f0 := hx.free 0
  have f1 := hx.free 1
  have f2 := hx.free 2
  have HX := Lib.hid hx
  have HA := Lib.hid ha
  have HA0 := Lib.hid ha0
  clear hx ha ha0
  by_cases hput : put.length = 0
  · have e1 : putL put = [] := by simp [putL, hput]
    rw [e1, List.append_nil]
    by_cases hd : 0 < d
    · have e2 : dropL d = [⟨3, d, []⟩] := by simp [dropL, hd]
      rw [e2]
      go_enter Try.func81, Try.ntmps81
      go_wp2_with fail
      have lg := HX.out.lt
      have hlo : lo ≤ w.heap.size := Nat.le_trans HX.out.low (Nat.le_of_lt lg)
      have hne := own_far HX.out.row HX.out.box (by decide)
      go_region_law ((refine step_append_lies _ (by rfl) (.tmp 31) (.tmp 37) 25 (by rfl) lo 67 i0 _ 3 40 Try.underlying25 hi0 hz0 hz1 hz2 rfl (by omega) v ps.length (cellsOf ps us) (by rfl) ((HX.out.row.alloc _).drew) ⟨w.heap.size, 0, none⟩ 1 1 [.int .i64 3, .int .i64 d, .slice none 0 0] (by rfl) (by rfl) (World.news_of_block (cs := #[.int .i64 3, .int .i64 d, .slice none 0 0]) (t := 67) (fr := (0, 0)) (heap_alloc_new w _)) (by simp [Value.oneCell']) (by omega) (by unfold maxLen; omega) (by omega) (by simp; omega) (w.heap.size + 1) (by simp) ?_; intro gg cap w1 hown1 hgrow hat hlt; have hf := free_grown (o := 0) HX.out.box (below_made w _) hgrow hne; have hf1 := free_grown (o := 1) HX.out.box (below_made w _) hgrow hne; have hf2 := free_grown (o := 2) HX.out.box (below_made w _) hgrow hne; have hc : w1.cell? ⟨g, 0, none⟩ = some v := cell_grown 0 HX.out.box (below_made w _) hgrow hne; have hc1 : w1.cell? ⟨g, 1, none⟩ = some (.slice A put.length c) := cell_grown 1 HX.out.box (below_made w _) hgrow hne; have hc2 : w1.cell? ⟨g, 2, none⟩ = some (.int .i64 d) := cell_grown 2 HX.out.box (below_made w _) hgrow hne))
      all_goals
        obtain ⟨hx2, ha2, b2⟩ := Box.push (p := ⟨3, d, []⟩) HX.out (by decide) (by decide) (Apart.bare 3 d HA0.out) (below_made w _) hown1 hgrow
        have HO2 := Lib.hid (HOS.out.init.push (n := ps.length + 1) (cap := cap) nil_own hat (HS.out _ (by omega)))
        have HR2 := Lib.hid (push_fr HOS.out.init (below_made w _) hgrow (.slice (some ⟨gg, 0, none⟩) (ps.length + 1) cap))
        have HX2 := Lib.hid hx2
        have HA2 := Lib.hid ha2
        have HB2 := Lib.hid b2
        clear hx2 ha2 b2
        go_wp2
        go_end0
        obtain ⟨r1, r2, r3⟩ := HX2.out.clearS (by decide) (by decide) HA2.out HO2.out
        exact ⟨rfl, r1, HB2.out.trans r2, HR2.out.trans r3⟩

    · have e2 : dropL d = [] := by simp [dropL]; omega
      rw [e2, List.append_nil]
      go_enter Try.func81, Try.ntmps81
      go_wp2_with fail
      go_end0
      obtain ⟨r1, r2, r3⟩ := HX.out.clearS (by decide) (by decide) HA0.out HOS.out.init
      exact ⟨rfl, r1, r2, r3⟩
  · have hput' : (0 : Int) < (put.length : Int) := by omega
    have e1 : putL put = [⟨2, 0, put⟩] := by simp [putL, hput]
    rw [e1]
    by_cases hd : 0 < d
    · have e2 : dropL d = [⟨3, d, []⟩] := by simp [dropL, hd]
      rw [e2]
      generalize hQ : ps ++ [⟨2, 0, put⟩] ++ [⟨3, d, []⟩] = Q
      have HQ := Lib.hid hQ
      clear hQ
      go_enter Try.func81, Try.ntmps81
      go_wp2_with fail
      have lg := HX.out.lt
      have hlo : lo ≤ w.heap.size := Nat.le_trans HX.out.low (Nat.le_of_lt lg)
      have hne := own_far HX.out.row HX.out.box (by decide)
      go_region_law ((refine step_append_lies _ (by rfl) (.tmp 12) (.tmp 18) 25 (by rfl) lo 67 i0 _ 3 40 Try.underlying25 hi0 hz0 hz1 hz2 rfl (by omega) v ps.length (cellsOf ps us) (by rfl) ((HX.out.row.alloc _).drew) ⟨w.heap.size, 0, none⟩ 1 1 [.int .i64 2, .int .i64 0, .slice A put.length c] (by rfl) (by rfl) (World.news_of_block (cs := #[.int .i64 2, .int .i64 0, .slice A put.length c]) (t := 67) (fr := (0, 0)) (heap_alloc_new w _)) (by simp [Value.oneCell']) (by omega) (by unfold maxLen; omega) (by omega) (by simp; omega) (w.heap.size + 1) (by simp) ?_; intro gg cap w1 hown1 hgrow hat hlt; have hf := free_grown (o := 0) HX.out.box (below_made w _) hgrow hne; have hf1 := free_grown (o := 1) HX.out.box (below_made w _) hgrow hne; have hf2 := free_grown (o := 2) HX.out.box (below_made w _) hgrow hne; have hc : w1.cell? ⟨g, 0, none⟩ = some v := cell_grown 0 HX.out.box (below_made w _) hgrow hne; have hc1 : w1.cell? ⟨g, 1, none⟩ = some (.slice A put.length c) := cell_grown 1 HX.out.box (below_made w _) hgrow hne; have hc2 : w1.cell? ⟨g, 2, none⟩ = some (.int .i64 d) := cell_grown 2 HX.out.box (below_made w _) hgrow hne))
      all_goals

        obtain ⟨hx1, ha1, b1⟩ := Box.push (p := ⟨2, 0, put⟩) HX.out (by decide) (by decide) HA.out (below_made w _) hown1 hgrow
        have HO1 := Lib.hid (HOS.out.init.push (n := ps.length + 1) (cap := cap) HOS.out.last hat (HS.out _ (by omega)))
        have HR1 := Lib.hid (push_fr HOS.out.init (below_made w _) hgrow (.slice (some ⟨gg, 0, none⟩) (ps.length + 1) cap))
        clear hown1 hgrow hat hlt hlo hne lg c0 c1 c2 f0 f1 f2
        have HX1 := Lib.hid hx1
        have HA1 := Lib.hid ha1
        have HB1 := Lib.hid b1
        clear hx1 ha1 b1
        go_wp2_with fail
        clear hf hf1 hf2 hc hc1 hc2
        generalize (Value.slice (some ⟨gg, 0, none⟩) (ps.length + 1) cap) = v1 at *
        generalize w1.setCell ⟨g, 0, none⟩ v1 = W1 at *
        have c0 := HX1.out.cell0
        have c1 := HX1.out.cell1
        have c2 := HX1.out.cell2
        have f0 := HX1.out.free 0
        have f1 := HX1.out.free 1
        have f2 := HX1.out.free 2
        generalize hps : ps ++ [⟨2, 0, put⟩] = ps1 at *
        have hl1 : ps1.length ≤ 4294967297 := by rw [← hps]; simp; omega
        clear hps
        generalize us ++ [Value.slice A put.length c] = us1 at *
        have lg := HX1.out.lt
        have hlo : lo ≤ W1.heap.size := Nat.le_trans HX1.out.low (Nat.le_of_lt lg)
        have hne := own_far HX1.out.row HX1.out.box (by decide)
        go_region_law ((refine step_append_lies _ (by rfl) (.tmp 31) (.tmp 37) 25 (by rfl) lo 67 i0 _ 3 40 Try.underlying25 hi0 hz0 hz1 hz2 rfl (by omega) v1 ps1.length (cellsOf ps1 us1) (by rfl) ((HX1.out.row.alloc _).drew) ⟨W1.heap.size, 0, none⟩ 1 1 [.int .i64 3, .int .i64 d, .slice none 0 0] (by rfl) (by rfl) (World.news_of_block (cs := #[.int .i64 3, .int .i64 d, .slice none 0 0]) (t := 67) (fr := (0, 0)) (heap_alloc_new W1 _)) (by simp [Value.oneCell']) (by omega) (by unfold maxLen; omega) (by omega) (by simp; omega) (W1.heap.size + 1) (by simp) ?_; intro gg cap w1 hown1 hgrow hat hlt; have hf := free_grown (o := 0) HX1.out.box (below_made W1 _) hgrow hne; have hf1 := free_grown (o := 1) HX1.out.box (below_made W1 _) hgrow hne; have hf2 := free_grown (o := 2) HX1.out.box (below_made W1 _) hgrow hne; have hc : w1.cell? ⟨g, 0, none⟩ = some v1 := cell_grown 0 HX1.out.box (below_made W1 _) hgrow hne; have hc1 : w1.cell? ⟨g, 1, none⟩ = some (.slice A put.length c) := cell_grown 1 HX1.out.box (below_made W1 _) hgrow hne; have hc2 : w1.cell? ⟨g, 2, none⟩ = some (.int .i64 d) := cell_grown 2 HX1.out.box (below_made W1 _) hgrow hne))
        all_goals
          obtain ⟨hx2, ha2, b2⟩ := Box.push (p := ⟨3, d, []⟩) HX1.out (by decide) (by decide) (Apart.bare 3 d HA1.out) (below_made W1 _) hown1 hgrow
          have HO2 := Lib.hid (HO1.out.push (n := ps1.length + 1) (cap := cap) nil_own hat (HS.out _ (by have := HR1.out.size; omega)))
          have HR2 := Lib.hid (push_fr HO1.out (below_made W1 _) hgrow (.slice (some ⟨gg, 0, none⟩) (ps1.length + 1) cap))
          have HX2 := Lib.hid hx2
          have HA2 := Lib.hid ha2
          have HB2 := Lib.hid b2
          clear hx2 ha2 b2
          go_wp2
          go_end0
          obtain ⟨r1, r2, r3⟩ := HX2.out.clearS (by decide) (by decide) HA2.out HO2.out
          exact ⟨rfl, by rw [← HQ.out]; exact r1, HB1.out.trans (HB2.out.trans r2), HR1.out.trans (HR2.out.trans r3)⟩

    · have e2 : dropL d = [] := by simp [dropL]; omega
      rw [e2, List.append_nil]
      go_enter Try.func81, Try.ntmps81
      go_wp2_with fail
      have lg := HX.out.lt
      have hlo : lo ≤ w.heap.size := Nat.le_trans HX.out.low (Nat.le_of_lt lg)
      have hne := own_far HX.out.row HX.out.box (by decide)
      go_region_law ((refine step_append_lies _ (by rfl) (.tmp 12) (.tmp 18) 25 (by rfl) lo 67 i0 _ 3 40 Try.underlying25 hi0 hz0 hz1 hz2 rfl (by omega) v ps.length (cellsOf ps us) (by rfl) ((HX.out.row.alloc _).drew) ⟨w.heap.size, 0, none⟩ 1 1 [.int .i64 2, .int .i64 0, .slice A put.length c] (by rfl) (by rfl) (World.news_of_block (cs := #[.int .i64 2, .int .i64 0, .slice A put.length c]) (t := 67) (fr := (0, 0)) (heap_alloc_new w _)) (by simp [Value.oneCell']) (by omega) (by unfold maxLen; omega) (by omega) (by simp; omega) (w.heap.size + 1) (by simp) ?_; intro gg cap w1 hown1 hgrow hat hlt; have hf := free_grown (o := 0) HX.out.box (below_made w _) hgrow hne; have hf1 := free_grown (o := 1) HX.out.box (below_made w _) hgrow hne; have hf2 := free_grown (o := 2) HX.out.box (below_made w _) hgrow hne; have hc : w1.cell? ⟨g, 0, none⟩ = some v := cell_grown 0 HX.out.box (below_made w _) hgrow hne; have hc1 : w1.cell? ⟨g, 1, none⟩ = some (.slice A put.length c) := cell_grown 1 HX.out.box (below_made w _) hgrow hne; have hc2 : w1.cell? ⟨g, 2, none⟩ = some (.int .i64 d) := cell_grown 2 HX.out.box (below_made w _) hgrow hne))
      all_goals

        obtain ⟨hx1, ha1, b1⟩ := Box.push (p := ⟨2, 0, put⟩) HX.out (by decide) (by decide) HA.out (below_made w _) hown1 hgrow
        have HO2 := Lib.hid (HOS.out.init.push (n := ps.length + 1) (cap := cap) HOS.out.last hat (HS.out _ (by omega)))
        have HR2 := Lib.hid (push_fr HOS.out.init (below_made w _) hgrow (.slice (some ⟨gg, 0, none⟩) (ps.length + 1) cap))
        have HX2 := Lib.hid hx1
        have HA2 := Lib.hid ha1
        have HB2 := Lib.hid b1
        clear hx1 ha1 b1
        go_wp2
        go_end0
        obtain ⟨r1, r2, r3⟩ := HX2.out.clearS (by decide) (by decide) HA2.out HO2.out
        exact ⟨rfl, r1, HB2.out.trans r2, HR2.out.trans r3⟩

theorem implFlush_any (lo g : Nat) (ps : List Pt) (put : List Int) (d : Int) (w : World) (hb : BAt lo g 74 w ps put d) (hl : ps.length ≤ 4294967296) (hp : put.length ≤ 4294967296) :
    Calls Try.prog 81 #[.pointer (some ⟨g, 0, none⟩)] w (Flushed lo g 74 w (ps ++ putL put ++ dropL d)) :=
  (implFlush_f (fun _ => True) lo g ps put d w hb.all (fun _ _ => trivial) hl hp).mono fun e w' h => h.any

set_option maxHeartbeats 1600000 in
theorem implDrop_f (S : Nat → Prop) (lo g : Nat) (ps : List Pt) (put : List Int) (d n : Int) (w : World) (hb : BAtS S lo g 74 w ps put d) (hS : ∀ b, w.heap.size ≤ b → S b) (h0 : 0 ≤ d) (h1 : d ≤ 4611686018427387904) (h2 : 0 ≤ n) (h3 : n ≤ 1048576) :
    Calls Try.prog 49 #[.pointer (some ⟨g, 0, none⟩), .int .i64 n] w (BuiltS S lo g 74 w ps put (d + n)) := by
  obtain ⟨v, u, us, hx, ha, hos⟩ := hb
  have HS := Lib.hid hS
  have HOS := Lib.hid hos
  clear hS hos
  have c2 := hx.cell2
  have f2 := hx.free 2
  have HX := Lib.hid hx
  have HA := Lib.hid ha
  clear hx ha
  go_enter Try.func49, Try.ntmps49
  go_wp2
  go_end0
  obtain ⟨r1, r2, r3⟩ := HX.out.dropS (d' := d + n) (by decide) (by decide) HA.out HOS.out
  exact ⟨rfl, r1, r2, r3⟩

set_option maxHeartbeats 1600000 in
theorem implPut_f (S : Nat → Prop) (lo g : Nat) (ps : List Pt) (put : List Int) (d : Int) (A : Option Addr) (c : Nat) (zs : List Int) (w : World) (hb : BAtS S lo g 74 w ps put d) (hS : ∀ b, w.heap.size ≤ b → S b) (hr : Row (Value.int .i64) w w.heap.size A zs) (hp : put.length ≤ 4294967296) (hz : zs.length ≤ 4294967296) :
    Calls Try.prog 50 #[.pointer (some ⟨g, 0, none⟩), .slice A zs.length c] w (BuiltS S lo g 74 w ps (put ++ zs) d) := by
  obtain ⟨i0, hi0, hz0, hz1, hz2⟩ := info_parts ints_info
  obtain ⟨v, u, us, hx, ha, hos⟩ := hb
  have HS := Lib.hid hS
  have HOS := Lib.hid hos
  clear hS hos
  obtain ⟨Au, cu, rfl⟩ := own_form (ha.last hx.len)
  simp only at hx ha
  have c1 := hx.cell1
  have f1 := hx.free 1
  have ho := Lib.hid (ha.last hx.len)
  have hlo : lo ≤ w.heap.size := Nat.le_trans hx.low (Nat.le_of_lt hx.lt)
  have HX := Lib.hid hx
  have HA := Lib.hid ha
  clear hx ha
  by_cases hn : 0 < zs.length
  · obtain ⟨ad, rfl, hbk, hcs⟩ := hr hn
    have hcs' : ∀ j x, (zs.map (Value.int .i64))[j]? = some x → w.cell? (ad.add j) = some x := fun j x hx => by
      rw [List.getElem?_map] at hx
      obtain ⟨z, hz, rfl⟩ := Option.map_eq_some_iff.1 hx
      exact hcs j z hz
    have HC := Lib.hid hcs'
    clear hcs hcs' hr
    have hug := own_far ho.out HX.out.box (by decide)
    go_enter Try.func50, Try.ntmps50
    go_wp2_with (at_builtin; refine wpList_append_lies _ rfl (.tmp 8) (.tmp 9) 23 rfl lo 3 i0 (.int .i64 0) 1 8 Try.underlying23 hi0 hz0 hz1 hz2 rfl (by decide) (.slice Au put.length cu) put.length (put.map (Value.int .i64)) rfl ho.out ad zs.length c (zs.map (Value.int .i64)) rfl (by simp) HC.out (by simp [Value.oneCell']) (by omega) (by unfold maxLen; omega) (by omega) hlo w.heap.size rfl ?_; intro gg cap w1 hown1 hgrow hat hlt; have hf := free_grown (o := 1) HX.out.box (Below.refl _ _) hgrow hug; have hc : w1.cell? ⟨g, 1, none⟩ = some (.slice Au put.length cu) := cell_grown 1 HX.out.box (Below.refl _ _) hgrow hug)
    go_end0
    obtain ⟨r1, r2, r3⟩ := Box.moreS (put' := put ++ zs) HX.out (by decide) (by decide) HA.out (by simpa using hown1) hgrow (hat.elim (fun e => .inl (by rw [e]; rfl)) (fun e => .inr (by rw [← e]; rfl))) HOS.out (HS.out _ (Nat.le_refl _))
    exact ⟨rfl, r1, r2, r3⟩
  · have e0 : zs = [] := List.eq_nil_of_length_eq_zero (by omega)
    subst e0
    rw [List.append_nil]
    go_enter Try.func50, Try.ntmps50
    go_wp2_with (at_builtin; refine wpList_append_zero rfl (.tmp 8) (.tmp 9) 23 rfl lo 3 i0 1 Try.underlying23 hi0 (.slice Au put.length cu) put.length (put.map (Value.int .i64)) rfl ho.out A c rfl ?_)
    go_end0
    obtain ⟨r1, r2, r3⟩ := Box.moreS (put' := put) HX.out (by decide) (by decide) HA.out ho.out ⟨rfl, rfl, rfl, Nat.le_refl _, fun _ _ _ => rfl⟩ (.inl rfl) HOS.out (HS.out _ (Nat.le_refl _))
    exact ⟨rfl, r1, r2, r3⟩

theorem implDrop_any (lo g : Nat) (ps : List Pt) (put : List Int) (d n : Int) (w : World) (hb : BAt lo g 74 w ps put d) (h0 : 0 ≤ d) (h1 : d ≤ 4611686018427387904) (h2 : 0 ≤ n) (h3 : n ≤ 1048576) :
    Calls Try.prog 49 #[.pointer (some ⟨g, 0, none⟩), .int .i64 n] w (Built lo g 74 w ps put (d + n)) :=
  (implDrop_f (fun _ => True) lo g ps put d n w hb.all (fun _ _ => trivial) h0 h1 h2 h3).mono fun e w' h => h.any

theorem implPut_any (lo g : Nat) (ps : List Pt) (put : List Int) (d : Int) (A : Option Addr) (c : Nat) (zs : List Int) (w : World) (hb : BAt lo g 74 w ps put d) (hr : Row (Value.int .i64) w w.heap.size A zs) (hp : put.length ≤ 4294967296) (hz : zs.length ≤ 4294967296) :
    Calls Try.prog 50 #[.pointer (some ⟨g, 0, none⟩), .slice A zs.length c] w (Built lo g 74 w ps (put ++ zs) d) :=
  (implPut_f (fun _ => True) lo g ps put d A c zs w hb.all (fun _ _ => trivial) hr hp hz).mono fun e w' h => h.any

set_option maxHeartbeats 1600000 in
theorem implDone_f (S : Nat → Prop) (lo g : Nat) (ps : List Pt) (put : List Int) (d : Int) (w : World) (hb : BAtS S lo g 74 w ps put d) (hS : ∀ b, w.heap.size ≤ b → S b) (hl : ps.length ≤ 4294967296) (hp : put.length ≤ 4294967296) :
    Calls Try.prog 51 #[.pointer (some ⟨g, 0, none⟩)] w (GoneS S lo (ps ++ putL put ++ dropL d) w) := by
  go_enter Try.func51, Try.ntmps51
  go_wp2_with fail
  refine (implFlush_f S lo g ps put d w hb hS hl hp).mono ?_
  rintro e w1 ⟨rfl, ⟨v, us, hx, ha, hos⟩, b1, fr1⟩
  have HS := Lib.hid hS
  have HOS := Lib.hid hos
  have HR := Lib.hid fr1
  clear hS hos fr1
  obtain ⟨Av, cv, rfl⟩ := own_form hx.row
  have c0 := hx.cell0
  have HX := Lib.hid hx
  have HA := Lib.hid ha
  clear hx ha
  generalize ps ++ putL put ++ dropL d = q at *
  go_wp2
  go_ret
  exact ⟨_, us, rfl, HX.out.parts HA.out, b1, HR.out, HX.out.row, HX.out.len, HOS.out.2.1, HOS.out.2.2⟩

set_option maxRecDepth 100000 in
set_option maxHeartbeats 3200000 in
theorem implKeep_f (S : Nat → Prop) (lo g : Nat) (ps : List Pt) (put : List Int) (d n : Int) (w : World) (hb : BAtS S lo g 74 w ps put d) (hS : ∀ b, w.heap.size ≤ b → S b) (hl : ps.length ≤ 4294967296) (hp : put.length ≤ 4294967296) (hn : ¬ n = 0) (hn0 : 0 ≤ n) (hn1 : n ≤ 1048576)
    (hq : ∀ p ∈ ps ++ putL put ++ dropL d, 0 ≤ p.n ∧ p.n ≤ 4611686018427387904) (hql : (ps ++ putL put ++ dropL d).length ≤ 4294967298) :
    Calls Try.prog 48 #[.pointer (some ⟨g, 0, none⟩), .int .i64 n] w (FlushedS S lo g 74 w (keepTo (ps ++ putL put ++ dropL d) n)) := by
  obtain ⟨i0, hi0, hz0, hz1, hz2⟩ := info_parts part_info
  go_enter Try.func48, Try.ntmps48
  go_wp2_with fail
  refine (implFlush_f S lo g ps put d w hb hS hl hp).mono ?_
  rintro e w1 ⟨rfl, ⟨v, us, hx, ha, hos⟩, b1, fr1⟩
  have HS := Lib.hid hS
  have HOS := Lib.hid hos
  have HR := Lib.hid fr1
  clear hS hos fr1
  generalize ps ++ putL put ++ dropL d = q at *
  have c0 := hx.cell0
  have f0 := hx.free 0
  have hne := own_far hx.row hx.box (by decide)
  have hlo : lo ≤ w1.heap.size := Nat.le_trans hx.low (Nat.le_of_lt hx.lt)
  rcases q.eq_nil_or_concat with rfl | ⟨r, p, rfl⟩
  · obtain ⟨Av, cv, rfl⟩ := own_form hx.row
    have HX := Lib.hid hx
    have HA := Lib.hid ha
    clear hx ha
    go_wp2_with (at_builtin; refine wpList_append_lies _ rfl (.tmp 44) (.tmp 47) 25 rfl lo 67 i0 _ 3 40 Try.underlying25 hi0 hz0 hz1 hz2 rfl (by omega) (.slice Av 0 cv) 0 (cellsOf [] us) rfl (HX.out.row.alloc _) ⟨w1.heap.size, 0, none⟩ 1 1 [.int .i64 1, .int .i64 n, .slice none 0 0] rfl rfl (World.news_of_block (cs := #[.int .i64 1, .int .i64 n, .slice none 0 0]) (t := 67) (fr := (0, 0)) (heap_alloc_new w1 _)) (by simp [Value.oneCell']) (by omega) (by unfold maxLen; omega) (by omega) (by simp; omega) (w1.heap.size + 1) (by simp) ?_; intro gg cap w2 hown1 hgrow hat hlt; have hf := free_grown (o := 0) HX.out.box (below_new w1 _) hgrow hne; have hc : w2.cell? ⟨g, 0, none⟩ = some (.slice Av 0 cv) := cell_grown 0 HX.out.box (below_new w1 _) hgrow hne)
    go_end0
    obtain ⟨hx2, ha2, b2⟩ := Box.push (p := ⟨1, n, []⟩) HX.out (by decide) (by decide) (Apart.bare 1 n HA.out) (below_new w1 _) hown1 hgrow
    refine ⟨rfl, ?_, b1.trans b2, HR.out.trans (push_fr HOS.out (below_new w1 _) hgrow _)⟩
    rw [keepTo_nil]
    exact ⟨_, _, hx2, ha2, HOS.out.push nil_own hat (HS.out _ (by have := HR.out.size; omega))⟩
  · rw [List.concat_eq_append] at *
    have hrl : (r ++ [p]).length = r.length + 1 := by simp
    rw [hrl] at hql
    have hp0 := hq p (by simp)
    clear hq
    rcases hx.row.2 with ⟨_, h0⟩ | ⟨gv, cap0, cur, rfl, hgv, hhv, hcap, hcap2, _, _⟩
    · simp at h0
    rw [hrl] at c0 hne hcap hx
    have hrow : w1.ownsRow lo 67 3 (.slice (some ⟨gv, 0, none⟩) (r.length + 1) cap0) (r.length + 1) (cellsOf (r ++ [p]) us) := by have := hx.row; rwa [hrl] at this
    have k0 : w1.cell? ⟨gv, r.length * 3, none⟩ = some (.int .i64 p.kind) := by
      have := hrow.cellAt (r.length * 3) (by omega)
      obtain ⟨u, hu⟩ := idx_some (l := us) (i := r.length) (by rw [hx.len]; simp)
      rw [this, (cellsOf_at (r ++ [p]) us r.length p u (by simp) hu).1]
    have k1 : w1.cell? ⟨gv, r.length * 3 + 1, none⟩ = some (.int .i64 p.n) := by
      have := hrow.cellAt (r.length * 3 + 1) (by omega)
      obtain ⟨u, hu⟩ := idx_some (l := us) (i := r.length) (by rw [hx.len]; simp)
      rw [this, (cellsOf_at (r ++ [p]) us r.length p u (by simp) hu).2.1]
    have fv := hrow.frozenAt (r.length * 3 + 1)
    have HRW := Lib.hid hrow
    clear hrow
    have HX := Lib.hid hx
    have HA := Lib.hid ha
    clear hx ha hhv
    by_cases hk : p.kind = 1
    · go_wp2
      go_end0
      obtain ⟨hx2, ha2, b2⟩ := Box.setN (b := p.n + n) HX.out (by decide) (by decide) HA.out
      refine ⟨rfl, ?_, b1.trans b2, HR.out.trans (setN_fr HOS.out _)⟩
      rw [keepTo_t n hk]
      exact ⟨_, _, hx2, ha2, HOS.out⟩
    · go_wp2_with (at_builtin; refine wpList_append_lies _ rfl (.tmp 44) (.tmp 47) 25 rfl lo 67 i0 _ 3 40 Try.underlying25 hi0 hz0 hz1 hz2 rfl (by omega) (.slice (some ⟨gv, 0, none⟩) (r.length + 1) cap0) (r.length + 1) (cellsOf (r ++ [p]) us) rfl (HRW.out.alloc _) ⟨w1.heap.size, 0, none⟩ 1 1 [.int .i64 1, .int .i64 n, .slice none 0 0] rfl rfl (World.news_of_block (cs := #[.int .i64 1, .int .i64 n, .slice none 0 0]) (t := 67) (fr := (0, 0)) (heap_alloc_new w1 _)) (by simp [Value.oneCell']) (by omega) (by unfold maxLen; omega) (by omega) (by simp; omega) (w1.heap.size + 1) (by simp) ?_; intro gg cap w2 hown1 hgrow hat hlt; have hf := free_grown (o := 0) HX.out.box (below_new w1 _) hgrow hne; have hc : w2.cell? ⟨g, 0, none⟩ = some (.slice (some ⟨gv, 0, none⟩) (r.length + 1) cap0) := cell_grown 0 HX.out.box (below_new w1 _) hgrow hne)
      go_end0
      obtain ⟨hx2, ha2, b2⟩ := Box.push (p := ⟨1, n, []⟩) HX.out (by decide) (by decide) (Apart.bare 1 n HA.out) (below_new w1 _) (by rw [hrl]; exact hown1) hgrow
      rw [hrl] at hx2 ha2 b2
      refine ⟨rfl, ?_, b1.trans b2, HR.out.trans (push_fr HOS.out (below_new w1 _) hgrow _)⟩
      rw [keepTo_f n hk]
      exact ⟨_, _, hx2, ha2, HOS.out.push nil_own hat (HS.out _ (by have := HR.out.size; omega))⟩

theorem implDone_any (lo g : Nat) (ps : List Pt) (put : List Int) (d : Int) (w : World) (hb : BAt lo g 74 w ps put d) (hl : ps.length ≤ 4294967296) (hp : put.length ≤ 4294967296) :
    Calls Try.prog 51 #[.pointer (some ⟨g, 0, none⟩)] w (Gone lo (ps ++ putL put ++ dropL d) w) :=
  (implDone_f (fun _ => True) lo g ps put d w hb.all (fun _ _ => trivial) hl hp).mono fun e w' h => h.any

theorem implKeep_any (lo g : Nat) (ps : List Pt) (put : List Int) (d n : Int) (w : World) (hb : BAt lo g 74 w ps put d) (hl : ps.length ≤ 4294967296) (hp : put.length ≤ 4294967296) (hn : ¬ n = 0) (hn0 : 0 ≤ n) (hn1 : n ≤ 1048576)
    (hq : ∀ p ∈ ps ++ putL put ++ dropL d, 0 ≤ p.n ∧ p.n ≤ 4611686018427387904) (hql : (ps ++ putL put ++ dropL d).length ≤ 4294967298) :
    Calls Try.prog 48 #[.pointer (some ⟨g, 0, none⟩), .int .i64 n] w (Flushed lo g 74 w (keepTo (ps ++ putL put ++ dropL d) n)) :=
  (implKeep_f (fun _ => True) lo g ps put d n w hb.all (fun _ _ => trivial) hl hp hn hn0 hn1 hq hql).mono fun e w' h => h.any

set_option maxHeartbeats 1600000 in
theorem implKeep_zero (g : Nat) (w : World) : Calls Try.prog 48 #[.pointer (some ⟨g, 0, none⟩), .int .i64 0] w fun e w' => e = .returned (.tuple #[]) ∧ w = w' := by
  go_enter Try.func48, Try.ntmps48
  go_wp2
  first | go_end0 | (refine bodyPost_ret (results_none rfl _ _ _) rfl ?_)
  exact ⟨rfl, rfl⟩
end Go.Proofs.Ytihajkppeiainaa.low


/-
  Contracts of the program's functions on operations that only read: impl.PartOk, partsOk, size, sizeOf, OpFrom, OpTo, OpOk, Puts, Drops.
-/
namespace Go.Proofs.Ytihajkppeiainaa.low
open Go.RowKit
set_option linter.unusedVariables false

set_option maxHeartbeats 1600000 in
theorem implPartOk_any (p : Pt) (A : Option Addr) (c : Nat) (w : World) (hr : Row (Value.int .i64) w w.heap.size A p.signs) (hl : p.signs.length ≤ 4294967296) :
    Calls Try.prog 90 #[.agg #[.int .i64 p.kind, .int .i64 p.n, .slice A p.signs.length c]] w (Tells (okPt p) w) := by
  obtain ⟨k, n, zs⟩ := p
  have hr' : Row (Value.int .i64) w w.heap.size A zs := hr
  have hl' : zs.length ≤ 4294967296 := hl
  clear hr hl
  by_cases hk : k = 1 ∨ k = 3
  · by_cases h0 : 0 ≤ n
    · by_cases h1 : n ≤ 200
      · by_cases hz : zs.length = 0
        all_goals
          have HS := Lib.hid (show okPt ⟨k, n, zs⟩ = decide (zs.length = 0) by
            first
              | (rw [okPt_t (.inl ⟨hk, ⟨h0, h1⟩, hz⟩), decide_eq_true hz])
              | (rw [okPt_f (by simp only; omega), decide_eq_false hz]))
          have hzb : ((zs.length : Int) == 0) = decide (zs.length = 0) := by
            first
              | (rw [decide_eq_true hz, beq_iff_eq]; omega)
              | (rw [decide_eq_false hz, beq_eq_false_iff_ne]; omega)
          generalize decide (zs.length = 0) = bb at HS hzb
          clear hz
          rcases hk with rfl | rfl
          all_goals
            go_enter Try.func90, Try.ntmps90
            go_wp2
            go_ret
            exact ⟨ret_bool (by rw [HS.out]), alloc_below _ _⟩
      · have HS := Lib.hid (show okPt ⟨k, n, zs⟩ = false by rw [okPt_f (by simp only; omega)])
        rcases hk with rfl | rfl
        all_goals
          go_enter Try.func90, Try.ntmps90
          go_wp2
          go_ret
          exact ⟨ret_bool (by rw [HS.out]), alloc_below _ _⟩
    · have HS := Lib.hid (show okPt ⟨k, n, zs⟩ = false by rw [okPt_f (by simp only; omega)])
      rcases hk with rfl | rfl
      all_goals
        go_enter Try.func90, Try.ntmps90
        go_wp2
        go_ret
        exact ⟨ret_bool (by rw [HS.out]), alloc_below _ _⟩
  · have hk1 : (k == 1) = false := by rw [beq_eq_false_iff_ne]; omega
    have hk3 : (k == 3) = false := by rw [beq_eq_false_iff_ne]; omega
    by_cases hk2 : k = 2
    · have hk2' : (k == 2) = true := by rw [beq_iff_eq]; exact hk2
      by_cases hn : n = 0
      · have hn' : (n == 0) = true := by rw [beq_iff_eq]; exact hn
        have HS := Lib.hid (show okPt ⟨k, n, zs⟩ = (allB zs && decide (zs.length ≤ 200)) by
          unfold okPt
          simp [hk2, hn])
        clear hk hk2 hn
        by_cases hlen : zs.length ≤ 200
        · have HL := Lib.hid (decide_eq_true hlen)
          go_enter Try.func90, Try.ntmps90
          go_wp2_with (go_at_call 74; refine (implSignsOk_any A c zs _ (hr'.past_alloc _) hl').mono ?_; rintro e w' ⟨rfl, rfl⟩)
          go_ret
          refine ⟨ret_bool ?_, alloc_below _ _⟩
          rw [HS.out, HL.out, Bool.and_true]
        · have HL := Lib.hid (decide_eq_false hlen)
          go_enter Try.func90, Try.ntmps90
          go_wp2
          go_ret
          refine ⟨ret_bool ?_, alloc_below _ _⟩
          rw [HS.out, HL.out, Bool.and_false]
      · have hn' : (n == 0) = false := by rw [beq_eq_false_iff_ne]; exact hn
        have HS := Lib.hid (show okPt ⟨k, n, zs⟩ = false by rw [okPt_f (by simp only; omega)])
        clear hk hk2 hn
        go_enter Try.func90, Try.ntmps90
        go_wp2
        go_ret
        exact ⟨ret_bool (by rw [HS.out]), alloc_below _ _⟩
    · have hk2' : (k == 2) = false := by rw [beq_eq_false_iff_ne]; exact hk2
      have HS := Lib.hid (show okPt ⟨k, n, zs⟩ = false by rw [okPt_f (by simp only; omega)])
      clear hk hk2
      go_enter Try.func90, Try.ntmps90
      go_wp2
      go_ret
      exact ⟨ret_bool (by rw [HS.out]), alloc_below _ _⟩

set_option maxHeartbeats 1600000 in
theorem implParts_any (A : Option Addr) (c : Nat) (ps : List Pt) (w : World) (hr : PRow w w.heap.size A ps) (hl : ps.length ≤ 4294967296) (hls : ∀ p ∈ ps, p.signs.length ≤ 4294967296) :
    Calls Try.prog 75 #[.slice A ps.length c] w (Tells (partsB ps) w) := by
  by_cases h6 : ps.length ≤ 600
  · go_enter Try.func75, Try.ntmps75
    go_wp2
    go_loopw [10] (fun i wr => ∃ k : Nat, k ≤ ps.length ∧ i = .int .i64 k ∧ okPs (ps.take k) = true ∧ Below w.heap.size w wr) (fun i _ => ps.length - (intOf i).toNat)
    case atStart => exact ⟨0, Nat.zero_le _, rfl, rfl, Below.refl _ _⟩
    case round =>
      obtain ⟨k, hk, rfl, ha, hbel⟩ := hrel
      have HA := Lib.hid ha
      clear ha
      by_cases hlt : k < ps.length
      · obtain ⟨b, off, p, rfl, hb, hp, hc⟩ := hr.at_ hlt
        obtain ⟨x0, x1, A1, e1, x2, r1⟩ := hc.keep (w' := wr) hb (fun _ hq => hbel.cell hq)
        have hsp := hls p (List.mem_of_getElem? hp)
        have HP := Lib.hid hp
        clear hp hc
        cases hs : okPt p
        · go_wp2_with fail
          refine (implPartOk_any p A1 e1 _ ((r1.more hbel.size).past_alloc _) hsp).mono ?_
          rintro e w2 ⟨rfl, b2⟩
          go_wp2
          go_ret
          exact ⟨ret_bool (by unfold partsB; rw [okPs_f HP.out hs]; rfl), (hbel.trans ((alloc_below wr _).mono hbel.size)).trans (b2.mono (Nat.le_trans hbel.size (alloc_below wr _).size))⟩
        · go_wp2_with fail
          refine (implPartOk_any p A1 e1 _ ((r1.more hbel.size).past_alloc _) hsp).mono ?_
          rintro e w2 ⟨rfl, b2⟩
          go_wp2
          go_roundw
          case rel => exact ⟨k + 1, by omega, by go_num, okPs_snoc HP.out HA.out hs, (hbel.trans ((alloc_below wr _).mono hbel.size)).trans (b2.mono (Nat.le_trans hbel.size (alloc_below wr _).size))⟩
          case measure => simp [intOf]; omega
      · have HE := Lib.hid (show partsB ps = true by
          have h1 := HA.out
          rw [List.take_of_length_le (by omega)] at h1
          unfold partsB
          rw [h1, Bool.true_and]
          exact decide_eq_true h6)
        go_wp2
        go_ret
        refine ⟨ret_bool ?_, hbel⟩
        rw [HE.out]
  · have HE := Lib.hid (show partsB ps = false by unfold partsB; rw [decide_eq_false h6, Bool.and_false])
    go_enter Try.func75, Try.ntmps75
    go_wp2
    go_ret
    exact ⟨ret_bool (by rw [HE.out]), Below.refl _ _⟩

/-- the size of a part of the kind -/
def sizeK (kind : Int) (p : Pt) : Int := if p.kind = kind then p.n + (p.signs.length : Int) else 0
theorem sumOf_congr {f g : Pt → Int} : ∀ {ps : List Pt}, (∀ p ∈ ps, f p = g p) → sumOf f ps = sumOf g ps
  | [], _ => rfl
  | p :: ps, h => by
    have h1 := h p (List.mem_cons_self ..)
    have h2 := sumOf_congr (f := f) (g := g) (ps := ps) fun q hq => h q (List.mem_cons_of_mem _ hq)
    have e : ∀ f : Pt → Int, sumOf f (p :: ps) = f p + sumOf f ps := fun f => by simp [sumOf]
    rw [e, e, h1, h2]
theorem okPs_mem {ps : List Pt} (h : okPs ps = true) {p : Pt} (hp : p ∈ ps) : okPt p = true := by unfold okPs at h; exact List.all_eq_true.1 h p hp
theorem sizeK_keep {ps : List Pt} (h : okPs ps = true) : sumOf (sizeK 1) ps = sumOf keepOf ps := sumOf_congr fun p hp => by
  have := of_okPt (okPs_mem h hp)
  unfold sizeK keepOf
  split <;> omega
theorem sizeK_put {ps : List Pt} (h : okPs ps = true) : sumOf (sizeK 2) ps = sumOf putOf ps := sumOf_congr fun p hp => by
  have := of_okPt (okPs_mem h hp)
  unfold sizeK putOf
  split <;> omega
theorem sizeK_drop {ps : List Pt} (h : okPs ps = true) : sumOf (sizeK 3) ps = sumOf dropOf ps := sumOf_congr fun p hp => by
  have := of_okPt (okPs_mem h hp)
  unfold sizeK dropOf
  split <;> omega
theorem sizeK_bd {kind : Int} {ps : List Pt} (h : okPs ps = true) (hl : ps.length ≤ 600) : 0 ≤ sumOf (sizeK kind) ps ∧ sumOf (sizeK kind) ps ≤ 120000 := by
  have := sumOf_bd (f := sizeK kind) ps fun p hq => by
    have := of_okPt (okPs_mem h hq)
    unfold sizeK
    split <;> omega
  omega

set_option maxHeartbeats 400000 in
theorem implSize_any (k n : Int) (A : Option Addr) (len c : Nat) (w : World) (h0 : 0 ≤ n) (h1 : n ≤ 200) (h2 : len ≤ 200) :
    Calls Try.prog 79 #[.agg #[.int .i64 k, .int .i64 n, .slice A len c]] w (Nums1 (n + (len : Int)) w) := by
  go_enter Try.func79, Try.ntmps79
  go_wp2
  go_ret
  exact ⟨rfl, alloc_below _ _⟩

set_option maxRecDepth 100000 in
set_option maxHeartbeats 1600000 in
theorem implSizeOf_any (kind : Int) (A : Option Addr) (c : Nat) (ps : List Pt) (w : World) (hr : PRow w w.heap.size A ps) (hl : ps.length ≤ 600) (hok : okPs ps = true) :
    Calls Try.prog 76 #[.slice A ps.length c, .int .i64 kind] w (Nums1 (sumOf (sizeK kind) ps) w) := by
  have HOK := Lib.hid hok
  clear hok
  go_enter Try.func76, Try.ntmps76
  go_wp2
  go_loopw [5, 10] (fun a i wr => ∃ k : Nat, k ≤ ps.length ∧ i = .int .i64 k ∧ a = .int .i64 (sumOf (sizeK kind) (ps.take k)) ∧ Below w.heap.size w wr) (fun _ i _ => ps.length - (intOf i).toNat)
  case atStart => exact ⟨0, Nat.zero_le _, rfl, rfl, Below.refl _ _⟩
  case round =>
    obtain ⟨k, hk, rfl, rfl, hbel⟩ := hrel
    obtain ⟨s1, s2⟩ := sizeK_bd (kind := kind) (okPs_take HOK.out k) (by rw [List.length_take]; omega)
    by_cases hlt : k < ps.length
    · obtain ⟨b, off, p, rfl, hb, hp, hc⟩ := hr.at_ hlt
      obtain ⟨x0, x1, A1, e1, x2, r1⟩ := hc.keep (w' := wr) hb (fun _ hq => hbel.cell hq)
      have hok := of_okPt (okPs_at hp HOK.out)
      have K1 := Lib.hid (sumOf_snoc (f := sizeK kind) hp)
      clear hp hc
      generalize sumOf (sizeK kind) (ps.take k) = q1 at *
      obtain ⟨pk, pn, pz⟩ := p
      simp only at x0 x1 x2 hok
      have hn1 : 0 ≤ pn := by omega
      have hn2 : pn ≤ 200 := by omega
      have hn3 : pz.length ≤ 200 := by omega
      clear hok
      by_cases hkk : pk = kind
      · have hkb : (pk == kind) = true := by rw [beq_iff_eq]; exact hkk
        have HK := Lib.hid (show sizeK kind ⟨pk, pn, pz⟩ = pn + (pz.length : Int) by unfold sizeK; exact if_pos hkk)
        clear hkk
        go_wp2_with fail
        refine (implSize_any pk pn A1 pz.length e1 _ hn1 hn2 hn3).mono ?_
        rintro e w2 ⟨rfl, b2⟩
        go_wp2
        go_roundw
        case rel => exact ⟨k + 1, by omega, by go_num, by rw [K1.out, HK.out], (hbel.trans ((alloc_below wr _).mono hbel.size)).trans (b2.mono (Nat.le_trans hbel.size (alloc_below wr _).size))⟩
        case measure => simp [intOf]; omega
      · have hkb : (pk == kind) = false := by rw [beq_eq_false_iff_ne]; exact hkk
        have HK := Lib.hid (show sizeK kind ⟨pk, pn, pz⟩ = 0 by unfold sizeK; exact if_neg hkk)
        clear hkk
        go_wp2
        go_roundw
        case rel => exact ⟨k + 1, by omega, by go_num, by rw [K1.out, HK.out, Int.add_zero], hbel.trans ((alloc_below wr _).mono hbel.size)⟩
        case measure => simp [intOf]; omega
    · have hke : ps.take k = ps := List.take_of_length_le (by omega)
      rw [hke] at s1 s2 ⊢
      go_wp2
      go_ret
      exact ⟨rfl, hbel⟩

set_option maxHeartbeats 800000 in
theorem implOpFrom_any (A : Option Addr) (c : Nat) (ps : List Pt) (w : World) (hr : PRow w w.heap.size A ps) (hl : ps.length ≤ 4294967296) (hls : ∀ p ∈ ps, p.signs.length ≤ 4294967296) :
    Calls Try.prog 44 #[.slice A ps.length c] w (Nums1 (sumK ps + sumD ps) w) := by
  cases hpb : partsB ps
  · have HS := Lib.hid (sum_f hpb)
    go_enter Try.func44, Try.ntmps44
    go_wp2_with fail
    refine (implParts_any A c ps _ hr hl hls).mono ?_
    rintro e w1 ⟨rfl, b1⟩
    go_wp2
    go_ret
    rw [HS.out.1, HS.out.2.2]
    exact ⟨rfl, b1⟩
  · obtain ⟨t1, t2, t3⟩ := sum_t hpb
    obtain ⟨p1, p2⟩ := partsB_of hpb
    have HS := Lib.hid (show sumK ps + sumD ps = sumOf (sizeK 1) ps + sumOf (sizeK 3) ps by rw [t1, t3, sizeK_keep p1, sizeK_drop p1])
    obtain ⟨s1, s2⟩ := sizeK_bd (kind := 1) p1 p2
    obtain ⟨s3, s4⟩ := sizeK_bd (kind := 3) p1 p2
    clear t1 t2 t3
    go_enter Try.func44, Try.ntmps44
    go_wp2_with fail
    refine (implParts_any A c ps _ hr hl hls).mono ?_
    rintro e w1 ⟨rfl, b1⟩
    go_wp2_with fail
    refine (implSizeOf_any 1 A c ps _ (hr.past b1) p2 p1).mono ?_
    rintro e w2 ⟨rfl, b2⟩
    have d2 := b1.trans (b2.mono b1.size)
    go_wp2_with fail
    refine (implSizeOf_any 3 A c ps _ (hr.past d2) p2 p1).mono ?_
    rintro e w3 ⟨rfl, b3⟩
    have d3 := d2.trans (b3.mono d2.size)
    generalize sumOf (sizeK 1) ps = q1 at *
    generalize sumOf (sizeK 3) ps = q3 at *
    go_wp2
    go_ret
    rw [HS.out]
    exact ⟨rfl, d3⟩

set_option maxHeartbeats 800000 in
theorem implOpTo_any (A : Option Addr) (c : Nat) (ps : List Pt) (w : World) (hr : PRow w w.heap.size A ps) (hl : ps.length ≤ 4294967296) (hls : ∀ p ∈ ps, p.signs.length ≤ 4294967296) :
    Calls Try.prog 40 #[.slice A ps.length c] w (Nums1 (sumK ps + sumP ps) w) := by
  cases hpb : partsB ps
  · have HS := Lib.hid (sum_f hpb)
    go_enter Try.func40, Try.ntmps40
    go_wp2_with fail
    refine (implParts_any A c ps _ hr hl hls).mono ?_
    rintro e w1 ⟨rfl, b1⟩
    go_wp2
    go_ret
    rw [HS.out.1, HS.out.2.1]
    exact ⟨rfl, b1⟩
  · obtain ⟨t1, t2, t3⟩ := sum_t hpb
    obtain ⟨p1, p2⟩ := partsB_of hpb
    have HS := Lib.hid (show sumK ps + sumP ps = sumOf (sizeK 1) ps + sumOf (sizeK 2) ps by rw [t1, t2, sizeK_keep p1, sizeK_put p1])
    obtain ⟨s1, s2⟩ := sizeK_bd (kind := 1) p1 p2
    obtain ⟨s3, s4⟩ := sizeK_bd (kind := 2) p1 p2
    clear t1 t2 t3
    go_enter Try.func40, Try.ntmps40
    go_wp2_with fail
    refine (implParts_any A c ps _ hr hl hls).mono ?_
    rintro e w1 ⟨rfl, b1⟩
    go_wp2_with fail
    refine (implSizeOf_any 1 A c ps _ (hr.past b1) p2 p1).mono ?_
    rintro e w2 ⟨rfl, b2⟩
    have d2 := b1.trans (b2.mono b1.size)
    go_wp2_with fail
    refine (implSizeOf_any 2 A c ps _ (hr.past d2) p2 p1).mono ?_
    rintro e w3 ⟨rfl, b3⟩
    have d3 := d2.trans (b3.mono d2.size)
    generalize sumOf (sizeK 1) ps = q1 at *
    generalize sumOf (sizeK 2) ps = q3 at *
    go_wp2
    go_ret
    rw [HS.out]
    exact ⟨rfl, d3⟩

set_option maxHeartbeats 1600000 in
theorem implOpOk_any (A : Option Addr) (c : Nat) (ps : List Pt) (w : World) (hr : PRow w w.heap.size A ps) (hl : ps.length ≤ 4294967296) (hls : ∀ p ∈ ps, p.signs.length ≤ 4294967296) :
    Calls Try.prog 43 #[.slice A ps.length c] w (Tells (okOp ps) w) := by
  cases hpb : partsB ps
  · have HS := Lib.hid (show okOp ps = false by unfold okOp; rw [hpb]; rfl)
    go_enter Try.func43, Try.ntmps43
    go_wp2_with fail
    refine (implParts_any A c ps _ hr hl hls).mono ?_
    rintro e w1 ⟨rfl, b1⟩
    go_wp2
    go_ret
    exact ⟨ret_bool (by rw [HS.out]), b1⟩
  · by_cases hf : sumK ps + sumD ps ≤ 200
    · by_cases ht : sumK ps + sumP ps ≤ 200
      all_goals
        have HS := Lib.hid (show okOp ps = decide (sumK ps + sumP ps ≤ 200) by unfold okOp; rw [hpb, decide_eq_true hf]; rfl)
        go_enter Try.func43, Try.ntmps43
        go_wp2_with fail
        refine (implParts_any A c ps _ hr hl hls).mono ?_
        rintro e w1 ⟨rfl, b1⟩
        go_wp2_with fail
        refine (implOpFrom_any A c ps _ (hr.past b1) hl hls).mono ?_
        rintro e w2 ⟨rfl, b2⟩
        have d2 := b1.trans (b2.mono b1.size)
        go_wp2_with fail
        refine (implOpTo_any A c ps _ (hr.past d2) hl hls).mono ?_
        rintro e w3 ⟨rfl, b3⟩
        go_wp2
        go_ret
        refine ⟨ret_bool ?_, d2.trans (b3.mono d2.size)⟩
        rw [HS.out]
        first | done | (rw [decide_eq_true ht]) | (rw [decide_eq_false ht])
    · have HS := Lib.hid (show okOp ps = false by unfold okOp; rw [hpb, decide_eq_false hf]; rfl)
      go_enter Try.func43, Try.ntmps43
      go_wp2_with fail
      refine (implParts_any A c ps _ hr hl hls).mono ?_
      rintro e w1 ⟨rfl, b1⟩
      go_wp2_with fail
      refine (implOpFrom_any A c ps _ (hr.past b1) hl hls).mono ?_
      rintro e w2 ⟨rfl, b2⟩
      go_wp2
      go_ret
      exact ⟨ret_bool (by rw [HS.out]), b1.trans (b2.mono b1.size)⟩

theorem okOp_parts {ps : List Pt} (h : okOp ps = true) : partsB ps = true := by
  unfold okOp at h
  cases hp : partsB ps
  · rw [hp] at h; simp at h
  · rfl

end Go.Proofs.Ytihajkppeiainaa.low


/-
  Contracts of impl.partSame, of the library's slices.EqualFunc at parts with impl.partSame, and of impl.OpSame.
-/
namespace Go.Proofs.Ytihajkppeiainaa.low
open Go.RowKit
set_option linter.unusedVariables false

set_option maxHeartbeats 800000 in
theorem implPartSame_any (p q : Pt) (A A' : Option Addr) (c c' : Nat) (w : World) (hp : Row (Value.int .i64) w w.heap.size A p.signs) (hq : Row (Value.int .i64) w w.heap.size A' q.signs) (h1 : p.signs.length ≤ 4294967296) (h2 : q.signs.length ≤ 4294967296) :
    Calls Try.prog 47 #[.agg #[.int .i64 p.kind, .int .i64 p.n, .slice A p.signs.length c], .agg #[.int .i64 q.kind, .int .i64 q.n, .slice A' q.signs.length c']] w (Tells (samePt p q) w) := by
  obtain ⟨k, n, zs⟩ := p
  obtain ⟨k', n', zs'⟩ := q
  have hbb : ∀ o o' : Obj, Below w.heap.size w ((w.alloc o).alloc o') := fun o o' => ((Below.refl _ _).alloc (Nat.le_refl _) _).alloc (by simp) _
  by_cases hk : k = k'
  · by_cases hn : n = n'
    · have HS := Lib.hid (show samePt ⟨k, n, zs⟩ ⟨k', n', zs'⟩ = sameB zs zs' by unfold samePt; simp [hk, hn])
      have hk1 : (k == k') = true := by simp [hk]
      have hn1 : (n == n') = true := by simp [hn]
      clear hk hn
      go_enter Try.func47, Try.ntmps47
      go_wp2_with fail
      refine (implSignsSame_any A A' c c' zs zs' _ ((hp.past_alloc _).past_alloc _) ((hq.past_alloc _).past_alloc _) h1 h2).mono ?_
      intro e w1 hsay
      obtain ⟨rfl, b1⟩ := says_tells hsay
      go_wp2
      go_ret
      refine ⟨ret_bool (by rw [HS.out]), (hbb _ _).trans (b1.mono (by simp; omega))⟩
    · have HS := Lib.hid (show samePt ⟨k, n, zs⟩ ⟨k', n', zs'⟩ = false by unfold samePt; simp [hn])
      have hk1 : (k == k') = true := by simp [hk]
      have hn1 : (n == n') = false := by simp [hn]
      clear hk hn
      go_enter Try.func47, Try.ntmps47
      go_wp2
      go_ret
      exact ⟨ret_bool (by rw [HS.out]), hbb _ _⟩
  · have HS := Lib.hid (show samePt ⟨k, n, zs⟩ ⟨k', n', zs'⟩ = false by unfold samePt; simp [hk])
    have hk1 : (k == k') = false := by simp [hk]
    clear hk
    go_enter Try.func47, Try.ntmps47
    go_wp2
    go_ret
    exact ⟨ret_bool (by rw [HS.out]), hbb _ _⟩

set_option maxRecDepth 100000 in
set_option maxHeartbeats 1600000 in
theorem equalFunc_any (A B : Option Addr) (c d : Nat) (ps qs : List Pt) (w : World) (hx : PRow w w.heap.size A ps) (hy : PRow w w.heap.size B qs)
    (hl : ps.length ≤ 4294967296) (hl2 : qs.length ≤ 4294967296) (hs : ∀ p ∈ ps, p.signs.length ≤ 4294967296) (hs2 : ∀ p ∈ qs, p.signs.length ≤ 4294967296) :
    Calls Try.prog 46 #[.slice A ps.length c, .slice B qs.length d, .func (.func 47) #[] #[]] w (Tells (samePs ps qs) w) := by
  by_cases hlen : ps.length = qs.length
  · have HL := Lib.hid hlen
    have hb : ((ps.length : Int) != (qs.length : Int)) = false := by simp [hlen]
    clear hlen
    go_enter Try.func46, Try.ntmps46
    go_wp2
    go_loopw [17] (fun i wr => ∃ k : Nat, k ≤ ps.length ∧ i = .int .i64 k ∧ samePs (ps.take k) (qs.take k) = true ∧ Below w.heap.size w wr) (fun i _ => ps.length - (intOf i).toNat)
    case atStart => exact ⟨0, Nat.zero_le _, rfl, rfl, Below.refl _ _⟩
    case round =>
      obtain ⟨k, hk, rfl, ht, hbel⟩ := hrel
      have HT := Lib.hid ht
      clear ht
      by_cases hlt : k < ps.length
      · have hlt2 : k < qs.length := by have := HL.out; omega
        obtain ⟨b1, o1, p, rfl, hb1, hp, hc1⟩ := hx.at_ hlt
        obtain ⟨b2, o2, q, rfl, hb2, hq, hc2⟩ := hy.at_ (k := k) hlt2
        obtain ⟨x0, x1, A1, e1, x2, r1⟩ := hc1.keep (w' := wr) hb1 (fun _ hq => hbel.cell hq)
        have hsp := hs p (List.mem_of_getElem? hp)
        have hsq := hs2 q (List.mem_of_getElem? hq)
        have HP := Lib.hid hp
        have HQ := Lib.hid hq
        clear hp hq hc1
        have bW := alloc_below wr (.cells #[.int .i64 p.kind, .int .i64 p.n, .slice A1 p.signs.length e1] 67)
        have dW := hbel.trans (bW.mono hbel.size)
        obtain ⟨y0, y1, A2, e2, y2, r2⟩ := hc2.keep (w' := wr.alloc (.cells #[.int .i64 p.kind, .int .i64 p.n, .slice A1 p.signs.length e1] 67)) hb2 (fun _ hq => dW.cell hq)
        have dV := dW.trans ((alloc_below (wr.alloc (.cells #[.int .i64 p.kind, .int .i64 p.n, .slice A1 p.signs.length e1] 67)) (.cells #[.int .i64 q.kind, .int .i64 q.n, .slice A2 q.signs.length e2] 67)).mono dW.size)
        have R1 := Lib.hid (Row.past_alloc ((r1.more hbel.size).past bW) (.cells #[.int .i64 q.kind, .int .i64 q.n, .slice A2 q.signs.length e2] 67))
        have R2 := Lib.hid (Row.past_alloc (r2.more dW.size) (.cells #[.int .i64 q.kind, .int .i64 q.n, .slice A2 q.signs.length e2] 67))
        clear hc2 r1 r2
        cases hsame : samePt p q
        · go_wp2_with fail
          refine (implPartSame_any p q A1 A2 e1 e2 _ R1.out R2.out hsp hsq).mono ?_
          rintro e w2 ⟨rfl, b2⟩
          go_wp2
          go_ret
          exact ⟨ret_bool (by rw [samePs_at ps qs k p q HP.out HQ.out hsame]), dV.trans (b2.mono dV.size)⟩
        · go_wp2_with fail
          refine (implPartSame_any p q A1 A2 e1 e2 _ R1.out R2.out hsp hsq).mono ?_
          rintro e w2 ⟨rfl, b2⟩
          go_wp2
          go_roundw
          case rel => exact ⟨k + 1, by omega, by go_num, samePs_snoc ps qs k p q HP.out HQ.out hsame HT.out, dV.trans (b2.mono dV.size)⟩
          case measure => simp [intOf]; omega
      · have H := Lib.hid (show samePs ps qs = true by have := HT.out; rwa [List.take_of_length_le (by omega), List.take_of_length_le (by have := HL.out; omega)] at this)
        go_wp2
        go_ret
        exact ⟨ret_bool (by rw [H.out]), hbel⟩
  · have hb : ((ps.length : Int) != (qs.length : Int)) = true := by simp; omega
    have H := Lib.hid (show samePs ps qs = false by cases h : samePs ps qs; rfl; exact absurd (samePs_len ps qs h) hlen)
    clear hlen
    go_enter Try.func46, Try.ntmps46
    go_wp2
    go_ret
    exact ⟨ret_bool (by rw [H.out]), Below.refl _ _⟩

set_option maxHeartbeats 400000 in
theorem implOpSame_any (A B : Option Addr) (c d : Nat) (ps qs : List Pt) (w : World) (hx : PRow w w.heap.size A ps) (hy : PRow w w.heap.size B qs)
    (hl : ps.length ≤ 4294967296) (hl2 : qs.length ≤ 4294967296) (hs : ∀ p ∈ ps, p.signs.length ≤ 4294967296) (hs2 : ∀ p ∈ qs, p.signs.length ≤ 4294967296) :
    Calls Try.prog 15 #[.slice A ps.length c, .slice B qs.length d] w (Tells (samePs ps qs) w) := by
  go_enter Try.func15, Try.ntmps15
  go_wp2_with fail
  refine (equalFunc_any A B c d ps qs _ hx hy hl hl2 hs hs2).mono ?_
  rintro e w1 ⟨rfl, b1⟩
  go_wp2
  go_ret
  exact ⟨rfl, b1⟩
end Go.Proofs.Ytihajkppeiainaa.low


/-
  Contracts of the program's add, of impl.OpNorm, impl.IsNorm and impl.Keeping.
-/
namespace Go.Proofs.Ytihajkppeiainaa.low
open Go.RowKit
set_option linter.unusedVariables false

theorem sameB_comm (a b : List Int) : sameB a b = sameB b a := by
  by_cases h : a = b
  · subst h; rfl
  · have h' : ¬ b = a := fun e => h e.symm
    unfold sameB
    simp [h, h']
theorem samePt_comm (p q : Pt) : samePt p q = samePt q p := by
  unfold samePt
  rw [sameB_comm p.signs q.signs, Bool.beq_comm (a := p.kind), Bool.beq_comm (a := p.n)]
theorem samePs_comm : ∀ ps qs : List Pt, samePs ps qs = samePs qs ps
  | [], [] => rfl
  | [], _ :: _ => rfl
  | _ :: _, [] => rfl
  | p :: ps, q :: qs => by
    show (samePt p q && samePs ps qs) = (samePt q p && samePs qs ps)
    rw [samePt_comm p q, samePs_comm ps qs]

set_option maxHeartbeats 1600000 in
theorem implAdd_any (lo g : Nat) (qs : List Pt) (put : List Int) (d : Int) (p : Pt) (A : Option Addr) (c : Nat) (w : World) (hb : BAt lo g 74 w qs put d) (hr : Row (Value.int .i64) w w.heap.size A p.signs) (hok : okPt p = true)
    (hl : qs.length ≤ 4294967296) (hp : put.length ≤ 4294967296) (h0 : 0 ≤ d) (h1 : d ≤ 4611686018427387904)
    (hq : ∀ p ∈ qs ++ putL put ++ dropL d, 0 ≤ p.n ∧ p.n ≤ 4611686018427387904) (hql : (qs ++ putL put ++ dropL d).length ≤ 4294967298) :
    Calls Try.prog 52 #[.pointer (some ⟨g, 0, none⟩), .agg #[.int .i64 p.kind, .int .i64 p.n, .slice A p.signs.length c]] w (Built lo g 74 w (stepN (qs, put, d) p).1 (stepN (qs, put, d) p).2.1 (stepN (qs, put, d) p).2.2) := by
  have hlo : lo ≤ w.heap.size := by obtain ⟨v, u, us, hx, _⟩ := hb; exact Nat.le_trans hx.low (Nat.le_of_lt hx.lt)
  have hk := of_okPt hok
  clear hok
  obtain ⟨pk, pn, pz⟩ := p
  simp only at hk hr ⊢
  have hat := hb.past (alloc_below w (.cells #[.int .i64 pk, .int .i64 pn, .slice A pz.length c] 67))
  have bel : Below lo w (w.alloc (.cells #[.int .i64 pk, .int .i64 pn, .slice A pz.length c] 67)) := (alloc_below w _).mono hlo
  rcases (show pk = 1 ∨ pk = 2 ∨ pk = 3 by omega) with rfl | rfl | rfl
  · have hn1 : 0 ≤ pn := by omega
    have hn2 : pn ≤ 200 := by omega
    clear hk
    by_cases hz : pn = 0
    · subst hz
      go_enter Try.func52, Try.ntmps52
      go_wp2_with fail
      refine (implKeep_zero g _).mono ?_
      rintro e w' ⟨rfl, rfl⟩
      go_wp2
      go_end0
      exact ⟨rfl, hat, bel⟩
    · go_enter Try.func52, Try.ntmps52
      go_wp2_with fail
      refine (implKeep_any lo g qs put d pn _ hat hl hp hz hn1 (by omega) hq hql).mono ?_
      rintro e w3 ⟨rfl, hn3, b3⟩
      go_wp2
      go_end0
      refine ⟨rfl, ?_, bel.trans b3⟩
      simp only [stepN, if_neg hz]
      exact hn3.at_
  · have hl2 : pz.length ≤ 200 := by omega
    clear hk
    go_enter Try.func52, Try.ntmps52
    go_wp2_with fail
    refine (implPut_any lo g qs put d A c pz _ hat (hr.past_alloc _) hp (by omega)).mono ?_
    rintro e w3 ⟨rfl, hn3, b3⟩
    go_wp2
    go_end0
    exact ⟨rfl, hn3, bel.trans b3⟩
  · have hn1 : 0 ≤ pn := by omega
    have hn2 : pn ≤ 200 := by omega
    clear hk
    go_enter Try.func52, Try.ntmps52
    go_wp2_with fail
    refine (implDrop_any lo g qs put d pn _ hat h0 h1 hn1 (by omega)).mono ?_
    rintro e w3 ⟨rfl, hn3, b3⟩
    go_wp2
    go_end0
    exact ⟨rfl, hn3, bel.trans b3⟩

set_option maxRecDepth 100000 in
set_option maxHeartbeats 3200000 in
theorem implOpNorm_any (A : Option Addr) (c : Nat) (ps : List Pt) (w : World) (hr : PRow w w.heap.size A ps) (hl : ps.length ≤ 4294967296) (hls : ∀ p ∈ ps, p.signs.length ≤ 4294967296) (hss : signsIn ps ≤ 1048576) :
    Calls Try.prog 18 #[.slice A ps.length c] w (PsPost (normL ps) w) := by
  cases hok : okOp ps
  · have e1 : normL ps = [] := by simp [normL, hok]
    rw [e1]
    go_enter Try.func18, Try.ntmps18
    go_wp2_with fail
    refine (implOpOk_any A c ps _ hr hl hls).mono ?_
    rintro e w1 ⟨rfl, b1⟩
    rw [hok] at *
    go_wp2
    go_ret
    refine ⟨_, rfl, ⟨[], World.ownsRow_nil _ _ _ _, ⟨rfl, fun i p u hp _ => by simp at hp, fun i j k u v hu _ _ _ => by simp at hu⟩, fun k hk => by simp [Value.ownBlock] at hk, Nat.le_refl _, b1.size⟩, b1⟩
  · have e1 : normL ps = doneN (foldN ps) := by simp [normL, hok]
    rw [e1]
    have HPB := Lib.hid (partsB_of (okOp_parts hok))
    go_enter Try.func18, Try.ntmps18
    go_wp2_with fail
    refine (implOpOk_any A c ps _ hr hl hls).mono ?_
    rintro e w1 ⟨rfl, b1⟩
    rw [hok] at *
    clear hok
    go_wp2
    have hnew := BAt.new w.heap.size 74 w1 b1.size
    have hbn := b1.trans ((alloc_below w1 (.cells #[.slice none 0 0, .slice none 0 0, .int .i64 0] 74)).mono b1.size)
    have hgl : w.heap.size ≤ w1.heap.size := b1.size
    generalize w1.alloc (.cells #[.slice none 0 0, .slice none 0 0, .int .i64 0] 74) = w2 at *
    generalize w1.heap.size = g at *
    clear b1
    go_loopw [13] (fun i wr => ∃ k : Nat, k ≤ ps.length ∧ i = .int .i64 k ∧ BAt w.heap.size g 74 wr (foldN (ps.take k)).1 (foldN (ps.take k)).2.1 (foldN (ps.take k)).2.2 ∧ Below w.heap.size w wr) (fun i _ => ps.length - (intOf i).toNat)
    case atStart => exact ⟨0, Nat.zero_le _, rfl, hnew, hbn⟩
    case round =>
      obtain ⟨k, hk, rfl, hat, hbel⟩ := hrel
      clear hnew hbn
      have hfit := foldN_fit HPB.out.1 k hk
      have hpl := HPB.out.2
      by_cases hlt : k < ps.length
      · obtain ⟨b, off, p, rfl, hb, hp, hc⟩ := hr.at_ hlt
        obtain ⟨x0, x1, A1, e1, x2, r1⟩ := hc.keep (w' := wr) hb (fun _ hq => hbel.cell hq)
        have hokp := okPs_at hp HPB.out.1
        have K1 := Lib.hid (foldN_snoc hp)
        have hsg : signsIn (ps.take k) ≤ signsIn ps := signsIn_take ps k
        clear hp hc
        generalize foldN (ps.take k) = st at *
        obtain ⟨qs, put, d⟩ := st
        have hf1 := hfit.len
        have hf2 := hfit.signs
        have hf3 := hfit.d0
        have hf4 := hfit.d1
        have hdn := Lib.hid hfit.done
        simp only at hf1 hf2 hf3 hf4 hat
        go_wp2_with fail
        refine (implAdd_any w.heap.size g qs put d p A1 e1 _ (hat.past (alloc_below wr _)) (Row.past_alloc (r1.more hbel.size) _) hokp (by omega) (by omega) hf3 (by omega) (fun p hp => by have := hdn.out.2.2 p hp; omega) (by have := hdn.out.1; exact Nat.le_trans this (by omega))).mono ?_
        rintro e w3 ⟨rfl, hn3, b3⟩
        go_wp2
        go_roundw
        case rel => exact ⟨k + 1, by omega, by go_num, by rw [K1.out]; exact hn3, hbel.trans (((alloc_below wr _).mono hbel.size).trans b3)⟩
        case measure => simp [intOf]; omega
      · have hke : ps.take k = ps := List.take_of_length_le (by omega)
        rw [hke] at hat hfit
        have hf1 := hfit.len
        have hf2 := hfit.signs
        go_wp2_with fail
        refine (implDone_any w.heap.size g _ _ _ _ hat (by omega) (by omega)).mono ?_
        rintro e w3 ⟨v, rfl, p3, b3⟩
        change PBuf _ _ _ _ (doneN (foldN ps)) at p3
        generalize doneN (foldN ps) = L at *
        obtain ⟨B3, d3, rfl, q3⟩ := p3.slice
        have HP3 := Lib.hid p3
        clear p3
        go_wp2
        go_ret
        exact ⟨_, rfl, HP3.out, hbel.trans b3⟩

set_option maxHeartbeats 1600000 in
theorem implIsNorm_any (A : Option Addr) (c : Nat) (ps : List Pt) (w : World) (hr : PRow w w.heap.size A ps) (hl : ps.length ≤ 4294967296) (hls : ∀ p ∈ ps, p.signs.length ≤ 4294967296) (hss : signsIn ps ≤ 1048576) :
    Calls Try.prog 13 #[.slice A ps.length c] w (Tells (isNormL ps) w) := by
  obtain ⟨n1, n2⟩ := normL_fit hss
  have hls' : ∀ p ∈ normL ps, p.signs.length ≤ 4294967296 := fun p hp => by
    obtain ⟨i, hi⟩ := List.getElem?_of_mem hp
    have := signsIn_at hi
    omega
  cases hok : okOp ps
  · have HS := Lib.hid (show isNormL ps = false by unfold isNormL; rw [hok]; rfl)
    go_enter Try.func13, Try.ntmps13
    go_wp2_with fail
    refine (implOpOk_any A c ps _ hr hl hls).mono ?_
    rintro e w1 ⟨rfl, b1⟩
    rw [hok] at *
    go_wp2
    go_ret
    exact ⟨ret_bool (by rw [HS.out]), b1⟩
  · have HS := Lib.hid (show isNormL ps = samePs ps (normL ps) by unfold isNormL; rw [hok, samePs_comm]; rfl)
    go_enter Try.func13, Try.ntmps13
    go_wp2_with fail
    refine (implOpOk_any A c ps _ hr hl hls).mono ?_
    rintro e w1 ⟨rfl, b1⟩
    rw [hok] at *
    clear hok
    go_wp2_with fail
    refine (implOpNorm_any A c ps _ (hr.past b1) hl hls hss).mono ?_
    rintro e w2 ⟨v2, rfl, p2, b2⟩
    obtain ⟨B2, d2, rfl, q2⟩ := p2.slice
    have d2' := b1.trans (b2.mono b1.size)
    generalize normL ps = L at *
    go_wp2_with fail
    refine (implOpSame_any A B2 c d2 ps L _ (hr.past d2') q2 hl (by omega) hls hls').mono ?_
    rintro e w3 ⟨rfl, b3⟩
    go_wp2
    go_ret
    exact ⟨ret_bool (by rw [HS.out]), d2'.trans (b3.mono d2'.size)⟩

set_option maxHeartbeats 1600000 in
theorem implKeeping_any (n : Int) (w : World) : Calls Try.prog 37 #[.int .i64 n] w (PsPost (keepL n) w) := by
  have hnew := BAt.new w.heap.size 74 w (Nat.le_refl _)
  have hbn := alloc_below w (.cells #[.slice none 0 0, .slice none 0 0, .int .i64 0] 74)
  by_cases h0 : 0 ≤ n
  · by_cases h2 : n ≤ 200
    · by_cases h1 : n = 0
      · subst h1
        go_enter Try.func37, Try.ntmps37
        go_wp2_with fail
        refine (implKeep_zero w.heap.size _).mono ?_
        rintro e w' ⟨rfl, rfl⟩
        go_wp2_with fail
        refine (implDone_any w.heap.size w.heap.size [] [] 0 _ hnew (by simp) (by simp)).mono ?_
        rintro e w3 ⟨v, rfl, p3, b3⟩
        change PBuf _ _ _ _ [] at p3
        obtain ⟨B3, d3, rfl, q3⟩ := p3.slice
        have HP3 := Lib.hid p3
        clear p3
        go_wp2
        go_ret
        exact ⟨_, rfl, HP3.out, hbn.trans b3⟩
      · have e1 : keepL n = [⟨1, n, []⟩] := by unfold keepL; exact if_pos ⟨by omega, h2⟩
        rw [e1]
        go_enter Try.func37, Try.ntmps37
        go_wp2_with fail
        refine (implKeep_any w.heap.size w.heap.size [] [] 0 n _ hnew (by simp) (by simp) h1 h0 (by omega) (fun p hp => by simp [putL, dropL] at hp) (by simp [putL, dropL])).mono ?_
        rintro e w2 ⟨rfl, hn2, b2⟩
        have hn2' : BNil w.heap.size w.heap.size 74 w2 [⟨1, n, []⟩] := by simpa [putL, dropL, keepTo_nil] using hn2
        go_wp2_with fail
        refine (implDone_any w.heap.size w.heap.size [⟨1, n, []⟩] [] 0 _ hn2'.at_ (by simp) (by simp)).mono ?_
        rintro e w3 ⟨v, rfl, p3, b3⟩
        change PBuf _ _ _ _ [⟨1, n, []⟩] at p3
        obtain ⟨B3, d3, rfl, q3⟩ := p3.slice
        have HP3 := Lib.hid p3
        clear p3
        go_wp2
        go_ret
        exact ⟨_, rfl, HP3.out, hbn.trans (b2.trans b3)⟩
    · have e1 : keepL n = [] := by unfold keepL; exact if_neg (fun h => h2 h.2)
      rw [e1]
      go_enter Try.func37, Try.ntmps37
      go_wp2
      go_ret
      exact ⟨_, rfl, PBuf.nil w, Below.refl _ _⟩
  · have e1 : keepL n = [] := by unfold keepL; exact if_neg (fun h => by omega)
    rw [e1]
    go_enter Try.func37, Try.ntmps37
    go_wp2
    go_ret
    exact ⟨_, rfl, PBuf.nil w, Below.refl _ _⟩
end Go.Proofs.Ytihajkppeiainaa.low


/-
  The program's side of SpecBld.
-/
namespace Go.Proofs.Ytihajkppeiainaa.low
open Go.RowKit
set_option linter.unusedVariables false

theorem implKeepB (O : Nat → Prop) (lo g : Nat) (L : List Pt) (n : Int) (w : World) (hb : Bld O lo g 74 w L) (h0 : 0 ≤ n) (h1 : n ≤ 200) (hl : L.length < 100000) :
    Calls Try.prog 48 #[.pointer (some ⟨g, 0, none⟩), .int .i64 n] w (BldP O lo g 74 (L ++ [⟨1, n, []⟩]) w) := by
  have hz : szP_ ⟨1, n, []⟩ := ⟨.inl rfl, h0, h1, by simp⟩
  by_cases hn : n = 0
  · subst hn
    refine (implKeep_zero g w).mono ?_
    rintro e w' ⟨rfl, rfl⟩
    exact ⟨rfl, hb.add hl hz (Below.refl _ _) (Fr.refl _ _) (hb.at_.mono (fun b h => .inl h))⟩
  · have hf := hb.fit
    have hd := hf.done
    have hsg := signsIn_le hb.sz
    have f1 := hf.len
    have f2 := hf.signs
    have hlen := hb.len
    refine (implKeep_f (fun b => O b ∨ w.heap.size ≤ b) lo g _ _ _ n w (hb.at_.mono (fun b h => .inl h)) (fun b h => .inr h) (by omega) (by omega) hn h0 (by omega) (fun p hp => by have := hd.2.2 p hp; omega) (by have := hd.1; exact Nat.le_trans this (by omega))).mono ?_
    rintro e w' ⟨rfl, hn', b, fr⟩
    refine ⟨rfl, hb.add hl hz b fr ?_⟩
    simp only [stepN, if_neg hn]
    exact hn'.at_
theorem implPutB (O : Nat → Prop) (lo g : Nat) (L : List Pt) (A : Option Addr) (c m : Nat) (zs : List Int) (w : World) (hb : Bld O lo g 74 w L) (hr : Row (Value.int .i64) w w.heap.size A zs) (hm : zs.length = m) (h1 : zs.length ≤ 200) (hl : L.length < 100000) :
    Calls Try.prog 50 #[.pointer (some ⟨g, 0, none⟩), .slice A m c] w (BldP O lo g 74 (L ++ [⟨2, 0, zs⟩]) w) := by
  subst hm
  have hz : szP_ ⟨2, 0, zs⟩ := ⟨.inr (.inl rfl), by simp, by simp, h1⟩
  have hsg := signsIn_le hb.sz
  have f2 := hb.fit.signs
  have hlen := hb.len
  refine (implPut_f (fun b => O b ∨ w.heap.size ≤ b) lo g _ _ _ A c zs w (hb.at_.mono (fun b h => .inl h)) (fun b h => .inr h) hr (by omega) (by omega)).mono ?_
  rintro e w' ⟨rfl, ha, b, fr⟩
  exact ⟨rfl, hb.add hl hz b fr ha⟩
theorem implDropB (O : Nat → Prop) (lo g : Nat) (L : List Pt) (n : Int) (w : World) (hb : Bld O lo g 74 w L) (h0 : 0 ≤ n) (h1 : n ≤ 200) (hl : L.length < 100000) :
    Calls Try.prog 49 #[.pointer (some ⟨g, 0, none⟩), .int .i64 n] w (BldP O lo g 74 (L ++ [⟨3, n, []⟩]) w) := by
  have hz : szP_ ⟨3, n, []⟩ := ⟨.inr (.inr rfl), h0, h1, by simp⟩
  have f3 := hb.fit.d0
  have f4 := hb.fit.d1
  have hlen := hb.len
  refine (implDrop_f (fun b => O b ∨ w.heap.size ≤ b) lo g _ _ _ n w (hb.at_.mono (fun b h => .inl h)) (fun b h => .inr h) f3 (by omega) h0 (by omega)).mono ?_
  rintro e w' ⟨rfl, ha, b, fr⟩
  exact ⟨rfl, hb.add hl hz b fr ha⟩
theorem implDoneB (O : Nat → Prop) (lo g : Nat) (L : List Pt) (w : World) (hb : Bld O lo g 74 w L) :
    Calls Try.prog 51 #[.pointer (some ⟨g, 0, none⟩)] w (DoneP O lo L w) := by
  have f1 := hb.fit.len
  have hlen := hb.len
  have hsg := signsIn_le hb.sz
  have f2 := hb.fit.signs
  refine (implDone_f (fun b => O b ∨ w.heap.size ≤ b) lo g _ _ _ w (hb.at_.mono (fun b h => .inl h)) (fun b h => .inr h) (by omega) (by omega)).mono ?_
  intro e w' h
  exact GoneS.done h
end Go.Proofs.Ytihajkppeiainaa.low


/-
  The program's side: contracts of impl.TextOk, impl.applies and of the reader's next.
-/
namespace Go.Proofs.Ytihajkppeiainaa.low
open Go.RowKit
set_option linter.unusedVariables false

set_option maxHeartbeats 800000 in
theorem implTextOk_d (v : Value) (t : List Int) (w : World) (h : RdC w w.heap.size (encInts t) v) (hs : SmI t) : Calls Try.prog 38 #[v] w (Tells (okText t) w) := by
  obtain ⟨A, c, rfl, hr, _⟩ := ints_rd h
  have hl : t.length ≤ 1048576 := hs
  by_cases h2 : t.length ≤ 200
  · have HS := Lib.hid (show okText t = allB t by unfold okText; rw [decide_eq_true h2, Bool.and_true])
    go_enter Try.func38, Try.ntmps38
    go_wp2_with fail
    refine (implSignsOk_any A c t _ hr (by omega)).mono ?_
    rintro e w1 ⟨rfl, rfl⟩
    generalize allB t = q at *
    go_wp2
    go_ret
    exact ⟨ret_bool (by rw [HS.out]), Below.refl _ _⟩
  · have HS := Lib.hid (show okText t = false by unfold okText; rw [decide_eq_false h2, Bool.and_false])
    go_enter Try.func38, Try.ntmps38
    go_wp2
    go_ret
    exact ⟨ret_bool (by rw [HS.out]), Below.refl _ _⟩

set_option maxHeartbeats 1600000 in
theorem implFits_d (v v' : Value) (ps : List Pt) (t : List Int) (w : World) (h : RdC w w.heap.size (encPs ps) v) (h' : RdC w w.heap.size (encInts t) v') (hs : SmP ps) (hs' : SmI t) : Calls Try.prog 39 #[v, v'] w (Tells (fitsB ps t) w) := by
  obtain ⟨A, c, rfl, hr, _⟩ := parts_rd h
  obtain ⟨A', c', rfl, hr', _⟩ := ints_rd h'
  have hl := hs.1
  cases ho : okOp ps
  · have HS := Lib.hid (show fitsB ps t = false by unfold fitsB; rw [ho]; rfl)
    go_enter Try.func39, Try.ntmps39
    go_wp2_with fail
    refine (implOpOk_any A c ps _ hr (by omega) hs.all4).mono ?_
    rintro e w1 ⟨rfl, b1⟩
    rw [ho]
    go_wp2
    go_ret
    exact ⟨ret_bool (by rw [HS.out]), b1⟩
  · cases ht : okText t
    · have HS := Lib.hid (show fitsB ps t = false by unfold fitsB; rw [ho, ht]; rfl)
      go_enter Try.func39, Try.ntmps39
      go_wp2_with fail
      refine (implOpOk_any A c ps _ hr (by omega) hs.all4).mono ?_
      rintro e w1 ⟨rfl, b1⟩
      rw [ho]
      go_wp2_with fail
      refine (implTextOk_d _ t _ (h'.past b1) hs').mono ?_
      rintro e w2 ⟨rfl, b2⟩
      rw [ht]
      go_wp2
      go_ret
      exact ⟨ret_bool (by rw [HS.out]), b1.trans (b2.mono b1.size)⟩
    · have HS := Lib.hid (show fitsB ps t = (sumK ps + sumD ps == (t.length : Int)) by unfold fitsB; rw [ho, ht, Bool.true_and]; cases hq : (sumK ps + sumD ps == (t.length : Int)) <;> simp_all)
      go_enter Try.func39, Try.ntmps39
      go_wp2_with fail
      refine (implOpOk_any A c ps _ hr (by omega) hs.all4).mono ?_
      rintro e w1 ⟨rfl, b1⟩
      rw [ho]
      go_wp2_with fail
      refine (implTextOk_d _ t _ (h'.past b1) hs').mono ?_
      rintro e w2 ⟨rfl, b2⟩
      rw [ht]
      have d2 := b1.trans (b2.mono b1.size)
      go_wp2_with fail
      refine (implOpFrom_any A c ps _ (hr.past d2) (by omega) hs.all4).mono ?_
      rintro e w3 ⟨rfl, b3⟩
      generalize sumK ps + sumD ps = q at *
      go_wp2
      go_ret
      exact ⟨ret_bool (by rw [HS.out]), d2.trans (b3.mono d2.size)⟩

/-- the reader at block g: zs is left of the text, which lies in blocks below B -/
def Rdr (B g : Nat) (w : World) (zs : List Int) : Prop := ∃ A c, w.heap[g]? = some (.cells #[.slice A zs.length c] 65 (0, 0)) ∧ zs.length ≤ c ∧ Row (Value.int .i64) w B A zs ∧ B ≤ g
theorem Rdr.keep {B g : Nat} {w w' : World} {zs : List Int} (h : Rdr B g w zs) (hg : w'.heap[g]? = w.heap[g]?) (hk : ∀ p : Addr, p.block < B → w'.cell? p = w.cell? p) : Rdr B g w' zs := by
  obtain ⟨A, c, h1, h2, h3, h4⟩ := h
  exact ⟨A, c, hg.trans h1, h2, h3.keep hk, h4⟩
theorem Rdr.lt {B g : Nat} {w : World} {zs : List Int} (h : Rdr B g w zs) : g < w.heap.size := by
  obtain ⟨A, c, h1, _⟩ := h
  exact lt_of_some h1
theorem Rdr.past {B g : Nat} {w w' : World} {zs : List Int} (h : Rdr B g w zs) (hb : Below w.heap.size w w') : Rdr B g w' zs := by
  have hlt := h.lt
  have hB : B ≤ g := by obtain ⟨_, _, _, _, _, h4⟩ := h; exact h4
  exact h.keep (hb.block g hlt) (fun p hp => hb.cell (by omega))
theorem Rdr.touch {B g : Nat} {w w' : World} {zs : List Int} {T : Nat → Prop} (h : Rdr B g w zs) (ht : Touch T w w') (hT : ∀ b, T b → B ≤ b ∧ ¬ b = g) : Rdr B g w' zs :=
  h.keep (ht.block g (fun e => (hT g e).2 rfl)) (fun p hp => ht.cell (fun e => by have := (hT _ e).1; omega))
/-- next gives the first n numbers, and the reader goes on behind them -/
def NextP (B g : Nat) (zs : List Int) (n : Nat) (w : World) (e : Ending) (w' : World) : Prop := ∃ A, e = .returned (.slice A n n) ∧ Row (Value.int .i64) w' B A (zs.take n) ∧ Rdr B g w' (zs.drop n) ∧ Touch (fun b => b = g) w w'

theorem addr_add_add (p : Addr) (i j : Nat) : (p.add i).add j = p.add (i + j) := by
  unfold Addr.add
  by_cases hi : i = 0
  · subst hi; simp
  · by_cases hj : j = 0
    · subst hj; simp [hi]
    · simp [hi, hj, Nat.add_assoc]
theorem Row.init {w : World} {B : Nat} {A : Option Addr} {zs : List Int} (h : Row (Value.int .i64) w B A zs) (n : Nat) : Row (Value.int .i64) w B A (zs.take n) := fun hn => by
  have h0 : 0 < zs.length := by rw [List.length_take] at hn; omega
  obtain ⟨ad, e, hb, hc⟩ := h h0
  refine ⟨ad, e, hb, fun k z hz => ?_⟩
  rw [List.getElem?_take] at hz
  split at hz
  · exact hc k z hz
  · cases hz
theorem Row.tail {w : World} {B : Nat} {ad : Addr} {zs : List Int} (h : Row (Value.int .i64) w B (some ad) zs) (n : Nat) : Row (Value.int .i64) w B (some (ad.add n)) (zs.drop n) := fun hn => by
  have h0 : 0 < zs.length := by rw [List.length_drop] at hn; omega
  obtain ⟨ad', e, hb, hc⟩ := h h0
  injection e with e
  subst e
  refine ⟨_, rfl, by rw [block_of_add]; exact hb, fun k z hz => ?_⟩
  rw [List.getElem?_drop] at hz
  rw [addr_add_add]
  exact hc (n + k) z hz
theorem heap_set0 {w : World} {g : Nat} {T : TypeId} {u v : Value} (h : w.heap[g]? = some (.cells #[u] T (0, 0))) : (w.setCell ⟨g, 0, none⟩ v).heap[g]? = some (.cells #[v] T (0, 0)) := by
  rw [heap_setCell_same _ _ _ _ _ _ h]
  rfl

set_option maxHeartbeats 1600000 in
theorem implNext (B g n : Nat) (zs : List Int) (w : World) (h : Rdr B g w zs) (hn : n ≤ zs.length) (hz : zs.length ≤ 1000000) : Calls Try.prog 41 #[.pointer (some ⟨g, 0, none⟩), .int .i64 n] w (NextP B g zs n w) := by
  obtain ⟨A, c, h1, h2, h3, h4⟩ := h
  have hcell : w.cell? ⟨g, 0, none⟩ = some (.slice A zs.length c) := cell_of_row _ _ 0 _ _ _ h1
  have hfree : w.frozen? ⟨g, 0, none⟩ = false := by simp [World.frozen?, h1]
  have H1 := Lib.hid h1
  clear h1
  cases A with
  | none =>
    have h0 : zs = [] := by
      rcases Nat.eq_zero_or_pos zs.length with h | h
      · exact List.eq_nil_of_length_eq_zero h
      · obtain ⟨_, hn, _⟩ := h3 h
        cases hn
    subst h0
    obtain rfl : n = 0 := by simpa using hn
    go_enter Try.func41, Try.ntmps41
    go_wp2
    all_goals
      go_ret
      refine ⟨none, rfl, Row.nil, ⟨none, _, heap_set0 H1.out, ?_, Row.nil, h4⟩, (Touch.refl (fun b => b = g) _).setCell (p := ⟨g, 0, none⟩) rfl _⟩
      simp
  | some ad =>
    by_cases hc : n = c
    · obtain rfl : n = c := hc
      obtain rfl : n = zs.length := by omega
      go_enter Try.func41, Try.ntmps41
      have hd : zs.drop zs.length = [] := List.drop_length
      have HD := Lib.hid hd
      clear hd
      go_wp2
      go_ret
      refine ⟨some ad, rfl, (h3.init _).keep (fun p hp => ?_), ?_, (Touch.refl (fun b => b = g) _).setCell (p := ⟨g, 0, none⟩) rfl _⟩
      · exact ((Touch.refl (fun b => b = g) _).setCell (p := ⟨g, 0, none⟩) rfl _).cell (fun e => by omega)
      · rw [HD.out]
        exact ⟨some ad, 0, heap_set0 H1.out, Nat.le_refl _, Row.nil, h4⟩
    · go_enter Try.func41, Try.ntmps41
      go_wp2
      go_ret
      have hk : ∀ p : Addr, p.block < B → (w.setCell ⟨g, 0, none⟩ (.slice (some (ad.add n)) (zs.length - n) (c - n))).cell? p = w.cell? p := fun p hp => ((Touch.refl (fun b => b = g) w).setCell (p := ⟨g, 0, none⟩) rfl _).cell (fun e => by omega)
      refine ⟨some ad, rfl, (h3.init _).keep hk, ⟨some (ad.add n), c - n, ?_, by rw [List.length_drop]; omega, (h3.tail n).keep hk, h4⟩, (Touch.refl (fun b => b = g) _).setCell (p := ⟨g, 0, none⟩) rfl _⟩
      rw [List.length_drop]
      exact heap_set0 H1.out
end Go.Proofs.Ytihajkppeiainaa.low


/-
  The program's reader of an operation (opReader): the part at hand and the rest; more.
-/
namespace Go.Proofs.Ytihajkppeiainaa.low
open Go.RowKit
set_option linter.unusedVariables false

/-- a part as the reader holds it: valid, or the zero value -/
def Vp (p : Pt) : Prop := ((p.kind = 1 ∨ p.kind = 3) ∧ 0 ≤ p.n ∧ p.n ≤ 200 ∧ p.signs = []) ∨ (p.kind = 2 ∧ p.n = 0 ∧ p.signs.length ≤ 200) ∨ (p.kind = 0 ∧ p.n = 0 ∧ p.signs = [])
theorem Vp.of {p : Pt} (h : okPt p = true) : Vp p := by
  have := of_okPt h
  unfold Vp
  obtain ⟨k, n, zs⟩ := p
  simp only at this ⊢
  have e : zs.length = 0 → zs = [] := List.eq_nil_of_length_eq_zero
  rcases (show k = 1 ∨ k = 2 ∨ k = 3 by omega) with rfl | rfl | rfl
  · exact .inl ⟨.inl rfl, by omega, by omega, e (by omega)⟩
  · exact .inr (.inl ⟨rfl, by omega, by omega⟩)
  · exact .inl ⟨.inr rfl, by omega, by omega, e (by omega)⟩
theorem Vp.size {p : Pt} (h : Vp p) : p.n + (p.signs.length : Int) = (sizeP p : Int) ∧ sizeP p ≤ 200 ∧ 0 ≤ p.n ∧ p.n ≤ 200 ∧ p.signs.length ≤ 200 := by
  obtain ⟨k, n, zs⟩ := p
  unfold sizeP
  rcases h with ⟨h1, h2, h3, h4⟩ | ⟨h1, h2, h3⟩ | ⟨h1, h2, h3⟩ <;> simp only at * <;> subst_vars <;> simp <;> (try omega)
  rcases h1 with rfl | rfl <;> simp <;> omega
theorem Vp.sz {p : Pt} (h : Vp p) (h0 : 0 < sizeP p) : szP_ p := by
  obtain ⟨k, n, zs⟩ := p
  have hs := h.size
  unfold szP_
  rcases h with ⟨h1, h2, h3, h4⟩ | ⟨h1, h2, h3⟩ | ⟨h1, h2, h3⟩ <;> simp only at * <;> subst_vars <;> simp [sizeP] at * <;> omega
/-- the reader at block g: p at hand, ps behind it -/
structure Orr (lo g : Nat) (w : World) (p : Pt) (ps : List Pt) : Prop where
  box : ∃ B cb A c, w.heap[g]? = some (.cells #[.int .i64 p.kind, .int .i64 p.n, .slice B p.signs.length cb, .slice A ps.length c] 104 (0, 0)) ∧ RdC w lo (encInts p.signs) (.slice B p.signs.length cb) ∧ RdC w lo (encPs ps) (.slice A ps.length c)
  ge : lo ≤ g
  vp : Vp p
  vs : ∀ x ∈ ps, okPt x = true
  ln : ps.length ≤ 1048576
section
variable {lo g : Nat} {w w' : World} {p : Pt} {ps : List Pt}
theorem Orr.lt (h : Orr lo g w p ps) : g < w.heap.size := by obtain ⟨B, cb, A, c, h1, _⟩ := h.box; exact lt_of_some h1
theorem Orr.keep (h : Orr lo g w p ps) (hg : w'.heap[g]? = w.heap[g]?) (hb : Below lo w w') : Orr lo g w' p ps := by
  obtain ⟨B, cb, A, c, h1, h2, h3⟩ := h.box
  exact ⟨⟨B, cb, A, c, hg.trans h1, h2.below hb, h3.below hb⟩, h.ge, h.vp, h.vs, h.ln⟩
theorem Orr.past (h : Orr lo g w p ps) (hb : Below w.heap.size w w') : Orr lo g w' p ps :=
  h.keep (hb.block _ h.lt) (hb.mono (Nat.le_trans h.ge (Nat.le_of_lt h.lt)))
end
/-- a part of a slice of parts, with all that is known of its characters -/
theorem parts_hd {w : World} {B : Nat} {A : Option Addr} {n c : Nat} {p : Pt} {ps : List Pt} (h : RdC w B (encPs (p :: ps)) (.slice A n c)) : ∃ b off A' c', A = some ⟨b, off, none⟩ ∧ b < B ∧ ps.length + 1 ≤ c ∧ w.cell? ⟨b, off, none⟩ = some (.int .i64 p.kind) ∧ w.cell? ⟨b, off + 1, none⟩ = some (.int .i64 p.n) ∧ w.cell? ⟨b, off + 2, none⟩ = some (.slice A' p.signs.length c') ∧ RdC w B (encInts p.signs) (.slice A' p.signs.length c') ∧
    (∀ d, ps.length ≤ d → RdC w B (encPs ps) (.slice (some ⟨b, off + 3, none⟩) ps.length d)) := by
  obtain ⟨A0, c0, hv, hc, h⟩ := h
  injection hv with e1 e2 e3
  subst e1 e3
  obtain ⟨ad, hA, hb, hs, hr⟩ := h (by simp)
  obtain ⟨b, off, spot⟩ := ad
  obtain rfl : spot = none := by
    rcases hs with hs | hs
    · cases hs
    · exact hs
  obtain ⟨⟨⟨v0, h0, rfl⟩, ⟨v1, h1, rfl⟩, ⟨v2, h2, r2⟩, _⟩, hr⟩ := hr
  obtain ⟨A', c', rfl, r3, _⟩ := ints_rd r2
  rw [add_at] at h0 h1 h2
  refine ⟨b, off, A', c', hA, hb, by simpa using hc, by simpa using h0, by simpa using h1, by simpa using h2, r2, fun d hd => ⟨some ⟨b, off + 3, none⟩, d, by simp, by simpa using hd, fun _ => ⟨⟨b, off + 3, none⟩, rfl, hb, .inr rfl, ?_⟩⟩⟩
  have key : ∀ (rs : List (List Dat)) (o : Nat), RdR w B 3 ⟨b, off, none⟩ (o + 3) rs → RdR w B 3 ⟨b, off + 3, none⟩ o rs := by
    have keyL : ∀ (ds : List Dat) (o : Nat), RdL w B ⟨b, off, none⟩ (o + 3) ds → RdL w B ⟨b, off + 3, none⟩ o ds := by
      intro ds
      induction ds with
      | nil => intro o _; trivial
      | cons d ds ih =>
        intro o ⟨⟨v, h1, h2⟩, h3⟩
        refine ⟨⟨v, ?_, h2⟩, ih (o + 1) (by rw [show o + 1 + 3 = o + 3 + 1 by omega]; exact h3)⟩
        rw [add_at] at h1 ⊢
        rw [show off + 3 + o = off + (o + 3) by omega]
        exact h1
    intro rs
    induction rs with
    | nil => intro o _; trivial
    | cons r rs ih =>
      intro o ⟨h1, h2⟩
      exact ⟨keyL r o h1, ih (o + 3) (by rw [show o + 3 + 3 = o + 3 + 3 by omega]; exact h2)⟩
  exact key _ 0 hr
theorem parts_none {w : World} {B : Nat} {A : Option Addr} {c : Nat} : RdC w B (encPs []) (.slice A 0 c) := ⟨A, c, by simp, by simp, fun h => by simp at h⟩
def restOf (g : Nat) (w : World) : Nat := match w.cell? ⟨g, 3, none⟩ with
  | some (.slice _ n _) => n
  | _ => 0
theorem orr_rest {lo g : Nat} {w : World} {p : Pt} {ps : List Pt} (h : Orr lo g w p ps) : restOf g w = ps.length := by
  obtain ⟨B, cb, A, c, h1, _⟩ := h.box
  have c3 : w.cell? ⟨g, 3, none⟩ = some (.slice A ps.length c) := cell_of_row _ _ 3 _ _ _ h1
  unfold restOf
  rw [c3]
/-- behind a look for more: the reader stands at a part with something left of it, or at the end -/
def MoreP (lo g : Nat) (p : Pt) (ps : List Pt) (w : World) (e : Ending) (w' : World) : Prop := ∃ p' ps', e = .returned (.bool (decide (0 < sizeP p'))) ∧ Orr lo g w' p' ps' ∧ unitsP p' ++ units ps' = unitsP p ++ units ps ∧ (sizeP p' = 0 → ps' = []) ∧ Below lo w w' ∧ Fr (fun q => q = g) w w'
theorem ret_b {b c : Bool} (h : b = c) : Ending.returned (.bool b) = .returned (.bool c) := by rw [h]
theorem fr_set (g i : Nat) (w : World) (x : Value) : Fr (fun q => q = g) w (w.setCell ⟨g, i, none⟩ x) := (Fr.refl (fun q => q = g) w).setCell (p := ⟨g, i, none⟩) rfl x

/-- the world behind 'r.next, r.rest = r.rest[0], r.rest[1:]' -/
def nextW (g b off c k : Nat) (kind n : Int) (u : Value) (w : World) : World := ((((w.drew.setCell ⟨g, 0, none⟩ (.int .i64 kind)).setCell ⟨g, 1, none⟩ (.int .i64 n)).setCell ⟨g, 2, none⟩ u).setCell ⟨g, 3, none⟩ (.slice (if c = 1 then some ⟨b, off, none⟩ else some ⟨b, off + 3, none⟩) k (c - 1)))
theorem heap_drew (w : World) (g : Nat) : w.drew.heap[g]? = w.heap[g]? := rfl
theorem nextW_fr (g b off c k : Nat) (kind n : Int) (u : Value) (w : World) : Fr (fun q => q = g) w (nextW g b off c k kind n u w) :=
  (((((Fr.refl (fun q => q = g) w).drew).setCell (p := ⟨g, 0, none⟩) rfl _).setCell (p := ⟨g, 1, none⟩) rfl _).setCell (p := ⟨g, 2, none⟩) rfl _).setCell (p := ⟨g, 3, none⟩) rfl _
theorem nextW_below {lo g : Nat} (hg : lo ≤ g) (b off c k : Nat) (kind n : Int) (u : Value) (w : World) : Below lo w (nextW g b off c k kind n u w) :=
  (((((Below.refl lo w).drew).setCell (p := ⟨g, 0, none⟩) hg _).setCell (p := ⟨g, 1, none⟩) hg _).setCell (p := ⟨g, 2, none⟩) hg _).setCell (p := ⟨g, 3, none⟩) hg _
theorem orr_next {lo g b off c c' : Nat} {A' : Option Addr} {w : World} {q : Pt} {qs : List Pt} {v0 v1 v2 v3 : Value} (h1 : w.heap[g]? = some (.cells #[v0, v1, v2, v3] 104 (0, 0))) (hr : RdC w lo (encInts q.signs) (.slice A' q.signs.length c')) (ht : ∀ d, qs.length ≤ d → RdC w lo (encPs qs) (.slice (some ⟨b, off + 3, none⟩) qs.length d)) (hc : qs.length + 1 ≤ c) (hge : lo ≤ g)
    (hv : okPt q = true) (hvs : ∀ x ∈ qs, okPt x = true) (hln : qs.length ≤ 1048576) : Orr lo g (nextW g b off c qs.length q.kind q.n (.slice A' q.signs.length c') w) q qs := by
  have hb := nextW_below hge b off c qs.length q.kind q.n (.slice A' q.signs.length c') w
  refine ⟨⟨A', c', (if c = 1 then some ⟨b, off, none⟩ else some ⟨b, off + 3, none⟩), c - 1, ?_, hr.below hb, ?_⟩, hge, Vp.of hv, hvs, hln⟩
  · unfold nextW
    rw [heap_setCell_same _ _ _ _ _ _ (heap_setCell_same _ _ _ _ _ _ (heap_setCell_same _ _ _ _ _ _ (heap_setCell_same _ _ _ _ _ _ ((heap_drew w g).trans h1))))]
    rfl
  · by_cases e : c = 1
    · rw [if_pos e]
      obtain rfl : qs = [] := List.eq_nil_of_length_eq_zero (by omega)
      exact parts_none
    · rw [if_neg e]
      exact (ht _ (by omega)).below hb

set_option maxRecDepth 100000 in
set_option maxHeartbeats 3200000 in
theorem implMore (lo g : Nat) (p : Pt) (ps : List Pt) (w : World) (h : Orr lo g w p ps) : Calls Try.prog 91 #[.pointer (some ⟨g, 0, none⟩)] w (MoreP lo g p ps w) := by
  have hgw := h.lt
  go_enter Try.func91, Try.ntmps91
  go_wp2
  go_loopw [2] (fun t wr => t = .bool false ∧ ∃ p' ps', Orr lo g wr p' ps' ∧ unitsP p' ++ units ps' = unitsP p ++ units ps ∧ Below lo w wr ∧ Fr (fun q => q = g) w wr) (fun _ wr => restOf g wr)
  case atStart => exact ⟨rfl, p, ps, h, rfl, Below.refl _ _, Fr.refl _ _⟩
  case round =>
    obtain ⟨rfl, p', ps', ho, hu, hbel, hfr⟩ := hrel
    obtain ⟨B, cb, A, c, h1, h2, h3⟩ := ho.box
    have hz := ho.vp.size
    have c0 : wr.cell? ⟨g, 0, none⟩ = some (.int .i64 p'.kind) := cell_of_row _ _ 0 _ _ _ h1
    have c1 : wr.cell? ⟨g, 1, none⟩ = some (.int .i64 p'.n) := cell_of_row _ _ 1 _ _ _ h1
    have c2 : wr.cell? ⟨g, 2, none⟩ = some (.slice B p'.signs.length cb) := cell_of_row _ _ 2 _ _ _ h1
    have c3 : wr.cell? ⟨g, 3, none⟩ = some (.slice A ps'.length c) := cell_of_row _ _ 3 _ _ _ h1
    have hlt := ho.lt
    have HO := Lib.hid ho
    have HU := Lib.hid hu
    have HF := Lib.hid hfr
    have HZ := Lib.hid hz
    have H1 := Lib.hid h1
    have HM := Lib.hid (show restOf g wr = ps'.length by unfold restOf; rw [c3])
    clear ho hu hfr hz h1 h hgw
    go_wp2_with fail
    have hz := HZ.out
    refine (implSize_any p'.kind p'.n B p'.signs.length cb wr (by omega) (by omega) (by omega)).mono ?_
    clear hz c0 c1 c2
    rintro e w1 ⟨rfl, b1⟩
    have HB := Lib.hid b1
    have hlt1 : g < w1.heap.size := Nat.lt_of_lt_of_le hlt b1.size
    have h1' : w1.heap[g]? = some (.cells #[.int .i64 p'.kind, .int .i64 p'.n, .slice B p'.signs.length cb, .slice A ps'.length c] 104 (0, 0)) := (b1.block g hlt).trans H1.out
    have c3' : w1.cell? ⟨g, 3, none⟩ = some (.slice A ps'.length c) := cell_of_row _ _ 3 _ _ _ h1'
    have ho1 := HO.out.past b1
    have hb1 : Below lo w w1 := hbel.trans (b1.mono (Nat.le_trans ho1.ge (by have := HO.out.lt; omega)))
    have hf1 : Fr (fun q => q = g) w w1 := HF.out.trans (Fr.below b1)
    have H1' := Lib.hid h1'
    have HO1 := Lib.hid ho1
    have HF1 := Lib.hid hf1
    clear b1 c3 h1' ho1 hf1 HO HF HB H1 hbel
    rw [HZ.out.1]
    by_cases hs : sizeP p' = 0
    · have g0 : (((sizeP p' : Nat) : Int) == 0) = true := by simp [hs]
      cases ps' with
      | nil =>
        have HS := Lib.hid hs
        clear hs
        go_wp2
        go_ret
        exact ⟨p', [], ret_b (by simp [HS.out]), HO1.out, HU.out, fun _ => rfl, hb1, HF1.out⟩
      | cons q qs =>
        have hql : ((qs.length : Int) + 1 == 0) = false := by simp; omega
        have hRd := HO1.out
        obtain ⟨B2, cb2, A2, c2, k1, k2, k3⟩ := hRd.box
        rw [H1'.out] at k1
        injection k1 with k1
        injection k1 with k1 _ _
        simp at k1
        obtain ⟨⟨rfl, rfl⟩, rfl, rfl⟩ := k1
        obtain ⟨b, off, A', c', rfl, hblt, hc, d0, d1, d2, r2, rt⟩ := parts_hd k3
        have f0 : ∀ o, w1.frozen? ⟨g, o, none⟩ = false := fun o => by simp [World.frozen?, H1'.out]
        have f1 := f0 0
        have f2 := f0 1
        have f3 := f0 2
        have f4 := f0 3
        have HK := Lib.hid (show RdC w1 lo (encInts q.signs) (.slice A' q.signs.length c') ∧ (∀ d, qs.length ≤ d → RdC w1 lo (encPs qs) (.slice (some ⟨b, off + 3, none⟩) qs.length d)) from ⟨r2, rt⟩)
        have c0 : w1.cell? ⟨g, 0, none⟩ = some (.int .i64 p'.kind) := cell_of_row _ _ 0 _ _ _ H1'.out
        have c1 : w1.cell? ⟨g, 1, none⟩ = some (.int .i64 p'.n) := cell_of_row _ _ 1 _ _ _ H1'.out
        have c2 : w1.cell? ⟨g, 2, none⟩ = some (.slice B p'.signs.length cb) := cell_of_row _ _ 2 _ _ _ H1'.out
        have hne : ¬ b = g := by have := HO1.out.ge; omega
        clear f0 r2 rt k2 k3 hRd hs
        have hq1 : (1 : Int) ≤ (qs.length : Int) + 1 := by omega
        go_wp2
        go_region
        all_goals
          go_roundw
          case rel =>
            have hv := HO1.out.vs
            have hln := HO1.out.ln
            have hx := orr_next H1'.out HK.out.1 HK.out.2 hc HO1.out.ge (hv q (by simp)) (fun x hx => hv x (by simp [hx])) (by simp at hln; omega)
            have hu : unitsP q ++ units qs = unitsP p ++ units ps := by
              rw [← HU.out, units_cons]
              have e : unitsP p' = [] := List.eq_nil_of_length_eq_zero (by rw [unitsP_len]; simpa using g0)
              rw [e]
              rfl
            repeat apply Exists.intro
            exact ⟨⟨rfl, q, qs, hx, hu, hb1.trans (nextW_below HO1.out.ge _ _ _ _ _ _ _ _), HF1.out.trans (nextW_fr _ _ _ _ _ _ _ _ _)⟩, rfl⟩
          case measure =>
            have hv := HO1.out.vs
            have hln := HO1.out.ln
            have hx := orr_next H1'.out HK.out.1 HK.out.2 hc HO1.out.ge (hv q (by simp)) (fun x hx => hv x (by simp [hx])) (by simp at hln; omega)
            rw [HM.out]
            refine Nat.lt_of_le_of_lt (Nat.le_of_eq (orr_rest hx)) ?_
            simp
    · have g0 : (((sizeP p' : Nat) : Int) == 0) = false := by simp [hs]
      have HS := Lib.hid hs
      clear hs
      go_wp2
      go_ret
      exact ⟨p', ps', ret_b (by have := HS.out; simp; omega), HO1.out, HU.out, fun h => absurd h HS.out, hb1, HF1.out⟩
end Go.Proofs.Ytihajkppeiainaa.low


/-
  The program's reader of an operation: cut and take; the builder's add and addBoth.
-/
namespace Go.Proofs.Ytihajkppeiainaa.low
open Go.RowKit
set_option linter.unusedVariables false

/-- the first n units of a part, and what is left of it -/
def cutL (p : Pt) (n : Nat) : Pt := if p.kind = 2 then ⟨2, 0, p.signs.take n⟩ else ⟨p.kind, (n : Int), []⟩
def cutR (p : Pt) (n : Nat) : Pt := if p.kind = 2 then ⟨2, 0, p.signs.drop n⟩ else ⟨p.kind, p.n - (n : Int), []⟩
/-- a part as a value -/
def PtV (lo : Nat) (w : World) (p : Pt) (v : Value) : Prop := ∃ A c, v = .agg #[.int .i64 p.kind, .int .i64 p.n, .slice A p.signs.length c] ∧ RdC w lo (encInts p.signs) (.slice A p.signs.length c)
theorem PtV.below {lo : Nat} {w w' : World} {p : Pt} {v : Value} (h : PtV lo w p v) (hb : Below lo w w') : PtV lo w' p v := by
  obtain ⟨A, c, h1, h2⟩ := h
  exact ⟨A, c, h1, h2.below hb⟩
def CutP (lo : Nat) (p : Pt) (n : Nat) (w : World) (e : Ending) (w' : World) : Prop := ∃ v1 v2, e = .returned (.tuple #[v1, v2]) ∧ PtV lo w' (cutL p n) v1 ∧ PtV lo w' (cutR p n) v2 ∧ Below w.heap.size w w'
theorem ints_none {w : World} {B : Nat} {A : Option Addr} {c : Nat} : RdC w B (encInts []) (.slice A 0 c) := ⟨A, c, by simp, by simp, fun h => by simp at h⟩

theorem cut_below {lo : Nat} {w : World} (h : lo ≤ w.heap.size) (o1 o2 o3 : Obj) : Below lo w (((w.alloc o1).alloc o2).alloc o3).drew := (((((Below.refl lo w).alloc h _).alloc (by simp; omega) _).alloc (by simp; omega) _)).drew

set_option maxRecDepth 100000 in
set_option maxHeartbeats 3200000 in
theorem implCut (lo : Nat) (p : Pt) (n : Nat) (B : Option Addr) (cb : Nat) (w : World) (hv : Vp p) (hr : RdC w lo (encInts p.signs) (.slice B p.signs.length cb)) (hlo : lo ≤ w.heap.size) (h0 : 0 < n) (hn : n ≤ sizeP p) :
    Calls Try.prog 92 #[.agg #[.int .i64 p.kind, .int .i64 p.n, .slice B p.signs.length cb], .int .i64 (n : Int)] w (CutP lo p n w) := by
  have hz := hv.size
  by_cases hk : p.kind = 2
  · have e1 : cutL p n = ⟨2, 0, p.signs.take n⟩ := by simp [cutL, hk]
    have e2 : cutR p n = ⟨2, 0, p.signs.drop n⟩ := by simp [cutR, hk]
    have hl : n ≤ p.signs.length := by simpa [sizeP, hk] using hn
    have g0 : (p.kind == 2) = true := by simp [hk]
    obtain ⟨A', c', hv', hrow, hcap⟩ := ints_rd hr
    injection hv' with x1 x2 x3
    subst x1 x3
    obtain ⟨ad, rfl, hb, hcell⟩ := hrow (by omega)
    have i1 : (0 : Int) ≤ (n : Int) := by omega
    have i2 : (n : Int) ≤ (p.signs.length : Int) := by omega
    have i3 : (n : Int) ≤ (cb : Int) := by omega
    have HR := Lib.hid hrow
    have H1 := Lib.hid e1
    have H2 := Lib.hid e2
    clear e1 e2 hrow hk hr hcell
    have hl1 : (p.signs.take n).length = n := by simp; omega
    have hl2 : (p.signs.drop n).length = p.signs.length - n := by simp
    have key : ∀ w', Below lo w w' → PtV lo w' ⟨2, 0, p.signs.take n⟩ (.agg #[.int .i64 2, .int .i64 0, .slice (some ad) n cb]) := fun w' hbw => by
      have := rd_ints (c := cb) (HR.out.init n) (by omega)
      rw [hl1] at this
      exact ⟨some ad, cb, by rw [hl1], by rw [hl1]; exact this.below hbw⟩
    have KEY := Lib.hid key
    clear key
    by_cases hcn : cb = n
    · have e3 : p.signs.drop n = [] := List.drop_eq_nil_of_le (by omega)
      have e4 : p.signs.length = n := by omega
      have HL := Lib.hid e4
      have H3 := Lib.hid e3
      have HC := Lib.hid hcn
      clear e3 e4 hl1 hl2 hl i3 hcap
      subst hcn
      go_enter Try.func92, Try.ntmps92
      go_wp2
      go_region
      all_goals
        go_wp2
        refine bodyPost_ret (v := .tuple #[.agg #[.int .i64 2, .int .i64 0, .slice (some ad) cb cb], .agg #[.int .i64 2, .int .i64 0, .slice (some ad) (p.signs.length - cb) 0]]) (by simp [results, Try.results92, go_sem]) rfl ⟨_, _, rfl, ?_, ?_, ?_⟩
        · rw [H1.out]
          exact KEY.out _ (cut_below hlo _ _ _)
        · rw [H2.out, H3.out, HL.out, Nat.sub_self]
          exact ⟨some ad, 0, rfl, ints_none⟩
        · exact cut_below (Nat.le_refl _) _ _ _
    · have HL2 := Lib.hid hl2
      clear hl1 hl2
      go_enter Try.func92, Try.ntmps92
      go_wp2
      go_region
      all_goals
        go_wp2
        refine bodyPost_ret (v := .tuple #[.agg #[.int .i64 2, .int .i64 0, .slice (some ad) n cb], .agg #[.int .i64 2, .int .i64 0, .slice (some (ad.add n)) (p.signs.length - n) (cb - n)]]) (by simp [results, Try.results92, go_sem]) rfl ⟨_, _, rfl, ?_, ?_, ?_⟩
        · rw [H1.out]
          exact KEY.out _ (cut_below hlo _ _ _)
        · rw [H2.out]
          refine ⟨some (ad.add n), cb - n, by rw [HL2.out], ?_⟩
          rw [HL2.out]
          have := rd_ints (c := cb - n) (HR.out.tail n) (by rw [HL2.out]; omega)
          rw [HL2.out] at this
          exact this.below (cut_below hlo _ _ _)
        · exact cut_below (Nat.le_refl _) _ _ _
  · have e1 : cutL p n = ⟨p.kind, (n : Int), []⟩ := by simp [cutL, hk]
    have e2 : cutR p n = ⟨p.kind, p.n - (n : Int), []⟩ := by simp [cutR, hk]
    have g0 : (p.kind == 2) = false := by simp [hk]
    have hl : (n : Int) ≤ p.n := by have : sizeP p = p.n.toNat := by simp [sizeP, hk]
                                    omega
    have H1 := Lib.hid e1
    have H2 := Lib.hid e2
    clear e1 e2 hk hr
    go_enter Try.func92, Try.ntmps92
    go_wp2
    go_region
    all_goals
      go_wp2
      refine bodyPost_ret (v := .tuple #[.agg #[.int .i64 p.kind, .int .i64 (n : Int), .slice none 0 0], .agg #[.int .i64 p.kind, .int .i64 (p.n - (n : Int)), .slice none 0 0]]) (by simp [results, Try.results92, go_sem]) rfl ⟨_, _, rfl, ?_, ?_, ?_⟩
      · rw [H1.out]
        exact ⟨none, 0, rfl, ints_none⟩
      · rw [H2.out]
        exact ⟨none, 0, rfl, ints_none⟩
      · exact cut_below (Nat.le_refl _) _ _ _
/-- behind a take of n units: the piece, and the reader moved on -/
def TakeQ (lo g : Nat) (p : Pt) (ps : List Pt) (n : Nat) (w : World) (e : Ending) (w' : World) : Prop := ∃ v, e = .returned v ∧ PtV lo w' (cutL p n) v ∧ Orr lo g w' (cutR p n) ps ∧ Below lo w w' ∧ Fr (fun q => q = g) w w'
theorem cutR_vp {p : Pt} {n : Nat} (h : Vp p) (hn : n ≤ sizeP p) : Vp (cutR p n) := by
  obtain ⟨k, m, zs⟩ := p
  unfold cutR
  unfold sizeP at hn
  rcases h with ⟨h1, h2, h3, h4⟩ | ⟨h1, h2, h3⟩ | ⟨h1, h2, h3⟩ <;> simp only at * <;> subst_vars
  · have hk : ¬ k = 2 := by omega
    rw [if_neg hk] at hn ⊢
    exact .inl ⟨h1, by simp; omega, by simp; omega, rfl⟩
  · exact .inr (.inl ⟨rfl, rfl, by simp; omega⟩)
  · simp at hn
    subst hn
    exact .inr (.inr ⟨rfl, rfl, rfl⟩)
theorem cutL_vp {p : Pt} {n : Nat} (h : Vp p) (hn : n ≤ sizeP p) : Vp (cutL p n) := by
  obtain ⟨k, m, zs⟩ := p
  have hz := h.size
  unfold cutL
  unfold sizeP at hn hz
  rcases h with ⟨h1, h2, h3, h4⟩ | ⟨h1, h2, h3⟩ | ⟨h1, h2, h3⟩ <;> simp only at * <;> subst_vars
  · have hk : ¬ k = 2 := by omega
    rw [if_neg hk] at hn hz ⊢
    exact .inl ⟨h1, by simp, by simp; omega, rfl⟩
  · exact .inr (.inl ⟨rfl, rfl, by simp; omega⟩)
  · simp at hn
    subst hn
    exact .inr (.inr ⟨rfl, rfl, rfl⟩)

theorem take_below {lo : Nat} (w : World) (g m : Nat) (x0 x1 x2 y0 y1 y2 : Value) (o1 o2 : Obj) (hg : lo ≤ g) (hm : lo ≤ m) (hs : g < w.heap.size) : Below lo w ((((((((w.setCell ⟨g, 0, none⟩ x0).setCell ⟨g, 1, none⟩ x1).setCell ⟨g, 2, none⟩ x2).setCell ⟨m, 0, none⟩ y0).setCell ⟨m, 1, none⟩ y1).setCell ⟨m, 2, none⟩ y2).alloc o1).alloc o2) :=
  ((((((((Below.refl lo w).setCell (p := ⟨g, 0, none⟩) hg _).setCell (p := ⟨g, 1, none⟩) hg _).setCell (p := ⟨g, 2, none⟩) hg _).setCell (p := ⟨m, 0, none⟩) hm _).setCell (p := ⟨m, 1, none⟩) hm _).setCell (p := ⟨m, 2, none⟩) hm _).alloc (by simp; omega) _).alloc (by simp; omega) _
set_option maxRecDepth 100000 in
set_option maxHeartbeats 3200000 in
theorem implTake (lo g : Nat) (p : Pt) (ps : List Pt) (n : Nat) (w : World) (h : Orr lo g w p ps) (h0 : 0 < n) (hn : n ≤ sizeP p) : Calls Try.prog 78 #[.pointer (some ⟨g, 0, none⟩), .int .i64 (n : Int)] w (TakeQ lo g p ps n w) := by
  obtain ⟨B, cb, A, c, h1, h2, h3⟩ := h.box
  have hlt := h.lt
  have c0 : w.cell? ⟨g, 0, none⟩ = some (.int .i64 p.kind) := cell_of_row _ _ 0 _ _ _ h1
  have c1 : w.cell? ⟨g, 1, none⟩ = some (.int .i64 p.n) := cell_of_row _ _ 1 _ _ _ h1
  have c2 : w.cell? ⟨g, 2, none⟩ = some (.slice B p.signs.length cb) := cell_of_row _ _ 2 _ _ _ h1
  have hge := h.ge
  have HV := Lib.hid h.vp
  have HO := Lib.hid h
  have H1 := Lib.hid h1
  clear h h1
  go_enter Try.func78, Try.ntmps78
  have b0 := alloc_below w (.cells #[.int .i64 0, .int .i64 0, .slice none 0 0] 67)
  go_wp2_with fail
  refine (implCut lo p n B cb _ HV.out (h2.below (b0.mono (by omega))) (by simp; omega) h0 hn).mono ?_
  rintro e w1 ⟨v1, v2, rfl, ⟨A1, c1'', rfl, r1⟩, ⟨A2, c2'', rfl, r2⟩, b1⟩
  have hb1 : Below w.heap.size w w1 := b0.trans (b1.mono b0.size)
  have hgl : g < w1.heap.size := Nat.lt_of_lt_of_le hlt hb1.size
  have h1' := (hb1.block g hlt).trans H1.out
  have f0 : ∀ o, w1.frozen? ⟨g, o, none⟩ = false := fun o => by simp [World.frozen?, h1']
  have f1 := f0 0
  have f2 := f0 1
  have f3 := f0 2
  have c0' : w1.cell? ⟨g, 0, none⟩ = some (.int .i64 p.kind) := cell_of_row _ _ 0 _ _ _ h1'
  have c1' : w1.cell? ⟨g, 1, none⟩ = some (.int .i64 p.n) := cell_of_row _ _ 1 _ _ _ h1'
  have c2' : w1.cell? ⟨g, 2, none⟩ = some (.slice B p.signs.length cb) := cell_of_row _ _ 2 _ _ _ h1'
  have hn4 : w1.heap[w.heap.size]? = some (.cells #[.int .i64 0, .int .i64 0, .slice none 0 0] 67 (0, 0)) := (b1.block _ (by simp)).trans (heap_alloc_new w _)
  have hnf : ∀ o, w1.frozen? ⟨w.heap.size, o, none⟩ = false := fun o => by simp [World.frozen?, hn4]
  have k0 : w1.cell? ⟨w.heap.size, 0, none⟩ = some (.int .i64 0) := cell_of_row _ _ 0 _ _ _ hn4
  have k1 : w1.cell? ⟨w.heap.size, 1, none⟩ = some (.int .i64 0) := cell_of_row _ _ 1 _ _ _ hn4
  have k2 : w1.cell? ⟨w.heap.size, 2, none⟩ = some (.slice none 0 0) := cell_of_row _ _ 2 _ _ _ hn4
  have n0 := hnf 0
  have n1 := hnf 1
  have n2 := hnf 2
  have hwl : w.heap.size < w1.heap.size := lt_of_some hn4
  have hgn : ¬ g = w.heap.size := by omega
  have hgn1 : ¬ g = w1.heap.size := by omega
  have hgn2 : ¬ g = w1.heap.size + 1 := by omega
  have hwn1 : ¬ w.heap.size = w1.heap.size := by omega
  have hwn2 : ¬ w.heap.size = w1.heap.size + 1 := by omega
  have HP := Lib.hid h1'
  have HN := Lib.hid hn4
  have HB := Lib.hid b1
  have HB1 := Lib.hid hb1
  clear h1' hn4 b1 hb1 f0 hnf c0 c1 c2
  go_wp2
  have hge2 : lo ≤ w.heap.size := Nat.le_trans hge (Nat.le_of_lt hlt)
  have bel : Below lo w1 _ := take_below w1 g w.heap.size (.int .i64 (cutR p n).kind) (.int .i64 (cutR p n).n) (.slice A2 (cutR p n).signs.length c2'') (.int .i64 (cutL p n).kind) (.int .i64 (cutL p n).n) (.slice A1 (cutL p n).signs.length c1'') (.cells #[.int .i64 (cutL p n).kind, .int .i64 (cutL p n).n, .slice A1 (cutL p n).signs.length c1''] 67) (.cells #[.int .i64 (cutR p n).kind, .int .i64 (cutR p n).n, .slice A2 (cutR p n).signs.length c2''] 67) hge hge2 hgl
  refine bodyPost_ret (v := .agg #[.int .i64 (cutL p n).kind, .int .i64 (cutL p n).n, .slice A1 (cutL p n).signs.length c1'']) (by simp [results, Try.results78, go_sem, *]) rfl ⟨_, rfl, ⟨A1, c1'', rfl, r1.below bel⟩, ⟨⟨A2, c2'', A, c, ?_, r2.below bel, (h3.below (HB1.out.mono hge2)).below bel⟩, hge, cutR_vp HV.out hn, HO.out.vs, HO.out.ln⟩, (HB1.out.mono hge2).trans bel, ?_⟩
  · refine heap_old _ _ (heap_old _ _ ?_)
    rw [Below.heap_setCell _ _ _ _ hgn, Below.heap_setCell _ _ _ _ hgn, Below.heap_setCell _ _ _ _ hgn, heap_setCell_same _ _ _ _ _ _ (heap_setCell_same _ _ _ _ _ _ (heap_setCell_same _ _ _ _ _ _ HP.out))]
    rfl
  · refine ⟨Nat.le_trans HB1.out.size bel.size, fun b hb hs => ?_⟩
    have hs' : ¬ b = g := hs
    have hbn : ¬ b = w.heap.size := by omega
    have hbl : b < w1.heap.size := by omega
    rw [Below.heap_alloc _ _ _ (by simp; omega), Below.heap_alloc _ _ _ (by simp; omega), Below.heap_setCell _ _ _ _ hbn, Below.heap_setCell _ _ _ _ hbn, Below.heap_setCell _ _ _ _ hbn, Below.heap_setCell _ _ _ _ hs', Below.heap_setCell _ _ _ _ hs', Below.heap_setCell _ _ _ _ hs']
    exact HB1.out.block b hb
end Go.Proofs.Ytihajkppeiainaa.low


/-
  The program's builder as the composition uses it: add and addBoth, in the builder's words.
-/
namespace Go.Proofs.Ytihajkppeiainaa.low
open Go.RowKit
set_option linter.unusedVariables false

theorem BldP.pre {O : Nat → Prop} {lo g : Nat} {T : TypeId} {L : List Pt} {w w1 w' : World} {e : Ending} (hlo : lo ≤ w.heap.size) (hb : Below w.heap.size w w1) (h : BldP O lo g T L w1 e w') : BldP O lo g T L w e w' := by
  obtain ⟨h1, O', h2, h3, h4⟩ := h
  exact ⟨h1, O', h2, (hb.mono hlo).trans h3, Nat.le_trans hb.size h4.size, fun b hlt hn => (h4.block b (Nat.lt_of_lt_of_le hlt hb.size) hn).trans (hb.block b hlt), fun b ho => (h4.more b ho).imp id (fun h => Nat.le_trans hb.size h)⟩
theorem BldP.same {O : Nat → Prop} {lo g : Nat} {T : TypeId} {L : List Pt} {w w' : World} (h : Bld O lo g T w L) (hb : Below w.heap.size w w') : BldP O lo g T L w (.returned (.tuple #[])) w' :=
  ⟨rfl, O, h.past hb, hb.mono h.low, hb.size, fun b hlt _ => hb.block b hlt, fun b ho => .inl ho⟩
theorem rd_row {w : World} {lo : Nat} {A : Option Addr} {c : Nat} {zs : List Int} (h : RdC w lo (encInts zs) (.slice A zs.length c)) : Row (Value.int .i64) w lo A zs := by
  obtain ⟨A', c', e, h1, _⟩ := ints_rd h
  injection e with e1 e2 e3
  rw [e1]
  exact h1
set_option maxRecDepth 100000 in
set_option maxHeartbeats 1600000 in
theorem implAddB (O : Nat → Prop) (lo g : Nat) (L : List Pt) (p : Pt) (v : Value) (w : World) (hb : Bld O lo g 74 w L) (hv : PtV lo w p v) (hp : Vp p) (hk : ¬ p.kind = 0) (hl : L.length < 100000) :
    Calls Try.prog 52 #[.pointer (some ⟨g, 0, none⟩), v] w (BldP O lo g 74 (L ++ [p]) w) := by
  obtain ⟨A, c, rfl, hr⟩ := hv
  have hlo := hb.low
  have hrow := rd_row hr
  obtain ⟨pk, pn, pz⟩ := p
  have hsz := hp.size
  simp only at hk hr hrow hsz ⊢
  have hat := hb.past (alloc_below w (.cells #[.int .i64 pk, .int .i64 pn, .slice A pz.length c] 67))
  have bel := alloc_below w (.cells #[.int .i64 pk, .int .i64 pn, .slice A pz.length c] 67)
  have hrow1 : Row (Value.int .i64) (w.alloc (.cells #[.int .i64 pk, .int .i64 pn, .slice A pz.length c] 67)) (w.alloc (.cells #[.int .i64 pk, .int .i64 pn, .slice A pz.length c] 67)).heap.size A pz := (rd_row (hr.below (bel.mono hlo))).more (by simp; omega)
  have HAT := Lib.hid hat
  have HROW := Lib.hid hrow1
  clear hat hrow hrow1 hr hb
  rcases hp with ⟨h1, h2, h3, h4⟩ | ⟨h1, h2, h3⟩ | ⟨h1, h2, h3⟩
  · simp only at h1 h2 h3 h4
    subst h4
    rcases h1 with rfl | rfl
    · go_enter Try.func52, Try.ntmps52
      go_wp2_with fail
      refine (implKeepB O lo g L pn _ HAT.out h2 h3 hl).mono ?_
      intro e w3 hq
      have HQ := Lib.hid (BldP.pre hlo bel hq)
      have he := hq.1
      clear hq
      subst he
      go_wp2
      go_end0
      exact HQ.out
    · go_enter Try.func52, Try.ntmps52
      go_wp2_with fail
      refine (implDropB O lo g L pn _ HAT.out h2 h3 hl).mono ?_
      intro e w3 hq
      have HQ := Lib.hid (BldP.pre hlo bel hq)
      have he := hq.1
      clear hq
      subst he
      go_wp2
      go_end0
      exact HQ.out
  · simp only at h1 h2 h3
    subst h1 h2
    go_enter Try.func52, Try.ntmps52
    go_wp2_with fail
    refine (implPutB O lo g L A c pz.length pz _ HAT.out HROW.out rfl h3 hl).mono ?_
    intro e w3 hq
    have HQ := Lib.hid (BldP.pre hlo bel hq)
    have he := hq.1
    clear hq
    subst he
    go_wp2
    go_end0
    exact HQ.out
  · exact absurd h1 hk

theorem two_below {w : World} (o1 o2 : Obj) : Below w.heap.size w ((w.alloc o1).alloc o2) := ((Below.refl _ w).alloc (Nat.le_refl _) _).alloc (by simp) _
/-- what two parts that meet leave -/
def bothL (L : List Pt) (p q : Pt) : List Pt := if q.kind = 1 then L ++ [p] else if p.kind = 1 then L ++ [q] else L
set_option maxRecDepth 100000 in
set_option maxHeartbeats 1600000 in
theorem implBothB (O : Nat → Prop) (lo g : Nat) (L : List Pt) (p q : Pt) (v u : Value) (w : World) (hb : Bld O lo g 74 w L) (hv : PtV lo w p v) (hu : PtV lo w q u) (hp : Vp p) (hq : Vp q) (hk : ¬ p.kind = 0) (hk' : ¬ q.kind = 0) (hl : L.length < 100000) :
    Calls Try.prog 80 #[.pointer (some ⟨g, 0, none⟩), v, u] w (BldP O lo g 74 (bothL L p q) w) := by
  obtain ⟨A, c, rfl, hr⟩ := hv
  obtain ⟨B, d, rfl, hs⟩ := hu
  have hlo := hb.low
  have bel := two_below (w := w) (.cells #[.int .i64 p.kind, .int .i64 p.n, .slice A p.signs.length c] 67) (.cells #[.int .i64 q.kind, .int .i64 q.n, .slice B q.signs.length d] 67)
  have HAT := Lib.hid (hb.past bel)
  have HR := Lib.hid (hr.below (bel.mono hlo))
  have HS := Lib.hid (hs.below (bel.mono hlo))
  have HB := Lib.hid hb
  clear hb hr hs
  by_cases h1 : q.kind = 1
  · have g1 : (q.kind == 1) = true := by simp [h1]
    have HE := Lib.hid (show bothL L p q = L ++ [p] by simp [bothL, h1])
    clear h1
    go_enter Try.func80, Try.ntmps80
    go_wp2_with fail
    refine (implAddB O lo g L p _ _ HAT.out ⟨A, c, rfl, HR.out⟩ hp hk hl).mono ?_
    intro e w3 hq
    have HQ := Lib.hid (BldP.pre hlo bel hq)
    have he := hq.1
    clear hq
    subst he
    go_wp2
    go_end0
    rw [HE.out]
    exact HQ.out
  · have g1 : (q.kind == 1) = false := by simp [h1]
    by_cases h2 : p.kind = 1
    · have g2 : (p.kind == 1) = true := by simp [h2]
      have HE := Lib.hid (show bothL L p q = L ++ [q] by simp [bothL, h1, h2])
      clear h1 h2
      go_enter Try.func80, Try.ntmps80
      go_wp2_with fail
      refine (implAddB O lo g L q _ _ HAT.out ⟨B, d, rfl, HS.out⟩ hq hk' hl).mono ?_
      intro e w3 hq
      have HQ := Lib.hid (BldP.pre hlo bel hq)
      have he := hq.1
      clear hq
      subst he
      go_wp2
      go_end0
      rw [HE.out]
      exact HQ.out
    · have g2 : (p.kind == 1) = false := by simp [h2]
      have HE := Lib.hid (show bothL L p q = L by simp [bothL, h1, h2])
      clear h1 h2
      go_enter Try.func80, Try.ntmps80
      go_wp2
      go_end0
      rw [HE.out]
      exact BldP.same HB.out bel
end Go.Proofs.Ytihajkppeiainaa.low


/-
  A range over a function whose iterator and body share memory: the statement's laws at the wide fence, in the words of the loop's record; a round out of its body's walk; a region that draws its order, in a round; a loop whose measure is said by its invariant.
-/
namespace Go.Proofs.Ytihajkppeiainaa.low
open Go.RowKit
set_option linter.unusedVariables false

section
variable {P : Program} {ops : Array Oper} {Q : Exit → Act → World → Prop} {n l : Nat} {md : Region.Mode}

theorem rowsIn_wide {row : String} {args : Array Value} {w : World} {R : Value → World → Prop} (h : Rows P row args w R) : RowsIn (Fence.wide.inRound l) n P row args w R :=
  fun c cs _ => let ⟨v, w', r, s⟩ := h c cs; ⟨v, w', r, stepsIn_wide.2 s⟩
theorem callsIn_round {f : FuncId} {args : Array Value} {w : World} {R : Ending → World → Prop} (h : Calls P f args w R) : CallsIn (Fence.wide.inRound l) n P f args w R := CallsIn.inRound l (callsIn_wide.2 h)
/-- an operation's walk goes into a round as it is -/
theorem operIn_of {o : Oper} {a : Act} {w : World} {K : Act → World → Prop} (hd : ∀ c, o.op ≠ .defer c) (h : o.wp P a w K Q) : o.wpIn (Fence.wide.inRound l) n P a w K Q := by
  unfold Oper.wp at h
  refine ⟨fun _ _ => trivial, ?_⟩
  rw [Fence.inRound_round, Oper.semAt_some l a.eval o hd]
  generalize (execOp a.eval o).run P w = r at *
  cases r with
  | ok x w' =>
    cases x with
    | enter f args => exact ⟨(fun h => by cases h), callsIn_round h⟩
    | row r args => exact ⟨(fun h => by cases h), rowsIn_wide h⟩
    | value v => exact h
    | skip => exact h
    | defer d => exact h
    | _ => exact h.elim
  | halt x w' => cases x <;> first | exact h | exact h.elim
def NoDefer (ops : Array Oper) : Prop := ∀ (i : Nat) (o : Oper), ops[i]? = some o → ∀ c, o.op ≠ .defer c
theorem wpOpIn_of {i : Nat} {a : Act} {w : World} {K : Act → World → Prop} (hd : NoDefer ops) (hL : ¬ LetsOut Q) (h : wpOp P ops Q i K a w) : wpOpIn (Fence.wide.inRound l) n P ops Q i K a w := by
  unfold wpOp at h
  unfold wpOpIn
  cases ho : ops[i]? with
  | none => simp only [ho] at h; exact h
  | some o =>
    simp only [ho] at h
    split at h
    · rename_i hw
      simp only [hw, if_true]
      rcases h with h | h
      · exact operIn_of (hd i o ho) h
      · exact absurd h.2 hL
    · rename_i hw
      simp only [hw]
      exact ⟨fun _ _ => trivial, h⟩
theorem wpAnyIn_of (hd : NoDefer ops) (hL : ¬ LetsOut Q) : ∀ (fuel : Nat) (listed : Array Bool) (a : Act) (w : World), wpAny P md ops Q fuel listed a w → wpAnyIn (Fence.wide.inRound l) n P md ops Q fuel listed a w
  | 0, _, _, _, h => h
  | fuel + 1, _, _, _, h => ⟨h.1, fun i hi => wpOpIn_mono (fun a' w' h' => wpAnyIn_of hd hL fuel _ a' w' h') (wpOpIn_of hd hL (h.2 i hi))⟩
/-- a region that draws its order, in a round -/
theorem wpIn_region_held {S : World → Prop} {id : Nat} {a : Act} {w : World} (hm : P.follows .mixedOrders = true) (hd : NoDefer ops) (hL : ¬ LetsOut Q)
    (h : wpAnyH P .any ops Q S ops.size (Array.replicate ops.size false) a w.drew) : (Code.region id ops true).wpIn (Fence.wide.inRound l) n P Q a w :=
  wpIn_region_any hm (wpAnyIn_of hd hL _ _ _ _ (wpAny_of_held _ _ _ _ h))
end
/-- a post that lets nothing through but what falls off the end -/
def Fall (K : Act → World → Prop) : Exit → Act → World → Prop
  | .normal, a, w => K a w
  | _, _, _ => False
theorem Fall.out (K : Act → World → Prop) : ¬ LetsOut (Fall K) := fun ⟨_, _, h⟩ => h
theorem wpIn_fall {F : Fence} {n : Nat} {P : Program} {c : Code} {K : Act → World → Prop} {Q : Exit → Act → World → Prop} {a : Act} {w : World} (h : c.wpIn F n P (Fall K) a w) (hk : ∀ a w, K a w → Q .normal a w) : c.wpIn F n P Q a w :=
  wpIn_mono h fun e a w he => by cases e <;> first | exact hk _ _ he | exact he.elim
theorem wpIn_seq_fall {F : Fence} {n : Nat} {P : Program} {x y : Code} {K : Act → World → Prop} {Q : Exit → Act → World → Prop} {a : Act} {w : World} (h : x.wpIn F n P (Fall K) a w) (hk : ∀ a w, K a w → y.wpIn F n P Q a w) : (Code.seq x y).wpIn F n P Q a w :=
  wpIn_seq (wpIn_fall h hk)

/-- a loop whose measure is said by its invariant -/
theorem wpIn_loop_by {F : Fence} {n : Nat} {P : Program} {Q : Exit → Act → World → Prop} {a : Act} {w : World} {c : Code} (I : Nat → Act → World → Prop) (m : Nat) (h0 : I m a w)
    (round : ∀ m a w, I m a w → c.wpIn F n P (Exit.then (fun a' w' => ∃ m', m' < m ∧ I m' a' w') Q) a w) : (Code.loop c).wpIn F n P Q a w := by
  have ex : ∀ a w, ∃ k : Nat, (∃ m, I m a w) → I k a w ∧ ∀ m, I m a w → k ≤ m := fun a w => by
    by_cases h : ∃ m, I m a w
    · obtain ⟨m, hm⟩ := h
      induction m using Nat.strongRecOn with
      | _ m ih =>
        by_cases hs : ∃ m', m' < m ∧ I m' a w
        · obtain ⟨m', h1, h2⟩ := hs
          exact ih m' h1 h2
        · refine ⟨m, fun _ => ⟨hm, fun q hq => ?_⟩⟩
          rcases Nat.lt_or_ge q m with h | h
          · exact absurd ⟨q, h, hq⟩ hs
          · exact h
    · exact ⟨0, fun h' => absurd h' h⟩
  refine wpIn_loop (fun a w => ∃ m, I m a w) (fun a w => Classical.choose (ex a w)) ⟨m, h0⟩ (fun a w hI => ?_)
  have hs := Classical.choose_spec (ex a w) hI
  refine wpIn_mono (round _ a w hs.1) (fun e a' w' hq => ?_)
  cases e with
  | normal =>
    obtain ⟨m', hlt, hm'⟩ := hq
    exact ⟨⟨m', hm'⟩, Nat.lt_of_le_of_lt ((Classical.choose_spec (ex a' w') ⟨m', hm'⟩).2 m' hm') hlt⟩
  | _ => exact hq

section
variable {P : Program} {n : Nat} {w : World}
/-- what a round's body must come to -/
def RP (l : Nat) (r : Loop) (R : Ending → World → Prop) : Exit → Act → World → Prop
  | .normal, _, W => W.heap[l]? = some (.loop { r with state := .busy }) ∧ R (.returned (.bool true)) (W.putObj l (.loop { r with state := .ready, pending := none }))
  | .exit id, _, W => W.heap[l]? = some (.loop { r with state := .busy }) ∧ R (.returned (.bool false)) (W.putObj l (.loop { r with state := .done, pending := some (.exit id) }))
  | _, _, _ => False
/-- a call of yield, out of the walks of the assignment and of the body -/
theorem yield_of {l : Nat} {r : Loop} {args : Array Value} {R : Ending → World → Prop} {K : Act → World → Prop} (hl : w.heap[l]? = some (.loop r)) (hr : r.state = .ready) (hs : args.size = r.params.size)
    (hassign : r.assign.wpIn (Fence.wide.inRound l) n P (Exit.then K (fun _ _ _ => False)) { tmps := (r.params.zip args).foldl (fun t (p, v) => t.setIfInBounds p v) r.tmps, defers := [] } w)
    (hbody : ∀ a₁ w₁, K a₁ w₁ → w₁.heap[l]? = some (.loop r) ∧ r.body.wpIn (Fence.wide.inRound l) n P (RP l r R) a₁ (w₁.putObj l (.loop { r with state := .busy }))) :
    YieldAt Fence.wide n P l args w R := by
  refine ⟨r.fn, _, r.assign, r.body, run_yield hl hs, roundIn_of_wpIn trivial (wpIn_mono hassign (fun e a₁ w₁ hq => ?_))⟩
  cases e with
  | normal =>
    obtain ⟨h1, h2⟩ := hbody a₁ w₁ hq
    refine ⟨_, run_beginRound h1 hr, wpIn_mono h2 (fun e a₂ w₂ hp => ?_)⟩
    cases e with
    | normal => exact ⟨_, _, run_endRound none hp.1, hp.2⟩
    | exit id => exact ⟨_, _, run_endRound (some (.exit id)) hp.1, hp.2⟩
    | _ => exact hp.elim
  | _ => exact hq.elim
/-- the loop's record -/
def recOf (fn : FuncId) (tmps : Array Value) (ps : Array Tmp) (assign body : Code) (D : Nat) : Loop := { state := .ready, pending := none, fn := fn, tmps := tmps, params := ps, assign := assign, body := body, defers := D }
/-- behind the iterator: all have come, or a round has left -/
def Over (l : Nat) (r : Loop) (Jd : World → Prop) (Jx : Code → World → Prop) (e : Ending) (W : World) : Prop :=
  (∃ v, e = .returned v) ∧ ((W.heap[l]? = some (.loop r) ∧ Jd W) ∨ ∃ c, W.heap[l]? = some (.loop { r with state := .done, pending := some c }) ∧ Jx c W)
/-- the statement, outermost -/
theorem rf_outer {g : Operand} {ps : Array Tmp} {assign body : Code} {Q : Exit → Act → World → Prop} {a : Act} {gf : Nat} {b : Array Value} {Jd : World → Prop} {Jx : Code → World → Prop}
    (hg : a.eval g = .func (.func gf) b #[]) (eg : ∀ args w, (callFunc gf args).run P w = .ok (.enter gf args) w)
    (hcall : ∀ fn, CallsIn Fence.wide (n - 1) P gf (b ++ #[.func (.yield (w.heap.size + 1)) #[] #[]]) ((w.alloc (.deferred (some []))).alloc (.loop (recOf fn a.tmps ps assign body w.heap.size))) (Over (w.heap.size + 1) (recOf fn a.tmps ps assign body w.heap.size) Jd Jx))
    (hdone : ∀ fn W, W.heap[w.heap.size + 1]? = some (.loop (recOf fn a.tmps ps assign body w.heap.size)) → Jd W → Q .normal { a with defers := { target := .collected w.heap.size, args := #[] } :: a.defers } (W.putObj (w.heap.size + 1) (.loop { recOf fn a.tmps ps assign body w.heap.size with state := .exhausted })))
    (hx : ∀ c W, ¬ Jx c W) : (Code.rangeFunc g ps assign body).wpIn Fence.wide n P Q a w := by
  refine wpIn_rangeFunc ?_
  intro fn hfn
  obtain ⟨W1, hW1⟩ : ∃ W1, (w.alloc (.deferred (some []))).alloc (.loop (recOf fn a.tmps ps assign body w.heap.size)) = W1 := ⟨_, rfl⟩
  have hc := hcall fn
  rw [hW1] at hc
  refine ⟨w.heap.size + 1, [{ target := .collected w.heap.size, args := #[] }], W1, { target := .fn (.func gf) #[], args := b ++ #[.func (.yield (w.heap.size + 1)) #[] #[]] }, W1, gf, b ++ #[.func (.yield (w.heap.size + 1)) #[] #[]], W1, by rw [← hW1]; exact run_enterLoop_outer _ _ _ _ _, ?_, fun _ _ => trivial, ?_, (fun h => by cases h), ?_⟩
  · simp only [resolve, hg]
    simp [go_sem, Deferred.ofValue]
  · simp [invoke, go_sem, eg]
  · refine hc.mono ?_
    rintro e W ⟨⟨v, rfl⟩, (⟨h1, h2⟩ | ⟨c, h1, h2⟩)⟩
    · exact ⟨none, _, run_endLoop h1 (by simp [recOf]), hdone fn W h1 h2⟩
    · exact absurd h2 (hx c W)
/-- the statement in a round -/
theorem rf_inner {l₀ : Nat} {r₀ : Loop} {g : Operand} {ps : Array Tmp} {assign body : Code} {Q : Exit → Act → World → Prop} {a : Act} {gf : Nat} {b : Array Value} {Jd : World → Prop} {Jx : Code → World → Prop}
    (hl₀ : w.heap[l₀]? = some (.loop r₀)) (hg : a.eval g = .func (.func gf) b #[]) (eg : ∀ args w, (callFunc gf args).run P w = .ok (.enter gf args) w)
    (hcall : ∀ fn, CallsIn Fence.wide (n - 1) P gf (b ++ #[.func (.yield w.heap.size) #[] #[]]) (w.alloc (.loop (recOf fn a.tmps ps assign body r₀.defers))) (Over w.heap.size (recOf fn a.tmps ps assign body r₀.defers) Jd Jx))
    (hdone : ∀ W, ¬ Jd W)
    (hx : ∀ fn c W, W.heap[w.heap.size]? = some (.loop { recOf fn a.tmps ps assign body r₀.defers with state := .done, pending := some c }) → Jx c W → c.wpIn (Fence.wide.inRound l₀) n P Q a (W.putObj w.heap.size (.loop { recOf fn a.tmps ps assign body r₀.defers with state := .exhausted, pending := some c }))) :
    (Code.rangeFunc g ps assign body).wpIn (Fence.wide.inRound l₀) n P Q a w := by
  refine wpIn_rangeFunc ?_
  intro fn hfn
  obtain ⟨W1, hW1⟩ : ∃ W1, w.alloc (.loop (recOf fn a.tmps ps assign body r₀.defers)) = W1 := ⟨_, rfl⟩
  have hc := hcall fn
  rw [hW1] at hc
  refine ⟨w.heap.size, [], W1, { target := .fn (.func gf) #[], args := b ++ #[.func (.yield w.heap.size) #[] #[]] }, W1, gf, b ++ #[.func (.yield w.heap.size) #[] #[]], W1, by rw [← hW1]; exact run_enterLoop_inner hl₀ _ _ _ _ _, ?_, fun _ _ => trivial, ?_, (fun h => by cases h), ?_⟩
  · simp only [resolve, hg]
    simp [go_sem, Deferred.ofValue]
  · simp [invoke, go_sem, eg]
  · refine CallsIn.inRound l₀ (hc.mono ?_)
    rintro e W ⟨⟨v, rfl⟩, (⟨h1, h2⟩ | ⟨c, h1, h2⟩)⟩
    · exact absurd h2 (hdone W)
    · exact ⟨some c, _, run_endLoop h1 (by simp), hx fn c W h1 h2⟩
end
end Go.Proofs.Ytihajkppeiainaa.low


/-
  The program's iterator over what is left of an operation: opReader.remaining, for whatever body; a call in a region that draws its order.
-/
namespace Go.Proofs.Ytihajkppeiainaa.low
open Go.RowKit
set_option linter.unusedVariables false
attribute [local go_sem] Oper.semAt_some

/-- the least number that a family of conditions bears at a world -/
theorem least_ex (J : Nat → World → Prop) (w : World) : ∃ k : Nat, (∃ m, J m w) → J k w ∧ ∀ m, J m w → k ≤ m := by
  by_cases h : ∃ m, J m w
  · obtain ⟨m, hm⟩ := h
    induction m using Nat.strongRecOn with
    | _ m ih =>
      by_cases hs : ∃ m', m' < m ∧ J m' w
      · obtain ⟨m', h1, h2⟩ := hs
        exact ih m' h1 h2
      · refine ⟨m, fun _ => ⟨hm, fun q hq => ?_⟩⟩
        rcases Nat.lt_or_ge q m with h | h
        · exact absurd ⟨q, h, hq⟩ hs
        · exact h
  · exact ⟨0, fun h' => absurd h' h⟩
noncomputable def leastOf (J : Nat → World → Prop) (w : World) : Nat := Classical.choose (least_ex J w)
theorem leastOf_at {J : Nat → World → Prop} {w : World} (h : ∃ m, J m w) : J (leastOf J w) w := (Classical.choose_spec (least_ex J w) h).1
theorem leastOf_le {J : Nat → World → Prop} {w : World} {m : Nat} (h : J m w) : leastOf J w ≤ m := (Classical.choose_spec (least_ex J w) ⟨m, h⟩).2 m h
/-- there is a round of the loop to be had: the number is hidden -/
def SomeM (J : Nat → World → Prop) (w : World) : Prop := ∃ m, J m w

/-- behind a look for more, in a body's words -/
def MoreJ (g : Nat) (JY : Pt → Value → World → Prop) (Jd : World → Prop) (e : Ending) (w' : World) : Prop :=
  (∃ p A c, e = .returned (.bool true) ∧ w'.cell? ⟨g, 0, none⟩ = some (.int .i64 p.kind) ∧ w'.cell? ⟨g, 1, none⟩ = some (.int .i64 p.n) ∧ w'.cell? ⟨g, 2, none⟩ = some (.slice A p.signs.length c) ∧ JY p (.agg #[.int .i64 p.kind, .int .i64 p.n, .slice A p.signs.length c]) w') ∨ (e = .returned (.bool false) ∧ Jd w')
/-- behind a round -/
def RoundJ (J : Nat → World → Prop) (m : Nat) (Jx : World → Prop) (e : Ending) (w' : World) : Prop :=
  (e = .returned (.bool true) ∧ ∃ m', m' < m ∧ J m' w') ∨ (e = .returned (.bool false) ∧ Jx w')
/-- behind the iterator -/
def OverJ (Jd Jx : World → Prop) (e : Ending) (w' : World) : Prop := (∃ v, e = .returned v) ∧ (Jd w' ∨ Jx w')

set_option maxRecDepth 100000 in
set_option maxHeartbeats 1600000 in
theorem implRemaining (n g l : Nat) (J : Nat → World → Prop) (JY : Nat → Pt → Value → World → Prop) (Jd Jx : World → Prop) (m0 : Nat) (w : World)
    (hM : ∀ m w, J m w → Calls Try.prog 91 #[.pointer (some ⟨g, 0, none⟩)] w (MoreJ g (JY m) Jd))
    (hY : ∀ m p v w, JY m p v w → YieldAt Fence.wide (n - 1) Try.prog l #[v] w (RoundJ J m Jx)) (h0 : J m0 w) :
    CallsIn Fence.wide n Try.prog 77 #[.pointer (some ⟨g, 0, none⟩), .func (.yield l) #[] #[]] w (OverJ Jd Jx) := by
  have HM := Lib.hid hM
  have HY := Lib.hid hY
  clear hM hY
  refine callsIn_of_wp Try.func77 rfl trivial ?_ rfl
  simp only [Try.ntmps77, List.size_toArray, List.length_cons, List.length_nil, Nat.reduceAdd, Nat.reduceSub, Array.replicate_succ, Array.replicate_zero, List.push_toArray, List.append_toArray, List.nil_append, List.cons_append]
  gi_wp2
  gi_loopw [] (fun wr => SomeM J wr) (fun wr => leastOf J wr)
  case atStart => exact ⟨m0, h0⟩
  case round =>
    have hj : J (leastOf J wr) wr := leastOf_at hrel
    have HK := Lib.hid (HM.out _ _ hj)
    clear hrel hj
    gi_wp2_with fail
    refine ⟨trivial, (fun h => by cases h), (callsIn_wide.2 HK.out).mono ?_⟩
    rintro e w1 (⟨p, A, c, rfl, c0, c1, c2, hj⟩ | ⟨rfl, hd⟩)
    · obtain ⟨fn, tmps, assign, body, hy, hR⟩ := HY.out _ _ _ _ hj
      have HR := Lib.hid hR
      clear hR hj
      gi_wp2_with fail
      refine ⟨(fun h => by cases h), HR.out.mono ?_⟩
      rintro e w2 (⟨rfl, m', hlt, hj'⟩ | ⟨rfl, hx⟩)
      · have HJ := Lib.hid hj'
        have HLT := Lib.hid hlt
        clear hj' hlt c0 c1 c2 hy
        gi_wp2
        exact ⟨⟨m', HJ.out⟩, Nat.lt_of_le_of_lt (leastOf_le HJ.out) HLT.out⟩
      · clear c0 c1 c2 hy
        gi_wp2
        go_end0
        exact ⟨⟨_, rfl⟩, .inr hx⟩
    · gi_wp2
      refine ⟨fun _ h => (by cases h), ?_⟩
      gi_wp2
      go_end0
      exact ⟨⟨_, rfl⟩, .inl hd⟩
end Go.Proofs.Ytihajkppeiainaa.low


/-
  The program's composition: its state (two readers, a builder, blocks that stay), and the contracts of what it calls in the words of that state; a region that draws its order, in a round: a call that alone may come up.
-/
namespace Go.Proofs.Ytihajkppeiainaa.low
open Go.RowKit
set_option linter.unusedVariables false

/-- what stays: the readers' blocks, the builder's, the world at the start, the part of the memory that is the caller's -/
structure Fz where
  lo : Nat
  gx : Nat
  gy : Nat
  go : Nat
  w0 : World
/-- the state: the readers stand at p, ps and q, qs; the builder holds L; the blocks of KL hold what KL says -/
structure Co (F : Fz) (KL : List (Nat × Obj)) (O : Nat → Prop) (L : List Pt) (w : World) (p : Pt) (ps : List Pt) (q : Pt) (qs : List Pt) : Prop where
  ox : Orr F.lo F.gx w p ps
  oy : Orr F.lo F.gy w q qs
  bd : Bld O F.lo F.go 74 w L
  ne : ¬ F.gx = F.gy
  nx : ¬ O F.gx
  ny : ¬ O F.gy
  kp : ∀ x ∈ KL, w.heap[x.1]? = some x.2 ∧ F.lo ≤ x.1 ∧ ¬ x.1 = F.gx ∧ ¬ x.1 = F.gy ∧ ¬ O x.1
  bl : Below F.lo F.w0 w
section
variable {F : Fz} {KL : List (Nat × Obj)} {O O' : Nat → Prop} {L L' : List Pt} {w w' : World} {p p' : Pt} {ps ps' : List Pt} {q q' : Pt} {qs qs' : List Pt}
theorem Co.low (h : Co F KL O L w p ps q qs) : F.lo ≤ w.heap.size := h.bd.low
theorem Co.past (h : Co F KL O L w p ps q qs) (hb : Below w.heap.size w w') : Co F KL O L w' p ps q qs :=
  ⟨h.ox.past hb, h.oy.past hb, h.bd.past hb, h.ne, h.nx, h.ny, fun x hx => let ⟨h1, h2⟩ := h.kp x hx; ⟨(hb.block _ (lt_of_some h1)).trans h1, h2⟩, h.bl.trans (hb.mono h.low)⟩
theorem Co.drew (h : Co F KL O L w p ps q qs) : Co F KL O L w.drew p ps q qs := h.past ((Below.refl _ _).drew)
theorem Co.movx (h : Co F KL O L w p ps q qs) (ho : Orr F.lo F.gx w' p' ps') (hb : Below F.lo w w') (hf : Fr (fun b => b = F.gx) w w') : Co F KL O L w' p' ps' q qs :=
  ⟨ho, h.oy.keep (hf.block _ h.oy.lt (fun e => h.ne e.symm)) hb, h.bd.keep hf.size (fun b hlt ho => hf.block b hlt (fun e => h.nx (by have e' : b = F.gx := e; rw [← e']; exact ho))), h.ne, h.nx, h.ny, fun x hx => let ⟨h1, h2, h3, h4⟩ := h.kp x hx; ⟨(hf.block _ (lt_of_some h1) h3).trans h1, h2, h3, h4⟩, h.bl.trans hb⟩
theorem Co.movy (h : Co F KL O L w p ps q qs) (ho : Orr F.lo F.gy w' q' qs') (hb : Below F.lo w w') (hf : Fr (fun b => b = F.gy) w w') : Co F KL O L w' p ps q' qs' :=
  ⟨h.ox.keep (hf.block _ h.ox.lt h.ne) hb, ho, h.bd.keep hf.size (fun b hlt ho => hf.block b hlt (fun e => h.ny (by have e' : b = F.gy := e; rw [← e']; exact ho))), h.ne, h.nx, h.ny, fun x hx => let ⟨h1, h2, h3, h4, h5⟩ := h.kp x hx; ⟨(hf.block _ (lt_of_some h1) h4).trans h1, h2, h3, h4, h5⟩, h.bl.trans hb⟩
theorem Co.bldr (h : Co F KL O L w p ps q qs) (hd : Bld O' F.lo F.go 74 w' L') (hb : Below F.lo w w') (hg : Grew O O' w w') : Co F KL O' L' w' p ps q qs := by
  have out : ∀ b, b < w.heap.size → ¬ O b → ¬ O' b := fun b hlt hn ho => by
    rcases hg.more b ho with h1 | h1
    · exact hn h1
    · omega
  exact ⟨h.ox.keep (hg.block _ h.ox.lt h.nx) hb, h.oy.keep (hg.block _ h.oy.lt h.ny) hb, hd, h.ne, out _ h.ox.lt h.nx, out _ h.oy.lt h.ny, fun x hx => let ⟨h1, h2, h3, h4, h5⟩ := h.kp x hx; ⟨(hg.block _ (lt_of_some h1) h5).trans h1, h2, h3, h4, out _ (lt_of_some h1) h5⟩, h.bl.trans hb⟩
/-- a block more that stays: one that lies beyond all blocks that stood -/
theorem Co.also (h : Co F KL O L w p ps q qs) (hb : Below w.heap.size w w') {b : Nat} {o : Obj} (hbl : w.heap.size ≤ b) (ho : w'.heap[b]? = some o) : Co F ((b, o) :: KL) O L w' p ps q qs := by
  have h' := h.past hb
  refine ⟨h'.ox, h'.oy, h'.bd, h'.ne, h'.nx, h'.ny, fun x hx => ?_, h'.bl⟩
  rcases List.mem_cons.1 hx with rfl | hx
  · exact ⟨ho, Nat.le_trans h.low hbl, by have := h.ox.lt; show ¬ b = F.gx; omega, by have := h.oy.lt; show ¬ b = F.gy; omega, fun hO => by have := h.bd.old _ hO; simp at this; omega⟩
  · exact h'.kp x hx
theorem Co.less {KM : List (Nat × Obj)} (h : Co F KL O L w p ps q qs) (hs : ∀ x ∈ KM, x ∈ KL) : Co F KM O L w p ps q qs := ⟨h.ox, h.oy, h.bd, h.ne, h.nx, h.ny, fun x hx => h.kp x (hs x hx), h.bl⟩
theorem put_below {lo l : Nat} {o : Obj} (hl : lo ≤ l) (hz : l < w.heap.size) : Below lo w (w.putObj l o) :=
  (Below.refl lo w).grown (grownBy_putObj' w l o) (by omega) (fun k e => by cases e; exact hl)
/-- a block that stays is written whole -/
theorem Co.put {l : Nat} {o o' : Obj} (h : Co F ((l, o) :: KL) O L w p ps q qs) (hn : ∀ x ∈ KL, ¬ x.1 = l) : Co F ((l, o') :: KL) O L (w.putObj l o') p ps q qs := by
  obtain ⟨h1, h2, h3, h4, h5⟩ := h.kp (l, o) (by simp)
  simp only at h1 h2 h3 h4 h5
  have hz := lt_of_some h1
  have hb := put_below (o := o') h2 hz
  have other : ∀ b, ¬ b = l → (w.putObj l o').heap[b]? = w.heap[b]? := fun b hb => World.putObj_heap_other hb
  refine ⟨h.ox.keep (other _ (fun e => h3 e.symm)) hb, h.oy.keep (other _ (fun e => h4 e.symm)) hb, h.bd.keep (by simp) (fun b _ ho => other b (fun e => h5 (by rw [← e]; exact ho))), h.ne, h.nx, h.ny, fun x hx => ?_, h.bl.trans hb⟩
  rcases List.mem_cons.1 hx with rfl | hx
  · exact ⟨World.putObj_heap_same hz, h2, h3, h4, h5⟩
  · obtain ⟨k1, k2⟩ := h.kp x (by simp [hx])
    exact ⟨(other _ (hn x hx)).trans k1, k2⟩
/-- a look for more -/
theorem Co.morex (h : Co F KL O L w p ps q qs) : Calls Try.prog 91 #[.pointer (some ⟨F.gx, 0, none⟩)] w (fun e w' => ∃ p' ps', e = .returned (.bool (decide (0 < sizeP p'))) ∧ Co F KL O L w' p' ps' q qs ∧ unitsP p' ++ units ps' = unitsP p ++ units ps ∧ (sizeP p' = 0 → ps' = [])) := by
  refine (implMore F.lo F.gx p ps w h.ox).mono ?_
  rintro e w' ⟨p', ps', h1, h2, h3, h4, h5, h6⟩
  exact ⟨p', ps', h1, h.movx h2 h5 h6, h3, h4⟩
theorem Co.morey (h : Co F KL O L w p ps q qs) : Calls Try.prog 91 #[.pointer (some ⟨F.gy, 0, none⟩)] w (fun e w' => ∃ q' qs', e = .returned (.bool (decide (0 < sizeP q'))) ∧ Co F KL O L w' p ps q' qs' ∧ unitsP q' ++ units qs' = unitsP q ++ units qs ∧ (sizeP q' = 0 → qs' = [])) := by
  refine (implMore F.lo F.gy q qs w h.oy).mono ?_
  rintro e w' ⟨p', ps', h1, h2, h3, h4, h5, h6⟩
  exact ⟨p', ps', h1, h.movy h2 h5 h6, h3, h4⟩
def TakeX (F : Fz) (KL : List (Nat × Obj)) (O : Nat → Prop) (L : List Pt) (p : Pt) (ps : List Pt) (q : Pt) (qs : List Pt) (n : Nat) (e : Ending) (w' : World) : Prop := ∃ v, e = .returned v ∧ PtV F.lo w' (cutL p n) v ∧ Co F KL O L w' (cutR p n) ps q qs
def TakeY (F : Fz) (KL : List (Nat × Obj)) (O : Nat → Prop) (L : List Pt) (p : Pt) (ps : List Pt) (q : Pt) (qs : List Pt) (n : Nat) (e : Ending) (w' : World) : Prop := ∃ v, e = .returned v ∧ PtV F.lo w' (cutL q n) v ∧ Co F KL O L w' p ps (cutR q n) qs
theorem Co.takex {n : Nat} (h : Co F KL O L w p ps q qs) (h0 : 0 < n) (hn : n ≤ sizeP p) : Calls Try.prog 78 #[.pointer (some ⟨F.gx, 0, none⟩), .int .i64 (n : Int)] w (TakeX F KL O L p ps q qs n) := by
  refine (implTake F.lo F.gx p ps n w h.ox h0 hn).mono ?_
  rintro e w' ⟨v, h1, h2, h3, h4, h5⟩
  exact ⟨v, h1, h2, h.movx h3 h4 h5⟩
theorem Co.takey {n : Nat} (h : Co F KL O L w p ps q qs) (h0 : 0 < n) (hn : n ≤ sizeP q) : Calls Try.prog 78 #[.pointer (some ⟨F.gy, 0, none⟩), .int .i64 (n : Int)] w (TakeY F KL O L p ps q qs n) := by
  refine (implTake F.lo F.gy q qs n w h.oy h0 hn).mono ?_
  rintro e w' ⟨v, h1, h2, h3, h4, h5⟩
  exact ⟨v, h1, h2, h.movy h3 h4 h5⟩
theorem Co.takeyb {n : Nat} (h : Co F KL O L w p ps q qs) (h0 : 0 < n) (hn : n ≤ sizeP q) : Calls Try.prog 78 #[.pointer (some ⟨F.gy, 0, none⟩), .int .i64 (n : Int)] w (fun e w' => ∃ v, e = .returned v ∧ PtV F.lo w' (cutL q n) v ∧ Co F KL O L w' p ps (cutR q n) qs ∧ Below F.lo w w') := by
  refine (implTake F.lo F.gy q qs n w h.oy h0 hn).mono ?_
  rintro e w' ⟨v, h1, h2, h3, h4, h5⟩
  exact ⟨v, h1, h2, h.movy h3 h4 h5, h4⟩
theorem cutL_kind {n : Nat} (h : ¬ p.kind = 0) : ¬ (cutL p n).kind = 0 := by
  unfold cutL
  split
  · simp
  · exact h
def AddC (F : Fz) (KL : List (Nat × Obj)) (L : List Pt) (p : Pt) (ps : List Pt) (q : Pt) (qs : List Pt) (e : Ending) (w' : World) : Prop := e = .returned (.tuple #[]) ∧ ∃ O, Co F KL O L w' p ps q qs
theorem Co.add {r : Pt} {v : Value} (h : Co F KL O L w p ps q qs) (hv : PtV F.lo w r v) (hr : Vp r) (hk : ¬ r.kind = 0) (hl : L.length < 100000) : Calls Try.prog 52 #[.pointer (some ⟨F.go, 0, none⟩), v] w (AddC F KL (L ++ [r]) p ps q qs) := by
  refine (implAddB O F.lo F.go L r v w h.bd hv hr hk hl).mono ?_
  rintro e w' ⟨h1, O', h2, h3, h4⟩
  exact ⟨h1, O', h.bldr h2 h3 h4⟩
theorem Co.both {r s : Pt} {v u : Value} (h : Co F KL O L w p ps q qs) (hv : PtV F.lo w r v) (hu : PtV F.lo w s u) (hr : Vp r) (hs : Vp s) (hk : ¬ r.kind = 0) (hk' : ¬ s.kind = 0) (hl : L.length < 100000) : Calls Try.prog 80 #[.pointer (some ⟨F.go, 0, none⟩), v, u] w (AddC F KL (bothL L r s) p ps q qs) := by
  refine (implBothB O F.lo F.go L r s v u w h.bd hv hu hr hs hk hk' hl).mono ?_
  rintro e w' ⟨h1, O', h2, h3, h4⟩
  exact ⟨h1, O', h.bldr h2 h3 h4⟩
def SizeC (F : Fz) (KL : List (Nat × Obj)) (O : Nat → Prop) (L : List Pt) (p : Pt) (ps : List Pt) (q : Pt) (qs : List Pt) (n : Nat) (w : World) (e : Ending) (w' : World) : Prop := e = .returned (.int .i64 (n : Int)) ∧ Co F KL O L w' p ps q qs ∧ Below w.heap.size w w'
theorem Co.size {r : Pt} {v : Value} (h : Co F KL O L w p ps q qs) (hv : PtV F.lo w r v) (hr : Vp r) : Calls Try.prog 79 #[v] w (SizeC F KL O L p ps q qs (sizeP r) w) := by
  obtain ⟨A, c, rfl, _⟩ := hv
  have hz := hr.size
  refine (implSize_any r.kind r.n A r.signs.length c w (by omega) (by omega) (by omega)).mono ?_
  rintro e w' ⟨rfl, h2⟩
  exact ⟨by rw [hz.1], h.past h2, h2⟩
end

/-- the blocks of KL, in the world at hand -/
def Ks (KL : List (Nat × Obj)) (w : World) : Prop := ∀ x ∈ KL, w.heap[x.1]? = some x.2
theorem Co.ks {F : Fz} {KL : List (Nat × Obj)} {O : Nat → Prop} {L : List Pt} {w : World} {p : Pt} {ps : List Pt} {q : Pt} {qs : List Pt} (h : Co F KL O L w p ps q qs) : Ks KL w := fun x hx => (h.kp x hx).1
theorem Ks.cell {KL : List (Nat × Obj)} {w : World} {b : Nat} {xs : Array Value} {T : TypeId} {i : Nat} {v : Value} (h : Ks KL w) (hm : (b, Obj.cells xs T (0, 0)) ∈ KL) (hv : xs[i]? = some v) : w.cell? ⟨b, i, none⟩ = some v := (cell_of_row _ _ i _ _ _ (h _ hm)).trans hv

section
variable {P : Program} {ops : Array Oper} {Q : Exit → Act → World → Prop} {md : Region.Mode} {S : World → Prop}
/-- in a region that draws its order: a call of a function that alone may come up -/
theorem wpAnyH_call {i : Nat} {o : Oper} {fuel : Nat} {listed : Array Bool} {a : Act} {w : World} {f : FuncId} {args : Array Value} (hi : ops[i]? = some o) (hr : Region.ready md ops listed = [i]) (hw : Region.wanted o (yielded ops a.tmps) = true)
    (hrun : (execOp a.eval o).run P w = .ok (.enter f args) w) (hc : Calls P f args w (fun e w' => ∃ v, e = .returned v ∧ S w' ∧ wpAnyH P md ops Q S fuel (listed.setIfInBounds i true) (a.put o.dst v) w')) : wpAnyH P md ops Q S (fuel + 1) listed a w := by
  refine wpAnyH_all hr (by simp) (fun j hj => ?_)
  obtain rfl : j = i := by simpa using hj
  unfold wpOp
  simp only [hi, hw, if_true, Oper.wp, hrun, Oper.upon]
  refine .inl (hc.mono ?_)
  rintro e w' ⟨v, rfl, h1, h2⟩
  exact ⟨h1, h2⟩
theorem fall_n {K : Act → World → Prop} {a : Act} {w : World} (h : K a w) : Fall K .normal a w := h
def noDeferB (ops : Array Oper) : Bool := ops.toList.all (fun o => match o.op with | .defer _ => false | _ => true)
theorem noDefer_of {ops : Array Oper} (h : noDeferB ops = true) : NoDefer ops := fun i o ho c e => by
  have := List.all_eq_true.1 h o (by rw [← Array.getElem?_toList] at ho; exact List.mem_of_getElem? ho)
  rw [e] at this
  simp at this
end
end Go.Proofs.Ytihajkppeiainaa.low


/-
  The rounds of impl.composed's ranges over functions: their codes, taken out of the translation; each round a theorem over the frame.
-/
namespace Go.Proofs.Ytihajkppeiainaa.low
open Go.RowKit
set_option linter.unusedVariables false
attribute [local go_sem] Oper.semAt_some

/-- the ranges over functions in a piece of code: what is assigned, and the body -/
def rfs : Code → List (Code × Code)
  | .rangeFunc _ _ a b => (a, b) :: rfs b
  | .seq a b => rfs a ++ rfs b
  | .cond _ a b => rfs a ++ rfs b
  | .block _ c => rfs c
  | .scope c => rfs c
  | _ => []
noncomputable def rfA (k : Nat) : Code := (((Try.f45.body.map rfs).getD []).getD k (.skip, .skip)).1
noncomputable def rfB (k : Nat) : Code := (((Try.f45.body.map rfs).getD []).getD k (.skip, .skip)).2
theorem cutL_all {p : Pt} (h : Vp p) (hk : ¬ p.kind = 0) : cutL p (sizeP p) = p := by
  obtain ⟨k, m, zs⟩ := p
  rcases h with ⟨h1, h2, h3, h4⟩ | ⟨h1, h2, h3⟩ | ⟨h1, h2, h3⟩ <;> simp only at * <;> subst_vars
  · have hk : ¬ k = 2 := by omega
    simp only [cutL, sizeP, if_neg hk]
    rw [Int.toNat_of_nonneg h2]
  · simp [cutL, sizeP]
  · exact absurd rfl hk
set_option maxRecDepth 1000000 in
set_option maxHeartbeats 6400000 in
theorem innP (F : Fz) (KL : List (Nat × Obj)) (O : Nat → Prop) (L : List Pt) (W : World) (p : Pt) (ps : List Pt) (q : Pt) (qs : List Pt) (bx bY bo bp bq l n : Nat) (A B : Option Addr) (ca cb : Nat) {c0 c1 c2 c3 c4 c10 c11 c12 c13 c14 c15 c16 c17 c18 c19 c20 c21 c22 c23 c24 c25 c26 c27 c28 c29 c30 c31 c32 c33 c34 c35 c36 c37 c38 c39 c40 c41 c42 c43 c44 c45 c46 c47 c48 c49 c50 c51 c52 c53 c54 c55 c56 c57 c58 c59 c60 c61 c62 c63 c64 c65 c66 c67 : Value} (Q : Exit → Act → World → Prop) (hs : Co F KL O L W p ps q qs) (mx : (bx, Obj.cells #[.pointer (some ⟨F.gx, 0, none⟩)] 102 (0, 0)) ∈ KL) (my : (bY, Obj.cells #[.pointer (some ⟨F.gy, 0, none⟩)] 102 (0, 0)) ∈ KL) (mo : (bo, Obj.cells #[.pointer (some ⟨F.go, 0, none⟩)] 72 (0, 0)) ∈ KL) (mq : (bq, Obj.cells #[.int .i64 q.kind, .int .i64 q.n, .slice B q.signs.length cb] 67 (0, 0)) ∈ KL) (hr : RdC W F.lo (encInts q.signs) (.slice B q.signs.length cb)) (hk : q.kind = 2) (hz : 0 < sizeP q) (hL : L.length < 100000)
    (hQ : ∀ O' a W', Co F KL O' (L ++ [q]) W' p ps (cutR q (sizeP q)) qs → Q .normal a W') : (rfB 1).wpIn (Fence.wide.inRound l) n Try.prog Q ⟨#[c0, c1, c2, c3, c4, .pointer (some ⟨bx, 0, none⟩), .pointer (some ⟨bY, 0, none⟩), .pointer (some ⟨bo, 0, none⟩), .pointer (some ⟨bp, 0, none⟩), .pointer (some ⟨bq, 0, none⟩), c10, c11, c12, c13, c14, c15, c16, c17, c18, c19, c20, c21, c22, c23, c24, c25, c26, c27, c28, c29, c30, c31, c32, c33, c34, c35, c36, c37, c38, c39, c40, c41, c42, c43, c44, c45, c46, c47, c48, c49, c50, c51, c52, c53, c54, c55, c56, c57, c58, c59, c60, c61, c62, c63, c64, c65, c66, c67], []⟩ W := by
  have HS := Lib.hid hs
  have HQ := Lib.hid hQ
  clear hs hQ
  have c0 := HS.out.ks.cell mq (i := 0) rfl
  have g0 : (q.kind == 2) = true := by simp [hk]
  have hv := HS.out.oy.vp
  have hk0 : ¬ q.kind = 0 := by omega
  have HV := Lib.hid hr
  clear hr hk
  conv => arg 4; whnf
  gi_wp2_with fail
  have HLO := Lib.hid HS.out.drew.low
  refine wpIn_fall (wpIn_region_held (S := Ks KL) (by kernel_rfl) (noDefer_of (by kernel_rfl)) (Fall.out _) ?_) (fun _ _ h => h)
  replace HS := Lib.hid HS.out.drew
  have hS0 := HS.out.ks
  refine wpAnyH_take (i := 0) (v := .pointer (some ⟨F.go, 0, none⟩)) rfl (by kernel_rfl) (by kernel_rfl) (by kernel_rfl) (fun _ _ _ h => h) (Or.inl ⟨by rfl, fun w' hS => ?_⟩) hS0 ?_
  · have k0 := hS.cell mo (i := 0) rfl; clear hS HS; go_simp
  try simp only [Act.put]
  refine wpAnyH_take (i := 1) (v := .pointer (some ⟨F.gy, 0, none⟩)) rfl (by kernel_rfl) (by kernel_rfl) (by kernel_rfl) (fun _ _ _ h => h) (Or.inl ⟨by rfl, fun w' hS => ?_⟩) hS0 ?_
  · have k0 := hS.cell my (i := 0) rfl; clear hS HS; go_simp
  try simp only [Act.put]
  refine wpAnyH_take (i := 2) (v := (.agg #[.int .i64 q.kind, .int .i64 q.n, .slice B q.signs.length cb])) rfl (by kernel_rfl) (by kernel_rfl) (by kernel_rfl) (fun _ _ _ h => h) (Or.inl ⟨by rfl, fun w' hS => ?_⟩) hS0 ?_
  · have k0 := hS.cell mq (i := 0) rfl; have k1 := hS.cell mq (i := 1) rfl; have k2 := hS.cell mq (i := 2) rfl; clear hS HS; go_simp
  try simp only [Act.put]
  refine wpAnyH_ready (rs := [3]) (by kernel_rfl) (by simp) ?_
  refine AllReadyH.cons rfl (fun K hK => ?_) AllReadyH.nil
  go_simp
  refine (HS.out.size (r := q) ⟨B, cb, rfl, HV.out.below ((Below.refl _ _).drew)⟩ hv).mono ?_
  rintro e w1 ⟨rfl, h1, b1⟩
  refine hK.out _ _ h1.ks (fun hS1 => ?_)
  clear hK K hS0
  have hS0 := hS1
  clear hS1
  try simp only [Act.put, List.setIfInBounds_toArray, List.set_cons_zero, List.set_cons_succ]
  replace HS := Lib.hid h1
  clear h1
  clear b1
  refine wpAnyH_ready (rs := [4]) (by kernel_rfl) (by simp) ?_
  refine AllReadyH.cons rfl (fun K hK => ?_) AllReadyH.nil
  go_simp
  refine (HS.out.takey hz (Nat.le_refl _)).mono ?_
  rintro e w2 ⟨v2, rfl, pv2, h2⟩
  refine hK.out _ _ h2.ks (fun hS2 => ?_)
  clear hK K hS0
  have hS0 := hS2
  clear hS2
  try simp only [Act.put, List.setIfInBounds_toArray, List.set_cons_zero, List.set_cons_succ]
  replace HS := Lib.hid h2
  clear h2
  rw [cutL_all hv hk0] at pv2
  refine wpAnyH_ready (rs := [5]) (by kernel_rfl) (by simp) ?_
  refine AllReadyH.cons rfl (fun K hK => ?_) AllReadyH.nil
  go_simp
  refine (HS.out.add pv2 hv hk0 hL).mono ?_
  rintro e w3 ⟨rfl, O3, h3⟩
  refine hK.out _ _ h3.ks (fun hS3 => ?_)
  clear hK K hS0
  have hS0 := hS3
  clear hS3
  try simp only [Act.put, List.setIfInBounds_toArray, List.set_cons_zero, List.set_cons_succ]
  replace HS := Lib.hid h3
  clear h3
  refine wpAnyH_done (by kernel_rfl) (fall_n ?_) _
  clear hS0
  gi_wp2
  exact HQ.out _ _ _ HS.out
set_option maxRecDepth 1000000 in
set_option maxHeartbeats 6400000 in
theorem innB (F : Fz) (KL : List (Nat × Obj)) (O : Nat → Prop) (L : List Pt) (W : World) (p : Pt) (ps : List Pt) (q : Pt) (qs : List Pt) (bx bY bo bp bq l n : Nat) (A B : Option Addr) (ca cb : Nat) {c0 c1 c2 c3 c4 c10 c11 c12 c13 c14 c15 c16 c17 c18 c19 c20 c21 c22 c23 c24 c25 c26 c27 c28 c29 c30 c31 c32 c33 c34 c35 c36 c37 c38 c39 c40 c41 c42 c43 c44 c45 c46 c47 c48 c49 c50 c51 c52 c53 c54 c55 c56 c57 c58 c59 c60 c61 c62 c63 c64 c65 c66 c67 : Value} (Q : Exit → Act → World → Prop) (hs : Co F KL O L W p ps q qs) (mx : (bx, Obj.cells #[.pointer (some ⟨F.gx, 0, none⟩)] 102 (0, 0)) ∈ KL) (my : (bY, Obj.cells #[.pointer (some ⟨F.gy, 0, none⟩)] 102 (0, 0)) ∈ KL) (mo : (bo, Obj.cells #[.pointer (some ⟨F.go, 0, none⟩)] 72 (0, 0)) ∈ KL) (mp : (bp, Obj.cells #[.int .i64 p.kind, .int .i64 p.n, .slice A p.signs.length ca] 67 (0, 0)) ∈ KL) (mq : (bq, Obj.cells #[.int .i64 q.kind, .int .i64 q.n, .slice B q.signs.length cb] 67 (0, 0)) ∈ KL) (hr : RdC W F.lo (encInts p.signs) (.slice A p.signs.length ca)) (hr2 : RdC W F.lo (encInts q.signs) (.slice B q.signs.length cb)) (hk : ¬ q.kind = 2) (hkp : ¬ p.kind = 0) (hk0 : ¬ q.kind = 0) (hz : 0 < sizeP p) (hz2 : 0 < sizeP q) (m : Nat) (hm : m = min (sizeP p) (sizeP q)) (hL : L.length < 100000)
    (hQ : ∀ O' a W', Co F KL O' (bothL L (cutL p m) (cutL q m)) W' (cutR p m) ps (cutR q m) qs → Q (.exit 1) a W') : (rfB 1).wpIn (Fence.wide.inRound l) n Try.prog Q ⟨#[c0, c1, c2, c3, c4, .pointer (some ⟨bx, 0, none⟩), .pointer (some ⟨bY, 0, none⟩), .pointer (some ⟨bo, 0, none⟩), .pointer (some ⟨bp, 0, none⟩), .pointer (some ⟨bq, 0, none⟩), c10, c11, c12, c13, c14, c15, c16, c17, c18, c19, c20, c21, c22, c23, c24, c25, c26, c27, c28, c29, c30, c31, c32, c33, c34, c35, c36, c37, c38, c39, c40, c41, c42, c43, c44, c45, c46, c47, c48, c49, c50, c51, c52, c53, c54, c55, c56, c57, c58, c59, c60, c61, c62, c63, c64, c65, c66, c67], []⟩ W := by
  have HS := Lib.hid hs
  have HQ := Lib.hid hQ
  clear hs hQ
  have c0 := HS.out.ks.cell mq (i := 0) rfl
  have g0 : (q.kind == 2) = false := by simp [hk]
  have hv := HS.out.ox.vp
  have hv2 := HS.out.oy.vp
  have HV := Lib.hid hr
  have HV2 := Lib.hid hr2
  have hm0 : 0 < m := by omega
  have hm1 : m ≤ sizeP p := by omega
  have hm2 : m ≤ sizeP q := by omega
  have HM := Lib.hid hm
  have hs1 := hv.size.2.1
  have hs2 := hv2.size.2.1
  clear hr hr2 hk hm
  conv => arg 4; whnf
  gi_wp2_with fail
  have HLO := Lib.hid HS.out.drew.low
  refine wpIn_fall (wpIn_region_held (S := Ks KL) (by kernel_rfl) (noDefer_of (by kernel_rfl)) (Fall.out _) ?_) (fun _ _ h => h)
  replace HS := Lib.hid HS.out.drew
  have hS0 := HS.out.ks
  refine wpAnyH_take (i := 0) (v := (.agg #[.int .i64 p.kind, .int .i64 p.n, .slice A p.signs.length ca])) rfl (by kernel_rfl) (by kernel_rfl) (by kernel_rfl) (fun _ _ _ h => h) (Or.inl ⟨by rfl, fun w' hS => ?_⟩) hS0 ?_
  · have k0 := hS.cell mp (i := 0) rfl; have k1 := hS.cell mp (i := 1) rfl; have k2 := hS.cell mp (i := 2) rfl; clear hS HS; go_simp
  try simp only [Act.put]
  refine wpAnyH_take (i := 2) (v := (.agg #[.int .i64 q.kind, .int .i64 q.n, .slice B q.signs.length cb])) rfl (by kernel_rfl) (by kernel_rfl) (by kernel_rfl) (fun _ _ _ h => h) (Or.inl ⟨by rfl, fun w' hS => ?_⟩) hS0 ?_
  · have k0 := hS.cell mq (i := 0) rfl; have k1 := hS.cell mq (i := 1) rfl; have k2 := hS.cell mq (i := 2) rfl; clear hS HS; go_simp
  try simp only [Act.put]
  refine wpAnyH_ready (rs := [1]) (by kernel_rfl) (by simp) ?_
  refine AllReadyH.cons rfl (fun K hK => ?_) AllReadyH.nil
  go_simp
  refine (HS.out.size (r := p) ⟨A, ca, rfl, HV.out.below ((Below.refl _ _).drew)⟩ hv).mono ?_
  rintro e w1 ⟨rfl, h1, b1⟩
  refine hK.out _ _ h1.ks (fun hS1 => ?_)
  clear hK K hS0
  have hS0 := hS1
  clear hS1
  try simp only [Act.put, List.setIfInBounds_toArray, List.set_cons_zero, List.set_cons_succ]
  replace HS := Lib.hid h1
  clear h1
  have HB1 := Lib.hid b1
  clear b1
  refine wpAnyH_ready (rs := [3]) (by kernel_rfl) (by simp) ?_
  refine AllReadyH.cons rfl (fun K hK => ?_) AllReadyH.nil
  go_simp
  refine (HS.out.size (r := q) ⟨B, cb, rfl, (HV2.out.below ((Below.refl _ _).drew)).below (HB1.out.mono HLO.out)⟩ hv2).mono ?_
  rintro e w2 ⟨rfl, h2, b2⟩
  refine hK.out _ _ h2.ks (fun hS2 => ?_)
  clear hK K hS0
  have hS0 := hS2
  clear hS2
  try simp only [Act.put, List.setIfInBounds_toArray, List.set_cons_zero, List.set_cons_succ]
  replace HS := Lib.hid h2
  clear h2
  clear b2
  refine wpAnyH_take (i := 4) (v := .int .i64 (m : Int)) rfl (by kernel_rfl) (by kernel_rfl) (by kernel_rfl) (fun _ _ _ h => h) (Or.inl ⟨by rfl, fun w' hS => ?_⟩) hS0 ?_
  · clear hS HS; go_simp; have := HM.out; split <;> omega
  try simp only [Act.put]
  refine wpAnyH_ready (rs := [5]) (by kernel_rfl) (by simp) ?_
  refine AllReadyH.cons rfl (fun K hK => ?_) AllReadyH.nil
  go_simp
  refine hK.out _ _ hS0 (fun _ => ?_)
  clear hK K
  try simp only [Act.put, List.setIfInBounds_toArray, List.set_cons_zero, List.set_cons_succ]
  refine wpAnyH_done (by kernel_rfl) (fall_n ?_) _
  clear hS0
  gi_wp2_with fail
  have HLO := Lib.hid HS.out.drew.low
  refine wpIn_fall (wpIn_region_held (S := Ks KL) (by kernel_rfl) (noDefer_of (by kernel_rfl)) (Fall.out _) ?_) (fun _ _ h => h)
  replace HS := Lib.hid HS.out.drew
  have hS0 := HS.out.ks
  refine wpAnyH_take (i := 0) (v := .pointer (some ⟨F.go, 0, none⟩)) rfl (by kernel_rfl) (by kernel_rfl) (by kernel_rfl) (fun _ _ _ h => h) (Or.inl ⟨by rfl, fun w' hS => ?_⟩) hS0 ?_
  · have k0 := hS.cell mo (i := 0) rfl; clear hS HS; go_simp
  try simp only [Act.put]
  refine wpAnyH_take (i := 1) (v := .pointer (some ⟨F.gx, 0, none⟩)) rfl (by kernel_rfl) (by kernel_rfl) (by kernel_rfl) (fun _ _ _ h => h) (Or.inl ⟨by rfl, fun w' hS => ?_⟩) hS0 ?_
  · have k0 := hS.cell mx (i := 0) rfl; clear hS HS; go_simp
  try simp only [Act.put]
  refine wpAnyH_take (i := 2) (v := .int .i64 (m : Int)) rfl (by kernel_rfl) (by kernel_rfl) (by kernel_rfl) (fun _ _ _ h => h) (Or.inl ⟨by rfl, fun w' hS => ?_⟩) hS0 ?_
  · clear hS HS; go_simp
  try simp only [Act.put]
  refine wpAnyH_take (i := 4) (v := .pointer (some ⟨F.gy, 0, none⟩)) rfl (by kernel_rfl) (by kernel_rfl) (by kernel_rfl) (fun _ _ _ h => h) (Or.inl ⟨by rfl, fun w' hS => ?_⟩) hS0 ?_
  · have k0 := hS.cell my (i := 0) rfl; clear hS HS; go_simp
  try simp only [Act.put]
  refine wpAnyH_take (i := 5) (v := .int .i64 (m : Int)) rfl (by kernel_rfl) (by kernel_rfl) (by kernel_rfl) (fun _ _ _ h => h) (Or.inl ⟨by rfl, fun w' hS => ?_⟩) hS0 ?_
  · clear hS HS; go_simp
  try simp only [Act.put]
  refine wpAnyH_ready (rs := [3]) (by kernel_rfl) (by simp) ?_
  refine AllReadyH.cons rfl (fun K hK => ?_) AllReadyH.nil
  go_simp
  refine (HS.out.takex hm0 hm1).mono ?_
  rintro e w3 ⟨v3, rfl, pv3, h3⟩
  refine hK.out _ _ h3.ks (fun hS3 => ?_)
  clear hK K hS0
  have hS0 := hS3
  clear hS3
  try simp only [Act.put, List.setIfInBounds_toArray, List.set_cons_zero, List.set_cons_succ]
  replace HS := Lib.hid h3
  clear h3
  have HC := Lib.hid HS.out.bl
  refine wpAnyH_ready (rs := [6]) (by kernel_rfl) (by simp) ?_
  refine AllReadyH.cons rfl (fun K hK => ?_) AllReadyH.nil
  go_simp
  refine (HS.out.takeyb hm0 hm2).mono ?_
  rintro e w4 ⟨v4, rfl, pv4, h4, b4⟩
  refine hK.out _ _ h4.ks (fun hS4 => ?_)
  clear hK K hS0
  have hS0 := hS4
  clear hS4
  try simp only [Act.put, List.setIfInBounds_toArray, List.set_cons_zero, List.set_cons_succ]
  replace HS := Lib.hid h4
  clear h4
  have pw := pv3.below b4
  refine wpAnyH_ready (rs := [7]) (by kernel_rfl) (by simp) ?_
  refine AllReadyH.cons rfl (fun K hK => ?_) AllReadyH.nil
  go_simp
  refine (HS.out.both pw pv4 (cutL_vp hv hm1) (cutL_vp hv2 hm2) (cutL_kind hkp) (cutL_kind hk0) hL).mono ?_
  rintro e w5 ⟨rfl, O5, h5⟩
  refine hK.out _ _ h5.ks (fun hS5 => ?_)
  clear hK K hS0
  have hS0 := hS5
  clear hS5
  try simp only [Act.put, List.setIfInBounds_toArray, List.set_cons_zero, List.set_cons_succ]
  replace HS := Lib.hid h5
  clear h5
  refine wpAnyH_done (by kernel_rfl) (fall_n ?_) _
  clear hS0
  gi_wp2
  exact HQ.out _ _ _ HS.out
set_option maxRecDepth 1000000 in
set_option maxHeartbeats 6400000 in
theorem outD (F : Fz) (KL : List (Nat × Obj)) (O : Nat → Prop) (L : List Pt) (W : World) (p : Pt) (ps : List Pt) (q : Pt) (qs : List Pt) (bx bY bo bp bq l n : Nat) (A B : Option Addr) (ca cb : Nat) {c0 c1 c2 c3 c4 c9 c10 c11 c12 c13 c14 c15 c16 c17 c18 c19 c20 c21 c22 c23 c24 c25 c26 c27 c28 c29 c30 c31 c32 c33 c34 c35 c36 c37 c38 c39 c40 c41 c42 c43 c44 c45 c46 c47 c48 c49 c50 c51 c52 c53 c54 c55 c56 c57 c58 c59 c60 c61 c62 c63 c64 c65 c66 c67 : Value} (Q : Exit → Act → World → Prop) (hs : Co F KL O L W p ps q qs) (mx : (bx, Obj.cells #[.pointer (some ⟨F.gx, 0, none⟩)] 102 (0, 0)) ∈ KL) (my : (bY, Obj.cells #[.pointer (some ⟨F.gy, 0, none⟩)] 102 (0, 0)) ∈ KL) (mo : (bo, Obj.cells #[.pointer (some ⟨F.go, 0, none⟩)] 72 (0, 0)) ∈ KL) (mp : (bp, Obj.cells #[.int .i64 p.kind, .int .i64 p.n, .slice A p.signs.length ca] 67 (0, 0)) ∈ KL) (hr : RdC W F.lo (encInts p.signs) (.slice A p.signs.length ca)) (hk : p.kind = 3) (hz : 0 < sizeP p) (hL : L.length < 100000)
    (hQ : ∀ O' a W', Co F KL O' (L ++ [p]) W' (cutR p (sizeP p)) ps q qs → Q .normal a W') : (rfB 0).wpIn (Fence.wide.inRound l) n Try.prog Q ⟨#[c0, c1, c2, c3, c4, .pointer (some ⟨bx, 0, none⟩), .pointer (some ⟨bY, 0, none⟩), .pointer (some ⟨bo, 0, none⟩), .pointer (some ⟨bp, 0, none⟩), c9, c10, c11, c12, c13, c14, c15, c16, c17, c18, c19, c20, c21, c22, c23, c24, c25, c26, c27, c28, c29, c30, c31, c32, c33, c34, c35, c36, c37, c38, c39, c40, c41, c42, c43, c44, c45, c46, c47, c48, c49, c50, c51, c52, c53, c54, c55, c56, c57, c58, c59, c60, c61, c62, c63, c64, c65, c66, c67], []⟩ W := by
  have HS := Lib.hid hs
  have HQ := Lib.hid hQ
  clear hs hQ
  have c0 := HS.out.ks.cell mp (i := 0) rfl
  have g0 : (p.kind == 3) = true := by simp [hk]
  have hv := HS.out.ox.vp
  have hk0 : ¬ p.kind = 0 := by omega
  have HV := Lib.hid hr
  clear hr hk
  conv => arg 4; whnf
  gi_wp2_with fail
  have HLO := Lib.hid HS.out.drew.low
  refine wpIn_fall (wpIn_region_held (S := Ks KL) (by kernel_rfl) (noDefer_of (by kernel_rfl)) (Fall.out _) ?_) (fun _ _ h => h)
  replace HS := Lib.hid HS.out.drew
  have hS0 := HS.out.ks
  refine wpAnyH_take (i := 0) (v := .pointer (some ⟨F.go, 0, none⟩)) rfl (by kernel_rfl) (by kernel_rfl) (by kernel_rfl) (fun _ _ _ h => h) (Or.inl ⟨by rfl, fun w' hS => ?_⟩) hS0 ?_
  · have k0 := hS.cell mo (i := 0) rfl; clear hS HS; go_simp
  try simp only [Act.put]
  refine wpAnyH_take (i := 1) (v := .pointer (some ⟨F.gx, 0, none⟩)) rfl (by kernel_rfl) (by kernel_rfl) (by kernel_rfl) (fun _ _ _ h => h) (Or.inl ⟨by rfl, fun w' hS => ?_⟩) hS0 ?_
  · have k0 := hS.cell mx (i := 0) rfl; clear hS HS; go_simp
  try simp only [Act.put]
  refine wpAnyH_take (i := 2) (v := (.agg #[.int .i64 p.kind, .int .i64 p.n, .slice A p.signs.length ca])) rfl (by kernel_rfl) (by kernel_rfl) (by kernel_rfl) (fun _ _ _ h => h) (Or.inl ⟨by rfl, fun w' hS => ?_⟩) hS0 ?_
  · have k0 := hS.cell mp (i := 0) rfl; have k1 := hS.cell mp (i := 1) rfl; have k2 := hS.cell mp (i := 2) rfl; clear hS HS; go_simp
  try simp only [Act.put]
  refine wpAnyH_ready (rs := [3]) (by kernel_rfl) (by simp) ?_
  refine AllReadyH.cons rfl (fun K hK => ?_) AllReadyH.nil
  go_simp
  refine (HS.out.size (r := p) ⟨A, ca, rfl, HV.out.below ((Below.refl _ _).drew)⟩ hv).mono ?_
  rintro e w1 ⟨rfl, h1, b1⟩
  refine hK.out _ _ h1.ks (fun hS1 => ?_)
  clear hK K hS0
  have hS0 := hS1
  clear hS1
  try simp only [Act.put, List.setIfInBounds_toArray, List.set_cons_zero, List.set_cons_succ]
  replace HS := Lib.hid h1
  clear h1
  clear b1
  refine wpAnyH_ready (rs := [4]) (by kernel_rfl) (by simp) ?_
  refine AllReadyH.cons rfl (fun K hK => ?_) AllReadyH.nil
  go_simp
  refine (HS.out.takex hz (Nat.le_refl _)).mono ?_
  rintro e w2 ⟨v2, rfl, pv2, h2⟩
  refine hK.out _ _ h2.ks (fun hS2 => ?_)
  clear hK K hS0
  have hS0 := hS2
  clear hS2
  try simp only [Act.put, List.setIfInBounds_toArray, List.set_cons_zero, List.set_cons_succ]
  replace HS := Lib.hid h2
  clear h2
  rw [cutL_all hv hk0] at pv2
  refine wpAnyH_ready (rs := [5]) (by kernel_rfl) (by simp) ?_
  refine AllReadyH.cons rfl (fun K hK => ?_) AllReadyH.nil
  go_simp
  refine (HS.out.add pv2 hv hk0 hL).mono ?_
  rintro e w3 ⟨rfl, O3, h3⟩
  refine hK.out _ _ h3.ks (fun hS3 => ?_)
  clear hK K hS0
  have hS0 := hS3
  clear hS3
  try simp only [Act.put, List.setIfInBounds_toArray, List.set_cons_zero, List.set_cons_succ]
  replace HS := Lib.hid h3
  clear h3
  refine wpAnyH_done (by kernel_rfl) (fall_n ?_) _
  clear hS0
  gi_wp2
  exact HQ.out _ _ _ HS.out
set_option maxRecDepth 1000000 in
set_option maxHeartbeats 6400000 in
theorem endP (F : Fz) (KL : List (Nat × Obj)) (O : Nat → Prop) (L : List Pt) (W : World) (p : Pt) (ps : List Pt) (q : Pt) (qs : List Pt) (bx bY bo bp bq l n : Nat) (A B : Option Addr) (ca cb : Nat) {c0 c1 c2 c3 c4 c8 c9 c10 c12 c13 c14 c15 c16 c17 c18 c19 c20 c21 c22 c23 c24 c25 c26 c27 c28 c29 c30 c31 c32 c33 c34 c35 c36 c37 c38 c39 c40 c41 c42 c43 c44 c45 c46 c47 c48 c49 c50 c51 c52 c53 c54 c55 c56 c57 c58 c59 c60 c61 c62 c63 c64 c65 c66 c67 : Value} (Q : Exit → Act → World → Prop) (hs : Co F KL O L W p ps q qs) (mx : (bx, Obj.cells #[.pointer (some ⟨F.gx, 0, none⟩)] 102 (0, 0)) ∈ KL) (my : (bY, Obj.cells #[.pointer (some ⟨F.gy, 0, none⟩)] 102 (0, 0)) ∈ KL) (mo : (bo, Obj.cells #[.pointer (some ⟨F.go, 0, none⟩)] 72 (0, 0)) ∈ KL) (mq : (bq, Obj.cells #[.int .i64 q.kind, .int .i64 q.n, .slice B q.signs.length cb] 67 (0, 0)) ∈ KL) (hr : RdC W F.lo (encInts q.signs) (.slice B q.signs.length cb)) (hk0 : ¬ q.kind = 0) (hz : 0 < sizeP q) (hL : L.length < 100000)
    (hQ : ∀ O' a W', Co F KL O' (L ++ [q]) W' p ps (cutR q (sizeP q)) qs → Q .normal a W') : (rfB 2).wpIn (Fence.wide.inRound l) n Try.prog Q ⟨#[c0, c1, c2, c3, c4, .pointer (some ⟨bx, 0, none⟩), .pointer (some ⟨bY, 0, none⟩), .pointer (some ⟨bo, 0, none⟩), c8, c9, c10, .pointer (some ⟨bq, 0, none⟩), c12, c13, c14, c15, c16, c17, c18, c19, c20, c21, c22, c23, c24, c25, c26, c27, c28, c29, c30, c31, c32, c33, c34, c35, c36, c37, c38, c39, c40, c41, c42, c43, c44, c45, c46, c47, c48, c49, c50, c51, c52, c53, c54, c55, c56, c57, c58, c59, c60, c61, c62, c63, c64, c65, c66, c67], []⟩ W := by
  have HS := Lib.hid hs
  have HQ := Lib.hid hQ
  clear hs hQ
  have hv := HS.out.oy.vp
  have HV := Lib.hid hr
  clear hr
  conv => arg 4; whnf
  gi_wp2_with fail
  have HLO := Lib.hid HS.out.drew.low
  refine wpIn_fall (wpIn_region_held (S := Ks KL) (by kernel_rfl) (noDefer_of (by kernel_rfl)) (Fall.out _) ?_) (fun _ _ h => h)
  replace HS := Lib.hid HS.out.drew
  have hS0 := HS.out.ks
  refine wpAnyH_take (i := 0) (v := .pointer (some ⟨F.go, 0, none⟩)) rfl (by kernel_rfl) (by kernel_rfl) (by kernel_rfl) (fun _ _ _ h => h) (Or.inl ⟨by rfl, fun w' hS => ?_⟩) hS0 ?_
  · have k0 := hS.cell mo (i := 0) rfl; clear hS HS; go_simp
  try simp only [Act.put]
  refine wpAnyH_take (i := 1) (v := .pointer (some ⟨F.gy, 0, none⟩)) rfl (by kernel_rfl) (by kernel_rfl) (by kernel_rfl) (fun _ _ _ h => h) (Or.inl ⟨by rfl, fun w' hS => ?_⟩) hS0 ?_
  · have k0 := hS.cell my (i := 0) rfl; clear hS HS; go_simp
  try simp only [Act.put]
  refine wpAnyH_take (i := 2) (v := (.agg #[.int .i64 q.kind, .int .i64 q.n, .slice B q.signs.length cb])) rfl (by kernel_rfl) (by kernel_rfl) (by kernel_rfl) (fun _ _ _ h => h) (Or.inl ⟨by rfl, fun w' hS => ?_⟩) hS0 ?_
  · have k0 := hS.cell mq (i := 0) rfl; have k1 := hS.cell mq (i := 1) rfl; have k2 := hS.cell mq (i := 2) rfl; clear hS HS; go_simp
  try simp only [Act.put]
  refine wpAnyH_ready (rs := [3]) (by kernel_rfl) (by simp) ?_
  refine AllReadyH.cons rfl (fun K hK => ?_) AllReadyH.nil
  go_simp
  refine (HS.out.size (r := q) ⟨B, cb, rfl, HV.out.below ((Below.refl _ _).drew)⟩ hv).mono ?_
  rintro e w1 ⟨rfl, h1, b1⟩
  refine hK.out _ _ h1.ks (fun hS1 => ?_)
  clear hK K hS0
  have hS0 := hS1
  clear hS1
  try simp only [Act.put, List.setIfInBounds_toArray, List.set_cons_zero, List.set_cons_succ]
  replace HS := Lib.hid h1
  clear h1
  clear b1
  refine wpAnyH_ready (rs := [4]) (by kernel_rfl) (by simp) ?_
  refine AllReadyH.cons rfl (fun K hK => ?_) AllReadyH.nil
  go_simp
  refine (HS.out.takey hz (Nat.le_refl _)).mono ?_
  rintro e w2 ⟨v2, rfl, pv2, h2⟩
  refine hK.out _ _ h2.ks (fun hS2 => ?_)
  clear hK K hS0
  have hS0 := hS2
  clear hS2
  try simp only [Act.put, List.setIfInBounds_toArray, List.set_cons_zero, List.set_cons_succ]
  replace HS := Lib.hid h2
  clear h2
  rw [cutL_all hv hk0] at pv2
  refine wpAnyH_ready (rs := [5]) (by kernel_rfl) (by simp) ?_
  refine AllReadyH.cons rfl (fun K hK => ?_) AllReadyH.nil
  go_simp
  refine (HS.out.add pv2 hv hk0 hL).mono ?_
  rintro e w3 ⟨rfl, O3, h3⟩
  refine hK.out _ _ h3.ks (fun hS3 => ?_)
  clear hK K hS0
  have hS0 := hS3
  clear hS3
  try simp only [Act.put, List.setIfInBounds_toArray, List.set_cons_zero, List.set_cons_succ]
  replace HS := Lib.hid h3
  clear h3
  refine wpAnyH_done (by kernel_rfl) (fall_n ?_) _
  clear hS0
  gi_wp2
  exact HQ.out _ _ _ HS.out
end Go.Proofs.Ytihajkppeiainaa.low


/-
  The program's composition: what its rounds do to the units that are left (the composition's invariant).
-/
namespace Go.Proofs.Ytihajkppeiainaa.low
open Go.RowKit
set_option linter.unusedVariables false

theorem Vp.form {p : Pt} (h : Vp p) (h0 : 0 < sizeP p) : (p.kind = 1 ∧ p = ⟨1, (sizeP p : Int), []⟩ ∧ unitsP p = List.replicate (sizeP p) .k) ∨ (p.kind = 3 ∧ p = ⟨3, (sizeP p : Int), []⟩ ∧ unitsP p = List.replicate (sizeP p) .d) ∨ (p.kind = 2 ∧ p = ⟨2, 0, p.signs⟩ ∧ sizeP p = p.signs.length ∧ unitsP p = p.signs.map .p) := by
  obtain ⟨k, m, zs⟩ := p
  rcases h with ⟨h1, h2, h3, h4⟩ | ⟨h1, h2, h3⟩ | ⟨h1, h2, h3⟩ <;> simp only at * <;> subst_vars
  · rcases h1 with rfl | rfl
    · exact .inl ⟨rfl, by simp [sizeP, Int.toNat_of_nonneg h2], by simp [sizeP, unitsP]⟩
    · exact .inr (.inl ⟨rfl, by simp [sizeP, Int.toNat_of_nonneg h2], by simp [sizeP, unitsP]⟩)
  · exact .inr (.inr ⟨rfl, rfl, by simp [sizeP], by simp [unitsP]⟩)
  · simp [sizeP] at h0
theorem Vp.kind_ne {p : Pt} (h : Vp p) (h0 : 0 < sizeP p) : ¬ p.kind = 0 := by
  rcases h.form h0 with h | h | h <;> omega
theorem units_cut {p : Pt} {n : Nat} (h : Vp p) (hn : n ≤ sizeP p) : unitsP p = unitsP (cutL p n) ++ unitsP (cutR p n) := by
  obtain ⟨k, m, zs⟩ := p
  rcases h with ⟨h1, h2, h3, h4⟩ | ⟨h1, h2, h3⟩ | ⟨h1, h2, h3⟩ <;> simp only at * <;> subst_vars
  · rcases h1 with rfl | rfl
    · simp [sizeP] at hn
      simp [unitsP, cutL, cutR]
      congr 1
      omega
    · simp [sizeP] at hn
      simp [unitsP, cutL, cutR]
      congr 1
      omega
  · simp [unitsP, cutL, cutR]
  · simp [sizeP] at hn
    subst hn
    simp [unitsP, cutL, cutR]
theorem units_cutR_all {p : Pt} (h : Vp p) : unitsP (cutR p (sizeP p)) = [] := by
  have e := congrArg List.length (units_cut h (Nat.le_refl (sizeP p)))
  rw [List.length_append, unitsP_len, unitsP_len (cutL p (sizeP p))] at e
  have : sizeP (cutL p (sizeP p)) = sizeP p := by
    obtain ⟨k, m, zs⟩ := p
    rcases h with ⟨h1, h2, h3, h4⟩ | ⟨h1, h2, h3⟩ | ⟨h1, h2, h3⟩ <;> simp only at * <;> subst_vars
    · have hk : ¬ k = 2 := by omega
      simp [sizeP, cutL, hk]
      omega
    · simp [sizeP, cutL]
    · simp [sizeP, cutL]
  exact List.eq_nil_of_length_eq_zero (by omega)
theorem sizeP_nil {p : Pt} (h : sizeP p = 0) : unitsP p = [] := List.eq_nil_of_length_eq_zero (by rw [unitsP_len, h])
theorem noD_of {p : Pt} {R : List U} (h : Vp p) (h0 : 0 < sizeP p) (hk : ¬ p.kind = 3) : noD (unitsP p ++ R) := by
  rcases h.form h0 with ⟨_, _, e⟩ | ⟨k, _⟩ | ⟨_, _, l, e⟩
  · rw [e]
    obtain ⟨m, hm⟩ : ∃ m, sizeP p = m + 1 := ⟨sizeP p - 1, by omega⟩
    rw [hm, List.replicate_succ]
    trivial
  · exact absurd k hk
  · rw [e]
    cases hz : p.signs with
    | nil => rw [hz] at l; simp at l; omega
    | cons z zs => trivial
theorem tgt_pos {p : Pt} {R : List U} (h : Vp p) (h0 : 0 < sizeP p) (hk : ¬ p.kind = 3) : 0 < tgt (unitsP p ++ R) := by
  rw [tgt_app]
  rcases h.form h0 with ⟨_, _, e⟩ | ⟨k, _⟩ | ⟨_, _, l, e⟩
  · rw [e, (src_rk _).2]; omega
  · exact absurd k hk
  · rw [e, (src_mp _).2]; omega
theorem src_pos {p : Pt} {R : List U} (h : Vp p) (h0 : 0 < sizeP p) (hk : ¬ p.kind = 2) : 0 < src (unitsP p ++ R) := by
  rw [src_app]
  rcases h.form h0 with ⟨_, _, e⟩ | ⟨k, _, e⟩ | ⟨k, _⟩
  · rw [e, (src_rk _).1]; omega
  · rw [e, (src_rd _).1]; omega
  · exact absurd k hk
section
variable {a b L : List Pt} {p q : Pt} {R S RX RY : List U}
theorem CInv.eD (h : CInv a b (unitsP p ++ R) RY L) (hv : Vp p) (h0 : 0 < sizeP p) (hk : p.kind = 3) : CInv a b (unitsP (cutR p (sizeP p)) ++ R) RY (L ++ [p]) := by
  rw [units_cutR_all hv, List.nil_append]
  rcases hv.form h0 with ⟨k, _⟩ | ⟨_, e1, e2⟩ | ⟨k, _⟩
  · omega
  · rw [e2] at h
    rw [e1]
    exact h.drop h0
  · omega
theorem CInv.eP (h : CInv a b RX (unitsP q ++ S) L) (hd : noD RX) (hv : Vp q) (h0 : 0 < sizeP q) (hk : q.kind = 2) : CInv a b RX (unitsP (cutR q (sizeP q)) ++ S) (L ++ [q]) := by
  rw [units_cutR_all hv, List.nil_append]
  rcases hv.form h0 with ⟨k, _⟩ | ⟨k, _⟩ | ⟨_, e1, l, e2⟩
  · omega
  · omega
  · rw [e2] at h
    rw [e1]
    exact h.put hd (by omega)
theorem cutL_n {n : Nat} (hk : ¬ p.kind = 2) : cutL p n = ⟨p.kind, (n : Int), []⟩ := by simp [cutL, hk]
theorem cutL_p {n : Nat} (hk : p.kind = 2) : cutL p n = ⟨2, 0, p.signs.take n⟩ := by simp [cutL, hk]
theorem CInv.eB {m : Nat} (h : CInv a b (unitsP p ++ R) (unitsP q ++ S) L) (hv : Vp p) (hw : Vp q) (h0 : 0 < m) (h1 : m ≤ sizeP p) (h2 : m ≤ sizeP q) (hk : ¬ p.kind = 3) (hk' : ¬ q.kind = 2) : CInv a b (unitsP (cutR p m) ++ R) (unitsP (cutR q m) ++ S) (bothL L (cutL p m) (cutL q m)) := by
  rw [units_cut hv h1, units_cut hw h2, List.append_assoc, List.append_assoc] at h
  rcases hv.form (by omega) with ⟨kp, _⟩ | ⟨kp, _⟩ | ⟨kp, _, lp, _⟩
  · have ep := cutL_n (p := p) (n := m) (by omega)
    rw [kp] at ep
    have up : unitsP (cutL p m) = List.replicate m .k := by rw [ep]; simp [unitsP]
    rcases hw.form (by omega) with ⟨kq, _⟩ | ⟨kq, _⟩ | ⟨kq, _⟩
    · have eq := cutL_n (p := q) (n := m) (by omega)
      rw [kq] at eq
      have uq : unitsP (cutL q m) = List.replicate m .k := by rw [eq]; simp [unitsP]
      rw [up, uq] at h
      rw [ep, eq]
      simpa [bothL] using h.kk h0
    · have eq := cutL_n (p := q) (n := m) (by omega)
      rw [kq] at eq
      have uq : unitsP (cutL q m) = List.replicate m .d := by rw [eq]; simp [unitsP]
      rw [up, uq] at h
      rw [ep, eq]
      simpa [bothL] using h.kd h0
    · omega
  · omega
  · have ep := cutL_p (p := p) (n := m) kp
    have lz : (p.signs.take m).length = m := by rw [List.length_take]; omega
    have up : unitsP (cutL p m) = (p.signs.take m).map .p := by rw [ep]; simp [unitsP]
    rcases hw.form (by omega) with ⟨kq, _⟩ | ⟨kq, _⟩ | ⟨kq, _⟩
    · have eq := cutL_n (p := q) (n := m) (by omega)
      rw [kq] at eq
      have uq : unitsP (cutL q m) = List.replicate (p.signs.take m).length .k := by rw [eq, lz]; simp [unitsP]
      rw [up, uq] at h
      rw [ep, eq]
      simpa [bothL] using h.pk (by omega)
    · have eq := cutL_n (p := q) (n := m) (by omega)
      rw [kq] at eq
      have uq : unitsP (cutL q m) = List.replicate (p.signs.take m).length .d := by rw [eq, lz]; simp [unitsP]
      rw [up, uq] at h
      rw [ep, eq]
      simpa [bothL] using h.pd
    · omega
end
theorem cutR_len {p : Pt} {n : Nat} (h : Vp p) (hn : n ≤ sizeP p) (h0 : 0 < n) : (unitsP (cutR p n)).length < (unitsP p).length := by
  have e := congrArg List.length (units_cut h hn)
  have l : (unitsP (cutL p n)).length = n := by
    obtain ⟨k, m, zs⟩ := p
    rcases h with ⟨h1, h2, h3, h4⟩ | ⟨h1, h2, h3⟩ | ⟨h1, h2, h3⟩ <;> simp only at * <;> subst_vars
    · have hk : ¬ k = 2 := by omega
      rw [unitsP_len]
      simp [sizeP, cutL, hk]
    · simp [sizeP] at hn
      rw [unitsP_len]
      simp [sizeP, cutL]
      omega
    · simp [sizeP] at hn
      omega
  rw [List.length_append, l] at e
  omega
/-- what lies below F.lo reads the same in two worlds of the state -/
theorem Co.rd {F : Fz} {KL KM : List (Nat × Obj)} {O O' : Nat → Prop} {L L' : List Pt} {w w' : World} {p p' : Pt} {ps ps' : List Pt} {q q' : Pt} {qs qs' : List Pt} (h : Co F KL O L w p ps q qs) (h' : Co F KM O' L' w' p' ps' q' qs') {d : Dat} {v : Value} (hr : RdC w F.lo d v) : RdC w' F.lo d v :=
  RdC.keep (fun _ hp => (h'.bl.cell hp).trans (h.bl.cell hp).symm) d v hr
end Go.Proofs.Ytihajkppeiainaa.low


/-
  The ranges over functions of impl.composed, as statements.
-/
namespace Go.Proofs.Ytihajkppeiainaa.low
open Go.RowKit
set_option linter.unusedVariables false
attribute [local go_sem] Oper.semAt_some


theorem wpIn_body {F : Fence} {n : Nat} {P : Program} {c c' : Code} {Q : Exit → Act → World → Prop} {a : Act} {w : World} (e : c = c') (h : c'.wpIn F n P Q a w) : c.wpIn F n P Q a w := e ▸ h
theorem rem_enters (args : Array Value) (w : World) : (callFunc 77 args).run Try.prog w = .ok (.enter 77 args) w := enters_of Try.func77 (by kernel_rfl) rfl args w
/-- the value that a reader holds -/
theorem Orr.val {lo g : Nat} {w : World} {p : Pt} {ps : List Pt} (h : Orr lo g w p ps) : ∃ B cb, w.cell? ⟨g, 0, none⟩ = some (.int .i64 p.kind) ∧ w.cell? ⟨g, 1, none⟩ = some (.int .i64 p.n) ∧ w.cell? ⟨g, 2, none⟩ = some (.slice B p.signs.length cb) ∧ RdC w lo (encInts p.signs) (.slice B p.signs.length cb) := by
  obtain ⟨B, cb, A, c, h1, h2, h3⟩ := h.box
  exact ⟨B, cb, cell_of_row _ _ 0 _ _ _ h1, cell_of_row _ _ 1 _ _ _ h1, cell_of_row _ _ 2 _ _ _ h1, h2⟩
/-- the inner loop between two rounds -/
def InJ (F : Fz) (KL : List (Nat × Obj)) (a b : List Pt) (p : Pt) (ps : List Pt) (m : Nat) (w : World) : Prop := ∃ O L q qs, Co F KL O L w p ps q qs ∧ CInv a b (unitsP p ++ units ps) (unitsP q ++ units qs) L ∧ m = (unitsP q ++ units qs).length
/-- a part of b has come -/
def InY (F : Fz) (KL : List (Nat × Obj)) (a b : List Pt) (p : Pt) (ps : List Pt) (m : Nat) (q : Pt) (v : Value) (w : World) : Prop := ∃ O L qs B cb, v = .agg #[.int .i64 q.kind, .int .i64 q.n, .slice B q.signs.length cb] ∧ RdC w F.lo (encInts q.signs) (.slice B q.signs.length cb) ∧ Co F KL O L w p ps q qs ∧ CInv a b (unitsP p ++ units ps) (unitsP q ++ units qs) L ∧ m = (unitsP q ++ units qs).length ∧ 0 < sizeP q
/-- a part of a has met one of b -/
def InX (F : Fz) (KL : List (Nat × Obj)) (a b : List Pt) (p : Pt) (ps : List Pt) (w : World) : Prop := ∃ O L p' q' qs', Co F KL O L w p' ps q' qs' ∧ CInv a b (unitsP p' ++ units ps) (unitsP q' ++ units qs') L ∧ (unitsP p').length < (unitsP p).length
theorem InX.put {F : Fz} {KL : List (Nat × Obj)} {a b : List Pt} {p : Pt} {ps : List Pt} {w : World} {l : Nat} {o o' : Obj} (h : InX F ((l, o) :: KL) a b p ps w) (hn : ∀ x ∈ KL, ¬ x.1 = l) : InX F ((l, o') :: KL) a b p ps (w.putObj l o') := by
  obtain ⟨O, L, p', q', qs', h1, h2⟩ := h
  exact ⟨O, L, p', q', qs', h1.put hn, h2⟩
theorem InX.less {F : Fz} {KL KM : List (Nat × Obj)} {a b : List Pt} {p : Pt} {ps : List Pt} {w : World} (h : InX F KL a b p ps w) (hs : ∀ x ∈ KM, x ∈ KL) : InX F KM a b p ps w := by
  obtain ⟨O, L, p', q', qs', h1, h2⟩ := h
  exact ⟨O, L, p', q', qs', h1.less hs, h2⟩
/-- a look for more in b: there is more -/
theorem inMore {F : Fz} {KL : List (Nat × Obj)} {a b : List Pt} {p : Pt} {ps : List Pt} (hz : 0 < sizeP p) (hk : ¬ p.kind = 3) (m : Nat) (w : World) (h : InJ F KL a b p ps m w) : Calls Try.prog 91 #[.pointer (some ⟨F.gy, 0, none⟩)] w (MoreJ F.gy (InY F KL a b p ps m) (fun _ => False)) := by
  obtain ⟨O, L, q, qs, hc, hi, hm⟩ := h
  refine hc.morey.mono ?_
  rintro e w' ⟨q', qs', rfl, h1, h2, h3⟩
  have hi' : CInv a b (unitsP p ++ units ps) (unitsP q' ++ units qs') L := by rw [h2]; exact hi
  by_cases h0 : 0 < sizeP q'
  · obtain ⟨B, cb, k0, k1, k2, kr⟩ := h1.oy.val
    exact .inl ⟨q', B, cb, by simp [h0], k0, k1, k2, O, L, qs', B, cb, rfl, kr, h1, hi', by rw [h2]; exact hm, h0⟩
  · have e1 := sizeP_nil (p := q') (by omega)
    have e2 := h3 (by omega)
    have hb := hi'.bal
    rw [e1, e2] at hb
    have := tgt_pos (R := units ps) h1.ox.vp hz hk
    have e0 : src ([] ++ units []) = 0 := by simp [units, src]
    rw [e0] at hb
    omega

set_option maxRecDepth 1000000 in
set_option maxHeartbeats 3200000 in
/-- a round of the inner loop -/
theorem inYield (F : Fz) (base : List (Nat × Obj)) (a b : List Pt) (p : Pt) (ps : List Pt) (bx bY bo bp l2 n D : Nat) (fn : FuncId) (A : Option Addr) (ca : Nat) {c0 c1 c2 c3 c4 c9 c10 c11 c12 c13 c14 c15 c16 c17 c18 c19 c20 c21 c22 c23 c24 c25 c26 c27 c28 c29 c30 c31 c32 c34 c35 c36 c37 c38 c39 c40 c41 c42 c43 c44 c45 c46 c47 c48 c49 c50 c51 c52 c53 c54 c55 c56 c57 c58 c59 c60 c61 c62 c63 c64 c65 c66 c67 : Value} (mx : (bx, Obj.cells #[.pointer (some ⟨F.gx, 0, none⟩)] 102 (0, 0)) ∈ base) (my : (bY, Obj.cells #[.pointer (some ⟨F.gy, 0, none⟩)] 102 (0, 0)) ∈ base) (mo : (bo, Obj.cells #[.pointer (some ⟨F.go, 0, none⟩)] 72 (0, 0)) ∈ base) (mp : (bp, Obj.cells #[.int .i64 p.kind, .int .i64 p.n, .slice A p.signs.length ca] 67 (0, 0)) ∈ base) (hr : RdC F.w0 F.lo (encInts p.signs) (.slice A p.signs.length ca)) (hz : 0 < sizeP p) (hkp : ¬ p.kind = 3) (hnl : ∀ x ∈ base, ¬ x.1 = l2)
    (r2 : Loop) (hr2 : r2 = recOf fn #[c0, c1, c2, c3, c4, .pointer (some ⟨bx, 0, none⟩), .pointer (some ⟨bY, 0, none⟩), .pointer (some ⟨bo, 0, none⟩), .pointer (some ⟨bp, 0, none⟩), c9, c10, c11, c12, c13, c14, c15, c16, c17, c18, c19, c20, c21, c22, c23, c24, c25, c26, c27, c28, c29, c30, c31, c32, .func (.func 77) #[.pointer (some ⟨F.gy, 0, none⟩)] #[], c34, c35, c36, c37, c38, c39, c40, c41, c42, c43, c44, c45, c46, c47, c48, c49, c50, c51, c52, c53, c54, c55, c56, c57, c58, c59, c60, c61, c62, c63, c64, c65, c66, c67] #[34] (rfA 1) (rfB 1) D) (m : Nat) (q' : Pt) (v : Value) (w : World) (h : InY F ((l2, .loop r2) :: base) a b p ps m q' v w) :
    YieldAt Fence.wide n Try.prog l2 #[v] w (RoundJ (InJ F ((l2, .loop r2) :: base) a b p ps) m (fun w' => InX F ((l2, .loop { r2 with state := .done, pending := some (.exit 1) }) :: base) a b p ps w')) := by
  obtain ⟨O, L, qs, B, cb, rfl, hrq, hc, hi, hm, h0⟩ := h
  have hl := (hc.kp _ (List.mem_cons_self)).1
  simp only at hl
  have hlt := lt_of_some hl
  have hLb : L.length < 100000 := by have := hi.len; omega
  refine yield_of (r := r2) (K := fun a₁ w₁ => a₁ = ⟨#[c0, c1, c2, c3, c4, .pointer (some ⟨bx, 0, none⟩), .pointer (some ⟨bY, 0, none⟩), .pointer (some ⟨bo, 0, none⟩), .pointer (some ⟨bp, 0, none⟩), .pointer (some ⟨w.heap.size, 0, none⟩), c10, c11, c12, c13, c14, c15, c16, c17, c18, c19, c20, c21, c22, c23, c24, c25, c26, c27, c28, c29, c30, c31, c32, .func (.func 77) #[.pointer (some ⟨F.gy, 0, none⟩)] #[], (.agg #[.int .i64 q'.kind, .int .i64 q'.n, .slice B q'.signs.length cb]), c35, c36, c37, c38, c39, c40, c41, c42, c43, c44, c45, c46, c47, c48, c49, c50, c51, c52, c53, c54, c55, c56, c57, c58, c59, c60, c61, c62, c63, c64, c65, c66, c67], []⟩ ∧ w₁ = w.alloc (.cells #[.int .i64 q'.kind, .int .i64 q'.n, .slice B q'.signs.length cb] 67)) hl (by rw [hr2]; rfl) (by rw [hr2]; rfl) ?assign ?body
  case assign =>
    have HR2 := Lib.hid hr2
    clear hr2 hm hi hc hrq
    rw [HR2.out]
    simp only [recOf, List.zip_toArray, List.zip_cons_cons, List.zip_nil_right, List.size_toArray, List.length_cons, List.length_nil, List.foldl_toArray', List.foldl_cons, List.foldl_nil, List.setIfInBounds_toArray, List.set_cons_zero, List.set_cons_succ]
    conv => arg 4; whnf
    gi_wp2
  case body =>
    rintro a₁ w₁ ⟨rfl, rfl⟩
    have hb := alloc_below w (.cells #[.int .i64 q'.kind, .int .i64 q'.n, .slice B q'.signs.length cb] 67)
    refine ⟨(hb.block _ hlt).trans hl, ?_⟩
    have c1 := hc.also hb (Nat.le_refl _) (heap_alloc_new w (.cells #[.int .i64 q'.kind, .int .i64 q'.n, .slice B q'.signs.length cb] 67))
    have c2 : Co F ((l2, .loop r2) :: (w.heap.size, .cells #[.int .i64 q'.kind, .int .i64 q'.n, .slice B q'.signs.length cb] 67) :: base) O L (w.alloc (.cells #[.int .i64 q'.kind, .int .i64 q'.n, .slice B q'.signs.length cb] 67)) p ps q' qs := c1.less (fun x hx => by simp only [List.mem_cons] at hx ⊢; rcases hx with h | h | h <;> simp [h])
    have hn2 : ∀ x ∈ (w.heap.size, .cells #[.int .i64 q'.kind, .int .i64 q'.n, .slice B q'.signs.length cb] 67) :: base, ¬ x.1 = l2 := fun x hx => by
      rcases List.mem_cons.1 hx with rfl | hx
      · show ¬ w.heap.size = l2; omega
      · exact hnl x hx
    have c3 := c2.put (o' := .loop { r2 with state := .busy }) hn2
    have eb : r2.body = rfB 1 := by rw [hr2]; rfl
    have ed : Loop.mk .ready none r2.fn r2.tmps r2.params r2.assign r2.body r2.defers = r2 := by rw [hr2]; rfl
    have hv := hc.ox.vp
    have hw := hc.oy.vp
    have hdrop : ∀ (o : Obj) (x : Nat × Obj), x ∈ (l2, o) :: base → x ∈ (l2, o) :: (w.heap.size, .cells #[.int .i64 q'.kind, .int .i64 q'.n, .slice B q'.signs.length cb] 67) :: base := fun o x hx => by
      rcases List.mem_cons.1 hx with h | h <;> simp [h]
    refine wpIn_body eb ?_
    by_cases hk : q'.kind = 2
    · refine innP F _ O L _ p ps q' qs bx bY bo bp w.heap.size l2 n A B ca cb _ c3 (by simp [mx]) (by simp [my]) (by simp [mo]) (by simp) (hc.rd c3 hrq) hk h0 hLb ?_
      intro O' a' W' c4
      refine ⟨c4.ks (l2, _) (by simp), .inl ⟨rfl, (unitsP (cutR q' (sizeP q')) ++ units qs).length, ?_, O', L ++ [q'], cutR q' (sizeP q'), qs, ?_, hi.eP (noD_of hv hz hkp) hw h0 hk, rfl⟩⟩
      · rw [hm, units_cutR_all hw, List.length_append, List.length_append, unitsP_len]
        simp
        omega
      · have c5 := (c4.put (o' := .loop r2) hn2).less (hdrop _)
        rw [← ed] at c5 ⊢
        exact c5
    · refine innB F _ O L _ p ps q' qs bx bY bo bp w.heap.size l2 n A B ca cb _ c3 (by simp [mx]) (by simp [my]) (by simp [mo]) (by simp [mp]) (by simp) (RdC.keep (fun _ hp => c3.bl.cell hp) _ _ hr) (hc.rd c3 hrq) hk (hv.kind_ne hz) (hw.kind_ne h0) hz h0 (min (sizeP p) (sizeP q')) rfl hLb ?_
      intro O' a' W' c4
      refine ⟨c4.ks (l2, _) (by simp), .inr ⟨rfl, O', _, _, _, qs, (c4.put hn2).less (hdrop _), hi.eB hv hw (by omega) (by omega) (by omega) hkp hk, cutR_len hv (by omega) (by omega)⟩⟩

set_option maxRecDepth 1000000 in
set_option maxHeartbeats 3200000 in
/-- the inner loop -/
theorem innLoop (F : Fz) (base : List (Nat × Obj)) (O : Nat → Prop) (L : List Pt) (W : World) (a b : List Pt) (p : Pt) (ps : List Pt) (q : Pt) (qs : List Pt) (bx bY bo bp l n : Nat) (A : Option Addr) (ca : Nat) {c0 c1 c2 c3 c4 c9 c10 c11 c12 c13 c14 c15 c16 c17 c18 c19 c20 c21 c22 c23 c24 c25 c26 c27 c28 c29 c30 c31 c32 c34 c35 c36 c37 c38 c39 c40 c41 c42 c43 c44 c45 c46 c47 c48 c49 c50 c51 c52 c53 c54 c55 c56 c57 c58 c59 c60 c61 c62 c63 c64 c65 c66 c67 : Value} (mx : (bx, Obj.cells #[.pointer (some ⟨F.gx, 0, none⟩)] 102 (0, 0)) ∈ base) (my : (bY, Obj.cells #[.pointer (some ⟨F.gy, 0, none⟩)] 102 (0, 0)) ∈ base) (mo : (bo, Obj.cells #[.pointer (some ⟨F.go, 0, none⟩)] 72 (0, 0)) ∈ base) (mp : (bp, Obj.cells #[.int .i64 p.kind, .int .i64 p.n, .slice A p.signs.length ca] 67 (0, 0)) ∈ base) (hr : RdC F.w0 F.lo (encInts p.signs) (.slice A p.signs.length ca)) (hz : 0 < sizeP p) (hkp : ¬ p.kind = 3)
    (r : Loop) (ml : (l, Obj.loop r) ∈ base) (Q : Exit → Act → World → Prop) (hs : Co F base O L W p ps q qs) (hi : CInv a b (unitsP p ++ units ps) (unitsP q ++ units qs) L) (hQ : ∀ a' W', InX F base a b p ps W' → Q (.exit 1) a' W') :
    (Code.rangeFunc (.tmp 33) #[34] (rfA 1) (rfB 1)).wpIn (Fence.wide.inRound l) n Try.prog Q ⟨#[c0, c1, c2, c3, c4, .pointer (some ⟨bx, 0, none⟩), .pointer (some ⟨bY, 0, none⟩), .pointer (some ⟨bo, 0, none⟩), .pointer (some ⟨bp, 0, none⟩), c9, c10, c11, c12, c13, c14, c15, c16, c17, c18, c19, c20, c21, c22, c23, c24, c25, c26, c27, c28, c29, c30, c31, c32, .func (.func 77) #[.pointer (some ⟨F.gy, 0, none⟩)] #[], c34, c35, c36, c37, c38, c39, c40, c41, c42, c43, c44, c45, c46, c47, c48, c49, c50, c51, c52, c53, c54, c55, c56, c57, c58, c59, c60, c61, c62, c63, c64, c65, c66, c67], []⟩ W := by
  have hlt : ∀ x ∈ base, ¬ x.1 = W.heap.size := fun x hx => by have := lt_of_some (hs.kp x hx).1; omega
  have hc1 : ∀ fn, Co F ((W.heap.size, .loop (recOf fn #[c0, c1, c2, c3, c4, .pointer (some ⟨bx, 0, none⟩), .pointer (some ⟨bY, 0, none⟩), .pointer (some ⟨bo, 0, none⟩), .pointer (some ⟨bp, 0, none⟩), c9, c10, c11, c12, c13, c14, c15, c16, c17, c18, c19, c20, c21, c22, c23, c24, c25, c26, c27, c28, c29, c30, c31, c32, .func (.func 77) #[.pointer (some ⟨F.gy, 0, none⟩)] #[], c34, c35, c36, c37, c38, c39, c40, c41, c42, c43, c44, c45, c46, c47, c48, c49, c50, c51, c52, c53, c54, c55, c56, c57, c58, c59, c60, c61, c62, c63, c64, c65, c66, c67] #[34] (rfA 1) (rfB 1) r.defers)) :: base) O L (W.alloc (.loop (recOf fn #[c0, c1, c2, c3, c4, .pointer (some ⟨bx, 0, none⟩), .pointer (some ⟨bY, 0, none⟩), .pointer (some ⟨bo, 0, none⟩), .pointer (some ⟨bp, 0, none⟩), c9, c10, c11, c12, c13, c14, c15, c16, c17, c18, c19, c20, c21, c22, c23, c24, c25, c26, c27, c28, c29, c30, c31, c32, .func (.func 77) #[.pointer (some ⟨F.gy, 0, none⟩)] #[], c34, c35, c36, c37, c38, c39, c40, c41, c42, c43, c44, c45, c46, c47, c48, c49, c50, c51, c52, c53, c54, c55, c56, c57, c58, c59, c60, c61, c62, c63, c64, c65, c66, c67] #[34] (rfA 1) (rfB 1) r.defers))) p ps q qs := fun fn => hs.also (alloc_below _ _) (Nat.le_refl _) (heap_alloc_new W (.loop (recOf fn #[c0, c1, c2, c3, c4, .pointer (some ⟨bx, 0, none⟩), .pointer (some ⟨bY, 0, none⟩), .pointer (some ⟨bo, 0, none⟩), .pointer (some ⟨bp, 0, none⟩), c9, c10, c11, c12, c13, c14, c15, c16, c17, c18, c19, c20, c21, c22, c23, c24, c25, c26, c27, c28, c29, c30, c31, c32, .func (.func 77) #[.pointer (some ⟨F.gy, 0, none⟩)] #[], c34, c35, c36, c37, c38, c39, c40, c41, c42, c43, c44, c45, c46, c47, c48, c49, c50, c51, c52, c53, c54, c55, c56, c57, c58, c59, c60, c61, c62, c63, c64, c65, c66, c67] #[34] (rfA 1) (rfB 1) r.defers)))
  refine rf_inner (l₀ := l) (r₀ := r) (gf := 77) (b := #[.pointer (some ⟨F.gy, 0, none⟩)]) (Jd := fun _ => False) (Jx := fun c w' => c = .exit 1 ∧ ∃ fn, InX F ((W.heap.size, .loop { (recOf fn #[c0, c1, c2, c3, c4, .pointer (some ⟨bx, 0, none⟩), .pointer (some ⟨bY, 0, none⟩), .pointer (some ⟨bo, 0, none⟩), .pointer (some ⟨bp, 0, none⟩), c9, c10, c11, c12, c13, c14, c15, c16, c17, c18, c19, c20, c21, c22, c23, c24, c25, c26, c27, c28, c29, c30, c31, c32, .func (.func 77) #[.pointer (some ⟨F.gy, 0, none⟩)] #[], c34, c35, c36, c37, c38, c39, c40, c41, c42, c43, c44, c45, c46, c47, c48, c49, c50, c51, c52, c53, c54, c55, c56, c57, c58, c59, c60, c61, c62, c63, c64, c65, c66, c67] #[34] (rfA 1) (rfB 1) r.defers) with state := .done, pending := some (.exit 1) }) :: base) a b p ps w') (hs.kp _ ml).1 rfl rem_enters (fun fn => ?_) (fun _ h => h) (fun fn c w' hl hx => ?_)
  · refine (implRemaining (n - 1) F.gy W.heap.size (InJ F ((W.heap.size, .loop (recOf fn #[c0, c1, c2, c3, c4, .pointer (some ⟨bx, 0, none⟩), .pointer (some ⟨bY, 0, none⟩), .pointer (some ⟨bo, 0, none⟩), .pointer (some ⟨bp, 0, none⟩), c9, c10, c11, c12, c13, c14, c15, c16, c17, c18, c19, c20, c21, c22, c23, c24, c25, c26, c27, c28, c29, c30, c31, c32, .func (.func 77) #[.pointer (some ⟨F.gy, 0, none⟩)] #[], c34, c35, c36, c37, c38, c39, c40, c41, c42, c43, c44, c45, c46, c47, c48, c49, c50, c51, c52, c53, c54, c55, c56, c57, c58, c59, c60, c61, c62, c63, c64, c65, c66, c67] #[34] (rfA 1) (rfB 1) r.defers)) :: base) a b p ps) (InY F ((W.heap.size, .loop (recOf fn #[c0, c1, c2, c3, c4, .pointer (some ⟨bx, 0, none⟩), .pointer (some ⟨bY, 0, none⟩), .pointer (some ⟨bo, 0, none⟩), .pointer (some ⟨bp, 0, none⟩), c9, c10, c11, c12, c13, c14, c15, c16, c17, c18, c19, c20, c21, c22, c23, c24, c25, c26, c27, c28, c29, c30, c31, c32, .func (.func 77) #[.pointer (some ⟨F.gy, 0, none⟩)] #[], c34, c35, c36, c37, c38, c39, c40, c41, c42, c43, c44, c45, c46, c47, c48, c49, c50, c51, c52, c53, c54, c55, c56, c57, c58, c59, c60, c61, c62, c63, c64, c65, c66, c67] #[34] (rfA 1) (rfB 1) r.defers)) :: base) a b p ps) (fun _ => False) (fun w' => InX F ((W.heap.size, .loop { (recOf fn #[c0, c1, c2, c3, c4, .pointer (some ⟨bx, 0, none⟩), .pointer (some ⟨bY, 0, none⟩), .pointer (some ⟨bo, 0, none⟩), .pointer (some ⟨bp, 0, none⟩), c9, c10, c11, c12, c13, c14, c15, c16, c17, c18, c19, c20, c21, c22, c23, c24, c25, c26, c27, c28, c29, c30, c31, c32, .func (.func 77) #[.pointer (some ⟨F.gy, 0, none⟩)] #[], c34, c35, c36, c37, c38, c39, c40, c41, c42, c43, c44, c45, c46, c47, c48, c49, c50, c51, c52, c53, c54, c55, c56, c57, c58, c59, c60, c61, c62, c63, c64, c65, c66, c67] #[34] (rfA 1) (rfB 1) r.defers) with state := .done, pending := some (.exit 1) }) :: base) a b p ps w') _ _ (inMore hz hkp) (fun m q' v w h => inYield F base a b p ps bx bY bo bp W.heap.size (n - 1 - 1) r.defers fn A ca mx my mo mp hr hz hkp hlt (recOf fn #[c0, c1, c2, c3, c4, .pointer (some ⟨bx, 0, none⟩), .pointer (some ⟨bY, 0, none⟩), .pointer (some ⟨bo, 0, none⟩), .pointer (some ⟨bp, 0, none⟩), c9, c10, c11, c12, c13, c14, c15, c16, c17, c18, c19, c20, c21, c22, c23, c24, c25, c26, c27, c28, c29, c30, c31, c32, .func (.func 77) #[.pointer (some ⟨F.gy, 0, none⟩)] #[], c34, c35, c36, c37, c38, c39, c40, c41, c42, c43, c44, c45, c46, c47, c48, c49, c50, c51, c52, c53, c54, c55, c56, c57, c58, c59, c60, c61, c62, c63, c64, c65, c66, c67] #[34] (rfA 1) (rfB 1) r.defers) rfl m q' v w h) ⟨O, L, q, qs, hc1 fn, hi, rfl⟩).mono ?_
    rintro e w' ⟨h1, (h2 | h2)⟩
    · exact h2.elim
    · refine ⟨h1, .inr ⟨.exit 1, ?_, rfl, fn, h2⟩⟩
      obtain ⟨O', L', p', q', qs', h3, _⟩ := h2
      exact (h3.kp _ (List.mem_cons_self)).1
  · obtain ⟨rfl, fn', hx⟩ := hx
    refine wpIn_exit (hQ _ _ ?_)
    exact (hx.put (o' := .loop { (recOf fn #[c0, c1, c2, c3, c4, .pointer (some ⟨bx, 0, none⟩), .pointer (some ⟨bY, 0, none⟩), .pointer (some ⟨bo, 0, none⟩), .pointer (some ⟨bp, 0, none⟩), c9, c10, c11, c12, c13, c14, c15, c16, c17, c18, c19, c20, c21, c22, c23, c24, c25, c26, c27, c28, c29, c30, c31, c32, .func (.func 77) #[.pointer (some ⟨F.gy, 0, none⟩)] #[], c34, c35, c36, c37, c38, c39, c40, c41, c42, c43, c44, c45, c46, c47, c48, c49, c50, c51, c52, c53, c54, c55, c56, c57, c58, c59, c60, c61, c62, c63, c64, c65, c66, c67] #[34] (rfA 1) (rfB 1) r.defers) with state := .exhausted, pending := some (.exit 1) }) hlt).less (fun x hx => List.mem_cons_of_mem _ hx)
end Go.Proofs.Ytihajkppeiainaa.low


/-
  The outer range over a function of impl.composed, and the last one.
-/
namespace Go.Proofs.Ytihajkppeiainaa.low
open Go.RowKit
set_option linter.unusedVariables false
attribute [local go_sem] Oper.semAt_some


set_option maxRecDepth 1000000 in
set_option maxHeartbeats 3200000 in
/-- the outer round, where a part of a goes on against b -/
theorem outN (F : Fz) (KL : List (Nat × Obj)) (O : Nat → Prop) (L : List Pt) (W : World) (a b : List Pt) (p : Pt) (ps : List Pt) (q : Pt) (qs : List Pt) (bx bY bo bp l n : Nat) (A : Option Addr) (ca : Nat) {c0 c1 c2 c3 c4 c9 c10 c11 c12 c13 c14 c15 c16 c17 c18 c19 c20 c21 c22 c23 c24 c25 c26 c27 c28 c29 c30 c31 c32 c33 c34 c35 c36 c37 c38 c39 c40 c41 c42 c43 c44 c45 c46 c47 c48 c49 c50 c51 c52 c53 c54 c55 c56 c57 c58 c59 c60 c61 c62 c63 c64 c65 c66 c67 : Value} (mx : (bx, Obj.cells #[.pointer (some ⟨F.gx, 0, none⟩)] 102 (0, 0)) ∈ KL) (my : (bY, Obj.cells #[.pointer (some ⟨F.gy, 0, none⟩)] 102 (0, 0)) ∈ KL) (mo : (bo, Obj.cells #[.pointer (some ⟨F.go, 0, none⟩)] 72 (0, 0)) ∈ KL) (mp : (bp, Obj.cells #[.int .i64 p.kind, .int .i64 p.n, .slice A p.signs.length ca] 67 (0, 0)) ∈ KL) (hr : RdC F.w0 F.lo (encInts p.signs) (.slice A p.signs.length ca)) (hz : 0 < sizeP p) (hkp : ¬ p.kind = 3)
    (r : Loop) (ml : (l, Obj.loop r) ∈ KL) (Q : Exit → Act → World → Prop) (hs : Co F KL O L W p ps q qs) (hi : CInv a b (unitsP p ++ units ps) (unitsP q ++ units qs) L) (hQ : ∀ a' W', InX F KL a b p ps W' → Q .normal a' W') :
    (rfB 0).wpIn (Fence.wide.inRound l) n Try.prog Q ⟨#[c0, c1, c2, c3, c4, .pointer (some ⟨bx, 0, none⟩), .pointer (some ⟨bY, 0, none⟩), .pointer (some ⟨bo, 0, none⟩), .pointer (some ⟨bp, 0, none⟩), c9, c10, c11, c12, c13, c14, c15, c16, c17, c18, c19, c20, c21, c22, c23, c24, c25, c26, c27, c28, c29, c30, c31, c32, c33, c34, c35, c36, c37, c38, c39, c40, c41, c42, c43, c44, c45, c46, c47, c48, c49, c50, c51, c52, c53, c54, c55, c56, c57, c58, c59, c60, c61, c62, c63, c64, c65, c66, c67], []⟩ W := by
  have k0 : W.cell? ⟨bp, 0, none⟩ = some (.int .i64 p.kind) := hs.ks.cell mp (i := 0) rfl
  have k1 : W.cell? ⟨bY, 0, none⟩ = some (.pointer (some ⟨F.gy, 0, none⟩)) := hs.ks.cell my (i := 0) rfl
  have g0 : (p.kind == 3) = false := by simp [hkp]
  have HS := Lib.hid hs
  have HI := Lib.hid hi
  have HQ := Lib.hid hQ
  have HR := Lib.hid hr
  clear hs hi hQ hr
  conv => arg 4; whnf
  gi_wp2_with fail
  exact innLoop F KL O L W a b p ps q qs bx bY bo bp l n A ca mx my mo mp HR.out hz hkp r ml _ HS.out HI.out (fun a' W' h => by simp only [Exit.inBlock, ↓reduceIte, Nat.reduceEqDiff]; exact HQ.out a' W' h)
def OutJ (F : Fz) (KL : List (Nat × Obj)) (a b : List Pt) (m : Nat) (w : World) : Prop := ∃ O L p ps q qs, Co F KL O L w p ps q qs ∧ CInv a b (unitsP p ++ units ps) (unitsP q ++ units qs) L ∧ m = (unitsP p ++ units ps).length
def OutY (F : Fz) (KL : List (Nat × Obj)) (a b : List Pt) (m : Nat) (p : Pt) (v : Value) (w : World) : Prop := ∃ O L ps q qs B cb, v = .agg #[.int .i64 p.kind, .int .i64 p.n, .slice B p.signs.length cb] ∧ RdC w F.lo (encInts p.signs) (.slice B p.signs.length cb) ∧ Co F KL O L w p ps q qs ∧ CInv a b (unitsP p ++ units ps) (unitsP q ++ units qs) L ∧ m = (unitsP p ++ units ps).length ∧ 0 < sizeP p
def EndJ (F : Fz) (KL : List (Nat × Obj)) (a b : List Pt) (m : Nat) (w : World) : Prop := ∃ O L p q qs, Co F KL O L w p [] q qs ∧ CInv a b [] (unitsP q ++ units qs) L ∧ m = (unitsP q ++ units qs).length
def OutD (F : Fz) (KL : List (Nat × Obj)) (a b : List Pt) (w : World) : Prop := ∃ m, EndJ F KL a b m w
def EndY (F : Fz) (KL : List (Nat × Obj)) (a b : List Pt) (m : Nat) (q : Pt) (v : Value) (w : World) : Prop := ∃ O L p qs B cb, v = .agg #[.int .i64 q.kind, .int .i64 q.n, .slice B q.signs.length cb] ∧ RdC w F.lo (encInts q.signs) (.slice B q.signs.length cb) ∧ Co F KL O L w p [] q qs ∧ CInv a b [] (unitsP q ++ units qs) L ∧ m = (unitsP q ++ units qs).length ∧ 0 < sizeP q
def EndD (F : Fz) (KL : List (Nat × Obj)) (a b : List Pt) (w : World) : Prop := ∃ O L p q, Co F KL O L w p [] q [] ∧ CInv a b [] [] L
theorem outMore {F : Fz} {KL : List (Nat × Obj)} {a b : List Pt} (m : Nat) (w : World) (h : OutJ F KL a b m w) : Calls Try.prog 91 #[.pointer (some ⟨F.gx, 0, none⟩)] w (MoreJ F.gx (OutY F KL a b m) (OutD F KL a b)) := by
  obtain ⟨O, L, p, ps, q, qs, hc, hi, hm⟩ := h
  refine hc.morex.mono ?_
  rintro e w' ⟨q', qs', rfl, h1, h2, h3⟩
  rw [← h2] at hi hm
  by_cases h0 : 0 < sizeP q'
  · obtain ⟨B, cb, k0, k1, k2, kr⟩ := h1.ox.val
    exact .inl ⟨q', B, cb, by simp [h0], k0, k1, k2, O, L, qs', q, qs, B, cb, rfl, kr, h1, hi, hm, h0⟩
  · have e1 := sizeP_nil (p := q') (by omega)
    obtain rfl := h3 (by omega)
    rw [e1] at hi
    exact .inr ⟨by simp [h0], _, O, L, q', q, qs, h1, hi, rfl⟩
theorem endMore {F : Fz} {KL : List (Nat × Obj)} {a b : List Pt} (m : Nat) (w : World) (h : EndJ F KL a b m w) : Calls Try.prog 91 #[.pointer (some ⟨F.gy, 0, none⟩)] w (MoreJ F.gy (EndY F KL a b m) (EndD F KL a b)) := by
  obtain ⟨O, L, p, q, qs, hc, hi, hm⟩ := h
  refine hc.morey.mono ?_
  rintro e w' ⟨q', qs', rfl, h1, h2, h3⟩
  rw [← h2] at hi hm
  by_cases h0 : 0 < sizeP q'
  · obtain ⟨B, cb, k0, k1, k2, kr⟩ := h1.oy.val
    exact .inl ⟨q', B, cb, by simp [h0], k0, k1, k2, O, L, p, qs', B, cb, rfl, kr, h1, hi, hm, h0⟩
  · have e1 := sizeP_nil (p := q') (by omega)
    obtain rfl := h3 (by omega)
    rw [e1] at hi
    exact .inr ⟨by simp [h0], O, L, p, q', h1, hi⟩

set_option maxRecDepth 1000000 in
set_option maxHeartbeats 3200000 in
theorem outYield (F : Fz) (base : List (Nat × Obj)) (a b : List Pt) (bx bY bo l n D : Nat) (fn : FuncId) {c0 c1 c2 c3 c4 c8 c9 c10 c11 c12 c13 c14 c15 c16 c17 c18 c19 c20 c22 c23 c24 c25 c26 c27 c28 c29 c30 c31 c32 c33 c34 c35 c36 c37 c38 c39 c40 c41 c42 c43 c44 c45 c46 c47 c48 c49 c50 c51 c52 c53 c54 c55 c56 c57 c58 c59 c60 c61 c62 c63 c64 c65 c66 c67 : Value} (mx : (bx, Obj.cells #[.pointer (some ⟨F.gx, 0, none⟩)] 102 (0, 0)) ∈ base) (my : (bY, Obj.cells #[.pointer (some ⟨F.gy, 0, none⟩)] 102 (0, 0)) ∈ base) (mo : (bo, Obj.cells #[.pointer (some ⟨F.go, 0, none⟩)] 72 (0, 0)) ∈ base) (hnl : ∀ x ∈ base, ¬ x.1 = l)
    (r : Loop) (hr2 : r = recOf fn #[c0, c1, c2, c3, c4, .pointer (some ⟨bx, 0, none⟩), .pointer (some ⟨bY, 0, none⟩), .pointer (some ⟨bo, 0, none⟩), c8, c9, c10, c11, c12, c13, c14, c15, c16, c17, c18, c19, c20, .func (.func 77) #[.pointer (some ⟨F.gx, 0, none⟩)] #[], c22, c23, c24, c25, c26, c27, c28, c29, c30, c31, c32, c33, c34, c35, c36, c37, c38, c39, c40, c41, c42, c43, c44, c45, c46, c47, c48, c49, c50, c51, c52, c53, c54, c55, c56, c57, c58, c59, c60, c61, c62, c63, c64, c65, c66, c67] #[22] (rfA 0) (rfB 0) D) (m : Nat) (p : Pt) (v : Value) (w : World) (h : OutY F ((l, .loop r) :: base) a b m p v w) :
    YieldAt Fence.wide n Try.prog l #[v] w (RoundJ (OutJ F ((l, .loop r) :: base) a b) m (fun _ => False)) := by
  obtain ⟨O, L, ps, q, qs, B, cb, rfl, hrq, hc, hi, hm, h0⟩ := h
  have hl := (hc.kp _ (List.mem_cons_self)).1
  simp only at hl
  have hlt := lt_of_some hl
  have hLb : L.length < 100000 := by have := hi.len; omega
  refine yield_of (r := r) (K := fun a₁ w₁ => a₁ = ⟨#[c0, c1, c2, c3, c4, .pointer (some ⟨bx, 0, none⟩), .pointer (some ⟨bY, 0, none⟩), .pointer (some ⟨bo, 0, none⟩), .pointer (some ⟨w.heap.size, 0, none⟩), c9, c10, c11, c12, c13, c14, c15, c16, c17, c18, c19, c20, .func (.func 77) #[.pointer (some ⟨F.gx, 0, none⟩)] #[], (.agg #[.int .i64 p.kind, .int .i64 p.n, .slice B p.signs.length cb]), c23, c24, c25, c26, c27, c28, c29, c30, c31, c32, c33, c34, c35, c36, c37, c38, c39, c40, c41, c42, c43, c44, c45, c46, c47, c48, c49, c50, c51, c52, c53, c54, c55, c56, c57, c58, c59, c60, c61, c62, c63, c64, c65, c66, c67], []⟩ ∧ w₁ = w.alloc (.cells #[.int .i64 p.kind, .int .i64 p.n, .slice B p.signs.length cb] 67)) hl (by rw [hr2]; rfl) (by rw [hr2]; rfl) ?assign ?body
  case assign =>
    have HR2 := Lib.hid hr2
    clear hr2 hm hi hc hrq
    rw [HR2.out]
    simp only [recOf, List.zip_toArray, List.zip_cons_cons, List.zip_nil_right, List.size_toArray, List.length_cons, List.length_nil, List.foldl_toArray', List.foldl_cons, List.foldl_nil, List.setIfInBounds_toArray, List.set_cons_zero, List.set_cons_succ]
    conv => arg 4; whnf
    gi_wp2
  case body =>
    rintro a₁ w₁ ⟨rfl, rfl⟩
    have hb := alloc_below w (.cells #[.int .i64 p.kind, .int .i64 p.n, .slice B p.signs.length cb] 67)
    refine ⟨(hb.block _ hlt).trans hl, ?_⟩
    have d1 := hc.also hb (Nat.le_refl _) (heap_alloc_new w (.cells #[.int .i64 p.kind, .int .i64 p.n, .slice B p.signs.length cb] 67))
    have d2 : Co F ((l, .loop r) :: (w.heap.size, .cells #[.int .i64 p.kind, .int .i64 p.n, .slice B p.signs.length cb] 67) :: base) O L (w.alloc (.cells #[.int .i64 p.kind, .int .i64 p.n, .slice B p.signs.length cb] 67)) p ps q qs := d1.less (fun x hx => by simp only [List.mem_cons] at hx ⊢; rcases hx with h | h | h <;> simp [h])
    have hn2 : ∀ x ∈ (w.heap.size, .cells #[.int .i64 p.kind, .int .i64 p.n, .slice B p.signs.length cb] 67) :: base, ¬ x.1 = l := fun x hx => by
      rcases List.mem_cons.1 hx with rfl | hx
      · show ¬ w.heap.size = l; omega
      · exact hnl x hx
    have d3 := d2.put (o' := .loop { r with state := .busy }) hn2
    have eb : r.body = rfB 0 := by rw [hr2]; rfl
    have ed : Loop.mk .ready none r.fn r.tmps r.params r.assign r.body r.defers = r := by rw [hr2]; rfl
    have hv := hc.ox.vp
    have hw := hc.oy.vp
    have hdrop : ∀ (o : Obj) (x : Nat × Obj), x ∈ (l, o) :: base → x ∈ (l, o) :: (w.heap.size, .cells #[.int .i64 p.kind, .int .i64 p.n, .slice B p.signs.length cb] 67) :: base := fun o x hx => by
      rcases List.mem_cons.1 hx with h | h <;> simp [h]
    refine wpIn_body eb ?_
    by_cases hk : p.kind = 3
    · refine outD F _ O L _ p ps q qs bx bY bo w.heap.size 0 l n B none cb 0 _ d3 (by simp [mx]) (by simp [my]) (by simp [mo]) (by simp) (hc.rd d3 hrq) hk h0 hLb ?_
      intro O' a' W' d4
      refine ⟨d4.ks (l, _) (by simp), .inl ⟨rfl, (unitsP (cutR p (sizeP p)) ++ units ps).length, ?_, O', L ++ [p], cutR p (sizeP p), ps, q, qs, ?_, hi.eD hv h0 hk, rfl⟩⟩
      · rw [hm, units_cutR_all hv, List.length_append, List.length_append, unitsP_len]
        simp
        omega
      · have d5 := (d4.put (o' := .loop r) hn2).less (hdrop _)
        rw [← ed] at d5 ⊢
        exact d5
    · refine outN F _ O L _ a b p ps q qs bx bY bo w.heap.size l n B cb (by simp [mx]) (by simp [my]) (by simp [mo]) (by simp) (RdC.keep (fun _ hp => (hc.bl.cell hp).symm) _ _ hrq) h0 hk { r with state := .busy } (by simp) _ d3 hi ?_
      intro a' W' hX
      have hX2 := (hX.put (o' := .loop r) hn2).less (hdrop _)
      obtain ⟨O1, L1, p1, q1, qs1, x1, x2, x3⟩ := hX
      refine ⟨x1.ks (l, _) (by simp), ?_⟩
      obtain ⟨O', L', p', q', qs', y1, y2, y3⟩ := hX2
      refine .inl ⟨rfl, (unitsP p' ++ units ps).length, ?_, O', L', p', ps, q', qs', ?_, y2, rfl⟩
      · rw [hm, List.length_append, List.length_append]
        omega
      · rw [← ed] at y1 ⊢
        exact y1

set_option maxRecDepth 1000000 in
set_option maxHeartbeats 3200000 in
theorem endYield (F : Fz) (base : List (Nat × Obj)) (a b : List Pt) (bx bY bo l n D : Nat) (fn : FuncId) {c0 c1 c2 c3 c4 c8 c9 c10 c11 c12 c13 c14 c15 c16 c17 c18 c19 c20 c21 c22 c23 c24 c25 c26 c27 c28 c29 c30 c31 c32 c33 c34 c35 c36 c37 c38 c39 c40 c41 c42 c43 c44 c45 c46 c47 c48 c49 c50 c51 c52 c53 c54 c55 c56 c57 c59 c60 c61 c62 c63 c64 c65 c66 c67 : Value} (mx : (bx, Obj.cells #[.pointer (some ⟨F.gx, 0, none⟩)] 102 (0, 0)) ∈ base) (my : (bY, Obj.cells #[.pointer (some ⟨F.gy, 0, none⟩)] 102 (0, 0)) ∈ base) (mo : (bo, Obj.cells #[.pointer (some ⟨F.go, 0, none⟩)] 72 (0, 0)) ∈ base) (hnl : ∀ x ∈ base, ¬ x.1 = l)
    (r : Loop) (hr2 : r = recOf fn #[c0, c1, c2, c3, c4, .pointer (some ⟨bx, 0, none⟩), .pointer (some ⟨bY, 0, none⟩), .pointer (some ⟨bo, 0, none⟩), c8, c9, c10, c11, c12, c13, c14, c15, c16, c17, c18, c19, c20, c21, c22, c23, c24, c25, c26, c27, c28, c29, c30, c31, c32, c33, c34, c35, c36, c37, c38, c39, c40, c41, c42, c43, c44, c45, c46, c47, c48, c49, c50, c51, c52, c53, c54, c55, c56, c57, .func (.func 77) #[.pointer (some ⟨F.gy, 0, none⟩)] #[], c59, c60, c61, c62, c63, c64, c65, c66, c67] #[59] (rfA 2) (rfB 2) D) (m : Nat) (q : Pt) (v : Value) (w : World) (h : EndY F ((l, .loop r) :: base) a b m q v w) :
    YieldAt Fence.wide n Try.prog l #[v] w (RoundJ (EndJ F ((l, .loop r) :: base) a b) m (fun _ => False)) := by
  obtain ⟨O, L, p, qs, B, cb, rfl, hrq, hc, hi, hm, h0⟩ := h
  have hl := (hc.kp _ (List.mem_cons_self)).1
  simp only at hl
  have hlt := lt_of_some hl
  have hLb : L.length < 100000 := by have := hi.len; omega
  refine yield_of (r := r) (K := fun a₁ w₁ => a₁ = ⟨#[c0, c1, c2, c3, c4, .pointer (some ⟨bx, 0, none⟩), .pointer (some ⟨bY, 0, none⟩), .pointer (some ⟨bo, 0, none⟩), c8, c9, c10, .pointer (some ⟨w.heap.size, 0, none⟩), c12, c13, c14, c15, c16, c17, c18, c19, c20, c21, c22, c23, c24, c25, c26, c27, c28, c29, c30, c31, c32, c33, c34, c35, c36, c37, c38, c39, c40, c41, c42, c43, c44, c45, c46, c47, c48, c49, c50, c51, c52, c53, c54, c55, c56, c57, .func (.func 77) #[.pointer (some ⟨F.gy, 0, none⟩)] #[], (.agg #[.int .i64 q.kind, .int .i64 q.n, .slice B q.signs.length cb]), c60, c61, c62, c63, c64, c65, c66, c67], []⟩ ∧ w₁ = w.alloc (.cells #[.int .i64 q.kind, .int .i64 q.n, .slice B q.signs.length cb] 67)) hl (by rw [hr2]; rfl) (by rw [hr2]; rfl) ?assign ?body
  case assign =>
    have HR2 := Lib.hid hr2
    clear hr2 hm hi hc hrq
    rw [HR2.out]
    simp only [recOf, List.zip_toArray, List.zip_cons_cons, List.zip_nil_right, List.size_toArray, List.length_cons, List.length_nil, List.foldl_toArray', List.foldl_cons, List.foldl_nil, List.setIfInBounds_toArray, List.set_cons_zero, List.set_cons_succ]
    conv => arg 4; whnf
    gi_wp2
  case body =>
    rintro a₁ w₁ ⟨rfl, rfl⟩
    have hb := alloc_below w (.cells #[.int .i64 q.kind, .int .i64 q.n, .slice B q.signs.length cb] 67)
    refine ⟨(hb.block _ hlt).trans hl, ?_⟩
    have d1 := hc.also hb (Nat.le_refl _) (heap_alloc_new w (.cells #[.int .i64 q.kind, .int .i64 q.n, .slice B q.signs.length cb] 67))
    have d2 : Co F ((l, .loop r) :: (w.heap.size, .cells #[.int .i64 q.kind, .int .i64 q.n, .slice B q.signs.length cb] 67) :: base) O L (w.alloc (.cells #[.int .i64 q.kind, .int .i64 q.n, .slice B q.signs.length cb] 67)) p [] q qs := d1.less (fun x hx => by simp only [List.mem_cons] at hx ⊢; rcases hx with h | h | h <;> simp [h])
    have hn2 : ∀ x ∈ (w.heap.size, .cells #[.int .i64 q.kind, .int .i64 q.n, .slice B q.signs.length cb] 67) :: base, ¬ x.1 = l := fun x hx => by
      rcases List.mem_cons.1 hx with rfl | hx
      · show ¬ w.heap.size = l; omega
      · exact hnl x hx
    have d3 := d2.put (o' := .loop { r with state := .busy }) hn2
    have eb : r.body = rfB 2 := by rw [hr2]; rfl
    have ed : Loop.mk .ready none r.fn r.tmps r.params r.assign r.body r.defers = r := by rw [hr2]; rfl
    have hv := hc.ox.vp
    have hw := hc.oy.vp
    have hdrop : ∀ (o : Obj) (x : Nat × Obj), x ∈ (l, o) :: base → x ∈ (l, o) :: (w.heap.size, .cells #[.int .i64 q.kind, .int .i64 q.n, .slice B q.signs.length cb] 67) :: base := fun o x hx => by
      rcases List.mem_cons.1 hx with h | h <;> simp [h]
    refine wpIn_body eb ?_
    have hk : q.kind = 2 := by
      by_cases hk : q.kind = 2
      · exact hk
      · have := src_pos (R := units qs) hw h0 hk
        have hb := hi.bal
        simp only [tgt] at hb
        omega
    refine endP F _ O L _ p [] q qs bx bY bo 0 w.heap.size l n none B 0 cb _ d3 (by simp [mx]) (by simp [my]) (by simp [mo]) (by simp) (hc.rd d3 hrq) (by omega) h0 hLb ?_
    intro O' a' W' d4
    refine ⟨d4.ks (l, _) (by simp), .inl ⟨rfl, (unitsP (cutR q (sizeP q)) ++ units qs).length, ?_, O', L ++ [q], p, cutR q (sizeP q), qs, ?_, hi.eP trivial hw h0 hk, rfl⟩⟩
    · rw [hm, units_cutR_all hw, List.length_append, List.length_append, unitsP_len]
      simp
      omega
    · have d5 := (d4.put (o' := .loop r) hn2).less (hdrop _)
      rw [← ed] at d5 ⊢
      exact d5

theorem OutD.ks {F : Fz} {KL : List (Nat × Obj)} {a b : List Pt} {w : World} (h : OutD F KL a b w) : Ks KL w := by
  obtain ⟨m, O, L, p, q, qs, h1, h2⟩ := h
  exact h1.ks
theorem OutD.put {F : Fz} {KL : List (Nat × Obj)} {a b : List Pt} {w : World} {l : Nat} {o o' : Obj} (h : OutD F ((l, o) :: KL) a b w) (hn : ∀ x ∈ KL, ¬ x.1 = l) : OutD F ((l, o') :: KL) a b (w.putObj l o') := by
  obtain ⟨m, O, L, p, q, qs, h1, h2⟩ := h
  exact ⟨m, O, L, p, q, qs, h1.put hn, h2⟩
theorem OutD.less {F : Fz} {KL KM : List (Nat × Obj)} {a b : List Pt} {w : World} (h : OutD F KL a b w) (hs : ∀ x ∈ KM, x ∈ KL) : OutD F KM a b w := by
  obtain ⟨m, O, L, p, q, qs, h1, h2⟩ := h
  exact ⟨m, O, L, p, q, qs, h1.less hs, h2⟩

theorem EndD.ks {F : Fz} {KL : List (Nat × Obj)} {a b : List Pt} {w : World} (h : EndD F KL a b w) : Ks KL w := by
  obtain ⟨O, L, p, q, h1, h2⟩ := h
  exact h1.ks
theorem EndD.put {F : Fz} {KL : List (Nat × Obj)} {a b : List Pt} {w : World} {l : Nat} {o o' : Obj} (h : EndD F ((l, o) :: KL) a b w) (hn : ∀ x ∈ KL, ¬ x.1 = l) : EndD F ((l, o') :: KL) a b (w.putObj l o') := by
  obtain ⟨O, L, p, q, h1, h2⟩ := h
  exact ⟨O, L, p, q, h1.put hn, h2⟩
theorem EndD.less {F : Fz} {KL KM : List (Nat × Obj)} {a b : List Pt} {w : World} (h : EndD F KL a b w) (hs : ∀ x ∈ KM, x ∈ KL) : EndD F KM a b w := by
  obtain ⟨O, L, p, q, h1, h2⟩ := h
  exact ⟨O, L, p, q, h1.less hs, h2⟩

theorem OutJ.lt {F : Fz} {KL : List (Nat × Obj)} {a b : List Pt} {m : Nat} {w : World} (h : OutJ F KL a b m w) : ∀ x ∈ KL, x.1 < w.heap.size := by
  obtain ⟨O, L, p, ps, q, qs, h1, h2⟩ := h
  exact fun x hx => lt_of_some (h1.kp x hx).1
theorem OutJ.grow2 {F : Fz} {KL : List (Nat × Obj)} {a b : List Pt} {m : Nat} {w : World} (h : OutJ F KL a b m w) (o1 o2 : Obj) : OutJ F ((w.heap.size + 1, o2) :: (w.heap.size, o1) :: KL) a b m ((w.alloc o1).alloc o2) := by
  obtain ⟨O, L, p, ps, q, qs, h1, h2⟩ := h
  have h3 := h1.also (alloc_below w o1) (Nat.le_refl _) (heap_alloc_new w o1)
  have h4 := h3.also (alloc_below _ o2) (Nat.le_refl _) (heap_alloc_new _ o2)
  rw [World.size_alloc] at h4
  exact ⟨O, L, p, ps, q, qs, h4, h2⟩

theorem EndJ.lt {F : Fz} {KL : List (Nat × Obj)} {a b : List Pt} {m : Nat} {w : World} (h : EndJ F KL a b m w) : ∀ x ∈ KL, x.1 < w.heap.size := by
  obtain ⟨O, L, p, q, qs, h1, h2⟩ := h
  exact fun x hx => lt_of_some (h1.kp x hx).1
theorem EndJ.grow2 {F : Fz} {KL : List (Nat × Obj)} {a b : List Pt} {m : Nat} {w : World} (h : EndJ F KL a b m w) (o1 o2 : Obj) : EndJ F ((w.heap.size + 1, o2) :: (w.heap.size, o1) :: KL) a b m ((w.alloc o1).alloc o2) := by
  obtain ⟨O, L, p, q, qs, h1, h2⟩ := h
  have h3 := h1.also (alloc_below w o1) (Nat.le_refl _) (heap_alloc_new w o1)
  have h4 := h3.also (alloc_below _ o2) (Nat.le_refl _) (heap_alloc_new _ o2)
  rw [World.size_alloc] at h4
  exact ⟨O, L, p, q, qs, h4, h2⟩

theorem EndJ.ks {F : Fz} {KL : List (Nat × Obj)} {a b : List Pt} {m : Nat} {w : World} (h : EndJ F KL a b m w) : Ks KL w := by
  obtain ⟨O, L, p, q, qs, h1, h2⟩ := h
  exact h1.ks

set_option maxRecDepth 1000000 in
set_option maxHeartbeats 3200000 in
theorem outLoop (F : Fz) (base : List (Nat × Obj)) (a b : List Pt) (m : Nat) (W : World) (bx bY bo n : Nat) (ds : List Deferred) {c0 c1 c2 c3 c4 c8 c9 c10 c11 c12 c13 c14 c15 c16 c17 c18 c19 c20 c22 c23 c24 c25 c26 c27 c28 c29 c30 c31 c32 c33 c34 c35 c36 c37 c38 c39 c40 c41 c42 c43 c44 c45 c46 c47 c48 c49 c50 c51 c52 c53 c54 c55 c56 c57 c58 c59 c60 c61 c62 c63 c64 c65 c66 c67 : Value} (mx : (bx, Obj.cells #[.pointer (some ⟨F.gx, 0, none⟩)] 102 (0, 0)) ∈ base) (my : (bY, Obj.cells #[.pointer (some ⟨F.gy, 0, none⟩)] 102 (0, 0)) ∈ base) (mo : (bo, Obj.cells #[.pointer (some ⟨F.go, 0, none⟩)] 72 (0, 0)) ∈ base) (Q : Exit → Act → World → Prop) (hs : OutJ F base a b m W)
    (hQ : ∀ W', OutD F ((W.heap.size, .deferred (some [])) :: base) a b W' → Q .normal ⟨#[c0, c1, c2, c3, c4, .pointer (some ⟨bx, 0, none⟩), .pointer (some ⟨bY, 0, none⟩), .pointer (some ⟨bo, 0, none⟩), c8, c9, c10, c11, c12, c13, c14, c15, c16, c17, c18, c19, c20, .func (.func 77) #[.pointer (some ⟨F.gx, 0, none⟩)] #[], c22, c23, c24, c25, c26, c27, c28, c29, c30, c31, c32, c33, c34, c35, c36, c37, c38, c39, c40, c41, c42, c43, c44, c45, c46, c47, c48, c49, c50, c51, c52, c53, c54, c55, c56, c57, c58, c59, c60, c61, c62, c63, c64, c65, c66, c67], { target := .collected W.heap.size, args := #[] } :: ds⟩ W') :
    (Code.rangeFunc (.tmp 21) #[22] (rfA 0) (rfB 0)).wpIn Fence.wide n Try.prog Q ⟨#[c0, c1, c2, c3, c4, .pointer (some ⟨bx, 0, none⟩), .pointer (some ⟨bY, 0, none⟩), .pointer (some ⟨bo, 0, none⟩), c8, c9, c10, c11, c12, c13, c14, c15, c16, c17, c18, c19, c20, .func (.func 77) #[.pointer (some ⟨F.gx, 0, none⟩)] #[], c22, c23, c24, c25, c26, c27, c28, c29, c30, c31, c32, c33, c34, c35, c36, c37, c38, c39, c40, c41, c42, c43, c44, c45, c46, c47, c48, c49, c50, c51, c52, c53, c54, c55, c56, c57, c58, c59, c60, c61, c62, c63, c64, c65, c66, c67], ds⟩ W := by
  have hb2 : ∀ fn, OutJ F ((W.heap.size + 1, .loop (recOf fn #[c0, c1, c2, c3, c4, .pointer (some ⟨bx, 0, none⟩), .pointer (some ⟨bY, 0, none⟩), .pointer (some ⟨bo, 0, none⟩), c8, c9, c10, c11, c12, c13, c14, c15, c16, c17, c18, c19, c20, .func (.func 77) #[.pointer (some ⟨F.gx, 0, none⟩)] #[], c22, c23, c24, c25, c26, c27, c28, c29, c30, c31, c32, c33, c34, c35, c36, c37, c38, c39, c40, c41, c42, c43, c44, c45, c46, c47, c48, c49, c50, c51, c52, c53, c54, c55, c56, c57, c58, c59, c60, c61, c62, c63, c64, c65, c66, c67] #[22] (rfA 0) (rfB 0) W.heap.size)) :: (W.heap.size, .deferred (some [])) :: base) a b m ((W.alloc (.deferred (some []))).alloc (.loop (recOf fn #[c0, c1, c2, c3, c4, .pointer (some ⟨bx, 0, none⟩), .pointer (some ⟨bY, 0, none⟩), .pointer (some ⟨bo, 0, none⟩), c8, c9, c10, c11, c12, c13, c14, c15, c16, c17, c18, c19, c20, .func (.func 77) #[.pointer (some ⟨F.gx, 0, none⟩)] #[], c22, c23, c24, c25, c26, c27, c28, c29, c30, c31, c32, c33, c34, c35, c36, c37, c38, c39, c40, c41, c42, c43, c44, c45, c46, c47, c48, c49, c50, c51, c52, c53, c54, c55, c56, c57, c58, c59, c60, c61, c62, c63, c64, c65, c66, c67] #[22] (rfA 0) (rfB 0) W.heap.size))) := fun fn => hs.grow2 _ _
  have hlt : ∀ x ∈ (W.heap.size, Obj.deferred (some [])) :: base, ¬ x.1 = W.heap.size + 1 := fun x hx => by
    rcases List.mem_cons.1 hx with rfl | hx
    · show ¬ W.heap.size = W.heap.size + 1; omega
    · have := hs.lt x hx; omega
  refine rf_outer (gf := 77) (b := #[.pointer (some ⟨F.gx, 0, none⟩)]) (Jd := fun w' => ∃ fn, OutD F ((W.heap.size + 1, .loop (recOf fn #[c0, c1, c2, c3, c4, .pointer (some ⟨bx, 0, none⟩), .pointer (some ⟨bY, 0, none⟩), .pointer (some ⟨bo, 0, none⟩), c8, c9, c10, c11, c12, c13, c14, c15, c16, c17, c18, c19, c20, .func (.func 77) #[.pointer (some ⟨F.gx, 0, none⟩)] #[], c22, c23, c24, c25, c26, c27, c28, c29, c30, c31, c32, c33, c34, c35, c36, c37, c38, c39, c40, c41, c42, c43, c44, c45, c46, c47, c48, c49, c50, c51, c52, c53, c54, c55, c56, c57, c58, c59, c60, c61, c62, c63, c64, c65, c66, c67] #[22] (rfA 0) (rfB 0) W.heap.size)) :: (W.heap.size, .deferred (some [])) :: base) a b w') (Jx := fun _ _ => False) rfl rem_enters (fun fn => ?_) (fun fn w' hl hx => ?_) (fun _ _ h => h)
  · refine (implRemaining (n - 1) F.gx (W.heap.size + 1) (OutJ F ((W.heap.size + 1, .loop (recOf fn #[c0, c1, c2, c3, c4, .pointer (some ⟨bx, 0, none⟩), .pointer (some ⟨bY, 0, none⟩), .pointer (some ⟨bo, 0, none⟩), c8, c9, c10, c11, c12, c13, c14, c15, c16, c17, c18, c19, c20, .func (.func 77) #[.pointer (some ⟨F.gx, 0, none⟩)] #[], c22, c23, c24, c25, c26, c27, c28, c29, c30, c31, c32, c33, c34, c35, c36, c37, c38, c39, c40, c41, c42, c43, c44, c45, c46, c47, c48, c49, c50, c51, c52, c53, c54, c55, c56, c57, c58, c59, c60, c61, c62, c63, c64, c65, c66, c67] #[22] (rfA 0) (rfB 0) W.heap.size)) :: (W.heap.size, .deferred (some [])) :: base) a b) (OutY F ((W.heap.size + 1, .loop (recOf fn #[c0, c1, c2, c3, c4, .pointer (some ⟨bx, 0, none⟩), .pointer (some ⟨bY, 0, none⟩), .pointer (some ⟨bo, 0, none⟩), c8, c9, c10, c11, c12, c13, c14, c15, c16, c17, c18, c19, c20, .func (.func 77) #[.pointer (some ⟨F.gx, 0, none⟩)] #[], c22, c23, c24, c25, c26, c27, c28, c29, c30, c31, c32, c33, c34, c35, c36, c37, c38, c39, c40, c41, c42, c43, c44, c45, c46, c47, c48, c49, c50, c51, c52, c53, c54, c55, c56, c57, c58, c59, c60, c61, c62, c63, c64, c65, c66, c67] #[22] (rfA 0) (rfB 0) W.heap.size)) :: (W.heap.size, .deferred (some [])) :: base) a b) (OutD F ((W.heap.size + 1, .loop (recOf fn #[c0, c1, c2, c3, c4, .pointer (some ⟨bx, 0, none⟩), .pointer (some ⟨bY, 0, none⟩), .pointer (some ⟨bo, 0, none⟩), c8, c9, c10, c11, c12, c13, c14, c15, c16, c17, c18, c19, c20, .func (.func 77) #[.pointer (some ⟨F.gx, 0, none⟩)] #[], c22, c23, c24, c25, c26, c27, c28, c29, c30, c31, c32, c33, c34, c35, c36, c37, c38, c39, c40, c41, c42, c43, c44, c45, c46, c47, c48, c49, c50, c51, c52, c53, c54, c55, c56, c57, c58, c59, c60, c61, c62, c63, c64, c65, c66, c67] #[22] (rfA 0) (rfB 0) W.heap.size)) :: (W.heap.size, .deferred (some [])) :: base) a b) (fun _ => False) m _ outMore (fun m q' v w h => outYield F _ a b bx bY bo (W.heap.size + 1) (n - 1 - 1) W.heap.size fn (by simp [mx]) (by simp [my]) (by simp [mo]) hlt (recOf fn #[c0, c1, c2, c3, c4, .pointer (some ⟨bx, 0, none⟩), .pointer (some ⟨bY, 0, none⟩), .pointer (some ⟨bo, 0, none⟩), c8, c9, c10, c11, c12, c13, c14, c15, c16, c17, c18, c19, c20, .func (.func 77) #[.pointer (some ⟨F.gx, 0, none⟩)] #[], c22, c23, c24, c25, c26, c27, c28, c29, c30, c31, c32, c33, c34, c35, c36, c37, c38, c39, c40, c41, c42, c43, c44, c45, c46, c47, c48, c49, c50, c51, c52, c53, c54, c55, c56, c57, c58, c59, c60, c61, c62, c63, c64, c65, c66, c67] #[22] (rfA 0) (rfB 0) W.heap.size) rfl m q' v w h) (hb2 fn)).mono ?_
    rintro e w' ⟨h1, (h2 | h2)⟩
    · exact ⟨h1, .inl ⟨h2.ks _ (List.mem_cons_self), fn, h2⟩⟩
    · exact h2.elim
  · obtain ⟨fn', hx⟩ := hx
    exact hQ _ ((hx.put (o' := .loop { (recOf fn #[c0, c1, c2, c3, c4, .pointer (some ⟨bx, 0, none⟩), .pointer (some ⟨bY, 0, none⟩), .pointer (some ⟨bo, 0, none⟩), c8, c9, c10, c11, c12, c13, c14, c15, c16, c17, c18, c19, c20, .func (.func 77) #[.pointer (some ⟨F.gx, 0, none⟩)] #[], c22, c23, c24, c25, c26, c27, c28, c29, c30, c31, c32, c33, c34, c35, c36, c37, c38, c39, c40, c41, c42, c43, c44, c45, c46, c47, c48, c49, c50, c51, c52, c53, c54, c55, c56, c57, c58, c59, c60, c61, c62, c63, c64, c65, c66, c67] #[22] (rfA 0) (rfB 0) W.heap.size) with state := .exhausted }) hlt).less (fun x hx => List.mem_cons_of_mem _ hx))

set_option maxRecDepth 1000000 in
set_option maxHeartbeats 3200000 in
theorem endLoop (F : Fz) (base : List (Nat × Obj)) (a b : List Pt) (m : Nat) (W : World) (bx bY bo n : Nat) (ds : List Deferred) {c0 c1 c2 c3 c4 c8 c9 c10 c11 c12 c13 c14 c15 c16 c17 c18 c19 c20 c21 c22 c23 c24 c25 c26 c27 c28 c29 c30 c31 c32 c33 c34 c35 c36 c37 c38 c39 c40 c41 c42 c43 c44 c45 c46 c47 c48 c49 c50 c51 c52 c53 c54 c55 c56 c57 c59 c60 c61 c62 c63 c64 c65 c66 c67 : Value} (mx : (bx, Obj.cells #[.pointer (some ⟨F.gx, 0, none⟩)] 102 (0, 0)) ∈ base) (my : (bY, Obj.cells #[.pointer (some ⟨F.gy, 0, none⟩)] 102 (0, 0)) ∈ base) (mo : (bo, Obj.cells #[.pointer (some ⟨F.go, 0, none⟩)] 72 (0, 0)) ∈ base) (Q : Exit → Act → World → Prop) (hs : EndJ F base a b m W)
    (hQ : ∀ W', EndD F ((W.heap.size, .deferred (some [])) :: base) a b W' → Q .normal ⟨#[c0, c1, c2, c3, c4, .pointer (some ⟨bx, 0, none⟩), .pointer (some ⟨bY, 0, none⟩), .pointer (some ⟨bo, 0, none⟩), c8, c9, c10, c11, c12, c13, c14, c15, c16, c17, c18, c19, c20, c21, c22, c23, c24, c25, c26, c27, c28, c29, c30, c31, c32, c33, c34, c35, c36, c37, c38, c39, c40, c41, c42, c43, c44, c45, c46, c47, c48, c49, c50, c51, c52, c53, c54, c55, c56, c57, .func (.func 77) #[.pointer (some ⟨F.gy, 0, none⟩)] #[], c59, c60, c61, c62, c63, c64, c65, c66, c67], { target := .collected W.heap.size, args := #[] } :: ds⟩ W') :
    (Code.rangeFunc (.tmp 58) #[59] (rfA 2) (rfB 2)).wpIn Fence.wide n Try.prog Q ⟨#[c0, c1, c2, c3, c4, .pointer (some ⟨bx, 0, none⟩), .pointer (some ⟨bY, 0, none⟩), .pointer (some ⟨bo, 0, none⟩), c8, c9, c10, c11, c12, c13, c14, c15, c16, c17, c18, c19, c20, c21, c22, c23, c24, c25, c26, c27, c28, c29, c30, c31, c32, c33, c34, c35, c36, c37, c38, c39, c40, c41, c42, c43, c44, c45, c46, c47, c48, c49, c50, c51, c52, c53, c54, c55, c56, c57, .func (.func 77) #[.pointer (some ⟨F.gy, 0, none⟩)] #[], c59, c60, c61, c62, c63, c64, c65, c66, c67], ds⟩ W := by
  have hb2 : ∀ fn, EndJ F ((W.heap.size + 1, .loop (recOf fn #[c0, c1, c2, c3, c4, .pointer (some ⟨bx, 0, none⟩), .pointer (some ⟨bY, 0, none⟩), .pointer (some ⟨bo, 0, none⟩), c8, c9, c10, c11, c12, c13, c14, c15, c16, c17, c18, c19, c20, c21, c22, c23, c24, c25, c26, c27, c28, c29, c30, c31, c32, c33, c34, c35, c36, c37, c38, c39, c40, c41, c42, c43, c44, c45, c46, c47, c48, c49, c50, c51, c52, c53, c54, c55, c56, c57, .func (.func 77) #[.pointer (some ⟨F.gy, 0, none⟩)] #[], c59, c60, c61, c62, c63, c64, c65, c66, c67] #[59] (rfA 2) (rfB 2) W.heap.size)) :: (W.heap.size, .deferred (some [])) :: base) a b m ((W.alloc (.deferred (some []))).alloc (.loop (recOf fn #[c0, c1, c2, c3, c4, .pointer (some ⟨bx, 0, none⟩), .pointer (some ⟨bY, 0, none⟩), .pointer (some ⟨bo, 0, none⟩), c8, c9, c10, c11, c12, c13, c14, c15, c16, c17, c18, c19, c20, c21, c22, c23, c24, c25, c26, c27, c28, c29, c30, c31, c32, c33, c34, c35, c36, c37, c38, c39, c40, c41, c42, c43, c44, c45, c46, c47, c48, c49, c50, c51, c52, c53, c54, c55, c56, c57, .func (.func 77) #[.pointer (some ⟨F.gy, 0, none⟩)] #[], c59, c60, c61, c62, c63, c64, c65, c66, c67] #[59] (rfA 2) (rfB 2) W.heap.size))) := fun fn => hs.grow2 _ _
  have hlt : ∀ x ∈ (W.heap.size, Obj.deferred (some [])) :: base, ¬ x.1 = W.heap.size + 1 := fun x hx => by
    rcases List.mem_cons.1 hx with rfl | hx
    · show ¬ W.heap.size = W.heap.size + 1; omega
    · have := hs.lt x hx; omega
  refine rf_outer (gf := 77) (b := #[.pointer (some ⟨F.gy, 0, none⟩)]) (Jd := fun w' => ∃ fn, EndD F ((W.heap.size + 1, .loop (recOf fn #[c0, c1, c2, c3, c4, .pointer (some ⟨bx, 0, none⟩), .pointer (some ⟨bY, 0, none⟩), .pointer (some ⟨bo, 0, none⟩), c8, c9, c10, c11, c12, c13, c14, c15, c16, c17, c18, c19, c20, c21, c22, c23, c24, c25, c26, c27, c28, c29, c30, c31, c32, c33, c34, c35, c36, c37, c38, c39, c40, c41, c42, c43, c44, c45, c46, c47, c48, c49, c50, c51, c52, c53, c54, c55, c56, c57, .func (.func 77) #[.pointer (some ⟨F.gy, 0, none⟩)] #[], c59, c60, c61, c62, c63, c64, c65, c66, c67] #[59] (rfA 2) (rfB 2) W.heap.size)) :: (W.heap.size, .deferred (some [])) :: base) a b w') (Jx := fun _ _ => False) rfl rem_enters (fun fn => ?_) (fun fn w' hl hx => ?_) (fun _ _ h => h)
  · refine (implRemaining (n - 1) F.gy (W.heap.size + 1) (EndJ F ((W.heap.size + 1, .loop (recOf fn #[c0, c1, c2, c3, c4, .pointer (some ⟨bx, 0, none⟩), .pointer (some ⟨bY, 0, none⟩), .pointer (some ⟨bo, 0, none⟩), c8, c9, c10, c11, c12, c13, c14, c15, c16, c17, c18, c19, c20, c21, c22, c23, c24, c25, c26, c27, c28, c29, c30, c31, c32, c33, c34, c35, c36, c37, c38, c39, c40, c41, c42, c43, c44, c45, c46, c47, c48, c49, c50, c51, c52, c53, c54, c55, c56, c57, .func (.func 77) #[.pointer (some ⟨F.gy, 0, none⟩)] #[], c59, c60, c61, c62, c63, c64, c65, c66, c67] #[59] (rfA 2) (rfB 2) W.heap.size)) :: (W.heap.size, .deferred (some [])) :: base) a b) (EndY F ((W.heap.size + 1, .loop (recOf fn #[c0, c1, c2, c3, c4, .pointer (some ⟨bx, 0, none⟩), .pointer (some ⟨bY, 0, none⟩), .pointer (some ⟨bo, 0, none⟩), c8, c9, c10, c11, c12, c13, c14, c15, c16, c17, c18, c19, c20, c21, c22, c23, c24, c25, c26, c27, c28, c29, c30, c31, c32, c33, c34, c35, c36, c37, c38, c39, c40, c41, c42, c43, c44, c45, c46, c47, c48, c49, c50, c51, c52, c53, c54, c55, c56, c57, .func (.func 77) #[.pointer (some ⟨F.gy, 0, none⟩)] #[], c59, c60, c61, c62, c63, c64, c65, c66, c67] #[59] (rfA 2) (rfB 2) W.heap.size)) :: (W.heap.size, .deferred (some [])) :: base) a b) (EndD F ((W.heap.size + 1, .loop (recOf fn #[c0, c1, c2, c3, c4, .pointer (some ⟨bx, 0, none⟩), .pointer (some ⟨bY, 0, none⟩), .pointer (some ⟨bo, 0, none⟩), c8, c9, c10, c11, c12, c13, c14, c15, c16, c17, c18, c19, c20, c21, c22, c23, c24, c25, c26, c27, c28, c29, c30, c31, c32, c33, c34, c35, c36, c37, c38, c39, c40, c41, c42, c43, c44, c45, c46, c47, c48, c49, c50, c51, c52, c53, c54, c55, c56, c57, .func (.func 77) #[.pointer (some ⟨F.gy, 0, none⟩)] #[], c59, c60, c61, c62, c63, c64, c65, c66, c67] #[59] (rfA 2) (rfB 2) W.heap.size)) :: (W.heap.size, .deferred (some [])) :: base) a b) (fun _ => False) m _ endMore (fun m q' v w h => endYield F _ a b bx bY bo (W.heap.size + 1) (n - 1 - 1) W.heap.size fn (by simp [mx]) (by simp [my]) (by simp [mo]) hlt (recOf fn #[c0, c1, c2, c3, c4, .pointer (some ⟨bx, 0, none⟩), .pointer (some ⟨bY, 0, none⟩), .pointer (some ⟨bo, 0, none⟩), c8, c9, c10, c11, c12, c13, c14, c15, c16, c17, c18, c19, c20, c21, c22, c23, c24, c25, c26, c27, c28, c29, c30, c31, c32, c33, c34, c35, c36, c37, c38, c39, c40, c41, c42, c43, c44, c45, c46, c47, c48, c49, c50, c51, c52, c53, c54, c55, c56, c57, .func (.func 77) #[.pointer (some ⟨F.gy, 0, none⟩)] #[], c59, c60, c61, c62, c63, c64, c65, c66, c67] #[59] (rfA 2) (rfB 2) W.heap.size) rfl m q' v w h) (hb2 fn)).mono ?_
    rintro e w' ⟨h1, (h2 | h2)⟩
    · exact ⟨h1, .inl ⟨h2.ks _ (List.mem_cons_self), fn, h2⟩⟩
    · exact h2.elim
  · obtain ⟨fn', hx⟩ := hx
    exact hQ _ ((hx.put (o' := .loop { (recOf fn #[c0, c1, c2, c3, c4, .pointer (some ⟨bx, 0, none⟩), .pointer (some ⟨bY, 0, none⟩), .pointer (some ⟨bo, 0, none⟩), c8, c9, c10, c11, c12, c13, c14, c15, c16, c17, c18, c19, c20, c21, c22, c23, c24, c25, c26, c27, c28, c29, c30, c31, c32, c33, c34, c35, c36, c37, c38, c39, c40, c41, c42, c43, c44, c45, c46, c47, c48, c49, c50, c51, c52, c53, c54, c55, c56, c57, .func (.func 77) #[.pointer (some ⟨F.gy, 0, none⟩)] #[], c59, c60, c61, c62, c63, c64, c65, c66, c67] #[59] (rfA 2) (rfB 2) W.heap.size) with state := .exhausted }) hlt).less (fun x hx => List.mem_cons_of_mem _ hx))
end Go.Proofs.Ytihajkppeiainaa.low

