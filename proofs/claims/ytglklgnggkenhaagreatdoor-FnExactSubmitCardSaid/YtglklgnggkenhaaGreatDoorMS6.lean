/-
  Texts that the proofs over this seat rest on, one behind the other (6 of 8).
-/
import Derived.Test.YtglklgnggkenhaaGreatDoorMS1
import Derived.WalkKit
import Derived.LaidEql
import Derived.Stop.Asserts
import Derived.RowKitTokens
import Derived.Test.YtglklgnggkenhaaGreatDoorMS4
import Derived.Test.YtglklgnggkenhaaGreatDoorMS2
import Derived.Test.YtglklgnggkenhaaGreatDoorMS5
import Derived.StillTailTactics
import Derived.Test.YtglklgnggkenhaaGreatDoorMS3
import Derived.RangeFuncNested
import Derived.RangeFuncBound
import Derived.OrdersHeld
import Derived.OrdersIn
import Derived.TacticsIn
import Derived.RangeFuncLeaves
import Derived.OwnWalkIn
import Derived.TacticsInMore
import Derived.LoopNIn
import Derived.LoopIn
import Derived.Deep.RegionHeld3
import Derived.Deep.WholeRow
import Derived.Laws.EntriesVeiled
set_option maxHeartbeats 12800000
set_option maxRecDepth 1000000
namespace Go.Proofs.YtglklgnggkenhaaGreatDoor.low
open Go.RowKit Go.Extern.Stop Go.Stop Go.Extern
set_option linter.unusedVariables false
def ET (w : World) : Prop := w.cell? ⟨0, 0, none⟩ = some (.iface 149 (.agg #[.pointer (some ⟨1, 71, none⟩)]))
theorem ET.lt {w : World} (h : ET w) : 0 < w.heap.size := by
 unfold ET at h
 rcases Nat.lt_or_ge 0 w.heap.size with h1 | h1
 ·exact h1
 ·simp [World.cell?, Array.getElem?_eq_none h1] at h
theorem ET.past {w w' : World} (h : ET w) {B : Nat} (hB : B = w.heap.size) (hb : Below B w w') : ET w' := (hb.cell (p := ⟨0, 0, none⟩) (by rw [hB]; exact h.lt)).trans h
theorem asNil (t : Value) (w : World) : Calls Tryz.prog 67 #[.nilIface, t] w fun e w' => e = .returned (.bool false) ∧ w = w' := by
 go_enter Tryz.func67, Tryz.ntmps67
 go_wp2
 go_ret
 exact ⟨rfl, rfl⟩
theorem rlMethod (z : Sem Value) (f : TypeId → Addr → Nat → Nat → Sem Value) (v : Value) :
  ReflectliteValue.method z f #[v] = (do match ← ReflectliteValue.parts v with | none => z | some (t, a, fl) => f t a fl (fl % 32)) := rfl
theorem rlSet (v x : Value) : ReflectliteValue.set #[v, x] = (do
  let (some (dst, a, fl), some (src, b, _)) := (← ReflectliteValue.parts v, ← ReflectliteValue.parts x)
   | unsupported (.noEntry "extern/(internal/reflectlite.Value).Set.zeroValue")
  if fl / ReflectliteValue.flagAddr % 2 == 0 then unsupported (.noEntry "extern/(internal/reflectlite.Value).Set.unaddressable")
  let val ← loadVar src b
  if ← Rtype.directlyAssignable dst src then storeVar dst a val
  else if ← Rtype.implements dst src then
   if (← Rtype.kind src) == 20 then
    match val with
    | .nilIface => unsupported (.noEntry "extern/reflectlite: a nil value of one interface type handed on as a value of another")
    | _ => storeVar dst a val
   else storeVar dst a (.iface src val)
  else panicString ("reflectlite.Set: value of type " ++ (← Rtype.spelt src) ++ " is not assignable to type " ++ (← Rtype.spelt dst))
  pure (.tuple #[])) := rfl
theorem rjValueOfP (t : Addr) (w : World) : (ReflectliteValue.unpack (.iface 108 (.pointer (some t)))).run Tryz.prog w
  = .ok (.agg #[.pointer (some ⟨1, 108, none⟩), .pointer (some ⟨w.heap.size, 0, none⟩), .int .u64 150]) (w.alloc (.cells #[.pointer (some t)] 108)) := by kernel_rfl
theorem rjTypeP (a : Addr) (w : World) : (ReflectliteValue.methodAny (ReflectliteValue.valueError "reflectlite.Value.Type" 0) (fun t _ _ _ => ReflectliteType.toType t) #[.agg #[.pointer (some ⟨1, 108, none⟩), .pointer (some a), .int .u64 150]]).run Tryz.prog w
  = .ok (.iface 149 (.agg #[.pointer (some ⟨1, 108, none⟩)])) w := by kernel_rfl
theorem rjMKind (h : Value) (w : World) : (Go.method 357 149 (.agg #[h]) "Kind").run Tryz.prog w = .ok (199, h) w := by kernel_rfl
theorem rjKindP (w : World) : ((ReflectliteType.abiMethod fun t => (fun a : Nat => Value.int IntKind.u8 (a : Int)) <$> Rtype.kind t) #[.pointer (some ⟨1, 108, none⟩)]).run Tryz.prog w = .ok (.int .u8 22) w := by kernel_rfl
theorem rjKind (w : World) : ((ReflectliteType.abiMethod fun t => (fun a : Nat => Value.int IntKind.u8 (a : Int)) <$> Rtype.kind t) #[.pointer (some ⟨1, 101, none⟩)]).run Tryz.prog w = .ok (.int .u8 2) w := by kernel_rfl
theorem rjPartsP (a : Addr) (w : World) : (ReflectliteValue.parts (.agg #[.pointer (some ⟨1, 108, none⟩), .pointer (some a), .int .u64 150])).run Tryz.prog w = .ok (some (108, a, 150)) w := by kernel_rfl
theorem rjIsNilP (a p : Addr) (W : World) (ha : W.cell? a = some (.pointer (some p))) :
  (ReflectliteValue.method (ReflectliteValue.valueError "reflectlite.Value.IsNil" 0) ReflectliteValue.isNil #[.agg #[.pointer (some ⟨1, 108, none⟩), .pointer (some a), .int .u64 150]]).run Tryz.prog W = .ok (.bool false) W := by
 rw [rlMethod]
 simp only [Sem.run_bind, rjPartsP, Result.andThen]
 simp [ReflectliteValue.isNil, loadVar, isAgg, underlying, Tryz.underlying108, ha, Result.andThen]
theorem rjMElem (h : Value) (w : World) : (Go.method 357 149 (.agg #[h]) "Elem").run Tryz.prog w = .ok (209, .agg #[h]) w := by kernel_rfl
theorem rjMImpl (h : Value) (w : World) : (Go.method 357 149 (.agg #[h]) "Implements").run Tryz.prog w = .ok (210, .agg #[h]) w := by kernel_rfl
theorem rjMAssign (h : Value) (w : World) : (Go.method 357 149 (.agg #[h]) "AssignableTo").run Tryz.prog w = .ok (207, .agg #[h]) w := by kernel_rfl
theorem rjElemT (w : World) : (ReflectliteType.method ReflectliteType.elem #[.agg #[.pointer (some ⟨1, 108, none⟩)]]).run Tryz.prog w = .ok (.iface 149 (.agg #[.pointer (some ⟨1, 101, none⟩)])) w := by kernel_rfl
theorem rjImpl (w : World) : (ReflectliteType.relation "Implements" ReflectliteType.implements_ #[.agg #[.pointer (some ⟨1, 101, none⟩)], .iface 149 (.agg #[.pointer (some ⟨1, 71, none⟩)])]).run Tryz.prog w = .ok (.bool true) w := by kernel_rfl
theorem rjTypeOf (v : Value) (w : World) : (ReflectliteType.typeOf #[.iface 101 v]).run Tryz.prog w = .ok (.iface 149 (.agg #[.pointer (some ⟨1, 101, none⟩)])) w := by kernel_rfl
theorem rjAssign (w : World) : (ReflectliteType.relation "AssignableTo" ReflectliteType.assignableTo #[.agg #[.pointer (some ⟨1, 101, none⟩)], .iface 149 (.agg #[.pointer (some ⟨1, 101, none⟩)])]).run Tryz.prog w = .ok (.bool true) w := by kernel_rfl
theorem rjValueOf (k : Int) (w : World) : (ReflectliteValue.unpack (.iface 101 (.int .i64 k))).run Tryz.prog w
  = .ok (.agg #[.pointer (some ⟨1, 101, none⟩), .pointer (some ⟨w.heap.size, 0, none⟩), .int .u64 130]) (w.alloc (.cells #[.int .i64 k] 101)) := by kernel_rfl
theorem rjElemOf (w : World) : (Rtype.elem? 108).run Tryz.prog w = .ok (some 101) w := by kernel_rfl
theorem rjMk (p : Addr) (w : World) : (ReflectliteValue.mk 101 p ReflectliteValue.flagAddr).run Tryz.prog w = .ok (.agg #[.pointer (some ⟨1, 101, none⟩), .pointer (some p), .int .u64 386]) w := by kernel_rfl
theorem rjElemV (a p : Addr) (W : World) (ha : W.cell? a = some (.pointer (some p))) :
  (ReflectliteValue.method (ReflectliteValue.valueError "reflectlite.Value.Elem" 0) ReflectliteValue.elem #[.agg #[.pointer (some ⟨1, 108, none⟩), .pointer (some a), .int .u64 150]]).run Tryz.prog W
   = .ok (.agg #[.pointer (some ⟨1, 101, none⟩), .pointer (some p), .int .u64 386]) W := by
 rw [rlMethod]
 simp only [Sem.run_bind, rjPartsP, Result.andThen]
 simp [ReflectliteValue.elem, loadVar, isAgg, underlying, Tryz.underlying108, ha, Result.andThen, rjElemOf, rjMk]
theorem rjPartsA (a : Addr) (w : World) : (ReflectliteValue.parts (.agg #[.pointer (some ⟨1, 101, none⟩), .pointer (some a), .int .u64 386])).run Tryz.prog w = .ok (some (101, a, 386)) w := by kernel_rfl
theorem rjParts (a : Addr) (w : World) : (ReflectliteValue.parts (.agg #[.pointer (some ⟨1, 101, none⟩), .pointer (some a), .int .u64 130])).run Tryz.prog w = .ok (some (101, a, 130)) w := by kernel_rfl
theorem rjDirect (w : World) : (Rtype.directlyAssignable 101 101).run Tryz.prog w = .ok true w := by kernel_rfl
theorem rjSet (ta b : Addr) (k : Int) (old : Value) (W : World) (hb : W.cell? b = some (.int .i64 k)) (ht : W.cell? ta = some old) (hf : W.frozen? ta = false) :
  (ReflectliteValue.set #[.agg #[.pointer (some ⟨1, 101, none⟩), .pointer (some ta), .int .u64 386], .agg #[.pointer (some ⟨1, 101, none⟩), .pointer (some b), .int .u64 130]]).run Tryz.prog W
   = .ok (.tuple #[]) (W.setCell ta (.int .i64 k)) := by
 rw [rlSet]
 simp only [Sem.run_bind, rjPartsA, rjParts, Result.andThen]
 simp [ReflectliteValue.flagAddr, loadVar, isAgg, underlying, Tryz.underlying101, hb, Result.andThen, rjDirect, storeVar, Value.cells, storeCells, Addr.add]
 rw [run_store Tryz.prog W ta _ _ (by rfl)]
 simp [ht, hf]
theorem asHit (k : Int) (t : Addr) (old : Value) (w : World) (hg : ET w) (ht0 : w.cell? t = some old) (hf0 : w.frozen? t = false) :
  Calls Tryz.prog 67 #[.iface 101 (.int .i64 k), .iface 108 (.pointer (some t))] w fun ev w' => ev = .returned (.bool true) ∧ w' = ((((w.alloc (.cells #[.pointer (some t)] 108)).alloc (.cells #[.pointer (some ⟨1, 108, none⟩), .pointer (some ⟨w.heap.size, 0, none⟩), .int .u64 150] 132)).alloc (.cells #[.pointer (some ⟨1, 108, none⟩), .pointer (some ⟨w.heap.size, 0, none⟩), .int .u64 150] 132)).alloc (.cells #[.int .i64 k] 101)).setCell t (.int .i64 k) := by
 have h0 := @run_callFunc_extern Tryz.prog 95 _ (fun args => ReflectliteValue.unpack (args.getD 0 (.tuple #[]))) Tryz.func95 (by kernel_rfl) (by kernel_rfl) (by kernel_rfl) (by kernel_rfl)
 have h1 := @run_callFunc_extern Tryz.prog 96 _ (ReflectliteValue.methodAny (ReflectliteValue.valueError "reflectlite.Value.Type" 0) (fun t _ _ _ => ReflectliteType.toType t)) Tryz.func96 (by kernel_rfl) (by kernel_rfl) (by kernel_rfl) (by kernel_rfl)
 have h2 := @run_callFunc_extern Tryz.prog 97 _ (ReflectliteValue.method (ReflectliteValue.valueError "reflectlite.Value.IsNil" 0) ReflectliteValue.isNil) Tryz.func97 (by kernel_rfl) (by kernel_rfl) (by kernel_rfl) (by kernel_rfl)
 have h3 := @run_callFunc_extern Tryz.prog 199 _ (ReflectliteType.abiMethod fun t => do pure (.int .u8 (← Rtype.kind t))) Tryz.func199 (by kernel_rfl) (by kernel_rfl) (by kernel_rfl) (by kernel_rfl)
 have h4 := @run_callFunc_extern Tryz.prog 209 _ (ReflectliteType.method ReflectliteType.elem) Tryz.func209 (by kernel_rfl) (by kernel_rfl) (by kernel_rfl) (by kernel_rfl)
 have h5 := @run_callFunc_extern Tryz.prog 210 _ (ReflectliteType.relation "Implements" ReflectliteType.implements_) Tryz.func210 (by kernel_rfl) (by kernel_rfl) (by kernel_rfl) (by kernel_rfl)
 have h6 := @run_callFunc_extern Tryz.prog 118 _ ReflectliteType.typeOf Tryz.func118 (by kernel_rfl) (by kernel_rfl) (by kernel_rfl) (by kernel_rfl)
 have h7 := @run_callFunc_extern Tryz.prog 207 _ (ReflectliteType.relation "AssignableTo" ReflectliteType.assignableTo) Tryz.func207 (by kernel_rfl) (by kernel_rfl) (by kernel_rfl) (by kernel_rfl)
 have h8 := @run_callFunc_extern Tryz.prog 119 _ (ReflectliteValue.method (ReflectliteValue.valueError "reflectlite.Value.Elem" 0) ReflectliteValue.elem) Tryz.func119 (by kernel_rfl) (by kernel_rfl) (by kernel_rfl) (by kernel_rfl)
 have h9 := @run_callFunc_extern Tryz.prog 120 _ ReflectliteValue.set Tryz.func120 (by kernel_rfl) (by kernel_rfl) (by kernel_rfl) (by kernel_rfl)
 have q0 := rjTypeOf
 have q1 := rjMAssign
 have q2 := rjAssign
 have q3 := rjValueOf
 have q4 := rjValueOfP
 have q5 := rjTypeP
 have q6 := rjMKind
 have q7 := rjMElem
 have q8 := rjMImpl
 have q9 := rjKindP
 have q10 := rjKind
 have q11 := rjElemT
 have q12 := rjImpl
 have n8 := rjIsNilP ⟨w.heap.size, 0, none⟩ t ((w.alloc (.cells #[.pointer (some t)] 108)).alloc (.cells #[.pointer (some ⟨1, 108, none⟩), .pointer (some ⟨w.heap.size, 0, none⟩), .int .u64 150] 132)) (by simp)
 have hlt := hg.lt
 unfold ET at hg
 have hg2 : ((w.alloc (.cells #[.pointer (some t)] 108)).alloc (.cells #[.pointer (some ⟨1, 108, none⟩), .pointer (some ⟨w.heap.size, 0, none⟩), .int .u64 150] 132)).cell? ⟨0, 0, none⟩ = some (.iface 149 (.agg #[.pointer (some ⟨1, 71, none⟩)])) := by
  rw [World.cell?_alloc_lt _ _ ⟨0, 0, none⟩ (by simp), World.cell?_alloc_lt _ _ ⟨0, 0, none⟩ hlt]; exact hg
 have htl : t.block < w.heap.size := by
  rcases Nat.lt_or_ge t.block w.heap.size with h | h
  ·exact h
  ·simp [World.cell?, Array.getElem?_eq_none h] at ht0
 have el := rjElemV ⟨w.heap.size, 0, none⟩ t (((w.alloc (.cells #[.pointer (some t)] 108)).alloc (.cells #[.pointer (some ⟨1, 108, none⟩), .pointer (some ⟨w.heap.size, 0, none⟩), .int .u64 150] 132)).alloc (.cells #[.pointer (some ⟨1, 108, none⟩), .pointer (some ⟨w.heap.size, 0, none⟩), .int .u64 150] 132)) (by rw [World.cell?_alloc_lt _ _ ⟨w.heap.size, 0, none⟩ (by simp; omega)]; simp)
 have st := rjSet t ⟨w.heap.size + 1 + 1 + 1, 0, none⟩ k old ((((w.alloc (.cells #[.pointer (some t)] 108)).alloc (.cells #[.pointer (some ⟨1, 108, none⟩), .pointer (some ⟨w.heap.size, 0, none⟩), .int .u64 150] 132)).alloc (.cells #[.pointer (some ⟨1, 108, none⟩), .pointer (some ⟨w.heap.size, 0, none⟩), .int .u64 150] 132)).alloc (.cells #[.int .i64 k] 101))
  (by rw [World.cell?_alloc_at _ _ _ _ (by simp)]; rfl)
  (by rw [World.cell?_alloc_lt _ _ t (by simp; omega), World.cell?_alloc_lt _ _ t (by simp; omega), World.cell?_alloc_lt _ _ t (by simp; omega), World.cell?_alloc_lt _ _ t htl]; exact ht0)
  (by rw [World.frozen?_alloc_old _ _ t (by simp; omega), World.frozen?_alloc_old _ _ t (by simp; omega), World.frozen?_alloc_old _ _ t (by simp; omega), World.frozen?_alloc_old _ _ t (Nat.ne_of_lt htl)]; exact hf0)
 go_enter Tryz.func67, Tryz.ntmps67
 go_wp2
 refine wp_loop_rounds 1 ?_
 rw [rounds_succ]
 go_wp2
 go_ret
 exact ⟨rfl, rfl⟩
theorem codeOf_nil (w : World) : Calls Tryz.prog 32 #[.nilIface] w (Nums1 0 w) := by
 go_enter Tryz.func32, Tryz.ntmps32
 go_wp2_with (go_at_call 67; refine (asNil _ _).mono ?_; rintro e w' ⟨rfl, rfl⟩)
 go_ret
 exact ⟨rfl, alloc_below _ _⟩
theorem codeOf_hit (k : Int) (w : World) (hg : ET w) : Calls Tryz.prog 32 #[.iface 101 (.int .i64 k)] w (Nums1 k w) := by
 have b0 := alloc_below w (.cells #[.int .i64 0] 101)
 have HG := Lib.hid (hg.past rfl b0)
 have HB := Lib.hid b0
 have hcon := Lib.hid (asHit k ⟨w.heap.size, 0, none⟩ (.int .i64 0) (w.alloc (.cells #[.int .i64 0] 101)) HG.out (by simp) (by simp))
 clear hg b0
 go_enter Tryz.func32, Tryz.ntmps32
 go_wp2_with fail
 refine (hcon.out).mono ?_
 rintro e w' ⟨rfl, hw⟩
 have hk : w'.cell? ⟨w.heap.size, 0, none⟩ = some (.int .i64 k) := by
  rw [hw]
  refine bxcell (bxset (j := 0) (cs := #[.int .i64 0]) (T := 101) ?_ (.int .i64 k)) rfl
  refine (Below.block (B := w.heap.size + 1) (w := w.alloc (.cells #[.int .i64 0] 101)) ((((Below.refl _ _).alloc (by simp) _).alloc (by simp) _).alloc (by simp) _ |>.alloc (by simp) _) w.heap.size (by omega)).trans (heap_alloc_new w _)
 have hbl : Below w.heap.size w w' := by
  rw [hw]
  exact ((((HB.out.alloc (by simp) _).alloc (by simp; omega) _).alloc (by simp; omega) _).alloc (by simp; omega) _).setCell (p := ⟨w.heap.size, 0, none⟩) (Nat.le_refl _) _
 have HBL := Lib.hid hbl
 clear hw hbl
 go_wp2
 go_ret
 exact ⟨rfl, HBL.out⟩
end Go.Proofs.YtglklgnggkenhaaGreatDoor.low
namespace Go.Proofs.YtglklgnggkenhaaGreatDoor.low
open Go.RowKit
set_option linter.unusedVariables false
theorem xform_len {a b : List Pt} (h : xformOk a b = true) : okOp (xformB a b) = true ∧ sumK (xformB a b) + sumD (xformB a b) = sumK a + sumP a := by
 have e : xformB a b = xfB a b := by unfold xformB; rw [if_pos h]
 have h2 := h
 unfold xformOk at h2
 simp only [Bool.and_eq_true, beq_iff_eq] at h2
 obtain ⟨⟨⟨⟨ha, hb⟩, hl⟩, hA⟩, hB⟩ := h2
 obtain ⟨u1, u2, u3, u4, u5⟩ := op_units ha
 obtain ⟨v1, v2, v3, v4, v5⟩ := op_units hb
 rw [e]
 refine ⟨hB, ?_⟩
 obtain ⟨q1, q2, _⟩ := op_units hB
 have hm : xfB a b = made (xf (units a) (units b)).2 := rfl
 have hs : src (units (xfB a b)) = tgt (units a) := by
  rw [hm, units_made, (nf_ends _).1]
  exact (xf_meet (units a) (units b) (List.replicate (src (units a)) 0) (by simp) (by simp; omega)).2.2.1
 rw [hs] at q1
 omega
theorem norm_len {b : List Pt} (h : okOp b = true) : okOp (normL b) = true ∧ sumK (normL b) + sumD (normL b) = sumK b + sumD b := by
 obtain ⟨v1, v2, v3, v4, v5⟩ := op_units h
 obtain ⟨p1, p2, p3, p4⟩ := made_ok v3 v4 v5
 have e : made (units b) = normL b := (norm_made h).symm
 rw [e] at p1 p3
 exact ⟨p1, by omega⟩
theorem past_go : ∀ {l : List En} {t : List Int} {xs xs' : List (List Pt)} {q q' : List Pt}, chainGo l t = true → okText t = true → okOp q = true → sumK q + sumD q = (t.length : Int) → (l.map En.o).foldl stepPast (some (xs, q)) = some (xs', q') →
  okOp q' = true ∧ sumK q' + sumD q' = ((endT l t).length : Int) ∧ okText (endT l t) = true
 | [], t, xs, xs', q, q', _, ht, hq, hl, hf => by
  simp at hf
  obtain ⟨_, rfl⟩ := hf
  exact ⟨hq, hl, ht⟩
 | e :: l, t, xs, xs', q, q', hc, ht, hq, hl, hf => by
  unfold chainGo at hc
  simp only [Bool.and_eq_true] at hc
  obtain ⟨⟨⟨h1, h2⟩, h3⟩, h4⟩ := hc
  obtain ⟨f1, f2, f3⟩ := fits_len h1
  rw [List.map_cons, List.foldl_cons] at hf
  by_cases hx : xformOk e.o q = true
  ·have e1 : stepPast (some (xs, q)) e.o = some (xs ++ [xformA e.o q], xformB e.o q) := by unfold stepPast; exact if_pos hx
   rw [e1] at hf
   obtain ⟨x1, x2⟩ := xform_len hx
   have a5 := (apply_ok f1 f2 f3).2.2.2.1
   have r := past_go h4 h3 x1 (by rw [x2, a5]) hf
   exact r
  ·have e1 : stepPast (some (xs, q)) e.o = none := by unfold stepPast; exact if_neg hx
   rw [e1, foldlPast_none] at hf
   cases hf
theorem chainGo_drop : ∀ {l : List En} {t : List Int} (m : Nat), chainGo l t = true → chainGo (l.drop m) (endT (l.take m) t) = true ∧ endT (l.drop m) (endT (l.take m) t) = endT l t
 | l, t, 0, h => ⟨h, rfl⟩
 | [], t, m + 1, h => ⟨by simpa [endT] using h, by simp [endT]⟩
 | e :: l, t, m + 1, h => by
  unfold chainGo at h
  simp only [Bool.and_eq_true] at h
  exact chainGo_drop (l := l) m h.2
theorem text_end {l : List En} {t : List Int} (m : Nat) (h : chainGo l t = true) (ht : okText t = true) : okText (endT (l.take m) t) = true := by
 induction l generalizing t m with
 | nil => simpa [endT] using ht
 | cons e l ih =>
  cases m with
  | zero => exact ht
  | succ m =>
   unfold chainGo at h
   simp only [Bool.and_eq_true] at h
   exact ih m h.2 h.1.2
theorem past_fits {x : Do} {base : Int} {o : List Pt} (hd : docB x = true) (hb : textAtB x base = true) (ho : okOp o = true) (hl : sumK o + sumD o = ((textAtT x base).length : Int)) (hp : pastB (opsSinceT x base) o = true) : fitsB (pastT (opsSinceT x base) o) (headTextT x) = true := by
 have hc := docB_chain hd
 obtain ⟨f0, f1, f2, f3⟩ := docB_of hd
 have hok : okText x.text = true := by
  have := hd
  unfold docB at this
  simp only [Bool.and_eq_true] at this
  exact this.1.1.1.2
 obtain ⟨m, hm⟩ : ∃ m : Nat, m = (base - x.from_).toNat := ⟨_, rfl⟩
 have e1 : textAtT x base = endT (x.list.take m) x.text := by unfold textAtT; rw [if_pos hb, hm]
 have e2 : opsSinceT x base = (x.list.drop m).map En.o := by unfold opsSinceT; rw [if_pos hb, hm]
 have e3 : headTextT x = endT x.list x.text := by
  have hh : textAtB x (headRevT x) = true := by
   unfold textAtB
   rw [hd, inB_t (by omega)]
   rfl
  unfold headTextT textAtT
  rw [if_pos hh, f3, show (x.from_ + (x.list.length : Int) - x.from_).toNat = x.list.length by omega, List.take_length]
 rw [e1] at hl
 rw [e2] at hp ⊢
 rw [e3]
 unfold pastB pastS at hp
 rw [if_pos ho] at hp
 obtain ⟨⟨xs', q'⟩, hq⟩ := Option.isSome_iff_exists.1 hp
 obtain ⟨n1, n2⟩ := norm_len ho
 obtain ⟨c1, c2⟩ := chainGo_drop m hc
 obtain ⟨g1, g2, g3⟩ := past_go c1 (text_end m hc hok) n1 (by rw [n2]; exact hl) hq
 have e4 : pastT ((x.list.drop m).map En.o) o = q' := by unfold pastT pastS; rw [if_pos ho, hq]; rfl
 rw [e4]
 rw [c2] at g2 g3
 unfold fitsB
 rw [g1, g3, decide_eq_true g2]
 rfl
theorem implKeepB (O : Nat → Prop) (lo g : Nat) (L : List Pt) (n : Int) (w : World) (hb : Bld O lo g 187 w L) (h0 : 0 ≤ n) (h1 : n ≤ 200) (hl : L.length < 100000) :
  Calls Tryz.prog 161 #[.pointer (some ⟨g, 0, none⟩), .int .i64 n] w (BldP O lo g 187 (L ++ [⟨1, n, []⟩]) w) := by
 have hz : szP_ ⟨1, n, []⟩ := ⟨.inl rfl, h0, h1, by simp⟩
 by_cases hn : n = 0
 ·subst hn
  refine (implKeep_zero g w).mono ?_
  rintro e w' ⟨rfl, rfl⟩
  exact ⟨rfl, hb.add hl hz (Below.refl _ _) (Fr.refl _ _) (hb.at_.mono (fun b h => .inl h))⟩
 ·have hf := hb.fit
  have hd := hf.done
  have hsg := signsIn_le hb.sz
  have f1 := hf.len
  have f2 := hf.signs
  have hlen := hb.len
  refine (implKeep_f (fun b => O b ∨ w.heap.size ≤ b) lo g _ _ _ n w (hb.at_.mono (fun b h => .inl h)) (fun b h => .inr h) (by omega) (by omega) hn h0 (by omega) (fun p hp => by have := hd.2.2 p hp; omega) (by have := hd.1; exact Nat.le_trans this (by omega))).mono ?_
  rintro e w' ⟨rfl, hn', b, fr⟩
  refine ⟨rfl, hb.add hl hz b fr ?_⟩
  simp only [stepN, if_neg hn]
  exact hn'.at_
theorem implPutB (O : Nat → Prop) (lo g : Nat) (L : List Pt) (A : Option Addr) (c m : Nat) (zs : List Int) (w : World) (hb : Bld O lo g 187 w L) (hr : Row (Value.int .i64) w w.heap.size A zs) (hm : zs.length = m) (h1 : zs.length ≤ 200) (hl : L.length < 100000) :
  Calls Tryz.prog 162 #[.pointer (some ⟨g, 0, none⟩), .slice A m c] w (BldP O lo g 187 (L ++ [⟨2, 0, zs⟩]) w) := by
 subst hm
 have hz : szP_ ⟨2, 0, zs⟩ := ⟨.inr (.inl rfl), by simp, by simp, h1⟩
 have hsg := signsIn_le hb.sz
 have f2 := hb.fit.signs
 have hlen := hb.len
 refine (implPut_f (fun b => O b ∨ w.heap.size ≤ b) lo g _ _ _ A c zs w (hb.at_.mono (fun b h => .inl h)) (fun b h => .inr h) hr (by omega) (by omega)).mono ?_
 rintro e w' ⟨rfl, ha, b, fr⟩
 exact ⟨rfl, hb.add hl hz b fr ha⟩
theorem implDropB (O : Nat → Prop) (lo g : Nat) (L : List Pt) (n : Int) (w : World) (hb : Bld O lo g 187 w L) (h0 : 0 ≤ n) (h1 : n ≤ 200) (hl : L.length < 100000) :
  Calls Tryz.prog 163 #[.pointer (some ⟨g, 0, none⟩), .int .i64 n] w (BldP O lo g 187 (L ++ [⟨3, n, []⟩]) w) := by
 have hz : szP_ ⟨3, n, []⟩ := ⟨.inr (.inr rfl), h0, h1, by simp⟩
 have f3 := hb.fit.d0
 have f4 := hb.fit.d1
 have hlen := hb.len
 refine (implDrop_f (fun b => O b ∨ w.heap.size ≤ b) lo g _ _ _ n w (hb.at_.mono (fun b h => .inl h)) (fun b h => .inr h) f3 (by omega) h0 (by omega)).mono ?_
 rintro e w' ⟨rfl, ha, b, fr⟩
 exact ⟨rfl, hb.add hl hz b fr ha⟩
theorem implDoneB (O : Nat → Prop) (lo g : Nat) (L : List Pt) (w : World) (hb : Bld O lo g 187 w L) :
  Calls Tryz.prog 147 #[.pointer (some ⟨g, 0, none⟩)] w (DoneP O lo L w) := by
 have f1 := hb.fit.len
 have hlen := hb.len
 have hsg := signsIn_le hb.sz
 have f2 := hb.fit.signs
 refine (implDone_f (fun b => O b ∨ w.heap.size ≤ b) lo g _ _ _ w (hb.at_.mono (fun b h => .inl h)) (fun b h => .inr h) (by omega) (by omega)).mono ?_
 intro e w' h
 exact GoneS.done h
end Go.Proofs.YtglklgnggkenhaaGreatDoor.low
namespace Go.Proofs.YtglklgnggkenhaaGreatDoor.low.xb
open Go.RowKit
set_option linter.unusedVariables false
def Blk (g : Nat) (T : TypeId) (w : World) (D : Nat → Option Value) : Prop := ∃ cs, w.heap[g]? = some (.cells cs T (0, 0)) ∧ ∀ i, cs[i]? = D i
def upd (D : Nat → Option Value) (i : Nat) (v : Value) : Nat → Option Value := fun j => if j = i then some v else D j
theorem upd_at (D : Nat → Option Value) (i : Nat) (v : Value) : upd D i v i = some v := by simp [upd]
theorem upd_ne {D : Nat → Option Value} {i j : Nat} (v : Value) (h : ¬ j = i) : upd D i v j = D j := by simp [upd, h]
section
variable {g i : Nat} {T : TypeId} {w w' : World} {D : Nat → Option Value} {u : Value}
theorem Blk.lt (h : Blk g T w D) : g < w.heap.size := by obtain ⟨cs, h1, _⟩ := h; exact lt_of_some h1
theorem Blk.cell (h : Blk g T w D) (i : Nat) : w.cell? ⟨g, i, none⟩ = D i := by
 obtain ⟨cs, h1, h2⟩ := h
 rw [cell_of_row _ _ i _ _ _ h1]
 exact h2 i
theorem Blk.free (h : Blk g T w D) (i : Nat) : w.frozen? ⟨g, i, none⟩ = false := by
 obtain ⟨cs, h1, h2⟩ := h
 simp [World.frozen?, h1]
theorem Blk.keep (h : Blk g T w D) (hk : w'.heap[g]? = w.heap[g]?) : Blk g T w' D := by
 obtain ⟨cs, h1, h2⟩ := h
 exact ⟨cs, hk.trans h1, h2⟩
theorem Blk.past (h : Blk g T w D) (hb : Below w.heap.size w w') : Blk g T w' D := h.keep (hb.block _ h.lt)
theorem Blk.set (h : Blk g T w D) (hi : D i = some u) (v : Value) : Blk g T (w.setCell ⟨g, i, none⟩ v) (upd D i v) := by
 obtain ⟨cs, h1, h2⟩ := h
 refine ⟨_, heap_setCell_same _ _ _ _ _ _ h1, fun j => ?_⟩
 rw [Array.getElem?_setIfInBounds]
 by_cases e : i = j
 ·subst e
  rw [upd_at]
  have := h2 i
  rw [hi] at this
  simp only [if_true]
  rw [if_pos (by rcases Nat.lt_or_ge i cs.size with hl | hg; exact hl; rw [Array.getElem?_eq_none hg] at this; cases this)]
 ·rw [if_neg e, upd_ne _ (fun k => e k.symm)]
  exact h2 j
theorem Blk.far {base n size : Nat} {x : Value} {e : TypeId} {xs : List Value} (h : Blk g T w D) (hr : w.ownsRow base e size x n xs) (hT : ¬ T = e) : ¬ x.ownBlock = some g := by
 obtain ⟨cs, h1, _⟩ := h
 exact own_far hr h1 hT
theorem Blk.grown {w0 w1 : World} {r : Option Nat} (h : Blk g T w D) (h0 : Below w.heap.size w w0) (hgrow : w0.grownBy w1 r) (hne : ¬ r = some g) : Blk g T w1 D := by
 refine h.keep ?_
 rw [hgrow.block g (Nat.lt_of_lt_of_le h.lt h0.size) (fun e => hne e.symm), h0.block g h.lt]
end
structure Box (lo g o : Nat) (C : Nat → Option Value) (T : TypeId) (w : World) (v u : Value) (d : Int) (ps : List Pt) (us : List Value) : Prop where
 box : ∃ D, Blk g T w D ∧ D o = some v ∧ D (o + 1) = some u ∧ D (o + 2) = some (.int .i64 d) ∧ ∀ i, i < o ∨ o + 3 ≤ i → D i = C i
 row : w.ownsRow lo 68 3 v ps.length (cellsOf ps us)
 len : us.length = ps.length
 low : lo ≤ g
section
variable {lo g o : Nat} {C : Nat → Option Value} {T : TypeId} {w w0 w1 : World} {v u : Value} {d : Int} {ps : List Pt} {us : List Value}
theorem Box.cell0 (h : Box lo g o C T w v u d ps us) : w.cell? ⟨g, o, none⟩ = some v := by obtain ⟨D, h1, h2, h3, h4, _⟩ := h.box; rw [h1.cell]; exact h2
theorem Box.cell1 (h : Box lo g o C T w v u d ps us) : w.cell? ⟨g, o + 1, none⟩ = some u := by obtain ⟨D, h1, h2, h3, h4, _⟩ := h.box; rw [h1.cell]; exact h3
theorem Box.cell2 (h : Box lo g o C T w v u d ps us) : w.cell? ⟨g, o + 2, none⟩ = some (.int .i64 d) := by obtain ⟨D, h1, h2, h3, h4, _⟩ := h.box; rw [h1.cell]; exact h4
theorem Box.free (h : Box lo g o C T w v u d ps us) (i : Nat) : w.frozen? ⟨g, i, none⟩ = false := by obtain ⟨D, h1, _⟩ := h.box; exact h1.free i
theorem Box.lt (h : Box lo g o C T w v u d ps us) : g < w.heap.size := by obtain ⟨D, h1, _⟩ := h.box; exact h1.lt
theorem Box.far {base n size : Nat} {x : Value} {e : TypeId} {xs : List Value} (h : Box lo g o C T w v u d ps us) (hr : w.ownsRow base e size x n xs) (hT : ¬ T = e) : ¬ x.ownBlock = some g := by
 obtain ⟨D, h1, _⟩ := h.box
 exact h1.far hr hT
theorem Box.freeG {r : Option Nat} (h : Box lo g o C T w v u d ps us) (i : Nat) (h0 : Below w.heap.size w w0) (hgrow : w0.grownBy w1 r) (hne : ¬ r = some g) : w1.frozen? ⟨g, i, none⟩ = false := by
 obtain ⟨D, h1, _⟩ := h.box
 exact (h1.grown h0 hgrow hne).free i
theorem Box.cellG0 {r : Option Nat} (h : Box lo g o C T w v u d ps us) (h0 : Below w.heap.size w w0) (hgrow : w0.grownBy w1 r) (hne : ¬ r = some g) : w1.cell? ⟨g, o, none⟩ = some v := by
 obtain ⟨D, h1, h2, h3, h4, _⟩ := h.box
 rw [(h1.grown h0 hgrow hne).cell]
 exact h2
theorem Box.cellG1 {r : Option Nat} (h : Box lo g o C T w v u d ps us) (h0 : Below w.heap.size w w0) (hgrow : w0.grownBy w1 r) (hne : ¬ r = some g) : w1.cell? ⟨g, o + 1, none⟩ = some u := by
 obtain ⟨D, h1, h2, h3, h4, _⟩ := h.box
 rw [(h1.grown h0 hgrow hne).cell]
 exact h3
theorem Box.cellG2 {r : Option Nat} (h : Box lo g o C T w v u d ps us) (h0 : Below w.heap.size w w0) (hgrow : w0.grownBy w1 r) (hne : ¬ r = some g) : w1.cell? ⟨g, o + 2, none⟩ = some (.int .i64 d) := by
 obtain ⟨D, h1, h2, h3, h4, _⟩ := h.box
 rw [(h1.grown h0 hgrow hne).cell]
 exact h4
end
theorem Box.push {lo g o gg cap : Nat} {C : Nat → Option Value} {T : TypeId} {w w0 w1 : World} {v u : Value} {d : Int} {ps : List Pt} {us : List Value} {p : Pt} {u' : Value} (h : Box lo g o C T w v u d ps us) (hT1 : ¬ T = 3) (hT2 : ¬ T = 68)
  (ha : Apart lo w.heap.size w (ps ++ [p]) (us ++ [u'])) (h0 : Below w.heap.size w w0) 
  (hown : w1.ownsRow lo 68 3 (.slice (some ⟨gg, 0, none⟩) (ps.length + 1) cap) (ps.length + 1) (cellsOf ps us ++ [.int .i64 p.kind, .int .i64 p.n, u']))
  (hgrow : w0.grownBy w1 v.ownBlock) :
  Box lo g o C T (w1.setCell ⟨g, o, none⟩ (.slice (some ⟨gg, 0, none⟩) (ps.length + 1) cap)) (.slice (some ⟨gg, 0, none⟩) (ps.length + 1) cap) u d (ps ++ [p]) (us ++ [u']) ∧
  Apart lo (w1.setCell ⟨g, o, none⟩ (.slice (some ⟨gg, 0, none⟩) (ps.length + 1) cap)).heap.size (w1.setCell ⟨g, o, none⟩ (.slice (some ⟨gg, 0, none⟩) (ps.length + 1) cap)) (ps ++ [p]) (us ++ [u']) ∧
  Below lo w (w1.setCell ⟨g, o, none⟩ (.slice (some ⟨gg, 0, none⟩) (ps.length + 1) cap)) := by
 have hlt := h.lt
 obtain ⟨D, hD, k1, k2, k3, k4⟩ := h.box
 have hsz : w.heap.size ≤ w1.heap.size := Nat.le_trans h0.size hgrow.size
 have hold : ∀ k, k < w.heap.size → ¬ v.ownBlock = some k → w1.heap[k]? = w.heap[k]? := fun k hk hne => by
  rw [hgrow.block k (Nat.lt_of_lt_of_le hk h0.size) (fun e => hne e.symm), h0.block k hk]
 have hg1 := hD.grown h0 hgrow (hD.far h.row hT2)
 have hgg : ¬ (Value.slice (some ⟨gg, 0, none⟩) (ps.length + 1) cap).ownBlock = some g := hg1.far hown hT2
 refine ⟨⟨⟨_, hg1.set k1 _, upd_at _ _ _, by rw [upd_ne _ (by omega)]; exact k2, by rw [upd_ne _ (by omega)]; exact k3, fun i hi => by rw [upd_ne _ (by omega)]; exact k4 i hi⟩, ?_, by simp [h.len], h.low⟩, ?_, ?_⟩
 ·rw [cellsOf_snoc _ _ _ _ h.len]
  have := ownsRow_setCell_other hown (a := ⟨g, o, none⟩) hgg (.slice (some ⟨gg, 0, none⟩) (ps.length + 1) cap)
  simpa using this
 ·refine ha.keep (by simp; exact hsz) (fun i x k hx hk1 hk2 => ?_)
  obtain ⟨q, hq⟩ := idx_some (l := ps ++ [p]) (i := i) (by rw [← ha.1]; exact idx_lt hx)
  have hox := (ha.2.1 i q x hq hx).1
  have hkg : ¬ k = g := fun e => hD.far hox hT1 (by rw [hk1, e])
  rw [Below.heap_setCell _ _ _ _ hkg, hold k hk2]
  intro hv
  obtain ⟨c1, e1⟩ := own_blk hox hk1
  obtain ⟨c2, e2⟩ := own_blk h.row hv
  rw [e1] at e2
  injection e2 with e2
  injection e2 with _ ht _
  exact absurd ht (by decide)
 ·refine Below.setCell ?_ h.low _
  have hb : Below lo w w0 := h0.mono (Nat.le_trans h.low (Nat.le_of_lt hlt))
  exact hb.grown hgrow (Nat.le_trans (Nat.le_trans h.low (Nat.le_of_lt hlt)) h0.size) (fun k hk => own_ge h.row k hk)
theorem push_fr {S : Nat → Prop} {g o : Nat} {v : Value} {us : List Value} {w w0 w1 : World} (h : OwnS S g v us) (h0 : Below w.heap.size w w0) (hg : w0.grownBy w1 v.ownBlock) (x : Value) : Fr S w (w1.setCell ⟨g, o, none⟩ x) :=
 ((Fr.below h0).grown hg (fun k hk => h.2.1 k hk)).setCell h.1 x
def BAtS (S : Nat → Prop) (lo g o : Nat) (C : Nat → Option Value) (T : TypeId) (w : World) (ps : List Pt) (put : List Int) (d : Int) : Prop :=
 ∃ v u us, Box lo g o C T w v u d ps us ∧ Apart lo w.heap.size w (ps ++ [⟨2, 0, put⟩]) (us ++ [u]) ∧ OwnS S g v (us ++ [u])
def BNilS (S : Nat → Prop) (lo g o : Nat) (C : Nat → Option Value) (T : TypeId) (w : World) (ps : List Pt) : Prop := ∃ v us, Box lo g o C T w v (.slice none 0 0) 0 ps us ∧ Apart lo w.heap.size w ps us ∧ OwnS S g v us
def FlushedS (S : Nat → Prop) (lo g o : Nat) (C : Nat → Option Value) (T : TypeId) (w : World) (ps : List Pt) (e : Ending) (w' : World) : Prop := e = .returned (.tuple #[]) ∧ BNilS S lo g o C T w' ps ∧ Below lo w w' ∧ Fr S w w'
def BuiltS (S : Nat → Prop) (lo g o : Nat) (C : Nat → Option Value) (T : TypeId) (w : World) (ps : List Pt) (put : List Int) (d : Int) (e : Ending) (w' : World) : Prop := e = .returned (.tuple #[]) ∧ BAtS S lo g o C T w' ps put d ∧ Below lo w w' ∧ Fr S w w'
theorem BNilS.at_ {S : Nat → Prop} {lo g o : Nat} {C : Nat → Option Value} {T : TypeId} {w : World} {ps : List Pt} (h : BNilS S lo g o C T w ps) : BAtS S lo g o C T w ps [] 0 := by
 obtain ⟨v, us, hx, ha, ho⟩ := h
 refine ⟨v, _, us, hx, Apart.bare 2 0 ha, ho.1, ho.2.1, fun i k x hxi hk => ?_⟩
 by_cases hi : i < us.length
 ·rw [List.getElem?_append_left hi] at hxi
  exact ho.2.2 i k x hxi hk
 ·rw [List.getElem?_append_right (by omega)] at hxi
  have hx' : i - us.length = 0 := by
   have := idx_lt hxi
   simp at this
   omega
  rw [hx'] at hxi
  simp at hxi
  subst hxi
  simp [Value.ownBlock] at hk
theorem Box.clearS {S : Nat → Prop} {lo g o : Nat} {C : Nat → Option Value} {T : TypeId} {w : World} {v u : Value} {d : Int} {ps : List Pt} {us : List Value} (h : Box lo g o C T w v u d ps us) (hT1 : ¬ T = 3) (hT2 : ¬ T = 68) (ha : Apart lo w.heap.size w ps us) (ho : OwnS S g v us) :
  BNilS S lo g o C T ((w.setCell ⟨g, o + 1, none⟩ (.slice none 0 0)).setCell ⟨g, o + 2, none⟩ (.int .i64 0)) ps ∧ Below lo w ((w.setCell ⟨g, o + 1, none⟩ (.slice none 0 0)).setCell ⟨g, o + 2, none⟩ (.int .i64 0)) ∧ Fr S w ((w.setCell ⟨g, o + 1, none⟩ (.slice none 0 0)).setCell ⟨g, o + 2, none⟩ (.int .i64 0)) := by
 obtain ⟨D, hD, k1, k2, k3, k4⟩ := h.box
 have k3' : upd D (o + 1) (.slice none 0 0) (o + 2) = some (.int .i64 d) := by rw [upd_ne _ (by omega)]; exact k3
 refine ⟨⟨v, us, ⟨⟨_, (hD.set k2 _).set k3' _, by rw [upd_ne _ (by omega), upd_ne _ (by omega)]; exact k1, by rw [upd_ne _ (by omega), upd_at], upd_at _ _ _, fun i hi => by rw [upd_ne _ (by omega), upd_ne _ (by omega)]; exact k4 i hi⟩, ?_, h.len, h.low⟩, ?_, ho⟩, ((Below.refl _ _).setCell h.low _).setCell h.low _, ((Fr.refl S w).setCell (p := ⟨g, o + 1, none⟩) ho.1 _).setCell (p := ⟨g, o + 2, none⟩) ho.1 _⟩
 ·exact ownsRow_setCell_other (ownsRow_setCell_other h.row (hD.far h.row hT2) _) (hD.far h.row hT2) _
 ·refine ha.keep (by simp) (fun i x k hx hk1 hk2 => ?_)
  obtain ⟨q, hq⟩ := idx_some (l := ps) (i := i) (by rw [← ha.1]; exact idx_lt hx)
  have hkg : ¬ k = g := fun e => hD.far (ha.2.1 i q x hq hx).1 hT1 (by rw [hk1, e])
  rw [Below.heap_setCell _ _ _ _ hkg, Below.heap_setCell _ _ _ _ hkg]
theorem Box.moreS {S : Nat → Prop} {lo g o : Nat} {C : Nat → Option Value} {T : TypeId} {w w1 : World} {v u v' : Value} {d : Int} {ps : List Pt} {us : List Value} {put put' : List Int} (h : Box lo g o C T w v u d ps us) (hT1 : ¬ T = 3) (hT2 : ¬ T = 68)
  (ha : Apart lo w.heap.size w (ps ++ [⟨2, 0, put⟩]) (us ++ [u])) (hown : w1.ownsRow lo 3 1 v' put'.length (put'.map (Value.int .i64))) (hgrow : w.grownBy w1 u.ownBlock) (hat : v'.ownBlock = u.ownBlock ∨ v'.ownBlock = some w.heap.size) (hos : OwnS S g v (us ++ [u])) (hS : S w.heap.size) :
  BAtS S lo g o C T (w1.setCell ⟨g, o + 1, none⟩ v') ps put' d ∧ Below lo w (w1.setCell ⟨g, o + 1, none⟩ v') ∧ Fr S w (w1.setCell ⟨g, o + 1, none⟩ v') := by
 have hlt := h.lt
 obtain ⟨D, hD, k1, k2, k3, k4⟩ := h.box
 have hu := ha.last h.len
 have ha0 := ha.init h.len
 have hold : ∀ k, k < w.heap.size → ¬ u.ownBlock = some k → w1.heap[k]? = w.heap[k]? := fun k hk hne => hgrow.block k hk (fun e => hne e.symm)
 have hg1 := hD.grown (Below.refl _ _) hgrow (hD.far hu hT1)
 have hvg := hg1.far hown hT1
 have hlow : lo ≤ w.heap.size := Nat.le_trans h.low (Nat.le_of_lt hlt)
 have hv' : ∀ k, v'.ownBlock = some k → S k := fun k hk => by
  rcases hat with e | e
  ·exact hos.last k (by rw [← e]; exact hk)
  ·rw [e] at hk
   injection hk with hk
   rw [← hk]; exact hS
 have hos' : OwnS S g v (us ++ [v']) := ⟨hos.1, hos.2.1, fun i k x hx hk => by
  by_cases hi : i < us.length
  ·rw [List.getElem?_append_left hi] at hx
   exact hos.init.2.2 i k x hx hk
  ·rw [List.getElem?_append_right (by omega)] at hx
   have hx' : i - us.length = 0 := by
    have := idx_lt hx
    simp at this
    omega
   rw [hx'] at hx
   simp at hx
   subst hx
   exact hv' k hk⟩
 have hfr : Fr S w (w1.setCell ⟨g, o + 1, none⟩ v') := ((Fr.refl S w).grown hgrow (fun k hk => hos.last k hk)).setCell (p := ⟨g, o + 1, none⟩) hos.1 _
 refine ⟨⟨v, v', us, ⟨⟨_, hg1.set k2 _, by rw [upd_ne _ (by omega)]; exact k1, upd_at _ _ _, by rw [upd_ne _ (by omega)]; exact k3, fun i hi => by rw [upd_ne _ (by omega)]; exact k4 i hi⟩, ?_, h.len, h.low⟩, ?_, hos'⟩, ?_, hfr⟩
 ·refine own_keep h.row (fun k hk1 hk2 => ?_)
  have hkg : ¬ k = g := fun e => hD.far h.row hT2 (by rw [hk1, e])
  rw [Below.heap_setCell _ _ _ _ hkg]
  refine hold k hk2 (fun hk3 => ?_)
  obtain ⟨c1, e1⟩ := own_blk h.row hk1
  exact own_far hu e1 (by decide) hk3
 ·have hkeep : Apart lo (w1.setCell ⟨g, o + 1, none⟩ v').heap.size (w1.setCell ⟨g, o + 1, none⟩ v') ps us := by
   refine ha0.keep (by simp; exact hgrow.size) (fun i x k hx hk1 hk2 => ?_)
   obtain ⟨q, hq⟩ := idx_some (l := ps) (i := i) (by rw [← h.len]; exact idx_lt hx)
   have hkg : ¬ k = g := fun e => hD.far (ha0.2.1 i q x hq hx).1 hT1 (by rw [hk1, e])
   rw [Below.heap_setCell _ _ _ _ hkg]
   exact hold k hk2 (ha.far h.len hx hk1)
  refine hkeep.snoc (ownsRow_setCell_other hown hvg _) (fun k hk => ?_) (fun i x k hx hk1 hk2 => ?_)
  ·obtain ⟨c1, e1⟩ := own_blk hown hk
   have := lt_of_some e1
   simpa using this
  ·obtain ⟨q, hq⟩ := idx_some (l := ps) (i := i) (by rw [← h.len]; exact idx_lt hx)
   rcases hat with e | e
   ·exact ha.far h.len hx hk1 (by rw [← e]; exact hk2)
   ·obtain ⟨c1, e1⟩ := own_blk (ha0.2.1 i q x hq hx).1 hk1
    have := lt_of_some e1
    rw [hk2] at e
    injection e with e
    omega
 ·refine Below.setCell ?_ h.low _
  exact (Below.refl _ _).grown hgrow hlow (fun k hk => own_ge hu k hk)
theorem Box.dropS {S : Nat → Prop} {lo g o : Nat} {C : Nat → Option Value} {T : TypeId} {w : World} {v u : Value} {d d' : Int} {ps : List Pt} {us : List Value} {put : List Int} (h : Box lo g o C T w v u d ps us) (hT1 : ¬ T = 3) (hT2 : ¬ T = 68)
  (ha : Apart lo w.heap.size w (ps ++ [⟨2, 0, put⟩]) (us ++ [u])) (hos : OwnS S g v (us ++ [u])) :
  BAtS S lo g o C T (w.setCell ⟨g, o + 2, none⟩ (.int .i64 d')) ps put d' ∧ Below lo w (w.setCell ⟨g, o + 2, none⟩ (.int .i64 d')) ∧ Fr S w (w.setCell ⟨g, o + 2, none⟩ (.int .i64 d')) := by
 obtain ⟨D, hD, k1, k2, k3, k4⟩ := h.box
 refine ⟨⟨v, u, us, ⟨⟨_, hD.set k3 _, by rw [upd_ne _ (by omega)]; exact k1, by rw [upd_ne _ (by omega)]; exact k2, upd_at _ _ _, fun i hi => by rw [upd_ne _ (by omega)]; exact k4 i hi⟩, ownsRow_setCell_other h.row (hD.far h.row hT2) _, h.len, h.low⟩, ha.keep (by simp) (fun i x k hx hk1 hk2 => ?_), hos⟩, (Below.refl _ _).setCell h.low _, (Fr.refl S w).setCell (p := ⟨g, o + 2, none⟩) hos.1 _⟩
 obtain ⟨q, hq⟩ := idx_some (l := ps ++ [⟨2, 0, put⟩]) (i := i) (by rw [← ha.1]; exact idx_lt hx)
 have hkg : ¬ k = g := fun e => hD.far (ha.2.1 i q x hq hx).1 hT1 (by rw [hk1, e])
 rw [Below.heap_setCell _ _ _ _ hkg]
theorem Box.setN {lo g o gv cap : Nat} {C : Nat → Option Value} {T : TypeId} {w : World} {u : Value} {d b : Int} {r : List Pt} {p : Pt} {us : List Value} (h : Box lo g o C T w (.slice (some ⟨gv, 0, none⟩) (r.length + 1) cap) u d (r ++ [p]) us) (hT1 : ¬ T = 3) (hT2 : ¬ T = 68)
  (ha : Apart lo w.heap.size w (r ++ [p]) us) :
  Box lo g o C T (w.setCell ⟨gv, r.length * 3 + 1, none⟩ (.int .i64 b)) (.slice (some ⟨gv, 0, none⟩) (r.length + 1) cap) u d (r ++ [⟨p.kind, b, p.signs⟩]) us ∧
  Apart lo (w.setCell ⟨gv, r.length * 3 + 1, none⟩ (.int .i64 b)).heap.size (w.setCell ⟨gv, r.length * 3 + 1, none⟩ (.int .i64 b)) (r ++ [⟨p.kind, b, p.signs⟩]) us ∧
  Below lo w (w.setCell ⟨gv, r.length * 3 + 1, none⟩ (.int .i64 b)) := by
 obtain ⟨D, hD, k1, k2, k3, k4⟩ := h.box
 have hgv := hD.far h.row hT2
 have hge := own_ge h.row gv rfl
 have hl : us.length = (r ++ [p]).length := h.len
 refine ⟨⟨⟨D, hD.keep (Below.heap_setCell _ _ _ _ (fun e => hgv (by simp [Value.ownBlock]; exact e.symm))), k1, k2, k3, k4⟩, ?_, by simpa using hl, h.low⟩, ?_, (Below.refl _ _).setCell hge _⟩
 ·have e1 := cellsOf_setN (r ++ [p]) us r.length p b hl (by simp)
  have e2 : (r ++ [p]).set r.length ⟨p.kind, b, p.signs⟩ = r ++ [⟨p.kind, b, p.signs⟩] := by simp
  rw [e2] at e1
  rw [← e1]
  have := (World.ownsRow.stored (n := r.length + 1) (by simpa using h.row) (r.length * 3 + 1) (.int .i64 b)).1
  simpa using this
 ·refine Apart.setN (p := p) (ha.keep (by simp) (fun i x k hx hk1 hk2 => ?_)) rfl
  obtain ⟨q, hq⟩ := idx_some (l := r ++ [p]) (i := i) (by rw [← hl]; exact idx_lt hx)
  obtain ⟨c1, e1⟩ := own_blk (ha.2.1 i q x hq hx).1 hk1
  have hne : ¬ k = gv := fun e => by
   subst e
   exact own_far h.row e1 (by decide) rfl
  rw [Below.heap_setCell _ _ _ _ hne]
theorem Box.parts {lo g o : Nat} {C : Nat → Option Value} {T : TypeId} {w : World} {v u : Value} {d : Int} {ps : List Pt} {us : List Value} (h : Box lo g o C T w v u d ps us) (ha : Apart lo w.heap.size w ps us) : PBuf lo w.heap.size w v ps :=
 ⟨us, h.row, ha, fun k hk => by obtain ⟨c1, e1⟩ := own_blk h.row hk; exact lt_of_some e1, Nat.le_refl _, Nat.le_trans h.low (Nat.le_of_lt h.lt)⟩
def GoneX (S : Nat → Prop) (lo g o : Nat) (C : Nat → Option Value) (ps : List Pt) (w : World) (e : Ending) (w' : World) : Prop := GoneS S lo ps w e w' ∧ ∃ v u us, Box lo g o C 211 w' v u 0 ps us
theorem implFlush_f (S : Nat → Prop) (lo g o : Nat) (C : Nat → Option Value) (ps : List Pt) (put : List Int) (d : Int) (w : World) (hb : BAtS S lo g o C 211 w ps put d) (hS : ∀ b, w.heap.size ≤ b → S b) (hl : ps.length ≤ 4294967296) (hp : put.length ≤ 4294967296) :
  Calls Tryz.prog 164 #[.pointer (some ⟨g, o, none⟩)] w (FlushedS S lo g o C 211 w (ps ++ putL put ++ dropL d)) := by
 obtain ⟨i0, hi0, hz0, hz1, hz2⟩ := info_parts part_info
 obtain ⟨v, u, us, hx, ha, hos⟩ := hb
 have HS := Lib.hid hS
 have HOS := Lib.hid hos
 clear hS hos
 have ha0 := ha.init hx.len
 obtain ⟨A, c, rfl⟩ := own_form (ha.last hx.len)
 have c0 := hx.cell0
 have c1 := hx.cell1
 have c2 := hx.cell2
 have f0 := hx.free o
 have f1 := hx.free (o + 1)
 have f2 := hx.free (o + 2)
 have HX := Lib.hid hx
 have HA := Lib.hid ha
 have HA0 := Lib.hid ha0
 clear hx ha ha0
 by_cases hput : put.length = 0
 ·have e1 : putL put = [] := by simp [putL, hput]
  rw [e1, List.append_nil]
  by_cases hd : 0 < d
  ·have e2 : dropL d = [⟨3, d, []⟩] := by simp [dropL, hd]
   rw [e2]
   go_enter Tryz.func164, Tryz.ntmps164
   go_wp2_with fail
   have lg := HX.out.lt
   have hlo : lo ≤ w.heap.size := Nat.le_trans HX.out.low (Nat.le_of_lt lg)
   have hne := HX.out.far HX.out.row (by decide)
   go_region_law ((refine step_append_lies _ (by rfl) (.tmp 31) (.tmp 37) 37 (by rfl) lo 68 i0 _ 3 40 Tryz.underlying37 hi0 hz0 hz1 hz2 rfl (by omega) v ps.length (cellsOf ps us) (by rfl) ((HX.out.row.alloc _).drew) ⟨w.heap.size, 0, none⟩ 1 1 [.int .i64 3, .int .i64 d, .slice none 0 0] (by rfl) (by rfl) (World.news_of_block (cs := #[.int .i64 3, .int .i64 d, .slice none 0 0]) (t := 68) (fr := (0, 0)) (heap_alloc_new w _)) (by simp [Value.oneCell']) (by omega) (by unfold maxLen; omega) (by omega) (by simp; omega) (w.heap.size + 1) (by simp) ?_; intro gg cap w1 hown1 hgrow hat hlt; have hf := HX.out.freeG o (below_made w _) hgrow hne; have hf1 := HX.out.freeG (o + 1) (below_made w _) hgrow hne; have hf2 := HX.out.freeG (o + 2) (below_made w _) hgrow hne; have hc : w1.cell? ⟨g, o, none⟩ = some v := HX.out.cellG0 (below_made w _) hgrow hne; have hc1 : w1.cell? ⟨g, o + 1, none⟩ = some (.slice A put.length c) := HX.out.cellG1 (below_made w _) hgrow hne; have hc2 : w1.cell? ⟨g, o + 2, none⟩ = some (.int .i64 d) := HX.out.cellG2 (below_made w _) hgrow hne))
   all_goals
    obtain ⟨hx2, ha2, b2⟩ := Box.push (p := ⟨3, d, []⟩) HX.out (by decide) (by decide) (Apart.bare 3 d HA0.out) (below_made w _) hown1 hgrow
    have HO2 := Lib.hid (HOS.out.init.push (n := ps.length + 1) (cap := cap) nil_own hat (HS.out _ (by omega)))
    have HR2 := Lib.hid (push_fr (o := o) HOS.out.init (below_made w _) hgrow (.slice (some ⟨gg, 0, none⟩) (ps.length + 1) cap))
    have HX2 := Lib.hid hx2
    have HA2 := Lib.hid ha2
    have HB2 := Lib.hid b2
    clear hx2 ha2 b2
    go_wp2
    go_end0
    obtain ⟨r1, r2, r3⟩ := HX2.out.clearS (by decide) (by decide) HA2.out HO2.out
    exact ⟨rfl, r1, HB2.out.trans r2, HR2.out.trans r3⟩
  ·have e2 : dropL d = [] := by simp [dropL]; omega
   rw [e2, List.append_nil]
   go_enter Tryz.func164, Tryz.ntmps164
   go_wp2_with fail
   go_end0
   obtain ⟨r1, r2, r3⟩ := HX.out.clearS (by decide) (by decide) HA0.out HOS.out.init
   exact ⟨rfl, r1, r2, r3⟩
 ·have hput' : (0 : Int) < (put.length : Int) := by omega
  have e1 : putL put = [⟨2, 0, put⟩] := by simp [putL, hput]
  rw [e1]
  by_cases hd : 0 < d
  ·have e2 : dropL d = [⟨3, d, []⟩] := by simp [dropL, hd]
   rw [e2]
   generalize hQ : ps ++ [⟨2, 0, put⟩] ++ [⟨3, d, []⟩] = Q
   have HQ := Lib.hid hQ
   clear hQ
   go_enter Tryz.func164, Tryz.ntmps164
   go_wp2_with fail
   have lg := HX.out.lt
   have hlo : lo ≤ w.heap.size := Nat.le_trans HX.out.low (Nat.le_of_lt lg)
   have hne := HX.out.far HX.out.row (by decide)
   go_region_law ((refine step_append_lies _ (by rfl) (.tmp 12) (.tmp 18) 37 (by rfl) lo 68 i0 _ 3 40 Tryz.underlying37 hi0 hz0 hz1 hz2 rfl (by omega) v ps.length (cellsOf ps us) (by rfl) ((HX.out.row.alloc _).drew) ⟨w.heap.size, 0, none⟩ 1 1 [.int .i64 2, .int .i64 0, .slice A put.length c] (by rfl) (by rfl) (World.news_of_block (cs := #[.int .i64 2, .int .i64 0, .slice A put.length c]) (t := 68) (fr := (0, 0)) (heap_alloc_new w _)) (by simp [Value.oneCell']) (by omega) (by unfold maxLen; omega) (by omega) (by simp; omega) (w.heap.size + 1) (by simp) ?_; intro gg cap w1 hown1 hgrow hat hlt; have hf := HX.out.freeG o (below_made w _) hgrow hne; have hf1 := HX.out.freeG (o + 1) (below_made w _) hgrow hne; have hf2 := HX.out.freeG (o + 2) (below_made w _) hgrow hne; have hc : w1.cell? ⟨g, o, none⟩ = some v := HX.out.cellG0 (below_made w _) hgrow hne; have hc1 : w1.cell? ⟨g, o + 1, none⟩ = some (.slice A put.length c) := HX.out.cellG1 (below_made w _) hgrow hne; have hc2 : w1.cell? ⟨g, o + 2, none⟩ = some (.int .i64 d) := HX.out.cellG2 (below_made w _) hgrow hne))
   all_goals
    obtain ⟨hx1, ha1, b1⟩ := Box.push (p := ⟨2, 0, put⟩) HX.out (by decide) (by decide) HA.out (below_made w _) hown1 hgrow
    have HO1 := Lib.hid (HOS.out.init.push (n := ps.length + 1) (cap := cap) HOS.out.last hat (HS.out _ (by omega)))
    have HR1 := Lib.hid (push_fr (o := o) HOS.out.init (below_made w _) hgrow (.slice (some ⟨gg, 0, none⟩) (ps.length + 1) cap))
    clear hown1 hgrow hat hlt hlo hne lg c0 c1 c2 f0 f1 f2
    have HX1 := Lib.hid hx1
    have HA1 := Lib.hid ha1
    have HB1 := Lib.hid b1
    clear hx1 ha1 b1
    go_wp2_with fail
    clear hf hf1 hf2 hc hc1 hc2
    generalize (Value.slice (some ⟨gg, 0, none⟩) (ps.length + 1) cap) = v1 at *
    generalize w1.setCell ⟨g, o, none⟩ v1 = W1 at *
    have c0 := HX1.out.cell0
    have c1 := HX1.out.cell1
    have c2 := HX1.out.cell2
    have f0 := HX1.out.free o
    have f1 := HX1.out.free (o + 1)
    have f2 := HX1.out.free (o + 2)
    generalize hps : ps ++ [⟨2, 0, put⟩] = ps1 at *
    have hl1 : ps1.length ≤ 4294967297 := by rw [← hps]; simp; omega
    clear hps
    generalize us ++ [Value.slice A put.length c] = us1 at *
    have lg := HX1.out.lt
    have hlo : lo ≤ W1.heap.size := Nat.le_trans HX1.out.low (Nat.le_of_lt lg)
    have hne := HX1.out.far HX1.out.row (by decide)
    go_region_law ((refine step_append_lies _ (by rfl) (.tmp 31) (.tmp 37) 37 (by rfl) lo 68 i0 _ 3 40 Tryz.underlying37 hi0 hz0 hz1 hz2 rfl (by omega) v1 ps1.length (cellsOf ps1 us1) (by rfl) ((HX1.out.row.alloc _).drew) ⟨W1.heap.size, 0, none⟩ 1 1 [.int .i64 3, .int .i64 d, .slice none 0 0] (by rfl) (by rfl) (World.news_of_block (cs := #[.int .i64 3, .int .i64 d, .slice none 0 0]) (t := 68) (fr := (0, 0)) (heap_alloc_new W1 _)) (by simp [Value.oneCell']) (by omega) (by unfold maxLen; omega) (by omega) (by simp; omega) (W1.heap.size + 1) (by simp) ?_; intro gg cap w1 hown1 hgrow hat hlt; have hf := HX1.out.freeG o (below_made W1 _) hgrow hne; have hf1 := HX1.out.freeG (o + 1) (below_made W1 _) hgrow hne; have hf2 := HX1.out.freeG (o + 2) (below_made W1 _) hgrow hne; have hc : w1.cell? ⟨g, o, none⟩ = some v1 := HX1.out.cellG0 (below_made W1 _) hgrow hne; have hc1 : w1.cell? ⟨g, o + 1, none⟩ = some (.slice A put.length c) := HX1.out.cellG1 (below_made W1 _) hgrow hne; have hc2 : w1.cell? ⟨g, o + 2, none⟩ = some (.int .i64 d) := HX1.out.cellG2 (below_made W1 _) hgrow hne))
    all_goals
     obtain ⟨hx2, ha2, b2⟩ := Box.push (p := ⟨3, d, []⟩) HX1.out (by decide) (by decide) (Apart.bare 3 d HA1.out) (below_made W1 _) hown1 hgrow
     have HO2 := Lib.hid (HO1.out.push (n := ps1.length + 1) (cap := cap) nil_own hat (HS.out _ (by have := HR1.out.size; omega)))
     have HR2 := Lib.hid (push_fr (o := o) HO1.out (below_made W1 _) hgrow (.slice (some ⟨gg, 0, none⟩) (ps1.length + 1) cap))
     have HX2 := Lib.hid hx2
     have HA2 := Lib.hid ha2
     have HB2 := Lib.hid b2
     clear hx2 ha2 b2
     go_wp2
     go_end0
     obtain ⟨r1, r2, r3⟩ := HX2.out.clearS (by decide) (by decide) HA2.out HO2.out
     exact ⟨rfl, by rw [← HQ.out]; exact r1, HB1.out.trans (HB2.out.trans r2), HR1.out.trans (HR2.out.trans r3)⟩
  ·have e2 : dropL d = [] := by simp [dropL]; omega
   rw [e2, List.append_nil]
   go_enter Tryz.func164, Tryz.ntmps164
   go_wp2_with fail
   have lg := HX.out.lt
   have hlo : lo ≤ w.heap.size := Nat.le_trans HX.out.low (Nat.le_of_lt lg)
   have hne := HX.out.far HX.out.row (by decide)
   go_region_law ((refine step_append_lies _ (by rfl) (.tmp 12) (.tmp 18) 37 (by rfl) lo 68 i0 _ 3 40 Tryz.underlying37 hi0 hz0 hz1 hz2 rfl (by omega) v ps.length (cellsOf ps us) (by rfl) ((HX.out.row.alloc _).drew) ⟨w.heap.size, 0, none⟩ 1 1 [.int .i64 2, .int .i64 0, .slice A put.length c] (by rfl) (by rfl) (World.news_of_block (cs := #[.int .i64 2, .int .i64 0, .slice A put.length c]) (t := 68) (fr := (0, 0)) (heap_alloc_new w _)) (by simp [Value.oneCell']) (by omega) (by unfold maxLen; omega) (by omega) (by simp; omega) (w.heap.size + 1) (by simp) ?_; intro gg cap w1 hown1 hgrow hat hlt; have hf := HX.out.freeG o (below_made w _) hgrow hne; have hf1 := HX.out.freeG (o + 1) (below_made w _) hgrow hne; have hf2 := HX.out.freeG (o + 2) (below_made w _) hgrow hne; have hc : w1.cell? ⟨g, o, none⟩ = some v := HX.out.cellG0 (below_made w _) hgrow hne; have hc1 : w1.cell? ⟨g, o + 1, none⟩ = some (.slice A put.length c) := HX.out.cellG1 (below_made w _) hgrow hne; have hc2 : w1.cell? ⟨g, o + 2, none⟩ = some (.int .i64 d) := HX.out.cellG2 (below_made w _) hgrow hne))
   all_goals
    obtain ⟨hx1, ha1, b1⟩ := Box.push (p := ⟨2, 0, put⟩) HX.out (by decide) (by decide) HA.out (below_made w _) hown1 hgrow
    have HO2 := Lib.hid (HOS.out.init.push (n := ps.length + 1) (cap := cap) HOS.out.last hat (HS.out _ (by omega)))
    have HR2 := Lib.hid (push_fr (o := o) HOS.out.init (below_made w _) hgrow (.slice (some ⟨gg, 0, none⟩) (ps.length + 1) cap))
    have HX2 := Lib.hid hx1
    have HA2 := Lib.hid ha1
    have HB2 := Lib.hid b1
    clear hx1 ha1 b1
    go_wp2
    go_end0
    obtain ⟨r1, r2, r3⟩ := HX2.out.clearS (by decide) (by decide) HA2.out HO2.out
    exact ⟨rfl, r1, HB2.out.trans r2, HR2.out.trans r3⟩
theorem implDrop_f (S : Nat → Prop) (lo g o : Nat) (C : Nat → Option Value) (ps : List Pt) (put : List Int) (d n : Int) (w : World) (hb : BAtS S lo g o C 211 w ps put d) (hS : ∀ b, w.heap.size ≤ b → S b) (h0 : 0 ≤ d) (h1 : d ≤ 4611686018427387904) (h2 : 0 ≤ n) (h3 : n ≤ 1048576) :
  Calls Tryz.prog 163 #[.pointer (some ⟨g, o, none⟩), .int .i64 n] w (BuiltS S lo g o C 211 w ps put (d + n)) := by
 obtain ⟨v, u, us, hx, ha, hos⟩ := hb
 have HS := Lib.hid hS
 have HOS := Lib.hid hos
 clear hS hos
 have c2 := hx.cell2
 have f2 := hx.free (o + 2)
 have HX := Lib.hid hx
 have HA := Lib.hid ha
 clear hx ha
 go_enter Tryz.func163, Tryz.ntmps163
 go_wp2
 go_end0
 obtain ⟨r1, r2, r3⟩ := HX.out.dropS (d' := d + n) (by decide) (by decide) HA.out HOS.out
 exact ⟨rfl, r1, r2, r3⟩
theorem implPut_f (S : Nat → Prop) (lo g o : Nat) (C : Nat → Option Value) (ps : List Pt) (put : List Int) (d : Int) (A : Option Addr) (c : Nat) (zs : List Int) (w : World) (hb : BAtS S lo g o C 211 w ps put d) (hS : ∀ b, w.heap.size ≤ b → S b) (hr : Row (Value.int .i64) w w.heap.size A zs) (hp : put.length ≤ 4294967296) (hz : zs.length ≤ 4294967296) :
  Calls Tryz.prog 162 #[.pointer (some ⟨g, o, none⟩), .slice A zs.length c] w (BuiltS S lo g o C 211 w ps (put ++ zs) d) := by
 obtain ⟨i0, hi0, hz0, hz1, hz2⟩ := info_parts ints_info
 obtain ⟨v, u, us, hx, ha, hos⟩ := hb
 have HS := Lib.hid hS
 have HOS := Lib.hid hos
 clear hS hos
 obtain ⟨Au, cu, rfl⟩ := own_form (ha.last hx.len)
 simp only at hx ha
 have c1 := hx.cell1
 have f1 := hx.free (o + 1)
 have ho := Lib.hid (ha.last hx.len)
 have hlo : lo ≤ w.heap.size := Nat.le_trans hx.low (Nat.le_of_lt hx.lt)
 have HX := Lib.hid hx
 have HA := Lib.hid ha
 clear hx ha
 by_cases hn : 0 < zs.length
 ·obtain ⟨ad, rfl, hbk, hcs⟩ := hr hn
  have hcs' : ∀ j x, (zs.map (Value.int .i64))[j]? = some x → w.cell? (ad.add j) = some x := fun j x hx => by
   rw [List.getElem?_map] at hx
   obtain ⟨z, hz, rfl⟩ := Option.map_eq_some_iff.1 hx
   exact hcs j z hz
  have HC := Lib.hid hcs'
  clear hcs hcs' hr
  have hug := HX.out.far ho.out (by decide)
  go_enter Tryz.func162, Tryz.ntmps162
  go_wp2_with (at_builtin; refine wpList_append_lies _ rfl (.tmp 8) (.tmp 9) 22 rfl lo 3 i0 (.int .i64 0) 1 8 Tryz.underlying22 hi0 hz0 hz1 hz2 rfl (by decide) (.slice Au put.length cu) put.length (put.map (Value.int .i64)) rfl ho.out ad zs.length c (zs.map (Value.int .i64)) rfl (by simp) HC.out (by simp [Value.oneCell']) (by omega) (by unfold maxLen; omega) (by omega) hlo w.heap.size rfl ?_; intro gg cap w1 hown1 hgrow hat hlt; have hf := HX.out.freeG (o + 1) (Below.refl _ _) hgrow hug; have hc : w1.cell? ⟨g, o + 1, none⟩ = some (.slice Au put.length cu) := HX.out.cellG1 (Below.refl _ _) hgrow hug)
  go_end0
  obtain ⟨r1, r2, r3⟩ := Box.moreS (put' := put ++ zs) HX.out (by decide) (by decide) HA.out (by simpa using hown1) hgrow (hat.elim (fun e => .inl (by rw [e]; rfl)) (fun e => .inr (by rw [← e]; rfl))) HOS.out (HS.out _ (Nat.le_refl _))
  exact ⟨rfl, r1, r2, r3⟩
 ·have e0 : zs = [] := List.eq_nil_of_length_eq_zero (by omega)
  subst e0
  rw [List.append_nil]
  go_enter Tryz.func162, Tryz.ntmps162
  go_wp2_with (at_builtin; refine wpList_append_zero rfl (.tmp 8) (.tmp 9) 22 rfl lo 3 i0 1 Tryz.underlying22 hi0 (.slice Au put.length cu) put.length (put.map (Value.int .i64)) rfl ho.out A c rfl ?_)
  go_end0
  obtain ⟨r1, r2, r3⟩ := Box.moreS (put' := put) HX.out (by decide) (by decide) HA.out ho.out ⟨rfl, rfl, rfl, Nat.le_refl _, fun _ _ _ => rfl⟩ (.inl rfl) HOS.out (HS.out _ (Nat.le_refl _))
  exact ⟨rfl, r1, r2, r3⟩
theorem implDone_f (S : Nat → Prop) (lo g o : Nat) (C : Nat → Option Value) (ps : List Pt) (put : List Int) (d : Int) (w : World) (hb : BAtS S lo g o C 211 w ps put d) (hS : ∀ b, w.heap.size ≤ b → S b) (hl : ps.length ≤ 4294967296) (hp : put.length ≤ 4294967296) :
  Calls Tryz.prog 147 #[.pointer (some ⟨g, o, none⟩)] w (GoneX S lo g o C (ps ++ putL put ++ dropL d) w) := by
 go_enter Tryz.func147, Tryz.ntmps147
 go_wp2_with fail
 refine (implFlush_f S lo g o C ps put d w hb hS hl hp).mono ?_
 rintro e w1 ⟨rfl, ⟨v, us, hx, ha, hos⟩, b1, fr1⟩
 have HS := Lib.hid hS
 have HOS := Lib.hid hos
 have HR := Lib.hid fr1
 clear hS hos fr1
 obtain ⟨Av, cv, rfl⟩ := own_form hx.row
 have c0 := hx.cell0
 have HX := Lib.hid hx
 have HA := Lib.hid ha
 clear hx ha
 generalize ps ++ putL put ++ dropL d = q at *
 go_wp2
 go_ret
 exact ⟨⟨_, us, rfl, HX.out.parts HA.out, b1, HR.out, HX.out.row, HX.out.len, HOS.out.2.1, HOS.out.2.2⟩, _, _, us, HX.out⟩
theorem implKeep_f (S : Nat → Prop) (lo g o : Nat) (C : Nat → Option Value) (ps : List Pt) (put : List Int) (d n : Int) (w : World) (hb : BAtS S lo g o C 211 w ps put d) (hS : ∀ b, w.heap.size ≤ b → S b) (hl : ps.length ≤ 4294967296) (hp : put.length ≤ 4294967296) (hn : ¬ n = 0) (hn0 : 0 ≤ n) (hn1 : n ≤ 1048576)
  (hq : ∀ p ∈ ps ++ putL put ++ dropL d, 0 ≤ p.n ∧ p.n ≤ 4611686018427387904) (hql : (ps ++ putL put ++ dropL d).length ≤ 4294967298) :
  Calls Tryz.prog 161 #[.pointer (some ⟨g, o, none⟩), .int .i64 n] w (FlushedS S lo g o C 211 w (keepTo (ps ++ putL put ++ dropL d) n)) := by
 obtain ⟨i0, hi0, hz0, hz1, hz2⟩ := info_parts part_info
 go_enter Tryz.func161, Tryz.ntmps161
 go_wp2_with fail
 refine (implFlush_f S lo g o C ps put d w hb hS hl hp).mono ?_
 rintro e w1 ⟨rfl, ⟨v, us, hx, ha, hos⟩, b1, fr1⟩
 have HS := Lib.hid hS
 have HOS := Lib.hid hos
 have HR := Lib.hid fr1
 clear hS hos fr1
 generalize ps ++ putL put ++ dropL d = q at *
 have c0 := hx.cell0
 have f0 := hx.free o
 have hne := hx.far hx.row (by decide)
 have hlo : lo ≤ w1.heap.size := Nat.le_trans hx.low (Nat.le_of_lt hx.lt)
 rcases q.eq_nil_or_concat with rfl | ⟨r, p, rfl⟩
 ·obtain ⟨Av, cv, rfl⟩ := own_form hx.row
  have HX := Lib.hid hx
  have HA := Lib.hid ha
  clear hx ha
  go_wp2_with (at_builtin; refine wpList_append_lies _ rfl (.tmp 44) (.tmp 47) 37 rfl lo 68 i0 _ 3 40 Tryz.underlying37 hi0 hz0 hz1 hz2 rfl (by omega) (.slice Av 0 cv) 0 (cellsOf [] us) rfl (HX.out.row.alloc _) ⟨w1.heap.size, 0, none⟩ 1 1 [.int .i64 1, .int .i64 n, .slice none 0 0] rfl rfl (World.news_of_block (cs := #[.int .i64 1, .int .i64 n, .slice none 0 0]) (t := 68) (fr := (0, 0)) (heap_alloc_new w1 _)) (by simp [Value.oneCell']) (by omega) (by unfold maxLen; omega) (by omega) (by simp; omega) (w1.heap.size + 1) (by simp) ?_; intro gg cap w2 hown1 hgrow hat hlt; have hf := HX.out.freeG o (below_new w1 _) hgrow hne; have hc : w2.cell? ⟨g, o, none⟩ = some (.slice Av 0 cv) := HX.out.cellG0 (below_new w1 _) hgrow hne)
  go_end0
  obtain ⟨hx2, ha2, b2⟩ := Box.push (p := ⟨1, n, []⟩) HX.out (by decide) (by decide) (Apart.bare 1 n HA.out) (below_new w1 _) hown1 hgrow
  refine ⟨rfl, ?_, b1.trans b2, HR.out.trans (push_fr (o := o) HOS.out (below_new w1 _) hgrow _)⟩
  rw [keepTo_nil]
  exact ⟨_, _, hx2, ha2, HOS.out.push nil_own hat (HS.out _ (by have := HR.out.size; omega))⟩
 ·rw [List.concat_eq_append] at *
  have hrl : (r ++ [p]).length = r.length + 1 := by simp
  rw [hrl] at hql
  have hp0 := hq p (by simp)
  clear hq
  rcases hx.row.2 with ⟨_, h0⟩ | ⟨gv, cap0, cur, rfl, hgv, hhv, hcap, hcap2, _, _⟩
  ·simp at h0
  rw [hrl] at c0 hne hcap hx
  have hrow : w1.ownsRow lo 68 3 (.slice (some ⟨gv, 0, none⟩) (r.length + 1) cap0) (r.length + 1) (cellsOf (r ++ [p]) us) := by have := hx.row; rwa [hrl] at this
  have k0 : w1.cell? ⟨gv, r.length * 3, none⟩ = some (.int .i64 p.kind) := by
   have := hrow.cellAt (r.length * 3) (by omega)
   obtain ⟨u, hu⟩ := idx_some (l := us) (i := r.length) (by rw [hx.len]; simp)
   rw [this, (cellsOf_at (r ++ [p]) us r.length p u (by simp) hu).1]
  have k1 : w1.cell? ⟨gv, r.length * 3 + 1, none⟩ = some (.int .i64 p.n) := by
   have := hrow.cellAt (r.length * 3 + 1) (by omega)
   obtain ⟨u, hu⟩ := idx_some (l := us) (i := r.length) (by rw [hx.len]; simp)
   rw [this, (cellsOf_at (r ++ [p]) us r.length p u (by simp) hu).2.1]
  have fv := hrow.frozenAt (r.length * 3 + 1)
  have HRW := Lib.hid hrow
  clear hrow
  have HX := Lib.hid hx
  have HA := Lib.hid ha
  clear hx ha hhv
  by_cases hk : p.kind = 1
  ·go_wp2
   go_end0
   obtain ⟨hx2, ha2, b2⟩ := Box.setN (b := p.n + n) HX.out (by decide) (by decide) HA.out
   refine ⟨rfl, ?_, b1.trans b2, HR.out.trans (setN_fr HOS.out _)⟩
   rw [keepTo_t n hk]
   exact ⟨_, _, hx2, ha2, HOS.out⟩
  ·go_wp2_with (at_builtin; refine wpList_append_lies _ rfl (.tmp 44) (.tmp 47) 37 rfl lo 68 i0 _ 3 40 Tryz.underlying37 hi0 hz0 hz1 hz2 rfl (by omega) (.slice (some ⟨gv, 0, none⟩) (r.length + 1) cap0) (r.length + 1) (cellsOf (r ++ [p]) us) rfl (HRW.out.alloc _) ⟨w1.heap.size, 0, none⟩ 1 1 [.int .i64 1, .int .i64 n, .slice none 0 0] rfl rfl (World.news_of_block (cs := #[.int .i64 1, .int .i64 n, .slice none 0 0]) (t := 68) (fr := (0, 0)) (heap_alloc_new w1 _)) (by simp [Value.oneCell']) (by omega) (by unfold maxLen; omega) (by omega) (by simp; omega) (w1.heap.size + 1) (by simp) ?_; intro gg cap w2 hown1 hgrow hat hlt; have hf := HX.out.freeG o (below_new w1 _) hgrow hne; have hc : w2.cell? ⟨g, o, none⟩ = some (.slice (some ⟨gv, 0, none⟩) (r.length + 1) cap0) := HX.out.cellG0 (below_new w1 _) hgrow hne)
   go_end0
   obtain ⟨hx2, ha2, b2⟩ := Box.push (p := ⟨1, n, []⟩) HX.out (by decide) (by decide) (Apart.bare 1 n HA.out) (below_new w1 _) (by rw [hrl]; exact hown1) hgrow
   rw [hrl] at hx2 ha2 b2
   refine ⟨rfl, ?_, b1.trans b2, HR.out.trans (push_fr (o := o) HOS.out (below_new w1 _) hgrow _)⟩
   rw [keepTo_f n hk]
   exact ⟨_, _, hx2, ha2, HOS.out.push nil_own hat (HS.out _ (by have := HR.out.size; omega))⟩
theorem implKeep_zero (g o : Nat) (w : World) : Calls Tryz.prog 161 #[.pointer (some ⟨g, o, none⟩), .int .i64 0] w fun e w' => e = .returned (.tuple #[]) ∧ w = w' := by
 go_enter Tryz.func161, Tryz.ntmps161
 go_wp2
 first | go_end0 | (refine bodyPost_ret (results_none rfl _ _ _) rfl ?_)
 exact ⟨rfl, rfl⟩
end Go.Proofs.YtglklgnggkenhaaGreatDoor.low.xb
namespace Go.Proofs.YtglklgnggkenhaaGreatDoor.low
open Go.RowKit
set_option linter.unusedVariables false
def Vp (p : Pt) : Prop := ((p.kind = 1 ∨ p.kind = 3) ∧ 0 ≤ p.n ∧ p.n ≤ 200 ∧ p.signs = []) ∨ (p.kind = 2 ∧ p.n = 0 ∧ p.signs.length ≤ 200) ∨ (p.kind = 0 ∧ p.n = 0 ∧ p.signs = [])
theorem Vp.of {p : Pt} (h : okPt p = true) : Vp p := by
 have := of_okPt h
 unfold Vp
 obtain ⟨k, n, zs⟩ := p
 simp only at this ⊢
 have e : zs.length = 0 → zs = [] := List.eq_nil_of_length_eq_zero
 rcases (show k = 1 ∨ k = 2 ∨ k = 3 by omega) with rfl | rfl | rfl
 ·exact .inl ⟨.inl rfl, by omega, by omega, e (by omega)⟩
 ·exact .inr (.inl ⟨rfl, by omega, by omega⟩)
 ·exact .inl ⟨.inr rfl, by omega, by omega, e (by omega)⟩
theorem Vp.size {p : Pt} (h : Vp p) : p.n + (p.signs.length : Int) = (sizeP p : Int) ∧ sizeP p ≤ 200 ∧ 0 ≤ p.n ∧ p.n ≤ 200 ∧ p.signs.length ≤ 200 := by
 obtain ⟨k, n, zs⟩ := p
 unfold sizeP
 rcases h with ⟨h1, h2, h3, h4⟩ | ⟨h1, h2, h3⟩ | ⟨h1, h2, h3⟩ <;> simp only at * <;> subst_vars <;> simp <;> (try omega)
 rcases h1 with rfl | rfl <;> simp <;> omega
theorem Vp.sz {p : Pt} (h : Vp p) (h0 : 0 < sizeP p) : szP_ p := by
 obtain ⟨k, n, zs⟩ := p
 have hs := h.size
 unfold szP_
 rcases h with ⟨h1, h2, h3, h4⟩ | ⟨h1, h2, h3⟩ | ⟨h1, h2, h3⟩ <;> simp only at * <;> subst_vars <;> simp [sizeP] at * <;> omega
structure Orr (lo g : Nat) (w : World) (p : Pt) (ps : List Pt) : Prop where
 box : ∃ B cb A c, w.heap[g]? = some (.cells #[.int .i64 p.kind, .int .i64 p.n, .slice B p.signs.length cb, .slice A ps.length c] 209 (0, 0)) ∧ RdC w lo (encInts p.signs) (.slice B p.signs.length cb) ∧ RdC w lo (encPs ps) (.slice A ps.length c)
 ge : lo ≤ g
 vp : Vp p
 vs : ∀ x ∈ ps, okPt x = true
 ln : ps.length ≤ 1048576
section
variable {lo g : Nat} {w w' : World} {p : Pt} {ps : List Pt}
theorem Orr.lt (h : Orr lo g w p ps) : g < w.heap.size := by obtain ⟨B, cb, A, c, h1, _⟩ := h.box; exact lt_of_some h1
theorem Orr.keep (h : Orr lo g w p ps) (hg : w'.heap[g]? = w.heap[g]?) (hb : Below lo w w') : Orr lo g w' p ps := by
 obtain ⟨B, cb, A, c, h1, h2, h3⟩ := h.box
 exact ⟨⟨B, cb, A, c, hg.trans h1, h2.below hb, h3.below hb⟩, h.ge, h.vp, h.vs, h.ln⟩
theorem Orr.past (h : Orr lo g w p ps) (hb : Below w.heap.size w w') : Orr lo g w' p ps :=
 h.keep (hb.block _ h.lt) (hb.mono (Nat.le_trans h.ge (Nat.le_of_lt h.lt)))
end
theorem parts_hd {w : World} {B : Nat} {A : Option Addr} {n c : Nat} {p : Pt} {ps : List Pt} (h : RdC w B (encPs (p :: ps)) (.slice A n c)) : ∃ b off A' c', A = some ⟨b, off, none⟩ ∧ b < B ∧ ps.length + 1 ≤ c ∧ w.cell? ⟨b, off, none⟩ = some (.int .i64 p.kind) ∧ w.cell? ⟨b, off + 1, none⟩ = some (.int .i64 p.n) ∧ w.cell? ⟨b, off + 2, none⟩ = some (.slice A' p.signs.length c') ∧ RdC w B (encInts p.signs) (.slice A' p.signs.length c') ∧
  (∀ d, ps.length ≤ d → RdC w B (encPs ps) (.slice (some ⟨b, off + 3, none⟩) ps.length d)) := by
 obtain ⟨A0, c0, hv, hc, h⟩ := h
 injection hv with e1 e2 e3
 subst e1 e3
 obtain ⟨ad, hA, hb, hs, hr⟩ := h (by simp)
 obtain ⟨b, off, spot⟩ := ad
 obtain rfl : spot = none := by
  rcases hs with hs | hs
  ·cases hs
  ·exact hs
 obtain ⟨⟨⟨v0, h0, rfl⟩, ⟨v1, h1, rfl⟩, ⟨v2, h2, r2⟩, _⟩, hr⟩ := hr
 obtain ⟨A', c', rfl, r3, _⟩ := ints_rd r2
 rw [add_at] at h0 h1 h2
 refine ⟨b, off, A', c', hA, hb, by simpa using hc, by simpa using h0, by simpa using h1, by simpa using h2, r2, fun d hd => ⟨some ⟨b, off + 3, none⟩, d, by simp, by simpa using hd, fun _ => ⟨⟨b, off + 3, none⟩, rfl, hb, .inr rfl, ?_⟩⟩⟩
 have key : ∀ (rs : List (List Dat)) (o : Nat), RdR w B 3 ⟨b, off, none⟩ (o + 3) rs → RdR w B 3 ⟨b, off + 3, none⟩ o rs := by
  have keyL : ∀ (ds : List Dat) (o : Nat), RdL w B ⟨b, off, none⟩ (o + 3) ds → RdL w B ⟨b, off + 3, none⟩ o ds := by
   intro ds
   induction ds with
   | nil => intro o _; trivial
   | cons d ds ih =>
    intro o ⟨⟨v, h1, h2⟩, h3⟩
    refine ⟨⟨v, ?_, h2⟩, ih (o + 1) (by rw [show o + 1 + 3 = o + 3 + 1 by omega]; exact h3)⟩
    rw [add_at] at h1 ⊢
    rw [show off + 3 + o = off + (o + 3) by omega]
    exact h1
  intro rs
  induction rs with
  | nil => intro o _; trivial
  | cons r rs ih =>
   intro o ⟨h1, h2⟩
   exact ⟨keyL r o h1, ih (o + 3) (by rw [show o + 3 + 3 = o + 3 + 3 by omega]; exact h2)⟩
 exact key _ 0 hr
theorem parts_none {w : World} {B : Nat} {A : Option Addr} {c : Nat} : RdC w B (encPs []) (.slice A 0 c) := ⟨A, c, by simp, by simp, fun h => by simp at h⟩
def restOf (g : Nat) (w : World) : Nat := match w.cell? ⟨g, 3, none⟩ with
 | some (.slice _ n _) => n
 | _ => 0
theorem orr_rest {lo g : Nat} {w : World} {p : Pt} {ps : List Pt} (h : Orr lo g w p ps) : restOf g w = ps.length := by
 obtain ⟨B, cb, A, c, h1, _⟩ := h.box
 have c3 : w.cell? ⟨g, 3, none⟩ = some (.slice A ps.length c) := cell_of_row _ _ 3 _ _ _ h1
 unfold restOf
 rw [c3]
def MoreP (lo g : Nat) (p : Pt) (ps : List Pt) (w : World) (e : Ending) (w' : World) : Prop := ∃ p' ps', e = .returned (.bool (decide (0 < sizeP p'))) ∧ Orr lo g w' p' ps' ∧ unitsP p' ++ units ps' = unitsP p ++ units ps ∧ (sizeP p' = 0 → ps' = []) ∧ Below lo w w' ∧ Fr (fun q => q = g) w w'
def nextW (g b off c k : Nat) (kind n : Int) (u : Value) (w : World) : World := ((((w.drew.setCell ⟨g, 0, none⟩ (.int .i64 kind)).setCell ⟨g, 1, none⟩ (.int .i64 n)).setCell ⟨g, 2, none⟩ u).setCell ⟨g, 3, none⟩ (.slice (if c = 1 then some ⟨b, off, none⟩ else some ⟨b, off + 3, none⟩) k (c - 1)))
theorem heap_drew (w : World) (g : Nat) : w.drew.heap[g]? = w.heap[g]? := rfl
theorem nextW_fr (g b off c k : Nat) (kind n : Int) (u : Value) (w : World) : Fr (fun q => q = g) w (nextW g b off c k kind n u w) :=
 (((((Fr.refl (fun q => q = g) w).drew).setCell (p := ⟨g, 0, none⟩) rfl _).setCell (p := ⟨g, 1, none⟩) rfl _).setCell (p := ⟨g, 2, none⟩) rfl _).setCell (p := ⟨g, 3, none⟩) rfl _
theorem nextW_below {lo g : Nat} (hg : lo ≤ g) (b off c k : Nat) (kind n : Int) (u : Value) (w : World) : Below lo w (nextW g b off c k kind n u w) :=
 (((((Below.refl lo w).drew).setCell (p := ⟨g, 0, none⟩) hg _).setCell (p := ⟨g, 1, none⟩) hg _).setCell (p := ⟨g, 2, none⟩) hg _).setCell (p := ⟨g, 3, none⟩) hg _
theorem orr_next {lo g b off c c' : Nat} {A' : Option Addr} {w : World} {q : Pt} {qs : List Pt} {v0 v1 v2 v3 : Value} (h1 : w.heap[g]? = some (.cells #[v0, v1, v2, v3] 209 (0, 0))) (hr : RdC w lo (encInts q.signs) (.slice A' q.signs.length c')) (ht : ∀ d, qs.length ≤ d → RdC w lo (encPs qs) (.slice (some ⟨b, off + 3, none⟩) qs.length d)) (hc : qs.length + 1 ≤ c) (hge : lo ≤ g)
  (hv : okPt q = true) (hvs : ∀ x ∈ qs, okPt x = true) (hln : qs.length ≤ 1048576) : Orr lo g (nextW g b off c qs.length q.kind q.n (.slice A' q.signs.length c') w) q qs := by
 have hb := nextW_below hge b off c qs.length q.kind q.n (.slice A' q.signs.length c') w
 refine ⟨⟨A', c', (if c = 1 then some ⟨b, off, none⟩ else some ⟨b, off + 3, none⟩), c - 1, ?_, hr.below hb, ?_⟩, hge, Vp.of hv, hvs, hln⟩
 ·unfold nextW
  rw [heap_setCell_same _ _ _ _ _ _ (heap_setCell_same _ _ _ _ _ _ (heap_setCell_same _ _ _ _ _ _ (heap_setCell_same _ _ _ _ _ _ ((heap_drew w g).trans h1))))]
  rfl
 ·by_cases e : c = 1
  ·rw [if_pos e]
   obtain rfl : qs = [] := List.eq_nil_of_length_eq_zero (by omega)
   exact parts_none
  ·rw [if_neg e]
   exact (ht _ (by omega)).below hb
theorem implMore (lo g : Nat) (p : Pt) (ps : List Pt) (w : World) (h : Orr lo g w p ps) : Calls Tryz.prog 179 #[.pointer (some ⟨g, 0, none⟩)] w (MoreP lo g p ps w) := by
 have hgw := h.lt
 go_enter Tryz.func179, Tryz.ntmps179
 go_wp2
 go_loopw [2] (fun t wr => t = .bool false ∧ ∃ p' ps', Orr lo g wr p' ps' ∧ unitsP p' ++ units ps' = unitsP p ++ units ps ∧ Below lo w wr ∧ Fr (fun q => q = g) w wr) (fun _ wr => restOf g wr)
 case atStart => exact ⟨rfl, p, ps, h, rfl, Below.refl _ _, Fr.refl _ _⟩
 case round =>
  obtain ⟨rfl, p', ps', ho, hu, hbel, hfr⟩ := hrel
  obtain ⟨B, cb, A, c, h1, h2, h3⟩ := ho.box
  have hz := ho.vp.size
  have c0 : wr.cell? ⟨g, 0, none⟩ = some (.int .i64 p'.kind) := cell_of_row _ _ 0 _ _ _ h1
  have c1 : wr.cell? ⟨g, 1, none⟩ = some (.int .i64 p'.n) := cell_of_row _ _ 1 _ _ _ h1
  have c2 : wr.cell? ⟨g, 2, none⟩ = some (.slice B p'.signs.length cb) := cell_of_row _ _ 2 _ _ _ h1
  have c3 : wr.cell? ⟨g, 3, none⟩ = some (.slice A ps'.length c) := cell_of_row _ _ 3 _ _ _ h1
  have hlt := ho.lt
  have HO := Lib.hid ho
  have HU := Lib.hid hu
  have HF := Lib.hid hfr
  have HZ := Lib.hid hz
  have H1 := Lib.hid h1
  have HM := Lib.hid (show restOf g wr = ps'.length by unfold restOf; rw [c3])
  clear ho hu hfr hz h1 h hgw
  go_wp2_with fail
  have hz := HZ.out
  refine (implSize_any p'.kind p'.n B p'.signs.length cb wr (by omega) (by omega) (by omega)).mono ?_
  clear hz c0 c1 c2
  rintro e w1 ⟨rfl, b1⟩
  have HB := Lib.hid b1
  have hlt1 : g < w1.heap.size := Nat.lt_of_lt_of_le hlt b1.size
  have h1' : w1.heap[g]? = some (.cells #[.int .i64 p'.kind, .int .i64 p'.n, .slice B p'.signs.length cb, .slice A ps'.length c] 209 (0, 0)) := (b1.block g hlt).trans H1.out
  have c3' : w1.cell? ⟨g, 3, none⟩ = some (.slice A ps'.length c) := cell_of_row _ _ 3 _ _ _ h1'
  have ho1 := HO.out.past b1
  have hb1 : Below lo w w1 := hbel.trans (b1.mono (Nat.le_trans ho1.ge (by have := HO.out.lt; omega)))
  have hf1 : Fr (fun q => q = g) w w1 := HF.out.trans (Fr.below b1)
  have H1' := Lib.hid h1'
  have HO1 := Lib.hid ho1
  have HF1 := Lib.hid hf1
  clear b1 c3 h1' ho1 hf1 HO HF HB H1 hbel
  rw [HZ.out.1]
  by_cases hs : sizeP p' = 0
  ·have g0 : (((sizeP p' : Nat) : Int) == 0) = true := by simp [hs]
   cases ps' with
   | nil =>
    have HS := Lib.hid hs
    clear hs
    go_wp2
    go_ret
    exact ⟨p', [], ret_b (by simp [HS.out]), HO1.out, HU.out, fun _ => rfl, hb1, HF1.out⟩
   | cons q qs =>
    have hql : ((qs.length : Int) + 1 == 0) = false := by simp; omega
    have hRd := HO1.out
    obtain ⟨B2, cb2, A2, c2, k1, k2, k3⟩ := hRd.box
    rw [H1'.out] at k1
    injection k1 with k1
    injection k1 with k1 _ _
    simp at k1
    obtain ⟨⟨rfl, rfl⟩, rfl, rfl⟩ := k1
    obtain ⟨b, off, A', c', rfl, hblt, hc, d0, d1, d2, r2, rt⟩ := parts_hd k3
    have f0 : ∀ o, w1.frozen? ⟨g, o, none⟩ = false := fun o => by simp [World.frozen?, H1'.out]
    have f1 := f0 0
    have f2 := f0 1
    have f3 := f0 2
    have f4 := f0 3
    have HK := Lib.hid (show RdC w1 lo (encInts q.signs) (.slice A' q.signs.length c') ∧ (∀ d, qs.length ≤ d → RdC w1 lo (encPs qs) (.slice (some ⟨b, off + 3, none⟩) qs.length d)) from ⟨r2, rt⟩)
    have c0 : w1.cell? ⟨g, 0, none⟩ = some (.int .i64 p'.kind) := cell_of_row _ _ 0 _ _ _ H1'.out
    have c1 : w1.cell? ⟨g, 1, none⟩ = some (.int .i64 p'.n) := cell_of_row _ _ 1 _ _ _ H1'.out
    have c2 : w1.cell? ⟨g, 2, none⟩ = some (.slice B p'.signs.length cb) := cell_of_row _ _ 2 _ _ _ H1'.out
    have hne : ¬ b = g := by have := HO1.out.ge; omega
    clear f0 r2 rt k2 k3 hRd hs
    have hq1 : (1 : Int) ≤ (qs.length : Int) + 1 := by omega
    go_wp2
    go_region
    all_goals
     go_roundw
     case rel =>
      have hv := HO1.out.vs
      have hln := HO1.out.ln
      have hx := orr_next H1'.out HK.out.1 HK.out.2 hc HO1.out.ge (hv q (by simp)) (fun x hx => hv x (by simp [hx])) (by simp at hln; omega)
      have hu : unitsP q ++ units qs = unitsP p ++ units ps := by
       rw [← HU.out, units_cons]
       have e : unitsP p' = [] := List.eq_nil_of_length_eq_zero (by rw [unitsP_len]; simpa using g0)
       rw [e]
       rfl
      repeat apply Exists.intro
      exact ⟨⟨rfl, q, qs, hx, hu, hb1.trans (nextW_below HO1.out.ge _ _ _ _ _ _ _ _), HF1.out.trans (nextW_fr _ _ _ _ _ _ _ _ _)⟩, rfl⟩
     case measure =>
      have hv := HO1.out.vs
      have hln := HO1.out.ln
      have hx := orr_next H1'.out HK.out.1 HK.out.2 hc HO1.out.ge (hv q (by simp)) (fun x hx => hv x (by simp [hx])) (by simp at hln; omega)
      rw [HM.out]
      refine Nat.lt_of_le_of_lt (Nat.le_of_eq (orr_rest hx)) ?_
      simp
  ·have g0 : (((sizeP p' : Nat) : Int) == 0) = false := by simp [hs]
   have HS := Lib.hid hs
   clear hs
   go_wp2
   go_ret
   exact ⟨p', ps', ret_b (by have := HS.out; simp; omega), HO1.out, HU.out, fun h => absurd h HS.out, hb1, HF1.out⟩
def cutL (p : Pt) (n : Nat) : Pt := if p.kind = 2 then ⟨2, 0, p.signs.take n⟩ else ⟨p.kind, (n : Int), []⟩
def cutR (p : Pt) (n : Nat) : Pt := if p.kind = 2 then ⟨2, 0, p.signs.drop n⟩ else ⟨p.kind, p.n - (n : Int), []⟩
def PtV (lo : Nat) (w : World) (p : Pt) (v : Value) : Prop := ∃ A c, v = .agg #[.int .i64 p.kind, .int .i64 p.n, .slice A p.signs.length c] ∧ RdC w lo (encInts p.signs) (.slice A p.signs.length c)
theorem PtV.below {lo : Nat} {w w' : World} {p : Pt} {v : Value} (h : PtV lo w p v) (hb : Below lo w w') : PtV lo w' p v := by
 obtain ⟨A, c, h1, h2⟩ := h
 exact ⟨A, c, h1, h2.below hb⟩
def CutP (lo : Nat) (p : Pt) (n : Nat) (w : World) (e : Ending) (w' : World) : Prop := ∃ v1 v2, e = .returned (.tuple #[v1, v2]) ∧ PtV lo w' (cutL p n) v1 ∧ PtV lo w' (cutR p n) v2 ∧ Below w.heap.size w w'
theorem ints_none {w : World} {B : Nat} {A : Option Addr} {c : Nat} : RdC w B (encInts []) (.slice A 0 c) := ⟨A, c, by simp, by simp, fun h => by simp at h⟩
theorem cut_below {lo : Nat} {w : World} (h : lo ≤ w.heap.size) (o1 o2 o3 : Obj) : Below lo w (((w.alloc o1).alloc o2).alloc o3).drew := (((((Below.refl lo w).alloc h _).alloc (by simp; omega) _).alloc (by simp; omega) _)).drew
theorem implCut (lo : Nat) (p : Pt) (n : Nat) (B : Option Addr) (cb : Nat) (w : World) (hv : Vp p) (hr : RdC w lo (encInts p.signs) (.slice B p.signs.length cb)) (hlo : lo ≤ w.heap.size) (h0 : 0 < n) (hn : n ≤ sizeP p) :
  Calls Tryz.prog 184 #[.agg #[.int .i64 p.kind, .int .i64 p.n, .slice B p.signs.length cb], .int .i64 (n : Int)] w (CutP lo p n w) := by
 have hz := hv.size
 by_cases hk : p.kind = 2
 ·have e1 : cutL p n = ⟨2, 0, p.signs.take n⟩ := by simp [cutL, hk]
  have e2 : cutR p n = ⟨2, 0, p.signs.drop n⟩ := by simp [cutR, hk]
  have hl : n ≤ p.signs.length := by simpa [sizeP, hk] using hn
  have g0 : (p.kind == 2) = true := by simp [hk]
  obtain ⟨A', c', hv', hrow, hcap⟩ := ints_rd hr
  injection hv' with x1 x2 x3
  subst x1 x3
  obtain ⟨ad, rfl, hb, hcell⟩ := hrow (by omega)
  have i1 : (0 : Int) ≤ (n : Int) := by omega
  have i2 : (n : Int) ≤ (p.signs.length : Int) := by omega
  have i3 : (n : Int) ≤ (cb : Int) := by omega
  have HR := Lib.hid hrow
  have H1 := Lib.hid e1
  have H2 := Lib.hid e2
  clear e1 e2 hrow hk hr hcell
  have hl1 : (p.signs.take n).length = n := by simp; omega
  have hl2 : (p.signs.drop n).length = p.signs.length - n := by simp
  have key : ∀ w', Below lo w w' → PtV lo w' ⟨2, 0, p.signs.take n⟩ (.agg #[.int .i64 2, .int .i64 0, .slice (some ad) n cb]) := fun w' hbw => by
   have := rd_ints (c := cb) (HR.out.init n) (by omega)
   rw [hl1] at this
   exact ⟨some ad, cb, by rw [hl1], by rw [hl1]; exact this.below hbw⟩
  have KEY := Lib.hid key
  clear key
  by_cases hcn : cb = n
  ·have e3 : p.signs.drop n = [] := List.drop_eq_nil_of_le (by omega)
   have e4 : p.signs.length = n := by omega
   have HL := Lib.hid e4
   have H3 := Lib.hid e3
   have HC := Lib.hid hcn
   clear e3 e4 hl1 hl2 hl i3 hcap
   subst hcn
   go_enter Tryz.func184, Tryz.ntmps184
   go_wp2
   go_region
   all_goals
    go_wp2
    refine bodyPost_ret (v := .tuple #[.agg #[.int .i64 2, .int .i64 0, .slice (some ad) cb cb], .agg #[.int .i64 2, .int .i64 0, .slice (some ad) (p.signs.length - cb) 0]]) (by simp [results, Tryz.results184, go_sem]) rfl ⟨_, _, rfl, ?_, ?_, ?_⟩
    ·rw [H1.out]
     exact KEY.out _ (cut_below hlo _ _ _)
    ·rw [H2.out, H3.out, HL.out, Nat.sub_self]
     exact ⟨some ad, 0, rfl, ints_none⟩
    ·exact cut_below (Nat.le_refl _) _ _ _
  ·have HL2 := Lib.hid hl2
   clear hl1 hl2
   go_enter Tryz.func184, Tryz.ntmps184
   go_wp2
   go_region
   all_goals
    go_wp2
    refine bodyPost_ret (v := .tuple #[.agg #[.int .i64 2, .int .i64 0, .slice (some ad) n cb], .agg #[.int .i64 2, .int .i64 0, .slice (some (ad.add n)) (p.signs.length - n) (cb - n)]]) (by simp [results, Tryz.results184, go_sem]) rfl ⟨_, _, rfl, ?_, ?_, ?_⟩
    ·rw [H1.out]
     exact KEY.out _ (cut_below hlo _ _ _)
    ·rw [H2.out]
     refine ⟨some (ad.add n), cb - n, by rw [HL2.out], ?_⟩
     rw [HL2.out]
     have := rd_ints (c := cb - n) (HR.out.tail n) (by rw [HL2.out]; omega)
     rw [HL2.out] at this
     exact this.below (cut_below hlo _ _ _)
    ·exact cut_below (Nat.le_refl _) _ _ _
 ·have e1 : cutL p n = ⟨p.kind, (n : Int), []⟩ := by simp [cutL, hk]
  have e2 : cutR p n = ⟨p.kind, p.n - (n : Int), []⟩ := by simp [cutR, hk]
  have g0 : (p.kind == 2) = false := by simp [hk]
  have hl : (n : Int) ≤ p.n := by have : sizeP p = p.n.toNat := by simp [sizeP, hk]
                                  omega
  have H1 := Lib.hid e1
  have H2 := Lib.hid e2
  clear e1 e2 hk hr
  go_enter Tryz.func184, Tryz.ntmps184
  go_wp2
  go_region
  all_goals
   go_wp2
   refine bodyPost_ret (v := .tuple #[.agg #[.int .i64 p.kind, .int .i64 (n : Int), .slice none 0 0], .agg #[.int .i64 p.kind, .int .i64 (p.n - (n : Int)), .slice none 0 0]]) (by simp [results, Tryz.results184, go_sem]) rfl ⟨_, _, rfl, ?_, ?_, ?_⟩
   ·rw [H1.out]
    exact ⟨none, 0, rfl, ints_none⟩
   ·rw [H2.out]
    exact ⟨none, 0, rfl, ints_none⟩
   ·exact cut_below (Nat.le_refl _) _ _ _
def TakeQ (lo g : Nat) (p : Pt) (ps : List Pt) (n : Nat) (w : World) (e : Ending) (w' : World) : Prop := ∃ v, e = .returned v ∧ PtV lo w' (cutL p n) v ∧ Orr lo g w' (cutR p n) ps ∧ Below lo w w' ∧ Fr (fun q => q = g) w w'
theorem cutR_vp {p : Pt} {n : Nat} (h : Vp p) (hn : n ≤ sizeP p) : Vp (cutR p n) := by
 obtain ⟨k, m, zs⟩ := p
 unfold cutR
 unfold sizeP at hn
 rcases h with ⟨h1, h2, h3, h4⟩ | ⟨h1, h2, h3⟩ | ⟨h1, h2, h3⟩ <;> simp only at * <;> subst_vars
 ·have hk : ¬ k = 2 := by omega
  rw [if_neg hk] at hn ⊢
  exact .inl ⟨h1, by simp; omega, by simp; omega, rfl⟩
 ·exact .inr (.inl ⟨rfl, rfl, by simp; omega⟩)
 ·simp at hn
  subst hn
  exact .inr (.inr ⟨rfl, rfl, rfl⟩)
theorem take_below {lo : Nat} (w : World) (g m : Nat) (x0 x1 x2 y0 y1 y2 : Value) (o1 o2 : Obj) (hg : lo ≤ g) (hm : lo ≤ m) (hs : g < w.heap.size) : Below lo w ((((((((w.setCell ⟨g, 0, none⟩ x0).setCell ⟨g, 1, none⟩ x1).setCell ⟨g, 2, none⟩ x2).setCell ⟨m, 0, none⟩ y0).setCell ⟨m, 1, none⟩ y1).setCell ⟨m, 2, none⟩ y2).alloc o1).alloc o2) :=
 ((((((((Below.refl lo w).setCell (p := ⟨g, 0, none⟩) hg _).setCell (p := ⟨g, 1, none⟩) hg _).setCell (p := ⟨g, 2, none⟩) hg _).setCell (p := ⟨m, 0, none⟩) hm _).setCell (p := ⟨m, 1, none⟩) hm _).setCell (p := ⟨m, 2, none⟩) hm _).alloc (by simp; omega) _).alloc (by simp; omega) _
theorem implTake (lo g : Nat) (p : Pt) (ps : List Pt) (n : Nat) (w : World) (h : Orr lo g w p ps) (h0 : 0 < n) (hn : n ≤ sizeP p) : Calls Tryz.prog 182 #[.pointer (some ⟨g, 0, none⟩), .int .i64 (n : Int)] w (TakeQ lo g p ps n w) := by
 obtain ⟨B, cb, A, c, h1, h2, h3⟩ := h.box
 have hlt := h.lt
 have c0 : w.cell? ⟨g, 0, none⟩ = some (.int .i64 p.kind) := cell_of_row _ _ 0 _ _ _ h1
 have c1 : w.cell? ⟨g, 1, none⟩ = some (.int .i64 p.n) := cell_of_row _ _ 1 _ _ _ h1
 have c2 : w.cell? ⟨g, 2, none⟩ = some (.slice B p.signs.length cb) := cell_of_row _ _ 2 _ _ _ h1
 have hge := h.ge
 have HV := Lib.hid h.vp
 have HO := Lib.hid h
 have H1 := Lib.hid h1
 clear h h1
 go_enter Tryz.func182, Tryz.ntmps182
 have b0 := alloc_below w (.cells #[.int .i64 0, .int .i64 0, .slice none 0 0] 68)
 go_wp2_with fail
 refine (implCut lo p n B cb _ HV.out (h2.below (b0.mono (by omega))) (by simp; omega) h0 hn).mono ?_
 rintro e w1 ⟨v1, v2, rfl, ⟨A1, c1'', rfl, r1⟩, ⟨A2, c2'', rfl, r2⟩, b1⟩
 have hb1 : Below w.heap.size w w1 := b0.trans (b1.mono b0.size)
 have hgl : g < w1.heap.size := Nat.lt_of_lt_of_le hlt hb1.size
 have h1' := (hb1.block g hlt).trans H1.out
 have f0 : ∀ o, w1.frozen? ⟨g, o, none⟩ = false := fun o => by simp [World.frozen?, h1']
 have f1 := f0 0
 have f2 := f0 1
 have f3 := f0 2
 have c0' : w1.cell? ⟨g, 0, none⟩ = some (.int .i64 p.kind) := cell_of_row _ _ 0 _ _ _ h1'
 have c1' : w1.cell? ⟨g, 1, none⟩ = some (.int .i64 p.n) := cell_of_row _ _ 1 _ _ _ h1'
 have c2' : w1.cell? ⟨g, 2, none⟩ = some (.slice B p.signs.length cb) := cell_of_row _ _ 2 _ _ _ h1'
 have hn4 : w1.heap[w.heap.size]? = some (.cells #[.int .i64 0, .int .i64 0, .slice none 0 0] 68 (0, 0)) := (b1.block _ (by simp)).trans (heap_alloc_new w _)
 have hnf : ∀ o, w1.frozen? ⟨w.heap.size, o, none⟩ = false := fun o => by simp [World.frozen?, hn4]
 have k0 : w1.cell? ⟨w.heap.size, 0, none⟩ = some (.int .i64 0) := cell_of_row _ _ 0 _ _ _ hn4
 have k1 : w1.cell? ⟨w.heap.size, 1, none⟩ = some (.int .i64 0) := cell_of_row _ _ 1 _ _ _ hn4
 have k2 : w1.cell? ⟨w.heap.size, 2, none⟩ = some (.slice none 0 0) := cell_of_row _ _ 2 _ _ _ hn4
 have n0 := hnf 0
 have n1 := hnf 1
 have n2 := hnf 2
 have hwl : w.heap.size < w1.heap.size := lt_of_some hn4
 have hgn : ¬ g = w.heap.size := by omega
 have hgn1 : ¬ g = w1.heap.size := by omega
 have hgn2 : ¬ g = w1.heap.size + 1 := by omega
 have hwn1 : ¬ w.heap.size = w1.heap.size := by omega
 have hwn2 : ¬ w.heap.size = w1.heap.size + 1 := by omega
 have HP := Lib.hid h1'
 have HN := Lib.hid hn4
 have HB := Lib.hid b1
 have HB1 := Lib.hid hb1
 clear h1' hn4 b1 hb1 f0 hnf c0 c1 c2
 go_wp2
 have hge2 : lo ≤ w.heap.size := Nat.le_trans hge (Nat.le_of_lt hlt)
 have bel : Below lo w1 _ := take_below w1 g w.heap.size (.int .i64 (cutR p n).kind) (.int .i64 (cutR p n).n) (.slice A2 (cutR p n).signs.length c2'') (.int .i64 (cutL p n).kind) (.int .i64 (cutL p n).n) (.slice A1 (cutL p n).signs.length c1'') (.cells #[.int .i64 (cutL p n).kind, .int .i64 (cutL p n).n, .slice A1 (cutL p n).signs.length c1''] 68) (.cells #[.int .i64 (cutR p n).kind, .int .i64 (cutR p n).n, .slice A2 (cutR p n).signs.length c2''] 68) hge hge2 hgl
 refine bodyPost_ret (v := .agg #[.int .i64 (cutL p n).kind, .int .i64 (cutL p n).n, .slice A1 (cutL p n).signs.length c1'']) (by simp [results, Tryz.results182, go_sem, *]) rfl ⟨_, rfl, ⟨A1, c1'', rfl, r1.below bel⟩, ⟨⟨A2, c2'', A, c, ?_, r2.below bel, (h3.below (HB1.out.mono hge2)).below bel⟩, hge, cutR_vp HV.out hn, HO.out.vs, HO.out.ln⟩, (HB1.out.mono hge2).trans bel, ?_⟩
 ·refine heap_old _ _ (heap_old _ _ ?_)
  rw [Below.heap_setCell _ _ _ _ hgn, Below.heap_setCell _ _ _ _ hgn, Below.heap_setCell _ _ _ _ hgn, heap_setCell_same _ _ _ _ _ _ (heap_setCell_same _ _ _ _ _ _ (heap_setCell_same _ _ _ _ _ _ HP.out))]
  rfl
 ·refine ⟨Nat.le_trans HB1.out.size bel.size, fun b hb hs => ?_⟩
  have hs' : ¬ b = g := hs
  have hbn : ¬ b = w.heap.size := by omega
  have hbl : b < w1.heap.size := by omega
  rw [Below.heap_alloc _ _ _ (by simp; omega), Below.heap_alloc _ _ _ (by simp; omega), Below.heap_setCell _ _ _ _ hbn, Below.heap_setCell _ _ _ _ hbn, Below.heap_setCell _ _ _ _ hbn, Below.heap_setCell _ _ _ _ hs', Below.heap_setCell _ _ _ _ hs', Below.heap_setCell _ _ _ _ hs']
  exact HB1.out.block b hb
theorem BldP.pre {O : Nat → Prop} {lo g : Nat} {T : TypeId} {L : List Pt} {w w1 w' : World} {e : Ending} (hlo : lo ≤ w.heap.size) (hb : Below w.heap.size w w1) (h : BldP O lo g T L w1 e w') : BldP O lo g T L w e w' := by
 obtain ⟨h1, O', h2, h3, h4⟩ := h
 exact ⟨h1, O', h2, (hb.mono hlo).trans h3, Nat.le_trans hb.size h4.size, fun b hlt hn => (h4.block b (Nat.lt_of_lt_of_le hlt hb.size) hn).trans (hb.block b hlt), fun b ho => (h4.more b ho).imp id (fun h => Nat.le_trans hb.size h)⟩
theorem rd_row {w : World} {lo : Nat} {A : Option Addr} {c : Nat} {zs : List Int} (h : RdC w lo (encInts zs) (.slice A zs.length c)) : Row (Value.int .i64) w lo A zs := by
 obtain ⟨A', c', e, h1, _⟩ := ints_rd h
 injection e with e1 e2 e3
 rw [e1]
 exact h1
theorem implAddB (O : Nat → Prop) (lo g : Nat) (L : List Pt) (p : Pt) (v : Value) (w : World) (hb : Bld O lo g 187 w L) (hv : PtV lo w p v) (hp : Vp p) (hk : ¬ p.kind = 0) (hl : L.length < 100000) :
  Calls Tryz.prog 146 #[.pointer (some ⟨g, 0, none⟩), v] w (BldP O lo g 187 (L ++ [p]) w) := by
 obtain ⟨A, c, rfl, hr⟩ := hv
 have hlo := hb.low
 have hrow := rd_row hr
 obtain ⟨pk, pn, pz⟩ := p
 have hsz := hp.size
 simp only at hk hr hrow hsz ⊢
 have hat := hb.past (alloc_below w (.cells #[.int .i64 pk, .int .i64 pn, .slice A pz.length c] 68))
 have bel := alloc_below w (.cells #[.int .i64 pk, .int .i64 pn, .slice A pz.length c] 68)
 have hrow1 : Row (Value.int .i64) (w.alloc (.cells #[.int .i64 pk, .int .i64 pn, .slice A pz.length c] 68)) (w.alloc (.cells #[.int .i64 pk, .int .i64 pn, .slice A pz.length c] 68)).heap.size A pz := (rd_row (hr.below (bel.mono hlo))).more (by simp; omega)
 have HAT := Lib.hid hat
 have HROW := Lib.hid hrow1
 clear hat hrow hrow1 hr hb
 rcases hp with ⟨h1, h2, h3, h4⟩ | ⟨h1, h2, h3⟩ | ⟨h1, h2, h3⟩
 ·simp only at h1 h2 h3 h4
  subst h4
  rcases h1 with rfl | rfl
  ·go_enter Tryz.func146, Tryz.ntmps146
   go_wp2_with fail
   refine (implKeepB O lo g L pn _ HAT.out h2 h3 hl).mono ?_
   intro e w3 hq
   have HQ := Lib.hid (BldP.pre hlo bel hq)
   have he := hq.1
   clear hq
   subst he
   go_wp2
   go_end0
   exact HQ.out
  ·go_enter Tryz.func146, Tryz.ntmps146
   go_wp2_with fail
   refine (implDropB O lo g L pn _ HAT.out h2 h3 hl).mono ?_
   intro e w3 hq
   have HQ := Lib.hid (BldP.pre hlo bel hq)
   have he := hq.1
   clear hq
   subst he
   go_wp2
   go_end0
   exact HQ.out
 ·simp only at h1 h2 h3
  subst h1 h2
  go_enter Tryz.func146, Tryz.ntmps146
  go_wp2_with fail
  refine (implPutB O lo g L A c pz.length pz _ HAT.out HROW.out rfl h3 hl).mono ?_
  intro e w3 hq
  have HQ := Lib.hid (BldP.pre hlo bel hq)
  have he := hq.1
  clear hq
  subst he
  go_wp2
  go_end0
  exact HQ.out
 ·exact absurd h1 hk
def bothL (L : List Pt) (p q : Pt) : List Pt := if q.kind = 1 then L ++ [p] else if p.kind = 1 then L ++ [q] else L
end Go.Proofs.YtglklgnggkenhaaGreatDoor.low
namespace Go.Proofs.YtglklgnggkenhaaGreatDoor.low.xb
open Go.RowKit
set_option linter.unusedVariables false
def RdV (lo : Nat) (w : World) (D : Nat → Option Value) (o : Nat) (p : Pt) (ps : List Pt) : Prop :=
 (∃ B cb A c, D o = some (.int .i64 p.kind) ∧ D (o + 1) = some (.int .i64 p.n) ∧ D (o + 2) = some (.slice B p.signs.length cb) ∧ D (o + 3) = some (.slice A ps.length c) ∧ RdC w lo (encInts p.signs) (.slice B p.signs.length cb) ∧ RdC w lo (encPs ps) (.slice A ps.length c)) ∧ Vp p ∧ (∀ x ∈ ps, okPt x = true) ∧ ps.length ≤ 1048576
theorem RdV.keep {lo o : Nat} {w w' : World} {D D' : Nat → Option Value} {p : Pt} {ps : List Pt} (h : RdV lo w D o p ps) (hb : Below lo w w') (hD : ∀ i, o ≤ i → i < o + 4 → D' i = D i) : RdV lo w' D' o p ps := by
 obtain ⟨⟨B, cb, A, c, h1, h2, h3, h4, h5, h6⟩, h7⟩ := h
 exact ⟨⟨B, cb, A, c, (hD o (by omega) (by omega)).trans h1, (hD _ (by omega) (by omega)).trans h2, (hD _ (by omega) (by omega)).trans h3, (hD _ (by omega) (by omega)).trans h4, h5.below hb, h6.below hb⟩, h7⟩
structure Orr (lo g o : Nat) (C : Nat → Option Value) (w : World) (p : Pt) (ps : List Pt) : Prop where
 box : ∃ D, Blk g 211 w D ∧ RdV lo w D o p ps ∧ ∀ i, i < o ∨ o + 4 ≤ i → D i = C i
 ge : lo ≤ g
section
variable {lo g o : Nat} {C : Nat → Option Value} {w w' : World} {p : Pt} {ps : List Pt}
theorem Orr.lt (h : Orr lo g o C w p ps) : g < w.heap.size := by obtain ⟨D, h1, _⟩ := h.box; exact h1.lt
theorem Orr.vp (h : Orr lo g o C w p ps) : Vp p := by obtain ⟨D, _, h1, _⟩ := h.box; exact h1.2.1
theorem Orr.vs (h : Orr lo g o C w p ps) : ∀ x ∈ ps, okPt x = true := by obtain ⟨D, _, h1, _⟩ := h.box; exact h1.2.2.1
theorem Orr.ln (h : Orr lo g o C w p ps) : ps.length ≤ 1048576 := by obtain ⟨D, _, h1, _⟩ := h.box; exact h1.2.2.2
theorem Orr.past (h : Orr lo g o C w p ps) (hb : Below w.heap.size w w') : Orr lo g o C w' p ps := by
 have hl := h.lt
 have hg := h.ge
 obtain ⟨D, h1, h2, h3⟩ := h.box
 exact ⟨⟨D, h1.past hb, h2.keep (hb.mono (by omega)) (fun _ _ _ => rfl), h3⟩, hg⟩
end
def restOf (g o : Nat) (w : World) : Nat := match w.cell? ⟨g, o + 3, none⟩ with
 | some (.slice _ n _) => n
 | _ => 0
theorem orr_rest {lo g o : Nat} {C : Nat → Option Value} {w : World} {p : Pt} {ps : List Pt} (h : Orr lo g o C w p ps) : restOf g o w = ps.length := by
 obtain ⟨D, h1, ⟨⟨B, cb, A, c, _, _, _, h4, _⟩, _⟩, _⟩ := h.box
 unfold restOf
 rw [h1.cell, h4]
def MoreP (lo g o : Nat) (C : Nat → Option Value) (p : Pt) (ps : List Pt) (w : World) (e : Ending) (w' : World) : Prop := ∃ p' ps', e = .returned (.bool (decide (0 < sizeP p'))) ∧ Orr lo g o C w' p' ps' ∧ unitsP p' ++ units ps' = unitsP p ++ units ps ∧ (sizeP p' = 0 → ps' = []) ∧ Below lo w w' ∧ Fr (fun q => q = g) w w'
def nextW (g o b off c k : Nat) (kind n : Int) (u : Value) (w : World) : World := ((((w.drew.setCell ⟨g, o, none⟩ (.int .i64 kind)).setCell ⟨g, o + 1, none⟩ (.int .i64 n)).setCell ⟨g, o + 2, none⟩ u).setCell ⟨g, o + 3, none⟩ (.slice (if c = 1 then some ⟨b, off, none⟩ else some ⟨b, off + 3, none⟩) k (c - 1)))
theorem nextW_fr (g o b off c k : Nat) (kind n : Int) (u : Value) (w : World) : Fr (fun q => q = g) w (nextW g o b off c k kind n u w) :=
 (((((Fr.refl (fun q => q = g) w).drew).setCell (p := ⟨g, o, none⟩) rfl _).setCell (p := ⟨g, o + 1, none⟩) rfl _).setCell (p := ⟨g, o + 2, none⟩) rfl _).setCell (p := ⟨g, o + 3, none⟩) rfl _
theorem nextW_below {lo g : Nat} (hg : lo ≤ g) (o b off c k : Nat) (kind n : Int) (u : Value) (w : World) : Below lo w (nextW g o b off c k kind n u w) :=
 (((((Below.refl lo w).drew).setCell (p := ⟨g, o, none⟩) hg _).setCell (p := ⟨g, o + 1, none⟩) hg _).setCell (p := ⟨g, o + 2, none⟩) hg _).setCell (p := ⟨g, o + 3, none⟩) hg _
theorem blk4 {g o : Nat} {T : TypeId} {w : World} {D : Nat → Option Value} {v0 v1 v2 v3 : Value} (hD : Blk g T w D) (h0 : D o = some v0) (h1 : D (o + 1) = some v1) (h2 : D (o + 2) = some v2) (h3 : D (o + 3) = some v3) (x0 x1 x2 x3 : Value) : ∃ D', Blk g T ((((w.setCell ⟨g, o, none⟩ x0).setCell ⟨g, o + 1, none⟩ x1).setCell ⟨g, o + 2, none⟩ x2).setCell ⟨g, o + 3, none⟩ x3) D' ∧ D' o = some x0 ∧ D' (o + 1) = some x1 ∧ D' (o + 2) = some x2 ∧ D' (o + 3) = some x3 ∧ ∀ i, i < o ∨ o + 4 ≤ i → D' i = D i := by
 have k1 := hD.set h0 x0
 have k2 := k1.set (i := o + 1) (u := v1) (by rw [upd_ne _ (by omega)]; exact h1) x1
 have k3 := k2.set (i := o + 2) (u := v2) (by rw [upd_ne _ (by omega), upd_ne _ (by omega)]; exact h2) x2
 have k4 := k3.set (i := o + 3) (u := v3) (by rw [upd_ne _ (by omega), upd_ne _ (by omega), upd_ne _ (by omega)]; exact h3) x3
 refine ⟨_, k4, ?_, ?_, ?_, upd_at _ _ _, fun i hi => ?_⟩
 ·rw [upd_ne _ (by omega), upd_ne _ (by omega), upd_ne _ (by omega), upd_at]
 ·rw [upd_ne _ (by omega), upd_ne _ (by omega), upd_at]
 ·rw [upd_ne _ (by omega), upd_at]
 ·rw [upd_ne _ (by omega), upd_ne _ (by omega), upd_ne _ (by omega), upd_ne _ (by omega)]
theorem blk3 {g o : Nat} {T : TypeId} {w : World} {D : Nat → Option Value} {v0 v1 v2 : Value} (hD : Blk g T w D) (h0 : D o = some v0) (h1 : D (o + 1) = some v1) (h2 : D (o + 2) = some v2) (x0 x1 x2 : Value) : ∃ D', Blk g T (((w.setCell ⟨g, o, none⟩ x0).setCell ⟨g, o + 1, none⟩ x1).setCell ⟨g, o + 2, none⟩ x2) D' ∧ D' o = some x0 ∧ D' (o + 1) = some x1 ∧ D' (o + 2) = some x2 ∧ ∀ i, i < o ∨ o + 3 ≤ i → D' i = D i := by
 have k1 := hD.set h0 x0
 have k2 := k1.set (i := o + 1) (u := v1) (by rw [upd_ne _ (by omega)]; exact h1) x1
 have k3 := k2.set (i := o + 2) (u := v2) (by rw [upd_ne _ (by omega), upd_ne _ (by omega)]; exact h2) x2
 refine ⟨_, k3, ?_, ?_, upd_at _ _ _, fun i hi => ?_⟩
 ·rw [upd_ne _ (by omega), upd_ne _ (by omega), upd_at]
 ·rw [upd_ne _ (by omega), upd_at]
 ·rw [upd_ne _ (by omega), upd_ne _ (by omega), upd_ne _ (by omega)]
theorem orr_next {lo g o b off c c' : Nat} {C D : Nat → Option Value} {A' : Option Addr} {w : World} {q : Pt} {qs : List Pt} {v0 v1 v2 v3 : Value} (hD : Blk g 211 w D) (h0 : D o = some v0) (h1 : D (o + 1) = some v1) (h2 : D (o + 2) = some v2) (h3 : D (o + 3) = some v3) (hC : ∀ i, i < o ∨ o + 4 ≤ i → D i = C i)
  (hr : RdC w lo (encInts q.signs) (.slice A' q.signs.length c')) (ht : ∀ d, qs.length ≤ d → RdC w lo (encPs qs) (.slice (some ⟨b, off + 3, none⟩) qs.length d)) (hc : qs.length + 1 ≤ c) (hge : lo ≤ g)
  (hv : okPt q = true) (hvs : ∀ x ∈ qs, okPt x = true) (hln : qs.length ≤ 1048576) : Orr lo g o C (nextW g o b off c qs.length q.kind q.n (.slice A' q.signs.length c') w) q qs := by
 have hb := nextW_below hge o b off c qs.length q.kind q.n (.slice A' q.signs.length c') w
 obtain ⟨D', k, k0, k1, k2, k3, k4⟩ := blk4 (w := w.drew) (hD.keep (heap_drew w g)) h0 h1 h2 h3 (.int .i64 q.kind) (.int .i64 q.n) (.slice A' q.signs.length c') (.slice (if c = 1 then some ⟨b, off, none⟩ else some ⟨b, off + 3, none⟩) qs.length (c - 1))
 refine ⟨⟨D', k, ⟨⟨A', c', (if c = 1 then some ⟨b, off, none⟩ else some ⟨b, off + 3, none⟩), c - 1, k0, k1, k2, k3, hr.below hb, ?_⟩, Vp.of hv, hvs, hln⟩, fun i hi => (k4 i hi).trans (hC i hi)⟩, hge⟩
 by_cases e : c = 1
 ·rw [if_pos e]
  obtain rfl : qs = [] := List.eq_nil_of_length_eq_zero (by omega)
  exact parts_none
 ·rw [if_neg e]
  exact (ht _ (by omega)).below hb
theorem implMore (lo g o : Nat) (C : Nat → Option Value) (p : Pt) (ps : List Pt) (w : World) (h : Orr lo g o C w p ps) : Calls Tryz.prog 179 #[.pointer (some ⟨g, o, none⟩)] w (MoreP lo g o C p ps w) := by
 have hgw := h.lt
 go_enter Tryz.func179, Tryz.ntmps179
 go_wp2
 go_loopw [2] (fun t wr => t = .bool false ∧ ∃ p' ps', Orr lo g o C wr p' ps' ∧ unitsP p' ++ units ps' = unitsP p ++ units ps ∧ Below lo w wr ∧ Fr (fun q => q = g) w wr) (fun _ wr => restOf g o wr)
 case atStart => exact ⟨rfl, p, ps, h, rfl, Below.refl _ _, Fr.refl _ _⟩
 case round =>
  obtain ⟨rfl, p', ps', ho, hu, hbel, hfr⟩ := hrel
  obtain ⟨D, hD, ⟨⟨B, cb, A, c, d0, d1, d2, d3, h2, h3⟩, _⟩, hC⟩ := ho.box
  have hz := ho.vp.size
  have c0 : wr.cell? ⟨g, o, none⟩ = some (.int .i64 p'.kind) := (hD.cell _).trans d0
  have c1 : wr.cell? ⟨g, o + 1, none⟩ = some (.int .i64 p'.n) := (hD.cell _).trans d1
  have c2 : wr.cell? ⟨g, o + 2, none⟩ = some (.slice B p'.signs.length cb) := (hD.cell _).trans d2
  have c3 : wr.cell? ⟨g, o + 3, none⟩ = some (.slice A ps'.length c) := (hD.cell _).trans d3
  have hlt := ho.lt
  have HO := Lib.hid ho
  have HU := Lib.hid hu
  have HF := Lib.hid hfr
  have HZ := Lib.hid hz
  have H1 := Lib.hid hD
  have HD := Lib.hid (And.intro d0 (And.intro d1 (And.intro d2 (And.intro d3 (And.intro hC h3)))))
  have HM := Lib.hid (show restOf g o wr = ps'.length by unfold restOf; rw [c3])
  clear ho hu hfr hz hD h hgw d0 d1 d2 d3 hC h3
  go_wp2_with fail
  have hz := HZ.out
  refine (implSize_any p'.kind p'.n B p'.signs.length cb wr (by omega) (by omega) (by omega)).mono ?_
  clear hz c0 c1 c2
  rintro e w1 ⟨rfl, b1⟩
  have HB := Lib.hid b1
  have hlt1 : g < w1.heap.size := Nat.lt_of_lt_of_le hlt b1.size
  have h1' := H1.out.past b1
  have c3' : w1.cell? ⟨g, o + 3, none⟩ = some (.slice A ps'.length c) := (h1'.cell _).trans HD.out.2.2.2.1
  have ho1 := HO.out.past b1
  have hb1 : Below lo w w1 := hbel.trans (b1.mono (Nat.le_trans ho1.ge (by have := HO.out.lt; omega)))
  have hf1 : Fr (fun q => q = g) w w1 := HF.out.trans (Fr.below b1)
  have H3 := Lib.hid (HD.out.2.2.2.2.2.below (b1.mono (Nat.le_trans ho1.ge (by have := HO.out.lt; omega))))
  have H1' := Lib.hid h1'
  have HO1 := Lib.hid ho1
  have HF1 := Lib.hid hf1
  clear b1 c3 h1' ho1 hf1 HO HF HB H1 hbel
  rw [HZ.out.1]
  by_cases hs : sizeP p' = 0
  ·have g0 : (((sizeP p' : Nat) : Int) == 0) = true := by simp [hs]
   cases ps' with
   | nil =>
    have HS := Lib.hid hs
    clear hs
    go_wp2
    go_ret
    exact ⟨p', [], ret_b (by simp [HS.out]), HO1.out, HU.out, fun _ => rfl, hb1, HF1.out⟩
   | cons q qs =>
    have hql : ((qs.length : Int) + 1 == 0) = false := by simp; omega
    have k3 := H3.out
    obtain ⟨b, off, A', c', rfl, hblt, hc, d0, d1, d2, r2, rt⟩ := parts_hd k3
    have f1 := H1'.out.free o
    have f2 := H1'.out.free (o + 1)
    have f3 := H1'.out.free (o + 2)
    have f4 := H1'.out.free (o + 3)
    have HK := Lib.hid (show RdC w1 lo (encInts q.signs) (.slice A' q.signs.length c') ∧ (∀ d, qs.length ≤ d → RdC w1 lo (encPs qs) (.slice (some ⟨b, off + 3, none⟩) qs.length d)) from ⟨r2, rt⟩)
    have c0 : w1.cell? ⟨g, o, none⟩ = some (.int .i64 p'.kind) := (H1'.out.cell _).trans HD.out.1
    have c1 : w1.cell? ⟨g, o + 1, none⟩ = some (.int .i64 p'.n) := (H1'.out.cell _).trans HD.out.2.1
    have c2 : w1.cell? ⟨g, o + 2, none⟩ = some (.slice B p'.signs.length cb) := (H1'.out.cell _).trans HD.out.2.2.1
    have hne : ¬ b = g := by have := HO1.out.ge; omega
    clear r2 rt k3 hs h2 H3
    have hq1 : (1 : Int) ≤ (qs.length : Int) + 1 := by omega
    go_wp2
    go_region
    all_goals
     go_roundw
     case rel =>
      have hv := HO1.out.vs
      have hln := HO1.out.ln
      have hx := orr_next H1'.out HD.out.1 HD.out.2.1 HD.out.2.2.1 HD.out.2.2.2.1 HD.out.2.2.2.2.1 HK.out.1 HK.out.2 hc HO1.out.ge (hv q (by simp)) (fun x hx => hv x (by simp [hx])) (by simp at hln; omega)
      have hu : unitsP q ++ units qs = unitsP p ++ units ps := by
       rw [← HU.out, units_cons]
       have e : unitsP p' = [] := List.eq_nil_of_length_eq_zero (by rw [unitsP_len]; simpa using g0)
       rw [e]
       rfl
      repeat apply Exists.intro
      exact ⟨⟨rfl, q, qs, hx, hu, hb1.trans (nextW_below HO1.out.ge _ _ _ _ _ _ _ _ _), HF1.out.trans (nextW_fr _ _ _ _ _ _ _ _ _ _)⟩, rfl⟩
     case measure =>
      have hv := HO1.out.vs
      have hln := HO1.out.ln
      have hx := orr_next H1'.out HD.out.1 HD.out.2.1 HD.out.2.2.1 HD.out.2.2.2.1 HD.out.2.2.2.2.1 HK.out.1 HK.out.2 hc HO1.out.ge (hv q (by simp)) (fun x hx => hv x (by simp [hx])) (by simp at hln; omega)
      rw [HM.out]
      refine Nat.lt_of_le_of_lt (Nat.le_of_eq (orr_rest hx)) ?_
      simp
  ·have g0 : (((sizeP p' : Nat) : Int) == 0) = false := by simp [hs]
   have HS := Lib.hid hs
   clear hs
   go_wp2
   go_ret
   exact ⟨p', ps', ret_b (by have := HS.out; simp; omega), HO1.out, HU.out, fun h => absurd h HS.out, hb1, HF1.out⟩
def kindP (p : Pt) : Int := if 0 < sizeP p then p.kind else 0
def KindP (lo g o : Nat) (C : Nat → Option Value) (p : Pt) (ps : List Pt) (w : World) (e : Ending) (w' : World) : Prop := ∃ p' ps', e = .returned (.int .i64 (kindP p')) ∧ Orr lo g o C w' p' ps' ∧ unitsP p' ++ units ps' = unitsP p ++ units ps ∧ (sizeP p' = 0 → ps' = []) ∧ Below lo w w' ∧ Fr (fun q => q = g) w w'
theorem ret_i {a b : Int} (h : a = b) : Ending.returned (.int .i64 a) = .returned (.int .i64 b) := by rw [h]
theorem implKind (lo g o : Nat) (C : Nat → Option Value) (p : Pt) (ps : List Pt) (w : World) (h : Orr lo g o C w p ps) : Calls Tryz.prog 166 #[.pointer (some ⟨g, o, none⟩)] w (KindP lo g o C p ps w) := by
 go_enter Tryz.func166, Tryz.ntmps166
 go_wp2_with fail
 refine (implMore lo g o C p ps w h).mono ?_
 rintro e w1 ⟨p', ps', rfl, ho, hu, hs, hb, hf⟩
 have HU := Lib.hid hu
 have HS := Lib.hid hs
 have HF := Lib.hid hf
 have HO := Lib.hid ho
 obtain ⟨D, hD, ⟨⟨B, cb, A, c, d0, d1, d2, d3, h2, h3⟩, _⟩, hC⟩ := ho.box
 have c0 : w1.cell? ⟨g, o, none⟩ = some (.int .i64 p'.kind) := (hD.cell _).trans d0
 clear hu hs hf ho h hD d0 d1 d2 d3 h2 h3 hC
 by_cases h0 : 0 < sizeP p'
 ·have g0 : decide (0 < sizeP p') = true := by simp [h0]
  have HK := Lib.hid (show kindP p' = p'.kind by simp [kindP, h0])
  rw [g0]
  clear h0 g0
  go_wp2
  go_ret
  exact ⟨p', ps', ret_i HK.out.symm, HO.out, HU.out, HS.out, hb, HF.out⟩
 ·have g0 : decide (0 < sizeP p') = false := by simp [h0]
  have HK := Lib.hid (show kindP p' = 0 by simp [kindP, h0])
  rw [g0]
  clear h0 g0
  go_wp2
  go_ret
  exact ⟨p', ps', ret_i HK.out.symm, HO.out, HU.out, HS.out, hb, HF.out⟩
def TakeQ (lo g o : Nat) (C : Nat → Option Value) (p : Pt) (ps : List Pt) (n : Nat) (w : World) (e : Ending) (w' : World) : Prop := ∃ v, e = .returned v ∧ PtV lo w' (cutL p n) v ∧ Orr lo g o C w' (cutR p n) ps ∧ Below lo w w' ∧ Fr (fun q => q = g) w w'
theorem take_below {lo : Nat} (w : World) (g o m : Nat) (x0 x1 x2 y0 y1 y2 : Value) (o1 o2 : Obj) (hg : lo ≤ g) (hm : lo ≤ m) (hs : g < w.heap.size) : Below lo w ((((((((w.setCell ⟨g, o, none⟩ x0).setCell ⟨g, o + 1, none⟩ x1).setCell ⟨g, o + 2, none⟩ x2).setCell ⟨m, 0, none⟩ y0).setCell ⟨m, 1, none⟩ y1).setCell ⟨m, 2, none⟩ y2).alloc o1).alloc o2) :=
 ((((((((Below.refl lo w).setCell (p := ⟨g, o, none⟩) hg _).setCell (p := ⟨g, o + 1, none⟩) hg _).setCell (p := ⟨g, o + 2, none⟩) hg _).setCell (p := ⟨m, 0, none⟩) hm _).setCell (p := ⟨m, 1, none⟩) hm _).setCell (p := ⟨m, 2, none⟩) hm _).alloc (by simp; omega) _).alloc (by simp; omega) _
theorem implTake (lo g o : Nat) (C : Nat → Option Value) (p : Pt) (ps : List Pt) (n : Nat) (w : World) (h : Orr lo g o C w p ps) (h0 : 0 < n) (hn : n ≤ sizeP p) : Calls Tryz.prog 182 #[.pointer (some ⟨g, o, none⟩), .int .i64 (n : Int)] w (TakeQ lo g o C p ps n w) := by
 obtain ⟨D, hD, ⟨⟨B, cb, A, c, d0, d1, d2, d3, h2, h3⟩, _⟩, hC⟩ := h.box
 have hlt := h.lt
 have c0 : w.cell? ⟨g, o, none⟩ = some (.int .i64 p.kind) := (hD.cell _).trans d0
 have c1 : w.cell? ⟨g, o + 1, none⟩ = some (.int .i64 p.n) := (hD.cell _).trans d1
 have c2 : w.cell? ⟨g, o + 2, none⟩ = some (.slice B p.signs.length cb) := (hD.cell _).trans d2
 have hge := h.ge
 have HV := Lib.hid h.vp
 have HO := Lib.hid h
 have H1 := Lib.hid hD
 have HD := Lib.hid (And.intro d0 (And.intro d1 (And.intro d2 (And.intro d3 hC))))
 clear h hD d0 d1 d2 d3 hC
 go_enter Tryz.func182, Tryz.ntmps182
 have b0 := alloc_below w (.cells #[.int .i64 0, .int .i64 0, .slice none 0 0] 68)
 go_wp2_with fail
 refine (implCut lo p n B cb _ HV.out (h2.below (b0.mono (by omega))) (by simp; omega) h0 hn).mono ?_
 rintro e w1 ⟨v1, v2, rfl, ⟨A1, c1'', rfl, r1⟩, ⟨A2, c2'', rfl, r2⟩, b1⟩
 have hb1 : Below w.heap.size w w1 := b0.trans (b1.mono b0.size)
 have hgl : g < w1.heap.size := Nat.lt_of_lt_of_le hlt hb1.size
 have h1' := H1.out.past hb1
 have f1 := h1'.free o
 have f2 := h1'.free (o + 1)
 have f3 := h1'.free (o + 2)
 have c0' : w1.cell? ⟨g, o, none⟩ = some (.int .i64 p.kind) := (h1'.cell _).trans HD.out.1
 have c1' : w1.cell? ⟨g, o + 1, none⟩ = some (.int .i64 p.n) := (h1'.cell _).trans HD.out.2.1
 have c2' : w1.cell? ⟨g, o + 2, none⟩ = some (.slice B p.signs.length cb) := (h1'.cell _).trans HD.out.2.2.1
 have hn4 : w1.heap[w.heap.size]? = some (.cells #[.int .i64 0, .int .i64 0, .slice none 0 0] 68 (0, 0)) := (b1.block _ (by simp)).trans (heap_alloc_new w _)
 have hnf : ∀ o, w1.frozen? ⟨w.heap.size, o, none⟩ = false := fun o => by simp [World.frozen?, hn4]
 have k0 : w1.cell? ⟨w.heap.size, 0, none⟩ = some (.int .i64 0) := cell_of_row _ _ 0 _ _ _ hn4
 have k1 : w1.cell? ⟨w.heap.size, 1, none⟩ = some (.int .i64 0) := cell_of_row _ _ 1 _ _ _ hn4
 have k2 : w1.cell? ⟨w.heap.size, 2, none⟩ = some (.slice none 0 0) := cell_of_row _ _ 2 _ _ _ hn4
 have n0 := hnf 0
 have n1 := hnf 1
 have n2 := hnf 2
 have hwl : w.heap.size < w1.heap.size := lt_of_some hn4
 have hgn : ¬ g = w.heap.size := by omega
 have hgn1 : ¬ g = w1.heap.size := by omega
 have hgn2 : ¬ g = w1.heap.size + 1 := by omega
 have hwn1 : ¬ w.heap.size = w1.heap.size := by omega
 have hwn2 : ¬ w.heap.size = w1.heap.size + 1 := by omega
 have HP := Lib.hid h1'
 have HN := Lib.hid hn4
 have HB := Lib.hid b1
 have HB1 := Lib.hid hb1
 clear h1' hn4 b1 hb1 hnf c0 c1 c2
 go_wp2
 have hge2 : lo ≤ w.heap.size := Nat.le_trans hge (Nat.le_of_lt hlt)
 have bel : Below lo w1 _ := take_below w1 g o w.heap.size (.int .i64 (cutR p n).kind) (.int .i64 (cutR p n).n) (.slice A2 (cutR p n).signs.length c2'') (.int .i64 (cutL p n).kind) (.int .i64 (cutL p n).n) (.slice A1 (cutL p n).signs.length c1'') (.cells #[.int .i64 (cutL p n).kind, .int .i64 (cutL p n).n, .slice A1 (cutL p n).signs.length c1''] 68) (.cells #[.int .i64 (cutR p n).kind, .int .i64 (cutR p n).n, .slice A2 (cutR p n).signs.length c2''] 68) hge hge2 hgl
 obtain ⟨D', kD, e0, e1, e2, e4⟩ := blk3 HP.out HD.out.1 HD.out.2.1 HD.out.2.2.1 (.int .i64 (cutR p n).kind) (.int .i64 (cutR p n).n) (.slice A2 (cutR p n).signs.length c2'')
 refine bodyPost_ret (v := .agg #[.int .i64 (cutL p n).kind, .int .i64 (cutL p n).n, .slice A1 (cutL p n).signs.length c1'']) (by simp [results, Tryz.results182, go_sem, *]) rfl ⟨_, rfl, ⟨A1, c1'', rfl, r1.below bel⟩, ⟨⟨D', kD.keep ?_, ⟨⟨A2, c2'', A, c, e0, e1, e2, (e4 _ (by omega)).trans HD.out.2.2.2.1, r2.below bel, (h3.below (HB1.out.mono hge2)).below bel⟩, cutR_vp HV.out hn, HO.out.vs, HO.out.ln⟩, fun i hi => (e4 i (by omega)).trans (HD.out.2.2.2.2 i hi)⟩, hge⟩, (HB1.out.mono hge2).trans bel, ?_⟩
 ·rw [Below.heap_alloc _ _ _ (by simp; omega), Below.heap_alloc _ _ _ (by simp; omega), Below.heap_setCell _ _ _ _ hgn, Below.heap_setCell _ _ _ _ hgn, Below.heap_setCell _ _ _ _ hgn]
 ·refine ⟨Nat.le_trans HB1.out.size bel.size, fun b hb hs => ?_⟩
  have hs' : ¬ b = g := hs
  have hbn : ¬ b = w.heap.size := by omega
  have hbl : b < w1.heap.size := by omega
  rw [Below.heap_alloc _ _ _ (by simp; omega), Below.heap_alloc _ _ _ (by simp; omega), Below.heap_setCell _ _ _ _ hbn, Below.heap_setCell _ _ _ _ hbn, Below.heap_setCell _ _ _ _ hbn, Below.heap_setCell _ _ _ _ hs', Below.heap_setCell _ _ _ _ hs', Below.heap_setCell _ _ _ _ hs']
  exact HB1.out.block b hb
structure BdV (O : Nat → Prop) (lo g : Nat) (w : World) (D : Nat → Option Value) (o : Nat) (L : List Pt) : Prop where
 at_ : ∃ v u us, D o = some v ∧ D (o + 1) = some u ∧ D (o + 2) = some (.int .i64 (foldN L).2.2) ∧ w.ownsRow lo 68 3 v (foldN L).1.length (cellsOf (foldN L).1 us) ∧ us.length = (foldN L).1.length ∧ Apart lo w.heap.size w ((foldN L).1 ++ [⟨2, 0, (foldN L).2.1⟩]) (us ++ [u]) ∧ (∀ k, v.ownBlock = some k → O k) ∧ ∀ (i k : Nat) (x : Value), (us ++ [u])[i]? = some x → x.ownBlock = some k → O k
 sz : ∀ p ∈ L, szP_ p
 len : L.length ≤ 100000
 old : ∀ b, O b → b < w.heap.size
 ng : ¬ O g
structure Bld (O : Nat → Prop) (lo g o : Nat) (C : Nat → Option Value) (w : World) (L : List Pt) : Prop where
 box : ∃ D, Blk g 211 w D ∧ BdV O lo g w D o L ∧ ∀ i, i < o ∨ o + 3 ≤ i → D i = C i
 ge : lo ≤ g
structure GrewX (O O' : Nat → Prop) (g : Nat) (w w' : World) : Prop where
 size : w.heap.size ≤ w'.heap.size
 block : ∀ b, b < w.heap.size → ¬ O b → ¬ b = g → w'.heap[b]? = w.heap[b]?
 more : ∀ b, O' b → O b ∨ w.heap.size ≤ b
def BldP (O : Nat → Prop) (lo g o : Nat) (C : Nat → Option Value) (L : List Pt) (w : World) (e : Ending) (w' : World) : Prop := e = .returned (.tuple #[]) ∧ ∃ O', Bld O' lo g o C w' L ∧ Below lo w w' ∧ GrewX O O' g w w'
theorem BdV.keep {O : Nat → Prop} {lo g o : Nat} {w w' : World} {D D' : Nat → Option Value} {L : List Pt} (h : BdV O lo g w D o L) (hsz : w.heap.size ≤ w'.heap.size) (hk : ∀ b, b < w.heap.size → O b → w'.heap[b]? = w.heap[b]?) (hD : ∀ i, o ≤ i → i < o + 3 → D' i = D i) : BdV O lo g w' D' o L := by
 obtain ⟨v, u, us, h1, h2, h3, h4, h5, h6, h7, h8⟩ := h.at_
 exact ⟨⟨v, u, us, (hD _ (by omega) (by omega)).trans h1, (hD _ (by omega) (by omega)).trans h2, (hD _ (by omega) (by omega)).trans h3, own_keep h4 (fun k k1 k2 => hk k k2 (h7 k k1)), h5, h6.keep hsz (fun i x k hxi k1 k2 => hk k k2 (h8 i k x hxi k1)), h7, h8⟩, h.sz, h.len, fun b hb => Nat.lt_of_lt_of_le (h.old b hb) hsz, h.ng⟩
section
variable {O : Nat → Prop} {lo g o : Nat} {C : Nat → Option Value} {w w' : World} {L : List Pt} {p : Pt}
theorem Bld.lt (h : Bld O lo g o C w L) : g < w.heap.size := by obtain ⟨D, h1, _⟩ := h.box; exact h1.lt
theorem Bld.low (h : Bld O lo g o C w L) : lo ≤ w.heap.size := Nat.le_trans h.ge (Nat.le_of_lt h.lt)
theorem Bld.sz (h : Bld O lo g o C w L) : ∀ p ∈ L, szP_ p := by obtain ⟨D, _, h1, _⟩ := h.box; exact h1.sz
theorem Bld.len (h : Bld O lo g o C w L) : L.length ≤ 100000 := by obtain ⟨D, _, h1, _⟩ := h.box; exact h1.len
theorem Bld.fit (h : Bld O lo g o C w L) : Fit L.length (signsIn L) (foldN L) := foldN_fitZ h.sz
theorem Bld.past (h : Bld O lo g o C w L) (hb : Below w.heap.size w w') : Bld O lo g o C w' L := by
 obtain ⟨D, h1, h2, h3⟩ := h.box
 exact ⟨⟨D, h1.past hb, h2.keep hb.size (fun b hlt _ => hb.block b hlt) (fun _ _ _ => rfl), h3⟩, h.ge⟩
theorem Bld.at_ (h : Bld O lo g o C w L) : BAtS (fun b => (O b ∨ b = g) ∨ w.heap.size ≤ b) lo g o C 211 w (foldN L).1 (foldN L).2.1 (foldN L).2.2 := by
 obtain ⟨D, hD, h2, hC⟩ := h.box
 obtain ⟨v, u, us, h1, h2, h3, h4, h5, h6, h7, h8⟩ := h2.at_
 exact ⟨v, u, us, ⟨⟨D, hD, h1, h2, h3, hC⟩, h4, h5, h.ge⟩, h6, .inl (.inr rfl), fun k hk => .inl (.inl (h7 k hk)), fun i k x hx hk => .inl (.inl (h8 i k x hx hk))⟩
theorem Bld.add (h : Bld O lo g o C w L) (hl : L.length < 100000) (hp : szP_ p) (hb : Below lo w w') (hf : Fr (fun b => (O b ∨ b = g) ∨ w.heap.size ≤ b) w w') (ha : BAtS (fun b => (O b ∨ b = g) ∨ w.heap.size ≤ b) lo g o C 211 w' (stepN (foldN L) p).1 (stepN (foldN L) p).2.1 (stepN (foldN L) p).2.2) : ∃ O', Bld O' lo g o C w' (L ++ [p]) ∧ Below lo w w' ∧ GrewX O O' g w w' := by
 obtain ⟨v, u, us, hx, ap, ho⟩ := ha
 obtain ⟨D, hD, k1, k2, k3, hC⟩ := hx.box
 refine ⟨fun b => (O b ∨ w.heap.size ≤ b) ∧ b < w'.heap.size ∧ ¬ b = g, ⟨⟨D, hD, ⟨?_, fun q hq => ?_, by simp; omega, fun b hb => hb.2.1, fun hg => hg.2.2 rfl⟩, hC⟩, h.ge⟩, hb, hf.size, fun b hlt hn hg => hf.block b hlt (fun hs => ?_), fun b hb => hb.1⟩
 ·rw [foldN_app]
  have str : ∀ k, k < w'.heap.size → ¬ k = g → ((O k ∨ k = g) ∨ w.heap.size ≤ k) → (O k ∨ w.heap.size ≤ k) ∧ k < w'.heap.size ∧ ¬ k = g := fun k h1 h2 h3 => ⟨by rcases h3 with (h3 | h3) | h3; exact .inl h3; exact absurd h3 h2; exact .inr h3, h1, h2⟩
  refine ⟨v, u, us, k1, k2, k3, hx.row, hx.len, ap, fun k hk => str k (own_in hx.row hk) (fun e => hD.far hx.row (by decide) (by rw [hk, e])) (ho.2.1 k hk), fun i k x hxi hk => ?_⟩
  obtain ⟨q, hq⟩ := idx_some (l := (stepN (foldN L) p).1 ++ [⟨2, 0, (stepN (foldN L) p).2.1⟩]) (i := i) (by rw [← ap.1]; exact idx_lt hxi)
  have hox := (ap.2.1 i q x hq hxi).1
  exact str k (own_in hox hk) (fun e => hD.far hox (by decide) (by rw [hk, e])) (ho.2.2 i k x hxi hk)
 ·rcases List.mem_append.1 hq with hq | hq
  ·exact h.sz q hq
  ·simp at hq
   subst hq
   exact hp
 ·rcases hs with (hs | hs) | hs
  ·exact hn hs
  ·exact hg hs
  ·omega
theorem BldP.pre {w1 : World} {e : Ending} (hlo : lo ≤ w.heap.size) (hb : Below w.heap.size w w1) (h : BldP O lo g o C L w1 e w') : BldP O lo g o C L w e w' := by
 obtain ⟨h1, O', h2, h3, h4⟩ := h
 exact ⟨h1, O', h2, (hb.mono hlo).trans h3, Nat.le_trans hb.size h4.size, fun b hlt hn hg => (h4.block b (Nat.lt_of_lt_of_le hlt hb.size) hn hg).trans (hb.block b hlt), fun b ho => (h4.more b ho).imp id (fun h => Nat.le_trans hb.size h)⟩
end
theorem implKeepB (O : Nat → Prop) (lo g o : Nat) (C : Nat → Option Value) (L : List Pt) (n : Int) (w : World) (hb : Bld O lo g o C w L) (h0 : 0 ≤ n) (h1 : n ≤ 200) (hl : L.length < 100000) :
  Calls Tryz.prog 161 #[.pointer (some ⟨g, o, none⟩), .int .i64 n] w (BldP O lo g o C (L ++ [⟨1, n, []⟩]) w) := by
 have hz : szP_ ⟨1, n, []⟩ := ⟨.inl rfl, h0, h1, by simp⟩
 by_cases hn : n = 0
 ·subst hn
  refine (implKeep_zero g o w).mono ?_
  rintro e w' ⟨rfl, rfl⟩
  exact ⟨rfl, hb.add hl hz (Below.refl _ _) (Fr.refl _ _) hb.at_⟩
 ·have hf := hb.fit
  have hd := hf.done
  have hsg := signsIn_le hb.sz
  have f1 := hf.len
  have f2 := hf.signs
  have hlen := hb.len
  refine (implKeep_f (fun b => (O b ∨ b = g) ∨ w.heap.size ≤ b) lo g o C _ _ _ n w hb.at_ (fun b h => .inr h) (by omega) (by omega) hn h0 (by omega) (fun p hp => by have := hd.2.2 p hp; omega) (by have := hd.1; exact Nat.le_trans this (by omega))).mono ?_
  rintro e w' ⟨rfl, hn', b, fr⟩
  refine ⟨rfl, hb.add hl hz b fr ?_⟩
  simp only [stepN, if_neg hn]
  exact hn'.at_
theorem implPutB (O : Nat → Prop) (lo g o : Nat) (C : Nat → Option Value) (L : List Pt) (A : Option Addr) (c m : Nat) (zs : List Int) (w : World) (hb : Bld O lo g o C w L) (hr : Row (Value.int .i64) w w.heap.size A zs) (hm : zs.length = m) (h1 : zs.length ≤ 200) (hl : L.length < 100000) :
  Calls Tryz.prog 162 #[.pointer (some ⟨g, o, none⟩), .slice A m c] w (BldP O lo g o C (L ++ [⟨2, 0, zs⟩]) w) := by
 subst hm
 have hz : szP_ ⟨2, 0, zs⟩ := ⟨.inr (.inl rfl), by simp, by simp, h1⟩
 have hsg := signsIn_le hb.sz
 have f2 := hb.fit.signs
 have hlen := hb.len
 refine (implPut_f (fun b => (O b ∨ b = g) ∨ w.heap.size ≤ b) lo g o C _ _ _ A c zs w hb.at_ (fun b h => .inr h) hr (by omega) (by omega)).mono ?_
 rintro e w' ⟨rfl, ha, b, fr⟩
 exact ⟨rfl, hb.add hl hz b fr ha⟩
theorem implDropB (O : Nat → Prop) (lo g o : Nat) (C : Nat → Option Value) (L : List Pt) (n : Int) (w : World) (hb : Bld O lo g o C w L) (h0 : 0 ≤ n) (h1 : n ≤ 200) (hl : L.length < 100000) :
  Calls Tryz.prog 163 #[.pointer (some ⟨g, o, none⟩), .int .i64 n] w (BldP O lo g o C (L ++ [⟨3, n, []⟩]) w) := by
 have hz : szP_ ⟨3, n, []⟩ := ⟨.inr (.inr rfl), h0, h1, by simp⟩
 have f3 := hb.fit.d0
 have f4 := hb.fit.d1
 have hlen := hb.len
 refine (implDrop_f (fun b => (O b ∨ b = g) ∨ w.heap.size ≤ b) lo g o C _ _ _ n w hb.at_ (fun b h => .inr h) f3 (by omega) h0 (by omega)).mono ?_
 rintro e w' ⟨rfl, ha, b, fr⟩
 exact ⟨rfl, hb.add hl hz b fr ha⟩
theorem parts_far {g : Nat} {T : TypeId} {w : World} {D : Nat → Option Value} {ps : List Pt} {v : Value} {b : List Nat} (hD : Blk g T w D) (h1 : ¬ T = 3) (h2 : ¬ T = 68) (h : OwC w (encPs ps) v b) : ∀ x ∈ b, ¬ x = g := fun x hx e => by
 subst e
 obtain ⟨xs, cs, hox, hor, hb⟩ := h
 rw [hb] at hx
 rcases List.mem_append.1 hx with hx | hx
 ·exact hD.far hox h2 (by simpa using hx)
 ·obtain ⟨us2, k1, k2, k3, k4⟩ := owR_parts hor
  rw [k3] at hx
  obtain ⟨i, u, hui, hk⟩ := mem_blks.1 hx
  obtain ⟨q, hq⟩ := idx_some (l := ps) (i := i) (by rw [← k1]; exact idx_lt hui)
  exact hD.far (ints_ow (k4 i q u hq hui)).1 h1 hk
def DoneX (O : Nat → Prop) (lo g o : Nat) (C : Nat → Option Value) (L : List Pt) (w : World) (e : Ending) (w' : World) : Prop := ∃ v b, e = .returned v ∧ OwB lo w'.heap.size w' (encPs (doneN (foldN L))) v b ∧ (∀ x ∈ b, (O x ∨ w.heap.size ≤ x) ∧ ¬ x = g) ∧ Below lo w w' ∧ GrewX O (fun x => x ∈ b) g w w' ∧ ∃ D, Blk g 211 w' D ∧ ∀ i, i < o ∨ o + 3 ≤ i → D i = C i
theorem implDoneB (O : Nat → Prop) (lo g o : Nat) (C : Nat → Option Value) (L : List Pt) (w : World) (hb : Bld O lo g o C w L) :
  Calls Tryz.prog 147 #[.pointer (some ⟨g, o, none⟩)] w (DoneX O lo g o C L w) := by
 have f1 := hb.fit.len
 have hlen := hb.len
 have hsg := signsIn_le hb.sz
 have f2 := hb.fit.signs
 refine (implDone_f (fun b => (O b ∨ b = g) ∨ w.heap.size ≤ b) lo g o C _ _ _ w hb.at_ (fun b h => .inr h) (by omega) (by omega)).mono ?_
 rintro e w' ⟨h, v1, u1, us1, hx⟩
 obtain ⟨v, b, h1, h2, h3, h4, h5⟩ := GoneS.done (O := fun b => O b ∨ b = g) h
 obtain ⟨D, hD, _, _, _, hC⟩ := hx.box
 have far := parts_far hD (by decide) (by decide) h2.ow
 have str : ∀ x ∈ b, (O x ∨ w.heap.size ≤ x) ∧ ¬ x = g := fun x hxb => ⟨by rcases h3 x hxb with (k | k) | k; exact .inl k; exact absurd k (far x hxb); exact .inr k, far x hxb⟩
 exact ⟨v, b, h1, h2, str, h4, ⟨h5.size, fun x hlt hn hg => h5.block x hlt (fun k => by rcases k with k | k; exact hn k; exact hg k), fun x hxb => (str x hxb).1⟩, D, hD, hC⟩
theorem implAddB (O : Nat → Prop) (lo g o : Nat) (C : Nat → Option Value) (L : List Pt) (p : Pt) (v : Value) (w : World) (hb : Bld O lo g o C w L) (hv : PtV lo w p v) (hp : Vp p) (hk : ¬ p.kind = 0) (hl : L.length < 100000) :
  Calls Tryz.prog 146 #[.pointer (some ⟨g, o, none⟩), v] w (BldP O lo g o C (L ++ [p]) w) := by
 obtain ⟨A, c, rfl, hr⟩ := hv
 have hlo := hb.low
 have hrow := rd_row hr
 obtain ⟨pk, pn, pz⟩ := p
 have hsz := hp.size
 simp only at hk hr hrow hsz ⊢
 have hat := hb.past (alloc_below w (.cells #[.int .i64 pk, .int .i64 pn, .slice A pz.length c] 68))
 have bel := alloc_below w (.cells #[.int .i64 pk, .int .i64 pn, .slice A pz.length c] 68)
 have hrow1 : Row (Value.int .i64) (w.alloc (.cells #[.int .i64 pk, .int .i64 pn, .slice A pz.length c] 68)) (w.alloc (.cells #[.int .i64 pk, .int .i64 pn, .slice A pz.length c] 68)).heap.size A pz := (rd_row (hr.below (bel.mono hlo))).more (by simp; omega)
 have HAT := Lib.hid hat
 have HROW := Lib.hid hrow1
 clear hat hrow hrow1 hr hb
 rcases hp with ⟨h1, h2, h3, h4⟩ | ⟨h1, h2, h3⟩ | ⟨h1, h2, h3⟩
 ·simp only at h1 h2 h3 h4
  subst h4
  rcases h1 with rfl | rfl
  ·go_enter Tryz.func146, Tryz.ntmps146
   go_wp2_with fail
   refine (implKeepB O lo g o C L pn _ HAT.out h2 h3 hl).mono ?_
   intro e w3 hq
   have HQ := Lib.hid (BldP.pre hlo bel hq)
   have he := hq.1
   clear hq
   subst he
   go_wp2
   go_end0
   exact HQ.out
  ·go_enter Tryz.func146, Tryz.ntmps146
   go_wp2_with fail
   refine (implDropB O lo g o C L pn _ HAT.out h2 h3 hl).mono ?_
   intro e w3 hq
   have HQ := Lib.hid (BldP.pre hlo bel hq)
   have he := hq.1
   clear hq
   subst he
   go_wp2
   go_end0
   exact HQ.out
 ·simp only at h1 h2 h3
  subst h1 h2
  go_enter Tryz.func146, Tryz.ntmps146
  go_wp2_with fail
  refine (implPutB O lo g o C L A c pz.length pz _ HAT.out HROW.out rfl h3 hl).mono ?_
  intro e w3 hq
  have HQ := Lib.hid (BldP.pre hlo bel hq)
  have he := hq.1
  clear hq
  subst he
  go_wp2
  go_end0
  exact HQ.out
 ·exact absurd h1 hk
structure Fy where
 lo : Nat
 g : Nat
 w0 : World
structure Xs (F : Fy) (KL : List (Nat × Obj)) (O P : Nat → Prop) (L M : List Pt) (w : World) (p : Pt) (ps : List Pt) (q : Pt) (qs : List Pt) : Prop where
 box : ∃ D, Blk F.g 211 w D ∧ RdV F.lo w D 0 p ps ∧ RdV F.lo w D 4 q qs ∧ BdV O F.lo F.g w D 8 L ∧ BdV P F.lo F.g w D 11 M
 ge : F.lo ≤ F.g
 dis : ∀ b, O b → ¬ P b
 kp : ∀ x ∈ KL, w.heap[x.1]? = some x.2 ∧ F.lo ≤ x.1 ∧ ¬ x.1 = F.g ∧ ¬ O x.1 ∧ ¬ P x.1
 bl : Below F.lo F.w0 w
section
variable {F : Fy} {KL : List (Nat × Obj)} {O O' P P' : Nat → Prop} {L L' M M' : List Pt} {w w' : World} {p p' : Pt} {ps ps' : List Pt} {q q' : Pt} {qs qs' : List Pt}
theorem Xs.lt (h : Xs F KL O P L M w p ps q qs) : F.g < w.heap.size := by obtain ⟨D, h1, _⟩ := h.box; exact h1.lt
theorem Xs.low (h : Xs F KL O P L M w p ps q qs) : F.lo ≤ w.heap.size := Nat.le_trans h.ge (Nat.le_of_lt h.lt)
theorem Xs.vp (h : Xs F KL O P L M w p ps q qs) : Vp p := by obtain ⟨D, _, h1, _⟩ := h.box; exact h1.2.1
theorem Xs.vq (h : Xs F KL O P L M w p ps q qs) : Vp q := by obtain ⟨D, _, _, h1, _⟩ := h.box; exact h1.2.1
theorem Xs.past (h : Xs F KL O P L M w p ps q qs) (hb : Below w.heap.size w w') : Xs F KL O P L M w' p ps q qs := by
 have hl := hb.mono h.low
 obtain ⟨D, h1, h2, h3, h4, h5⟩ := h.box
 exact ⟨⟨D, h1.past hb, h2.keep hl (fun _ _ _ => rfl), h3.keep hl (fun _ _ _ => rfl), h4.keep hb.size (fun b hlt _ => hb.block b hlt) (fun _ _ _ => rfl), h5.keep hb.size (fun b hlt _ => hb.block b hlt) (fun _ _ _ => rfl)⟩, h.ge, h.dis, fun x hx => let ⟨k1, k2⟩ := h.kp x hx; ⟨(hb.block _ (lt_of_some k1)).trans k1, k2⟩, h.bl.trans hl⟩
theorem Xs.drew (h : Xs F KL O P L M w p ps q qs) : Xs F KL O P L M w.drew p ps q qs := h.past ((Below.refl _ _).drew)
theorem Xs.also (h : Xs F KL O P L M w p ps q qs) (hb : Below w.heap.size w w') {b : Nat} {x : Obj} (hbl : w.heap.size ≤ b) (ho : w'.heap[b]? = some x) : Xs F ((b, x) :: KL) O P L M w' p ps q qs := by
 have h' := h.past hb
 refine ⟨h'.box, h'.ge, h'.dis, fun y hy => ?_, h'.bl⟩
 obtain ⟨D, _, _, _, h4, h5⟩ := h.box
 rcases List.mem_cons.1 hy with rfl | hy
 ·exact ⟨ho, Nat.le_trans h.low hbl, by have := h.lt; show ¬ b = F.g; omega, fun hO => by have := h4.old _ hO; simp at this; omega, fun hP => by have := h5.old _ hP; simp at this; omega⟩
 ·exact h'.kp y hy
theorem Xs.less {KM : List (Nat × Obj)} (h : Xs F KL O P L M w p ps q qs) (hs : ∀ x ∈ KM, x ∈ KL) : Xs F KM O P L M w p ps q qs := ⟨h.box, h.ge, h.dis, fun x hx => h.kp x (hs x hx), h.bl⟩
theorem Xs.fresh {m : Nat} (h : Xs F KL O P L M w p ps q qs) (hm : w.heap.size ≤ m) : ∀ x ∈ KL, ¬ x.1 = m := fun x hx e => by
 have := lt_of_some (h.kp x hx).1
 omega
theorem Xs.setK {m i : Nat} {cs : Array Value} {T : TypeId} (h : Xs F ((m, .cells cs T (0, 0)) :: KL) O P L M w p ps q qs) (hn : ∀ x ∈ KL, ¬ x.1 = m) (v : Value) : Xs F ((m, .cells (cs.setIfInBounds i v) T (0, 0)) :: KL) O P L M (w.setCell ⟨m, i, none⟩ v) p ps q qs := by
 obtain ⟨h1, h2, h3, h4, h5⟩ := h.kp (m, .cells cs T (0, 0)) (by simp)
 simp only at h1 h2 h3 h4 h5
 have hb : Below F.lo w (w.setCell ⟨m, i, none⟩ v) := (Below.refl F.lo w).setCell (p := ⟨m, i, none⟩) h2 _
 have other : ∀ b, ¬ b = m → (w.setCell ⟨m, i, none⟩ v).heap[b]? = w.heap[b]? := fun b hb => Below.heap_setCell _ _ _ _ hb
 obtain ⟨D, k1, k2, k3, k4, k5⟩ := h.box
 refine ⟨⟨D, k1.keep (other _ (fun e => h3 e.symm)), k2.keep hb (fun _ _ _ => rfl), k3.keep hb (fun _ _ _ => rfl), k4.keep hb.size (fun b _ ho => other b (fun e => h4 (by rw [← e]; exact ho))) (fun _ _ _ => rfl), k5.keep hb.size (fun b _ ho => other b (fun e => h5 (by rw [← e]; exact ho))) (fun _ _ _ => rfl)⟩, h.ge, h.dis, fun x hx => ?_, h.bl.trans hb⟩
 rcases List.mem_cons.1 hx with rfl | hx
 ·exact ⟨heap_setCell_same _ _ _ _ _ _ h1, h2, h3, h4, h5⟩
 ·obtain ⟨k1, k2⟩ := h.kp x (by simp [hx])
  exact ⟨(other _ (hn x hx)).trans k1, k2⟩
theorem Xs.cellK {m i : Nat} {cs : Array Value} {T : TypeId} {v : Value} (h : Xs F KL O P L M w p ps q qs) (hm : (m, Obj.cells cs T (0, 0)) ∈ KL) (hv : cs[i]? = some v) : w.cell? ⟨m, i, none⟩ = some v := (cell_of_row _ _ i _ _ _ (h.kp _ hm).1).trans hv
theorem Xs.freeK {m : Nat} {cs : Array Value} {T : TypeId} (h : Xs F KL O P L M w p ps q qs) (hm : (m, Obj.cells cs T (0, 0)) ∈ KL) (i : Nat) : w.frozen? ⟨m, i, none⟩ = false := by
 have := (h.kp _ hm).1
 simp only at this
 simp [World.frozen?, this]
theorem Xs.cellsA (h : Xs F KL O P L M w p ps q qs) : ∃ B cb, w.cell? ⟨F.g, 0, none⟩ = some (.int .i64 p.kind) ∧ w.cell? ⟨F.g, 1, none⟩ = some (.int .i64 p.n) ∧ w.cell? ⟨F.g, 2, none⟩ = some (.slice B p.signs.length cb) ∧ RdC w F.lo (encInts p.signs) (.slice B p.signs.length cb) := by
 obtain ⟨D, h1, ⟨⟨B, cb, A, c, d0, d1, d2, d3, h2, h3⟩, _⟩, _⟩ := h.box
 exact ⟨B, cb, (h1.cell 0).trans d0, (h1.cell 1).trans d1, (h1.cell 2).trans d2, h2⟩
theorem Xs.cellsB (h : Xs F KL O P L M w p ps q qs) : ∃ B cb, w.cell? ⟨F.g, 4, none⟩ = some (.int .i64 q.kind) ∧ w.cell? ⟨F.g, 5, none⟩ = some (.int .i64 q.n) ∧ w.cell? ⟨F.g, 6, none⟩ = some (.slice B q.signs.length cb) ∧ RdC w F.lo (encInts q.signs) (.slice B q.signs.length cb) := by
 obtain ⟨D, h1, _, ⟨⟨B, cb, A, c, d0, d1, d2, d3, h2, h3⟩, _⟩, _⟩ := h.box
 exact ⟨B, cb, (h1.cell 4).trans d0, (h1.cell 5).trans d1, (h1.cell 6).trans d2, h2⟩
theorem Xs.movA {D : Nat → Option Value} (h : Xs F KL O P L M w p ps q qs) (hrb : RdV F.lo w D 4 q qs) (hx : BdV O F.lo F.g w D 8 L) (hy : BdV P F.lo F.g w D 11 M) (ho : Orr F.lo F.g 0 D w' p' ps') (hb : Below F.lo w w') (hf : Fr (fun b => b = F.g) w w') : Xs F KL O P L M w' p' ps' q qs := by
 obtain ⟨D', k1, k2, k3⟩ := ho.box
 have ng := hx.ng
 have ng' := hy.ng
 exact ⟨⟨D', k1, k2, hrb.keep hb (fun i _ _ => k3 i (by omega)), hx.keep hf.size (fun b hlt ho => hf.block b hlt (fun e => ng (by have e' : b = F.g := e; rw [← e']; exact ho))) (fun i _ _ => k3 i (by omega)), hy.keep hf.size (fun b hlt ho => hf.block b hlt (fun e => ng' (by have e' : b = F.g := e; rw [← e']; exact ho))) (fun i _ _ => k3 i (by omega))⟩, h.ge, h.dis, fun x hx => let ⟨h1, h2, h3, h4⟩ := h.kp x hx; ⟨(hf.block _ (lt_of_some h1) h3).trans h1, h2, h3, h4⟩, h.bl.trans hb⟩
theorem Xs.movB {D : Nat → Option Value} (h : Xs F KL O P L M w p ps q qs) (hra : RdV F.lo w D 0 p ps) (hx : BdV O F.lo F.g w D 8 L) (hy : BdV P F.lo F.g w D 11 M) (ho : Orr F.lo F.g 4 D w' q' qs') (hb : Below F.lo w w') (hf : Fr (fun b => b = F.g) w w') : Xs F KL O P L M w' p ps q' qs' := by
 obtain ⟨D', k1, k2, k3⟩ := ho.box
 have ng := hx.ng
 have ng' := hy.ng
 exact ⟨⟨D', k1, hra.keep hb (fun i _ _ => k3 i (by omega)), k2, hx.keep hf.size (fun b hlt ho => hf.block b hlt (fun e => ng (by have e' : b = F.g := e; rw [← e']; exact ho))) (fun i _ _ => k3 i (by omega)), hy.keep hf.size (fun b hlt ho => hf.block b hlt (fun e => ng' (by have e' : b = F.g := e; rw [← e']; exact ho))) (fun i _ _ => k3 i (by omega))⟩, h.ge, h.dis, fun x hx => let ⟨h1, h2, h3, h4⟩ := h.kp x hx; ⟨(hf.block _ (lt_of_some h1) h3).trans h1, h2, h3, h4⟩, h.bl.trans hb⟩
theorem Xs.bldX {D : Nat → Option Value} (h : Xs F KL O P L M w p ps q qs) (hra : RdV F.lo w D 0 p ps) (hrb : RdV F.lo w D 4 q qs) (hx : BdV O F.lo F.g w D 8 L) (hy : BdV P F.lo F.g w D 11 M) (hd : Bld O' F.lo F.g 8 D w' L') (hb : Below F.lo w w') (hg : GrewX O O' F.g w w') : Xs F KL O' P L' M w' p ps q qs := by
 obtain ⟨D', k1, k2, k3⟩ := hd.box
 have out : ∀ b, b < w.heap.size → ¬ O b → ¬ O' b := fun b hlt hn ho => by
  rcases hg.more b ho with h1 | h1
  ·exact hn h1
  ·omega
 exact ⟨⟨D', k1, hra.keep hb (fun i _ _ => k3 i (by omega)), hrb.keep hb (fun i _ _ => k3 i (by omega)), k2, hy.keep hg.size (fun b hlt hp => hg.block b hlt (fun ho => h.dis b ho hp) (fun e => hy.ng (by rw [← e]; exact hp))) (fun i _ _ => k3 i (by omega))⟩, h.ge, fun b ho hp => out b (hy.old b hp) (fun ho' => h.dis b ho' hp) ho, fun x hx => let ⟨h1, h2, h3, h4, h5⟩ := h.kp x hx; ⟨(hg.block _ (lt_of_some h1) h4 h3).trans h1, h2, h3, out _ (lt_of_some h1) h4, h5⟩, h.bl.trans hb⟩
theorem Xs.bldY {D : Nat → Option Value} (h : Xs F KL O P L M w p ps q qs) (hra : RdV F.lo w D 0 p ps) (hrb : RdV F.lo w D 4 q qs) (hx : BdV O F.lo F.g w D 8 L) (hy : BdV P F.lo F.g w D 11 M) (hd : Bld P' F.lo F.g 11 D w' M') (hb : Below F.lo w w') (hg : GrewX P P' F.g w w') : Xs F KL O P' L M' w' p ps q qs := by
 obtain ⟨D', k1, k2, k3⟩ := hd.box
 have out : ∀ b, b < w.heap.size → ¬ P b → ¬ P' b := fun b hlt hn ho => by
  rcases hg.more b ho with h1 | h1
  ·exact hn h1
  ·omega
 exact ⟨⟨D', k1, hra.keep hb (fun i _ _ => k3 i (by omega)), hrb.keep hb (fun i _ _ => k3 i (by omega)), hx.keep hg.size (fun b hlt hp => hg.block b hlt (fun ho => h.dis b hp ho) (fun e => hx.ng (by rw [← e]; exact hp))) (fun i _ _ => k3 i (by omega)), k2⟩, h.ge, fun b ho hp => out b (hx.old b ho) (fun hp' => h.dis b ho hp') hp, fun x hx => let ⟨h1, h2, h3, h4, h5⟩ := h.kp x hx; ⟨(hg.block _ (lt_of_some h1) h5 h3).trans h1, h2, h3, h4, out _ (lt_of_some h1) h5⟩, h.bl.trans hb⟩
def KindA (F : Fy) (KL : List (Nat × Obj)) (O P : Nat → Prop) (L M : List Pt) (p : Pt) (ps : List Pt) (q : Pt) (qs : List Pt) (e : Ending) (w' : World) : Prop := ∃ p' ps', e = .returned (.int .i64 (kindP p')) ∧ Xs F KL O P L M w' p' ps' q qs ∧ unitsP p' ++ units ps' = unitsP p ++ units ps ∧ (sizeP p' = 0 → ps' = [])
theorem Xs.kindA (h : Xs F KL O P L M w p ps q qs) : Calls Tryz.prog 166 #[.pointer (some ⟨F.g, 0, none⟩)] w (KindA F KL O P L M p ps q qs) := by
 obtain ⟨D, hD, ra, rb, bx, by_⟩ := h.box
 refine (implKind F.lo F.g 0 D p ps w ⟨⟨D, hD, ra, fun _ _ => rfl⟩, h.ge⟩).mono ?_
 rintro e w' ⟨p', ps', h1, h2, h3, h4, h5, h6⟩
 exact ⟨p', ps', h1, h.movA rb bx by_ h2 h5 h6, h3, h4⟩
def KindB (F : Fy) (KL : List (Nat × Obj)) (O P : Nat → Prop) (L M : List Pt) (p : Pt) (ps : List Pt) (q : Pt) (qs : List Pt) (e : Ending) (w' : World) : Prop := ∃ q' qs', e = .returned (.int .i64 (kindP q')) ∧ Xs F KL O P L M w' p ps q' qs' ∧ unitsP q' ++ units qs' = unitsP q ++ units qs ∧ (sizeP q' = 0 → qs' = [])
theorem Xs.kindB (h : Xs F KL O P L M w p ps q qs) : Calls Tryz.prog 166 #[.pointer (some ⟨F.g, 4, none⟩)] w (KindB F KL O P L M p ps q qs) := by
 obtain ⟨D, hD, ra, rb, bx, by_⟩ := h.box
 refine (implKind F.lo F.g 4 D q qs w ⟨⟨D, hD, rb, fun _ _ => rfl⟩, h.ge⟩).mono ?_
 rintro e w' ⟨p', ps', h1, h2, h3, h4, h5, h6⟩
 exact ⟨p', ps', h1, h.movB ra bx by_ h2 h5 h6, h3, h4⟩
def TakeA (F : Fy) (KL : List (Nat × Obj)) (O P : Nat → Prop) (L M : List Pt) (p : Pt) (ps : List Pt) (q : Pt) (qs : List Pt) (n : Nat) (e : Ending) (w' : World) : Prop := ∃ v, e = .returned v ∧ PtV F.lo w' (cutL p n) v ∧ Xs F KL O P L M w' (cutR p n) ps q qs
theorem Xs.takeA {n : Nat} (h : Xs F KL O P L M w p ps q qs) (h0 : 0 < n) (hn : n ≤ sizeP p) : Calls Tryz.prog 182 #[.pointer (some ⟨F.g, 0, none⟩), .int .i64 (n : Int)] w (TakeA F KL O P L M p ps q qs n) := by
 obtain ⟨D, hD, ra, rb, bx, by_⟩ := h.box
 refine (implTake F.lo F.g 0 D p ps n w ⟨⟨D, hD, ra, fun _ _ => rfl⟩, h.ge⟩ h0 hn).mono ?_
 rintro e w' ⟨v, h1, h2, h3, h4, h5⟩
 exact ⟨v, h1, h2, h.movA rb bx by_ h3 h4 h5⟩
def TakeB (F : Fy) (KL : List (Nat × Obj)) (O P : Nat → Prop) (L M : List Pt) (p : Pt) (ps : List Pt) (q : Pt) (qs : List Pt) (n : Nat) (e : Ending) (w' : World) : Prop := ∃ v, e = .returned v ∧ PtV F.lo w' (cutL q n) v ∧ Xs F KL O P L M w' p ps (cutR q n) qs
theorem Xs.takeB {n : Nat} (h : Xs F KL O P L M w p ps q qs) (h0 : 0 < n) (hn : n ≤ sizeP q) : Calls Tryz.prog 182 #[.pointer (some ⟨F.g, 4, none⟩), .int .i64 (n : Int)] w (TakeB F KL O P L M p ps q qs n) := by
 obtain ⟨D, hD, ra, rb, bx, by_⟩ := h.box
 refine (implTake F.lo F.g 4 D q qs n w ⟨⟨D, hD, rb, fun _ _ => rfl⟩, h.ge⟩ h0 hn).mono ?_
 rintro e w' ⟨v, h1, h2, h3, h4, h5⟩
 exact ⟨v, h1, h2, h.movB ra bx by_ h3 h4 h5⟩
def AddX (F : Fy) (KL : List (Nat × Obj)) (L M : List Pt) (p : Pt) (ps : List Pt) (q : Pt) (qs : List Pt) (P : Nat → Prop) (e : Ending) (w' : World) : Prop := e = .returned (.tuple #[]) ∧ ∃ O, Xs F KL O P L M w' p ps q qs
def AddY (F : Fy) (KL : List (Nat × Obj)) (L M : List Pt) (p : Pt) (ps : List Pt) (q : Pt) (qs : List Pt) (O : Nat → Prop) (e : Ending) (w' : World) : Prop := e = .returned (.tuple #[]) ∧ ∃ P, Xs F KL O P L M w' p ps q qs
theorem Xs.addX {r : Pt} {v : Value} (h : Xs F KL O P L M w p ps q qs) (hv : PtV F.lo w r v) (hr : Vp r) (hk : ¬ r.kind = 0) (hl : L.length < 100000) : Calls Tryz.prog 146 #[.pointer (some ⟨F.g, 8, none⟩), v] w (AddX F KL (L ++ [r]) M p ps q qs P) := by
 obtain ⟨D, hD, ra, rb, bx, by_⟩ := h.box
 refine (implAddB O F.lo F.g 8 D L r v w ⟨⟨D, hD, bx, fun _ _ => rfl⟩, h.ge⟩ hv hr hk hl).mono ?_
 rintro e w' ⟨h1, O', h2, h3, h4⟩
 exact ⟨h1, O', h.bldX ra rb bx by_ h2 h3 h4⟩
theorem Xs.addY {r : Pt} {v : Value} (h : Xs F KL O P L M w p ps q qs) (hv : PtV F.lo w r v) (hr : Vp r) (hk : ¬ r.kind = 0) (hl : M.length < 100000) : Calls Tryz.prog 146 #[.pointer (some ⟨F.g, 11, none⟩), v] w (AddY F KL L (M ++ [r]) p ps q qs O) := by
 obtain ⟨D, hD, ra, rb, bx, by_⟩ := h.box
 refine (implAddB P F.lo F.g 11 D M r v w ⟨⟨D, hD, by_, fun _ _ => rfl⟩, h.ge⟩ hv hr hk hl).mono ?_
 rintro e w' ⟨h1, O', h2, h3, h4⟩
 exact ⟨h1, O', h.bldY ra rb bx by_ h2 h3 h4⟩
theorem Xs.keepX {n : Int} (h : Xs F KL O P L M w p ps q qs) (h0 : 0 ≤ n) (hn : n ≤ 200) (hl : L.length < 100000) : Calls Tryz.prog 161 #[.pointer (some ⟨F.g, 8, none⟩), .int .i64 n] w (AddX F KL (L ++ [⟨1, n, []⟩]) M p ps q qs P) := by
 obtain ⟨D, hD, ra, rb, bx, by_⟩ := h.box
 refine (implKeepB O F.lo F.g 8 D L n w ⟨⟨D, hD, bx, fun _ _ => rfl⟩, h.ge⟩ h0 hn hl).mono ?_
 rintro e w' ⟨h1, O', h2, h3, h4⟩
 exact ⟨h1, O', h.bldX ra rb bx by_ h2 h3 h4⟩
theorem Xs.keepY {n : Int} (h : Xs F KL O P L M w p ps q qs) (h0 : 0 ≤ n) (hn : n ≤ 200) (hl : M.length < 100000) : Calls Tryz.prog 161 #[.pointer (some ⟨F.g, 11, none⟩), .int .i64 n] w (AddY F KL L (M ++ [⟨1, n, []⟩]) p ps q qs O) := by
 obtain ⟨D, hD, ra, rb, bx, by_⟩ := h.box
 refine (implKeepB P F.lo F.g 11 D M n w ⟨⟨D, hD, by_, fun _ _ => rfl⟩, h.ge⟩ h0 hn hl).mono ?_
 rintro e w' ⟨h1, O', h2, h3, h4⟩
 exact ⟨h1, O', h.bldY ra rb bx by_ h2 h3 h4⟩
theorem Xs.dropX {n : Int} (h : Xs F KL O P L M w p ps q qs) (h0 : 0 ≤ n) (hn : n ≤ 200) (hl : L.length < 100000) : Calls Tryz.prog 163 #[.pointer (some ⟨F.g, 8, none⟩), .int .i64 n] w (AddX F KL (L ++ [⟨3, n, []⟩]) M p ps q qs P) := by
 obtain ⟨D, hD, ra, rb, bx, by_⟩ := h.box
 refine (implDropB O F.lo F.g 8 D L n w ⟨⟨D, hD, bx, fun _ _ => rfl⟩, h.ge⟩ h0 hn hl).mono ?_
 rintro e w' ⟨h1, O', h2, h3, h4⟩
 exact ⟨h1, O', h.bldX ra rb bx by_ h2 h3 h4⟩
theorem Xs.dropY {n : Int} (h : Xs F KL O P L M w p ps q qs) (h0 : 0 ≤ n) (hn : n ≤ 200) (hl : M.length < 100000) : Calls Tryz.prog 163 #[.pointer (some ⟨F.g, 11, none⟩), .int .i64 n] w (AddY F KL L (M ++ [⟨3, n, []⟩]) p ps q qs O) := by
 obtain ⟨D, hD, ra, rb, bx, by_⟩ := h.box
 refine (implDropB P F.lo F.g 11 D M n w ⟨⟨D, hD, by_, fun _ _ => rfl⟩, h.ge⟩ h0 hn hl).mono ?_
 rintro e w' ⟨h1, O', h2, h3, h4⟩
 exact ⟨h1, O', h.bldY ra rb bx by_ h2 h3 h4⟩
def SizeX (F : Fy) (KL : List (Nat × Obj)) (O P : Nat → Prop) (L M : List Pt) (p : Pt) (ps : List Pt) (q : Pt) (qs : List Pt) (n : Nat) (w : World) (e : Ending) (w' : World) : Prop := e = .returned (.int .i64 (n : Int)) ∧ Xs F KL O P L M w' p ps q qs ∧ Below w.heap.size w w'
theorem Xs.size {r : Pt} {A : Option Addr} {c : Nat} (h : Xs F KL O P L M w p ps q qs) (hr : Vp r) : Calls Tryz.prog 136 #[.agg #[.int .i64 r.kind, .int .i64 r.n, .slice A r.signs.length c]] w (SizeX F KL O P L M p ps q qs (sizeP r) w) := by
 have hz := hr.size
 refine (implSize_any r.kind r.n A r.signs.length c w (by omega) (by omega) (by omega)).mono ?_
 rintro e w' ⟨rfl, h2⟩
 exact ⟨by rw [hz.1], h.past h2, h2⟩
end
end Go.Proofs.YtglklgnggkenhaaGreatDoor.low.xb
namespace Go.Proofs.YtglklgnggkenhaaGreatDoor.low
open Go.RowKit
set_option linter.unusedVariables false
section
variable {P : Program} {ops : Array Oper} {Q : Exit → Act → World → Prop} {n l : Nat} {md : Region.Mode}
end
def Fall (K : Act → World → Prop) : Exit → Act → World → Prop
 | .normal, a, w => K a w
 | _, _, _ => False
theorem Fall.out (K : Act → World → Prop) : ¬ LetsOut (Fall K) := fun ⟨_, _, h⟩ => h
section
variable {P : Program} {n : Nat} {w : World}
end
attribute [local go_sem] Oper.semAt_some
theorem least_ex (J : Nat → World → Prop) (w : World) : ∃ k : Nat, (∃ m, J m w) → J k w ∧ ∀ m, J m w → k ≤ m := by
 by_cases h : ∃ m, J m w
 ·obtain ⟨m, hm⟩ := h
  induction m using Nat.strongRecOn with
  | _ m ih =>
   by_cases hs : ∃ m', m' < m ∧ J m' w
   ·obtain ⟨m', h1, h2⟩ := hs
    exact ih m' h1 h2
   ·refine ⟨m, fun _ => ⟨hm, fun q hq => ?_⟩⟩
    rcases Nat.lt_or_ge q m with h | h
    ·exact absurd ⟨q, h, hq⟩ hs
    ·exact h
 ·exact ⟨0, fun h' => absurd h' h⟩
noncomputable def leastOf (J : Nat → World → Prop) (w : World) : Nat := Classical.choose (least_ex J w)
theorem leastOf_at {J : Nat → World → Prop} {w : World} (h : ∃ m, J m w) : J (leastOf J w) w := (Classical.choose_spec (least_ex J w) h).1
end Go.Proofs.YtglklgnggkenhaaGreatDoor.low
namespace Go.Proofs.YtglklgnggkenhaaGreatDoor.low
open Go.RowKit
set_option linter.unusedVariables false
structure Fz where
 lo : Nat
 gx : Nat
 gy : Nat
 go : Nat
 w0 : World
structure Co (F : Fz) (KL : List (Nat × Obj)) (O : Nat → Prop) (L : List Pt) (w : World) (p : Pt) (ps : List Pt) (q : Pt) (qs : List Pt) : Prop where
 ox : Orr F.lo F.gx w p ps
 oy : Orr F.lo F.gy w q qs
 bd : Bld O F.lo F.go 187 w L
 ne : ¬ F.gx = F.gy
 nx : ¬ O F.gx
 ny : ¬ O F.gy
 kp : ∀ x ∈ KL, w.heap[x.1]? = some x.2 ∧ F.lo ≤ x.1 ∧ ¬ x.1 = F.gx ∧ ¬ x.1 = F.gy ∧ ¬ O x.1
 bl : Below F.lo F.w0 w
section
variable {F : Fz} {KL : List (Nat × Obj)} {O O' : Nat → Prop} {L L' : List Pt} {w w' : World} {p p' : Pt} {ps ps' : List Pt} {q q' : Pt} {qs qs' : List Pt}
theorem Co.low (h : Co F KL O L w p ps q qs) : F.lo ≤ w.heap.size := h.bd.low
theorem Co.past (h : Co F KL O L w p ps q qs) (hb : Below w.heap.size w w') : Co F KL O L w' p ps q qs :=
 ⟨h.ox.past hb, h.oy.past hb, h.bd.past hb, h.ne, h.nx, h.ny, fun x hx => let ⟨h1, h2⟩ := h.kp x hx; ⟨(hb.block _ (lt_of_some h1)).trans h1, h2⟩, h.bl.trans (hb.mono h.low)⟩
theorem Co.drew (h : Co F KL O L w p ps q qs) : Co F KL O L w.drew p ps q qs := h.past ((Below.refl _ _).drew)
theorem Co.movx (h : Co F KL O L w p ps q qs) (ho : Orr F.lo F.gx w' p' ps') (hb : Below F.lo w w') (hf : Fr (fun b => b = F.gx) w w') : Co F KL O L w' p' ps' q qs :=
 ⟨ho, h.oy.keep (hf.block _ h.oy.lt (fun e => h.ne e.symm)) hb, h.bd.keep hf.size (fun b hlt ho => hf.block b hlt (fun e => h.nx (by have e' : b = F.gx := e; rw [← e']; exact ho))), h.ne, h.nx, h.ny, fun x hx => let ⟨h1, h2, h3, h4⟩ := h.kp x hx; ⟨(hf.block _ (lt_of_some h1) h3).trans h1, h2, h3, h4⟩, h.bl.trans hb⟩
theorem Co.movy (h : Co F KL O L w p ps q qs) (ho : Orr F.lo F.gy w' q' qs') (hb : Below F.lo w w') (hf : Fr (fun b => b = F.gy) w w') : Co F KL O L w' p ps q' qs' :=
 ⟨h.ox.keep (hf.block _ h.ox.lt h.ne) hb, ho, h.bd.keep hf.size (fun b hlt ho => hf.block b hlt (fun e => h.ny (by have e' : b = F.gy := e; rw [← e']; exact ho))), h.ne, h.nx, h.ny, fun x hx => let ⟨h1, h2, h3, h4, h5⟩ := h.kp x hx; ⟨(hf.block _ (lt_of_some h1) h4).trans h1, h2, h3, h4, h5⟩, h.bl.trans hb⟩
theorem Co.bldr (h : Co F KL O L w p ps q qs) (hd : Bld O' F.lo F.go 187 w' L') (hb : Below F.lo w w') (hg : Grew O O' w w') : Co F KL O' L' w' p ps q qs := by
 have out : ∀ b, b < w.heap.size → ¬ O b → ¬ O' b := fun b hlt hn ho => by
  rcases hg.more b ho with h1 | h1
  ·exact hn h1
  ·omega
 exact ⟨h.ox.keep (hg.block _ h.ox.lt h.nx) hb, h.oy.keep (hg.block _ h.oy.lt h.ny) hb, hd, h.ne, out _ h.ox.lt h.nx, out _ h.oy.lt h.ny, fun x hx => let ⟨h1, h2, h3, h4, h5⟩ := h.kp x hx; ⟨(hg.block _ (lt_of_some h1) h5).trans h1, h2, h3, h4, out _ (lt_of_some h1) h5⟩, h.bl.trans hb⟩
theorem Co.also (h : Co F KL O L w p ps q qs) (hb : Below w.heap.size w w') {b : Nat} {o : Obj} (hbl : w.heap.size ≤ b) (ho : w'.heap[b]? = some o) : Co F ((b, o) :: KL) O L w' p ps q qs := by
 have h' := h.past hb
 refine ⟨h'.ox, h'.oy, h'.bd, h'.ne, h'.nx, h'.ny, fun x hx => ?_, h'.bl⟩
 rcases List.mem_cons.1 hx with rfl | hx
 ·exact ⟨ho, Nat.le_trans h.low hbl, by have := h.ox.lt; show ¬ b = F.gx; omega, by have := h.oy.lt; show ¬ b = F.gy; omega, fun hO => by have := h.bd.old _ hO; simp at this; omega⟩
 ·exact h'.kp x hx
theorem Co.less {KM : List (Nat × Obj)} (h : Co F KL O L w p ps q qs) (hs : ∀ x ∈ KM, x ∈ KL) : Co F KM O L w p ps q qs := ⟨h.ox, h.oy, h.bd, h.ne, h.nx, h.ny, fun x hx => h.kp x (hs x hx), h.bl⟩
theorem put_below {lo l : Nat} {o : Obj} (hl : lo ≤ l) (hz : l < w.heap.size) : Below lo w (w.putObj l o) :=
 (Below.refl lo w).grown (grownBy_putObj' w l o) (by omega) (fun k e => by cases e; exact hl)
theorem Co.put {l : Nat} {o o' : Obj} (h : Co F ((l, o) :: KL) O L w p ps q qs) (hn : ∀ x ∈ KL, ¬ x.1 = l) : Co F ((l, o') :: KL) O L (w.putObj l o') p ps q qs := by
 obtain ⟨h1, h2, h3, h4, h5⟩ := h.kp (l, o) (by simp)
 simp only at h1 h2 h3 h4 h5
 have hz := lt_of_some h1
 have hb := put_below (o := o') h2 hz
 have other : ∀ b, ¬ b = l → (w.putObj l o').heap[b]? = w.heap[b]? := fun b hb => World.putObj_heap_other hb
 refine ⟨h.ox.keep (other _ (fun e => h3 e.symm)) hb, h.oy.keep (other _ (fun e => h4 e.symm)) hb, h.bd.keep (by simp) (fun b _ ho => other b (fun e => h5 (by rw [← e]; exact ho))), h.ne, h.nx, h.ny, fun x hx => ?_, h.bl.trans hb⟩
 rcases List.mem_cons.1 hx with rfl | hx
 ·exact ⟨World.putObj_heap_same hz, h2, h3, h4, h5⟩
 ·obtain ⟨k1, k2⟩ := h.kp x (by simp [hx])
  exact ⟨(other _ (hn x hx)).trans k1, k2⟩
def TakeX (F : Fz) (KL : List (Nat × Obj)) (O : Nat → Prop) (L : List Pt) (p : Pt) (ps : List Pt) (q : Pt) (qs : List Pt) (n : Nat) (e : Ending) (w' : World) : Prop := ∃ v, e = .returned v ∧ PtV F.lo w' (cutL p n) v ∧ Co F KL O L w' (cutR p n) ps q qs
def TakeY (F : Fz) (KL : List (Nat × Obj)) (O : Nat → Prop) (L : List Pt) (p : Pt) (ps : List Pt) (q : Pt) (qs : List Pt) (n : Nat) (e : Ending) (w' : World) : Prop := ∃ v, e = .returned v ∧ PtV F.lo w' (cutL q n) v ∧ Co F KL O L w' p ps (cutR q n) qs
theorem Co.takex {n : Nat} (h : Co F KL O L w p ps q qs) (h0 : 0 < n) (hn : n ≤ sizeP p) : Calls Tryz.prog 182 #[.pointer (some ⟨F.gx, 0, none⟩), .int .i64 (n : Int)] w (TakeX F KL O L p ps q qs n) := by
 refine (implTake F.lo F.gx p ps n w h.ox h0 hn).mono ?_
 rintro e w' ⟨v, h1, h2, h3, h4, h5⟩
 exact ⟨v, h1, h2, h.movx h3 h4 h5⟩
theorem Co.takey {n : Nat} (h : Co F KL O L w p ps q qs) (h0 : 0 < n) (hn : n ≤ sizeP q) : Calls Tryz.prog 182 #[.pointer (some ⟨F.gy, 0, none⟩), .int .i64 (n : Int)] w (TakeY F KL O L p ps q qs n) := by
 refine (implTake F.lo F.gy q qs n w h.oy h0 hn).mono ?_
 rintro e w' ⟨v, h1, h2, h3, h4, h5⟩
 exact ⟨v, h1, h2, h.movy h3 h4 h5⟩
def AddC (F : Fz) (KL : List (Nat × Obj)) (L : List Pt) (p : Pt) (ps : List Pt) (q : Pt) (qs : List Pt) (e : Ending) (w' : World) : Prop := e = .returned (.tuple #[]) ∧ ∃ O, Co F KL O L w' p ps q qs
theorem Co.add {r : Pt} {v : Value} (h : Co F KL O L w p ps q qs) (hv : PtV F.lo w r v) (hr : Vp r) (hk : ¬ r.kind = 0) (hl : L.length < 100000) : Calls Tryz.prog 146 #[.pointer (some ⟨F.go, 0, none⟩), v] w (AddC F KL (L ++ [r]) p ps q qs) := by
 refine (implAddB O F.lo F.go L r v w h.bd hv hr hk hl).mono ?_
 rintro e w' ⟨h1, O', h2, h3, h4⟩
 exact ⟨h1, O', h.bldr h2 h3 h4⟩
def SizeC (F : Fz) (KL : List (Nat × Obj)) (O : Nat → Prop) (L : List Pt) (p : Pt) (ps : List Pt) (q : Pt) (qs : List Pt) (n : Nat) (w : World) (e : Ending) (w' : World) : Prop := e = .returned (.int .i64 (n : Int)) ∧ Co F KL O L w' p ps q qs ∧ Below w.heap.size w w'
theorem Co.size {r : Pt} {v : Value} (h : Co F KL O L w p ps q qs) (hv : PtV F.lo w r v) (hr : Vp r) : Calls Tryz.prog 136 #[v] w (SizeC F KL O L p ps q qs (sizeP r) w) := by
 obtain ⟨A, c, rfl, _⟩ := hv
 have hz := hr.size
 refine (implSize_any r.kind r.n A r.signs.length c w (by omega) (by omega) (by omega)).mono ?_
 rintro e w' ⟨rfl, h2⟩
 exact ⟨by rw [hz.1], h.past h2, h2⟩
end
def Ks (KL : List (Nat × Obj)) (w : World) : Prop := ∀ x ∈ KL, w.heap[x.1]? = some x.2
theorem Co.ks {F : Fz} {KL : List (Nat × Obj)} {O : Nat → Prop} {L : List Pt} {w : World} {p : Pt} {ps : List Pt} {q : Pt} {qs : List Pt} (h : Co F KL O L w p ps q qs) : Ks KL w := fun x hx => (h.kp x hx).1
theorem Ks.cell {KL : List (Nat × Obj)} {w : World} {b : Nat} {xs : Array Value} {T : TypeId} {i : Nat} {v : Value} (h : Ks KL w) (hm : (b, Obj.cells xs T (0, 0)) ∈ KL) (hv : xs[i]? = some v) : w.cell? ⟨b, i, none⟩ = some v := (cell_of_row _ _ i _ _ _ (h _ hm)).trans hv
section
variable {P : Program} {ops : Array Oper} {Q : Exit → Act → World → Prop} {md : Region.Mode} {S : World → Prop}
end
theorem Vp.form {p : Pt} (h : Vp p) (h0 : 0 < sizeP p) : (p.kind = 1 ∧ p = ⟨1, (sizeP p : Int), []⟩ ∧ unitsP p = List.replicate (sizeP p) .k) ∨ (p.kind = 3 ∧ p = ⟨3, (sizeP p : Int), []⟩ ∧ unitsP p = List.replicate (sizeP p) .d) ∨ (p.kind = 2 ∧ p = ⟨2, 0, p.signs⟩ ∧ sizeP p = p.signs.length ∧ unitsP p = p.signs.map .p) := by
 obtain ⟨k, m, zs⟩ := p
 rcases h with ⟨h1, h2, h3, h4⟩ | ⟨h1, h2, h3⟩ | ⟨h1, h2, h3⟩ <;> simp only at * <;> subst_vars
 ·rcases h1 with rfl | rfl
  ·exact .inl ⟨rfl, by simp [sizeP, Int.toNat_of_nonneg h2], by simp [sizeP, unitsP]⟩
  ·exact .inr (.inl ⟨rfl, by simp [sizeP, Int.toNat_of_nonneg h2], by simp [sizeP, unitsP]⟩)
 ·exact .inr (.inr ⟨rfl, rfl, by simp [sizeP], by simp [unitsP]⟩)
 ·simp [sizeP] at h0
theorem Vp.kind_ne {p : Pt} (h : Vp p) (h0 : 0 < sizeP p) : ¬ p.kind = 0 := by
 rcases h.form h0 with h | h | h <;> omega
theorem units_cut {p : Pt} {n : Nat} (h : Vp p) (hn : n ≤ sizeP p) : unitsP p = unitsP (cutL p n) ++ unitsP (cutR p n) := by
 obtain ⟨k, m, zs⟩ := p
 rcases h with ⟨h1, h2, h3, h4⟩ | ⟨h1, h2, h3⟩ | ⟨h1, h2, h3⟩ <;> simp only at * <;> subst_vars
 ·rcases h1 with rfl | rfl
  ·simp [sizeP] at hn
   simp [unitsP, cutL, cutR]
   congr 1
   omega
  ·simp [sizeP] at hn
   simp [unitsP, cutL, cutR]
   congr 1
   omega
 ·simp [unitsP, cutL, cutR]
 ·simp [sizeP] at hn
  subst hn
  simp [unitsP, cutL, cutR]
theorem units_cutR_all {p : Pt} (h : Vp p) : unitsP (cutR p (sizeP p)) = [] := by
 have e := congrArg List.length (units_cut h (Nat.le_refl (sizeP p)))
 rw [List.length_append, unitsP_len, unitsP_len (cutL p (sizeP p))] at e
 have : sizeP (cutL p (sizeP p)) = sizeP p := by
  obtain ⟨k, m, zs⟩ := p
  rcases h with ⟨h1, h2, h3, h4⟩ | ⟨h1, h2, h3⟩ | ⟨h1, h2, h3⟩ <;> simp only at * <;> subst_vars
  ·have hk : ¬ k = 2 := by omega
   simp [sizeP, cutL, hk]
   omega
  ·simp [sizeP, cutL]
  ·simp [sizeP, cutL]
 exact List.eq_nil_of_length_eq_zero (by omega)
theorem sizeP_nil {p : Pt} (h : sizeP p = 0) : unitsP p = [] := List.eq_nil_of_length_eq_zero (by rw [unitsP_len, h])
theorem src_pos {p : Pt} {R : List U} (h : Vp p) (h0 : 0 < sizeP p) (hk : ¬ p.kind = 2) : 0 < src (unitsP p ++ R) := by
 rw [src_app]
 rcases h.form h0 with ⟨_, _, e⟩ | ⟨k, _, e⟩ | ⟨k, _⟩
 ·rw [e, (src_rk _).1]; omega
 ·rw [e, (src_rd _).1]; omega
 ·exact absurd k hk
section
variable {a b L : List Pt} {p q : Pt} {R S RX RY : List U}
theorem cutL_n {n : Nat} (hk : ¬ p.kind = 2) : cutL p n = ⟨p.kind, (n : Int), []⟩ := by simp [cutL, hk]
theorem cutL_p {n : Nat} (hk : p.kind = 2) : cutL p n = ⟨2, 0, p.signs.take n⟩ := by simp [cutL, hk]
theorem CInv.eB {m : Nat} (h : CInv a b (unitsP p ++ R) (unitsP q ++ S) L) (hv : Vp p) (hw : Vp q) (h0 : 0 < m) (h1 : m ≤ sizeP p) (h2 : m ≤ sizeP q) (hk : ¬ p.kind = 3) (hk' : ¬ q.kind = 2) : CInv a b (unitsP (cutR p m) ++ R) (unitsP (cutR q m) ++ S) (bothL L (cutL p m) (cutL q m)) := by
 rw [units_cut hv h1, units_cut hw h2, List.append_assoc, List.append_assoc] at h
 rcases hv.form (by omega) with ⟨kp, _⟩ | ⟨kp, _⟩ | ⟨kp, _, lp, _⟩
 ·have ep := cutL_n (p := p) (n := m) (by omega)
  rw [kp] at ep
  have up : unitsP (cutL p m) = List.replicate m .k := by rw [ep]; simp [unitsP]
  rcases hw.form (by omega) with ⟨kq, _⟩ | ⟨kq, _⟩ | ⟨kq, _⟩
  ·have eq := cutL_n (p := q) (n := m) (by omega)
   rw [kq] at eq
   have uq : unitsP (cutL q m) = List.replicate m .k := by rw [eq]; simp [unitsP]
   rw [up, uq] at h
   rw [ep, eq]
   simpa [bothL] using h.kk h0
  ·have eq := cutL_n (p := q) (n := m) (by omega)
   rw [kq] at eq
   have uq : unitsP (cutL q m) = List.replicate m .d := by rw [eq]; simp [unitsP]
   rw [up, uq] at h
   rw [ep, eq]
   simpa [bothL] using h.kd h0
  ·omega
 ·omega
 ·have ep := cutL_p (p := p) (n := m) kp
  have lz : (p.signs.take m).length = m := by rw [List.length_take]; omega
  have up : unitsP (cutL p m) = (p.signs.take m).map .p := by rw [ep]; simp [unitsP]
  rcases hw.form (by omega) with ⟨kq, _⟩ | ⟨kq, _⟩ | ⟨kq, _⟩
  ·have eq := cutL_n (p := q) (n := m) (by omega)
   rw [kq] at eq
   have uq : unitsP (cutL q m) = List.replicate (p.signs.take m).length .k := by rw [eq, lz]; simp [unitsP]
   rw [up, uq] at h
   rw [ep, eq]
   simpa [bothL] using h.pk (by omega)
  ·have eq := cutL_n (p := q) (n := m) (by omega)
   rw [kq] at eq
   have uq : unitsP (cutL q m) = List.replicate (p.signs.take m).length .d := by rw [eq, lz]; simp [unitsP]
   rw [up, uq] at h
   rw [ep, eq]
   simpa [bothL] using h.pd
  ·omega
end
theorem cutR_len {p : Pt} {n : Nat} (h : Vp p) (hn : n ≤ sizeP p) (h0 : 0 < n) : (unitsP (cutR p n)).length < (unitsP p).length := by
 have e := congrArg List.length (units_cut h hn)
 have l : (unitsP (cutL p n)).length = n := by
  obtain ⟨k, m, zs⟩ := p
  rcases h with ⟨h1, h2, h3, h4⟩ | ⟨h1, h2, h3⟩ | ⟨h1, h2, h3⟩ <;> simp only at * <;> subst_vars
  ·have hk : ¬ k = 2 := by omega
   rw [unitsP_len]
   simp [sizeP, cutL, hk]
  ·simp [sizeP] at hn
   rw [unitsP_len]
   simp [sizeP, cutL]
   omega
  ·simp [sizeP] at hn
   omega
 rw [List.length_append, l] at e
 omega
theorem Co.rd {F : Fz} {KL KM : List (Nat × Obj)} {O O' : Nat → Prop} {L L' : List Pt} {w w' : World} {p p' : Pt} {ps ps' : List Pt} {q q' : Pt} {qs qs' : List Pt} (h : Co F KL O L w p ps q qs) (h' : Co F KM O' L' w' p' ps' q' qs') {d : Dat} {v : Value} (hr : RdC w F.lo d v) : RdC w' F.lo d v :=
 RdC.keep (fun _ hp => (h'.bl.cell hp).trans (h.bl.cell hp).symm) d v hr
attribute [local go_sem] Oper.semAt_some
theorem cutL_all {p : Pt} (h : Vp p) (hk : ¬ p.kind = 0) : cutL p (sizeP p) = p := by
 obtain ⟨k, m, zs⟩ := p
 rcases h with ⟨h1, h2, h3, h4⟩ | ⟨h1, h2, h3⟩ | ⟨h1, h2, h3⟩ <;> simp only at * <;> subst_vars
 ·have hk : ¬ k = 2 := by omega
  simp only [cutL, sizeP, if_neg hk]
  rw [Int.toNat_of_nonneg h2]
 ·simp [cutL, sizeP]
 ·exact absurd rfl hk
end Go.Proofs.YtglklgnggkenhaaGreatDoor.low
namespace Go.Proofs.YtglklgnggkenhaaGreatDoor.low.xb
open Go.RowKit
set_option linter.unusedVariables false
theorem szD (r : Pt) (A : Option Addr) (c : Nat) (w : World) (hr : Vp r) : Calls Tryz.prog 136 #[.agg #[.int .i64 r.kind, .int .i64 r.n, .slice A r.signs.length c]] w (fun e w' => e = .returned (.int .i64 (sizeP r : Int)) ∧ Below w.heap.size w w') := by
 have hz := hr.size
 refine (implSize_any r.kind r.n A r.signs.length c w (by omega) (by omega) (by omega)).mono ?_
 rintro e w' ⟨rfl, h2⟩
 exact ⟨by rw [hz.1], h2⟩
theorem s_past {F : Fy} {KL : List (Nat × Obj)} {O P : Nat → Prop} {L M : List Pt} {W W' : World} {p : Pt} {ps : List Pt} {q : Pt} {qs : List Pt} {v0 v1 v2 u0 u1 u2 : Value}
  (h : W.cell? ⟨F.g, 0, none⟩ = some v0 ∧ W.cell? ⟨F.g, 1, none⟩ = some v1 ∧ W.cell? ⟨F.g, 2, none⟩ = some v2 ∧ W.cell? ⟨F.g, 4, none⟩ = some u0 ∧ W.cell? ⟨F.g, 5, none⟩ = some u1 ∧ W.cell? ⟨F.g, 6, none⟩ = some u2 ∧ Xs F KL O P L M W p ps q qs) (h2 : Below W.heap.size W W') :
  W'.cell? ⟨F.g, 0, none⟩ = some v0 ∧ W'.cell? ⟨F.g, 1, none⟩ = some v1 ∧ W'.cell? ⟨F.g, 2, none⟩ = some v2 ∧ W'.cell? ⟨F.g, 4, none⟩ = some u0 ∧ W'.cell? ⟨F.g, 5, none⟩ = some u1 ∧ W'.cell? ⟨F.g, 6, none⟩ = some u2 ∧ Xs F KL O P L M W' p ps q qs := by
 obtain ⟨a0, a1, a2, c0, c1, c2, hk⟩ := h
 have g' := hk.lt
 exact ⟨(h2.cell (p := ⟨F.g, 0, none⟩) g').trans a0, (h2.cell (p := ⟨F.g, 1, none⟩) g').trans a1, (h2.cell (p := ⟨F.g, 2, none⟩) g').trans a2, (h2.cell (p := ⟨F.g, 4, none⟩) g').trans c0, (h2.cell (p := ⟨F.g, 5, none⟩) g').trans c1, (h2.cell (p := ⟨F.g, 6, none⟩) g').trans c2, hk.past h2⟩
def PassP (F : Fy) (KL : List (Nat × Obj)) (O P : Nat → Prop) (L M : List Pt) (p : Pt) (ps : List Pt) (q : Pt) (qs : List Pt) (m : Nat) (e : Ending) (w' : World) : Prop := e = .returned (.int .i64 (m : Int)) ∧ Xs F KL O P L M w' (cutR p m) ps (cutR q m) qs
section
variable {F : Fy} {KL : List (Nat × Obj)} {O P : Nat → Prop} {L M : List Pt} {w : World} {p : Pt} {ps : List Pt} {q : Pt} {qs : List Pt} {m : Nat}
theorem Xs.pass (h : Xs F KL O P L M w p ps q qs) (h0 : 0 < m) (hp : m ≤ sizeP p) (hq : m ≤ sizeP q) (hm : m = sizeP p ∨ m = sizeP q) : Calls Tryz.prog 183 #[.pointer (some ⟨F.g, 0, none⟩)] w (PassP F KL O P L M p ps q qs m) := by
 have hvp := h.vp
 have hvq := h.vq
 obtain ⟨A, ca, a0, a1, a2, ra⟩ := h.drew.cellsA
 obtain ⟨B, cb, c0, c1, c2, rb⟩ := h.drew.cellsB
 have hS0 := And.intro a0 (And.intro a1 (And.intro a2 (And.intro c0 (And.intro c1 (And.intro c2 h.drew)))))
 have HM := Lib.hid hm
 have HMm := Lib.hid (show (if sizeP q < sizeP p then ((sizeP q : Nat) : Int) else ((sizeP p : Nat) : Int)) = (m : Int) by split <;> omega)
 clear h ra rb hm a0 a1 a2 c0 c1 c2
 go_enter Tryz.func183, Tryz.ntmps183
 go_wp2
 go_region_held3 (fun W => W.cell? ⟨F.g, 0, none⟩ = some (.int .i64 p.kind) ∧ W.cell? ⟨F.g, 1, none⟩ = some (.int .i64 p.n) ∧ W.cell? ⟨F.g, 2, none⟩ = some (.slice A p.signs.length ca) ∧ W.cell? ⟨F.g, 4, none⟩ = some (.int .i64 q.kind) ∧ W.cell? ⟨F.g, 5, none⟩ = some (.int .i64 q.n) ∧ W.cell? ⟨F.g, 6, none⟩ = some (.slice B q.signs.length cb) ∧ Xs F KL O P L M W p ps q qs)
  (first | assumption | exact hS0 | (exact s_past (by assumption) b2))
  (first | (go_at_call 136; ((with_reducible refine (szD p A ca _ hvp).mono ?_); rintro e w2 ⟨rfl, b2⟩)) | (go_at_call 136; ((with_reducible refine (szD q B cb _ hvq).mono ?_); rintro e w2 ⟨rfl, b2⟩)))
 rename_i hS2
 have HS := Lib.hid hS2.2.2.2.2.2.2
 clear hS2 hS0
 first | rw [HMm.out] | rw [show min ((sizeP p : Nat) : Int) ((sizeP q : Nat) : Int) = (m : Int) by have h9 := HMm.out; split at h9 <;> omega]
 clear HMm
 go_wp2_with fail
 refine (HS.out.takeA h0 hp).mono ?_
 rintro e w3 ⟨v3, rfl, _, h3⟩
 have HS3 := Lib.hid h3
 clear h3
 go_wp2_with fail
 refine (HS3.out.takeB h0 hq).mono ?_
 rintro e w4 ⟨v4, rfl, _, h4⟩
 have HS4 := Lib.hid h4
 clear h4
 go_wp2
 go_ret
 exact ⟨rfl, HS4.out⟩
def EffP (F : Fy) (KL : List (Nat × Obj)) (L M : List Pt) (p : Pt) (ps : List Pt) (q : Pt) (qs : List Pt) (e : Ending) (w' : World) : Prop := e = .returned (.tuple #[]) ∧ ∃ O P, Xs F KL O P L M w' p ps q qs
theorem Xs.keepBoth (h : Xs F KL O P L M w p ps q qs) (h0 : 0 < m) (hp : m ≤ sizeP p) (hq : m ≤ sizeP q) (hm : m = sizeP p ∨ m = sizeP q) (hL : L.length < 100000) (hM : M.length < 100000) : Calls Tryz.prog 174 #[.pointer (some ⟨F.g, 0, none⟩)] w (EffP F KL (L ++ [⟨1, (m : Int), []⟩]) (M ++ [⟨1, (m : Int), []⟩]) (cutR p m) ps (cutR q m) qs) := by
 have hs := h.vp.size
 go_enter Tryz.func174, Tryz.ntmps174
 go_wp2_with fail
 refine (h.pass h0 hp hq hm).mono ?_
 rintro e w1 ⟨rfl, h1⟩
 have H1 := Lib.hid h1
 clear h1 h
 go_wp2_with fail
 refine (H1.out.keepX (by omega) (by omega) hL).mono ?_
 rintro e w2 ⟨rfl, O2, h2⟩
 have H2 := Lib.hid h2
 clear h2 H1
 go_wp2_with fail
 refine (H2.out.keepY (by omega) (by omega) hM).mono ?_
 rintro e w3 ⟨rfl, P3, h3⟩
 have H3 := Lib.hid h3
 clear h3 H2
 go_wp2
 go_end0
 exact ⟨rfl, _, _, H3.out⟩
theorem Xs.dropBoth (h : Xs F KL O P L M w p ps q qs) (h0 : 0 < m) (hp : m ≤ sizeP p) (hq : m ≤ sizeP q) (hm : m = sizeP p ∨ m = sizeP q) : Calls Tryz.prog 178 #[.pointer (some ⟨F.g, 0, none⟩)] w (EffP F KL L M (cutR p m) ps (cutR q m) qs) := by
 go_enter Tryz.func178, Tryz.ntmps178
 go_wp2_with fail
 refine (h.pass h0 hp hq hm).mono ?_
 rintro e w1 ⟨rfl, h1⟩
 have H1 := Lib.hid h1
 clear h1 h
 go_wp2
 go_end0
 exact ⟨rfl, _, _, H1.out⟩
theorem Xs.dropFirst (h : Xs F KL O P L M w p ps q qs) (h0 : 0 < m) (hp : m ≤ sizeP p) (hq : m ≤ sizeP q) (hm : m = sizeP p ∨ m = sizeP q) (hL : L.length < 100000) : Calls Tryz.prog 177 #[.pointer (some ⟨F.g, 0, none⟩)] w (EffP F KL (L ++ [⟨3, (m : Int), []⟩]) M (cutR p m) ps (cutR q m) qs) := by
 have hs := h.vp.size
 have HS := Lib.hid h.drew
 have HM := Lib.hid hm
 clear h hm
 go_enter Tryz.func177, Tryz.ntmps177
 go_wp2
 go_region_held3 (fun _ => True) (trivial)
  (first | (go_at_call 183; ((refine (HS.out.pass h0 hp hq HM.out).mono ?_); rintro e w1 ⟨rfl, h1⟩; have H1 := Lib.hid h1; clear h1)) | (go_at_call 163; ((refine (H1.out.dropX (by omega) (by omega) hL).mono ?_); rintro e w2 ⟨rfl, O2, h2⟩; have H2 := Lib.hid h2; clear h2)))
 go_wp2
 go_end0
 exact ⟨rfl, _, _, H2.out⟩
theorem Xs.dropSecond (h : Xs F KL O P L M w p ps q qs) (h0 : 0 < m) (hp : m ≤ sizeP p) (hq : m ≤ sizeP q) (hm : m = sizeP p ∨ m = sizeP q) (hM : M.length < 100000) : Calls Tryz.prog 175 #[.pointer (some ⟨F.g, 0, none⟩)] w (EffP F KL L (M ++ [⟨3, (m : Int), []⟩]) (cutR p m) ps (cutR q m) qs) := by
 have hs := h.vp.size
 have HS := Lib.hid h.drew
 have HM := Lib.hid hm
 clear h hm
 go_enter Tryz.func175, Tryz.ntmps175
 go_wp2
 go_region_held3 (fun _ => True) (trivial)
  (first | (go_at_call 183; ((refine (HS.out.pass h0 hp hq HM.out).mono ?_); rintro e w1 ⟨rfl, h1⟩; have H1 := Lib.hid h1; clear h1)) | (go_at_call 163; ((refine (H1.out.dropY (by omega) (by omega) hM).mono ?_); rintro e w2 ⟨rfl, O2, h2⟩; have H2 := Lib.hid h2; clear h2)))
 go_wp2
 go_end0
 exact ⟨rfl, _, _, H2.out⟩
end
section
variable {F : Fy} {KL : List (Nat × Obj)} {O P : Nat → Prop} {L M : List Pt} {w : World} {p : Pt} {ps : List Pt} {q : Pt} {qs : List Pt}
def slA (w : World) (g i : Nat) : Option Addr := match w.cell? ⟨g, i, none⟩ with
 | some (.slice A _ _) => A
 | _ => none
def slC (w : World) (g i : Nat) : Nat := match w.cell? ⟨g, i, none⟩ with
 | some (.slice _ _ c) => c
 | _ => 0
theorem sl_of {w : World} {g i n c : Nat} {A : Option Addr} (h : w.cell? ⟨g, i, none⟩ = some (.slice A n c)) : w.cell? ⟨g, i, none⟩ = some (.slice (slA w g i) n (slC w g i)) := by
 unfold slA slC
 rw [h]
theorem Xs.cellsA0 (h : Xs F KL O P L M w p ps q qs) : w.cell? ⟨F.g, 0, none⟩ = some (.int .i64 p.kind) := by obtain ⟨_, _, h1, _⟩ := h.cellsA; exact h1
theorem Xs.cellsA1 (h : Xs F KL O P L M w p ps q qs) : w.cell? ⟨F.g, 1, none⟩ = some (.int .i64 p.n) := by obtain ⟨_, _, _, h1, _⟩ := h.cellsA; exact h1
theorem Xs.cellsA2 (h : Xs F KL O P L M w p ps q qs) : w.cell? ⟨F.g, 2, none⟩ = some (.slice (slA w F.g 2) p.signs.length (slC w F.g 2)) := by obtain ⟨_, _, _, _, h1, _⟩ := h.cellsA; exact sl_of h1
theorem Xs.cellsB0 (h : Xs F KL O P L M w p ps q qs) : w.cell? ⟨F.g, 4, none⟩ = some (.int .i64 q.kind) := by obtain ⟨_, _, h1, _⟩ := h.cellsB; exact h1
theorem Xs.cellsB1 (h : Xs F KL O P L M w p ps q qs) : w.cell? ⟨F.g, 5, none⟩ = some (.int .i64 q.n) := by obtain ⟨_, _, _, h1, _⟩ := h.cellsB; exact h1
theorem Xs.cellsB2 (h : Xs F KL O P L M w p ps q qs) : w.cell? ⟨F.g, 6, none⟩ = some (.slice (slA w F.g 6) q.signs.length (slC w F.g 6)) := by obtain ⟨_, _, _, _, h1, _⟩ := h.cellsB; exact sl_of h1
theorem Xs.c3 {m : Nat} {v0 v1 v2 : Value} {T : TypeId} (h : Xs F ((m, .cells #[v0, v1, v2] T (0, 0)) :: KL) O P L M w p ps q qs) : w.cell? ⟨m, 0, none⟩ = some v0 ∧ w.cell? ⟨m, 1, none⟩ = some v1 ∧ w.cell? ⟨m, 2, none⟩ = some v2 :=
 ⟨h.cellK (List.mem_cons_self) rfl, h.cellK (List.mem_cons_self) rfl, h.cellK (List.mem_cons_self) rfl⟩
theorem Xs.f3 {m : Nat} {v0 v1 v2 : Value} {T : TypeId} (h : Xs F ((m, .cells #[v0, v1, v2] T (0, 0)) :: KL) O P L M w p ps q qs) : w.frozen? ⟨m, 0, none⟩ = false ∧ w.frozen? ⟨m, 1, none⟩ = false ∧ w.frozen? ⟨m, 2, none⟩ = false :=
 ⟨h.freeK (List.mem_cons_self) 0, h.freeK (List.mem_cons_self) 1, h.freeK (List.mem_cons_self) 2⟩
theorem Xs.set3 {m : Nat} {v0 v1 v2 : Value} {T : TypeId} (h : Xs F ((m, .cells #[v0, v1, v2] T (0, 0)) :: KL) O P L M w p ps q qs) (hn : ∀ x ∈ KL, ¬ x.1 = m) (x0 x1 x2 : Value) : Xs F ((m, .cells #[x0, x1, x2] T (0, 0)) :: KL) O P L M (((w.setCell ⟨m, 0, none⟩ x0).setCell ⟨m, 1, none⟩ x1).setCell ⟨m, 2, none⟩ x2) p ps q qs :=
 ((h.setK (i := 0) hn x0).setK (i := 1) hn x1).setK (i := 2) hn x2
theorem Xs.made (h : Xs F KL O P L M w p ps q qs) (o : Obj) : Xs F ((w.heap.size, o) :: KL) O P L M (w.alloc o) p ps q qs ∧ ∀ x ∈ KL, ¬ x.1 = w.heap.size :=
 ⟨h.also (alloc_below w o) (Nat.le_refl _) (heap_alloc_new w o), h.fresh (Nat.le_refl _)⟩
theorem Xs.to0 {d : Dat} {v : Value} (h : Xs F KL O P L M w p ps q qs) (hr : RdC w F.lo d v) : RdC F.w0 F.lo d v := RdC.keep (fun _ hp => (h.bl.cell hp).symm) d v hr
theorem Xs.of0 {d : Dat} {v : Value} (h : Xs F KL O P L M w p ps q qs) (hr : RdC F.w0 F.lo d v) : RdC w F.lo d v := RdC.keep (fun _ hp => h.bl.cell hp) d v hr
theorem Xs.tail {x : Nat × Obj} (h : Xs F (x :: KL) O P L M w p ps q qs) : Xs F KL O P L M w p ps q qs := h.less (fun y hy => List.mem_cons_of_mem _ hy)
theorem Xs.putFirst (h : Xs F KL O P L M w p ps q qs) (h0 : 0 < sizeP p) (hL : L.length < 100000) (hM : M.length < 100000) : Calls Tryz.prog 176 #[.pointer (some ⟨F.g, 0, none⟩)] w (EffP F KL (L ++ [p]) (M ++ [⟨1, (sizeP p : Int), []⟩]) (cutR p (sizeP p)) ps q qs) := by
 have hv := h.vp
 have hs := hv.size
 have hk0 := hv.kind_ne h0
 have HS := Lib.hid h.drew
 clear h
 go_enter Tryz.func176, Tryz.ntmps176
 go_wp2
 refine wp_region_held_drew (S := fun _ => True) (by kernel_rfl) trivial (fun _ => ?_)
 generalize w.drew = wd at *
 refine wpAnyH_take (i := 0) (v := .pointer (some ⟨F.g, 0, none⟩)) rfl (by kernel_rfl) (by kernel_rfl) (by kernel_rfl) (fun _ _ _ h => h) (Or.inl ⟨by rfl, fun w' hS => ?_⟩) trivial ?_
 ·clear HS; go_simp
 try simp only [Act.put]
 refine wpAnyH_take (i := 1) (v := .pointer (some ⟨F.g, 0, none⟩)) rfl (by kernel_rfl) (by kernel_rfl) (by kernel_rfl) (fun _ _ _ h => h) (Or.inl ⟨by rfl, fun w' hS => ?_⟩) trivial ?_
 ·clear HS; go_simp
 try simp only [Act.put]
 refine wpAnyH_take (i := 2) (v := .pointer (some ⟨F.g, 0, none⟩)) rfl (by kernel_rfl) (by kernel_rfl) (by kernel_rfl) (fun _ _ _ h => h) (Or.inl ⟨by rfl, fun w' hS => ?_⟩) trivial ?_
 ·clear HS; go_simp
 try simp only [Act.put]
 refine wpAnyH_take (i := 3) (v := .pointer (some ⟨F.g, 0, none⟩)) rfl (by kernel_rfl) (by kernel_rfl) (by kernel_rfl) (fun _ _ _ h => h) (Or.inl ⟨by rfl, fun w' hS => ?_⟩) trivial ?_
 ·clear HS; go_simp
 try simp only [Act.put]
 refine wpAnyH_take (i := 4) (v := .pointer (some ⟨F.g, 0, none⟩)) rfl (by kernel_rfl) (by kernel_rfl) (by kernel_rfl) (fun _ _ _ h => h) (Or.inl ⟨by rfl, fun w' hS => ?_⟩) trivial ?_
 ·clear HS; go_simp
 try simp only [Act.put]
 refine wpAnyH_take (i := 5) (v := .pointer (some ⟨F.g, 0, none⟩)) rfl (by kernel_rfl) (by kernel_rfl) (by kernel_rfl) (fun _ _ _ h => h) (Or.inl ⟨by rfl, fun w' hS => ?_⟩) trivial ?_
 ·clear HS; go_simp
 try simp only [Act.put]
 refine wpAnyH_take (i := 6) (v := .pointer (some ⟨F.g, 0, none⟩)) rfl (by kernel_rfl) (by kernel_rfl) (by kernel_rfl) (fun _ _ _ h => h) (Or.inl ⟨by rfl, fun w' hS => ?_⟩) trivial ?_
 ·clear HS; go_simp
 try simp only [Act.put]
 refine wpAnyH_ready (rs := [7, 10]) (by kernel_rfl) (by simp) ?_
 refine AllReadyH.cons rfl (fun K hK => ?_) (AllReadyH.cons rfl (fun K hK => ?_) AllReadyH.nil)
 ·have a0 := HS.out.cellsA0
  have a1 := HS.out.cellsA1
  have a2 := HS.out.cellsA2
  go_simp
  refine hK.out _ _ trivial (fun _ => ?_)
  clear hK K a0 a1 a2
  try simp only [Act.put, low.pa, low.pb, low.pc]
  refine wpAnyH_ready (rs := [8, 10]) (by kernel_rfl) (by simp) ?_
  refine AllReadyH.cons rfl (fun K hK => ?_) (AllReadyH.cons rfl (fun K hK => ?_) AllReadyH.nil)
  ·go_simp
   refine (HS.out.size (r := p) hv).mono ?_
   rintro e w1 ⟨rfl, h1, b1⟩
   refine hK.out _ _ trivial (fun _ => ?_)
   clear hK K b1
   try simp only [Act.put, low.pa, low.pb, low.pc]
   replace HS := Lib.hid h1
   clear h1
   refine wpAnyH_ready (rs := [9, 10]) (by kernel_rfl) (by simp) ?_
   refine AllReadyH.cons rfl (fun K hK => ?_) (AllReadyH.cons rfl (fun K hK => ?_) AllReadyH.nil)
   ·go_simp
    refine (HS.out.takeA h0 (Nat.le_refl _)).mono ?_
    rintro e w2 ⟨v2, rfl, pv2, h2⟩
    rw [cutL_all hv hk0] at pv2
    obtain ⟨A2, c2, rfl, r2⟩ := pv2
    have HR := Lib.hid (h2.to0 r2)
    clear r2
    refine hK.out _ _ trivial (fun _ => ?_)
    clear hK K
    try simp only [Act.put, low.pa, low.pb, low.pc]
    replace HS := Lib.hid h2
    clear h2
    refine wpAnyH_ready (rs := [10]) (by kernel_rfl) (by simp) ?_
    refine AllReadyH.cons rfl (fun K hK => ?_) AllReadyH.nil
    go_simp
    refine hK.out _ _ trivial (fun _ => ?_)
    clear hK K
    try simp only [Act.put, low.pa, low.pb, low.pc]
    have HF := Lib.hid (HS.out.made (.cells #[.int .i64 0, .int .i64 0, .slice none 0 0] 68)).2
    replace HS := Lib.hid (HS.out.made (.cells #[.int .i64 0, .int .i64 0, .slice none 0 0] 68)).1
    generalize w2.heap.size = mm at *
    generalize w2.alloc (.cells #[.int .i64 0, .int .i64 0, .slice none 0 0] 68) = wa at *
    refine wpAnyH_ready (rs := [11]) (by kernel_rfl) (by simp) ?_
    refine AllReadyH.cons rfl (fun K hK => ?_) AllReadyH.nil
    have m0 := HS.out.c3.1
    have m1 := HS.out.c3.2.1
    have m2 := HS.out.c3.2.2
    have n0 := HS.out.f3.1
    have n1 := HS.out.f3.2.1
    have n2 := HS.out.f3.2.2
    go_simp
    refine hK.out _ _ trivial (fun _ => ?_)
    clear hK K m0 m1 m2 n0 n1 n2
    try simp only [Act.put, low.pa, low.pb, low.pc]
    refine wpAnyH_done (by kernel_rfl) ?_ _
    replace HS := Lib.hid (HS.out.set3 HF.out (.int .i64 p.kind) (.int .i64 p.n) (.slice A2 p.signs.length c2))
    generalize (((wa.setCell ⟨mm, 0, none⟩ (.int .i64 p.kind)).setCell ⟨mm, 1, none⟩ (.int .i64 p.n)).setCell ⟨mm, 2, none⟩ (.slice A2 p.signs.length c2)) = ws at *
    clear HF
    have hS1 := HS.out.drew.c3
    go_wp2
    go_region_held3 (fun W => W.cell? ⟨mm, 0, none⟩ = some (.int .i64 p.kind) ∧ W.cell? ⟨mm, 1, none⟩ = some (.int .i64 p.n) ∧ W.cell? ⟨mm, 2, none⟩ = some (.slice A2 p.signs.length c2))
     (first | assumption | exact hS1 | exact H1.out.c3)
     (first | (go_at_call 146; ((refine (HS.out.drew.addX ⟨A2, c2, rfl, HS.out.drew.of0 HR.out⟩ hv hk0 hL).mono ?_); rintro e w3 ⟨rfl, O3, h3⟩; have H1 := Lib.hid h3; clear h3)))
    clear hS1
    have hS2 := H1.out.drew.c3
    go_wp2
    go_region_held3 (fun W => W.cell? ⟨mm, 0, none⟩ = some (.int .i64 p.kind) ∧ W.cell? ⟨mm, 1, none⟩ = some (.int .i64 p.n) ∧ W.cell? ⟨mm, 2, none⟩ = some (.slice A2 p.signs.length c2))
     (first | assumption | exact hS2 | exact H3.out.c3 | exact H2.out.c3)
     (first | (go_at_call 136; ((refine (H1.out.drew.size (r := p) hv).mono ?_); rintro e w4 ⟨rfl, h4, b4⟩; have H2 := Lib.hid h4; clear h4 b4)) | (go_at_call 161; ((refine (H2.out.keepY (by omega) (by omega) hM).mono ?_); rintro e w5 ⟨rfl, P5, h5⟩; have H3 := Lib.hid h5; clear h5)))
    clear hS2
    go_wp2
    go_end0
    exact ⟨rfl, _, _, H3.out.tail⟩
   ·go_simp
    refine hK.out _ _ trivial (fun _ => ?_)
    clear hK K
    try simp only [Act.put, low.pa, low.pb, low.pc]
    have HF := Lib.hid (HS.out.made (.cells #[.int .i64 0, .int .i64 0, .slice none 0 0] 68)).2
    replace HS := Lib.hid (HS.out.made (.cells #[.int .i64 0, .int .i64 0, .slice none 0 0] 68)).1
    generalize w1.heap.size = mm at *
    generalize w1.alloc (.cells #[.int .i64 0, .int .i64 0, .slice none 0 0] 68) = wa at *
    refine wpAnyH_ready (rs := [9]) (by kernel_rfl) (by simp) ?_
    refine AllReadyH.cons rfl (fun K hK => ?_) AllReadyH.nil
    go_simp
    refine (HS.out.takeA h0 (Nat.le_refl _)).mono ?_
    rintro e w2 ⟨v2, rfl, pv2, h2⟩
    rw [cutL_all hv hk0] at pv2
    obtain ⟨A2, c2, rfl, r2⟩ := pv2
    have HR := Lib.hid (h2.to0 r2)
    clear r2
    refine hK.out _ _ trivial (fun _ => ?_)
    clear hK K
    try simp only [Act.put, low.pa, low.pb, low.pc]
    replace HS := Lib.hid h2
    clear h2
    refine wpAnyH_ready (rs := [11]) (by kernel_rfl) (by simp) ?_
    refine AllReadyH.cons rfl (fun K hK => ?_) AllReadyH.nil
    have m0 := HS.out.c3.1
    have m1 := HS.out.c3.2.1
    have m2 := HS.out.c3.2.2
    have n0 := HS.out.f3.1
    have n1 := HS.out.f3.2.1
    have n2 := HS.out.f3.2.2
    go_simp
    refine hK.out _ _ trivial (fun _ => ?_)
    clear hK K m0 m1 m2 n0 n1 n2
    try simp only [Act.put, low.pa, low.pb, low.pc]
    refine wpAnyH_done (by kernel_rfl) ?_ _
    replace HS := Lib.hid (HS.out.set3 HF.out (.int .i64 p.kind) (.int .i64 p.n) (.slice A2 p.signs.length c2))
    generalize (((w2.setCell ⟨mm, 0, none⟩ (.int .i64 p.kind)).setCell ⟨mm, 1, none⟩ (.int .i64 p.n)).setCell ⟨mm, 2, none⟩ (.slice A2 p.signs.length c2)) = ws at *
    clear HF
    have hS1 := HS.out.drew.c3
    go_wp2
    go_region_held3 (fun W => W.cell? ⟨mm, 0, none⟩ = some (.int .i64 p.kind) ∧ W.cell? ⟨mm, 1, none⟩ = some (.int .i64 p.n) ∧ W.cell? ⟨mm, 2, none⟩ = some (.slice A2 p.signs.length c2))
     (first | assumption | exact hS1 | exact H1.out.c3)
     (first | (go_at_call 146; ((refine (HS.out.drew.addX ⟨A2, c2, rfl, HS.out.drew.of0 HR.out⟩ hv hk0 hL).mono ?_); rintro e w3 ⟨rfl, O3, h3⟩; have H1 := Lib.hid h3; clear h3)))
    clear hS1
    have hS2 := H1.out.drew.c3
    go_wp2
    go_region_held3 (fun W => W.cell? ⟨mm, 0, none⟩ = some (.int .i64 p.kind) ∧ W.cell? ⟨mm, 1, none⟩ = some (.int .i64 p.n) ∧ W.cell? ⟨mm, 2, none⟩ = some (.slice A2 p.signs.length c2))
     (first | assumption | exact hS2 | exact H3.out.c3 | exact H2.out.c3)
     (first | (go_at_call 136; ((refine (H1.out.drew.size (r := p) hv).mono ?_); rintro e w4 ⟨rfl, h4, b4⟩; have H2 := Lib.hid h4; clear h4 b4)) | (go_at_call 161; ((refine (H2.out.keepY (by omega) (by omega) hM).mono ?_); rintro e w5 ⟨rfl, P5, h5⟩; have H3 := Lib.hid h5; clear h5)))
    clear hS2
    go_wp2
    go_end0
    exact ⟨rfl, _, _, H3.out.tail⟩
  ·go_simp
   refine hK.out _ _ trivial (fun _ => ?_)
   clear hK K
   try simp only [Act.put, low.pa, low.pb, low.pc]
   have HF := Lib.hid (HS.out.made (.cells #[.int .i64 0, .int .i64 0, .slice none 0 0] 68)).2
   replace HS := Lib.hid (HS.out.made (.cells #[.int .i64 0, .int .i64 0, .slice none 0 0] 68)).1
   generalize wd.heap.size = mm at *
   generalize wd.alloc (.cells #[.int .i64 0, .int .i64 0, .slice none 0 0] 68) = wa at *
   refine wpAnyH_ready (rs := [8]) (by kernel_rfl) (by simp) ?_
   refine AllReadyH.cons rfl (fun K hK => ?_) AllReadyH.nil
   go_simp
   refine (HS.out.size (r := p) hv).mono ?_
   rintro e w1 ⟨rfl, h1, b1⟩
   refine hK.out _ _ trivial (fun _ => ?_)
   clear hK K b1
   try simp only [Act.put, low.pa, low.pb, low.pc]
   replace HS := Lib.hid h1
   clear h1
   refine wpAnyH_ready (rs := [9]) (by kernel_rfl) (by simp) ?_
   refine AllReadyH.cons rfl (fun K hK => ?_) AllReadyH.nil
   go_simp
   refine (HS.out.takeA h0 (Nat.le_refl _)).mono ?_
   rintro e w2 ⟨v2, rfl, pv2, h2⟩
   rw [cutL_all hv hk0] at pv2
   obtain ⟨A2, c2, rfl, r2⟩ := pv2
   have HR := Lib.hid (h2.to0 r2)
   clear r2
   refine hK.out _ _ trivial (fun _ => ?_)
   clear hK K
   try simp only [Act.put, low.pa, low.pb, low.pc]
   replace HS := Lib.hid h2
   clear h2
   refine wpAnyH_ready (rs := [11]) (by kernel_rfl) (by simp) ?_
   refine AllReadyH.cons rfl (fun K hK => ?_) AllReadyH.nil
   have m0 := HS.out.c3.1
   have m1 := HS.out.c3.2.1
   have m2 := HS.out.c3.2.2
   have n0 := HS.out.f3.1
   have n1 := HS.out.f3.2.1
   have n2 := HS.out.f3.2.2
   go_simp
   refine hK.out _ _ trivial (fun _ => ?_)
   clear hK K m0 m1 m2 n0 n1 n2
   try simp only [Act.put, low.pa, low.pb, low.pc]
   refine wpAnyH_done (by kernel_rfl) ?_ _
   replace HS := Lib.hid (HS.out.set3 HF.out (.int .i64 p.kind) (.int .i64 p.n) (.slice A2 p.signs.length c2))
   generalize (((w2.setCell ⟨mm, 0, none⟩ (.int .i64 p.kind)).setCell ⟨mm, 1, none⟩ (.int .i64 p.n)).setCell ⟨mm, 2, none⟩ (.slice A2 p.signs.length c2)) = ws at *
   clear HF
   have hS1 := HS.out.drew.c3
   go_wp2
   go_region_held3 (fun W => W.cell? ⟨mm, 0, none⟩ = some (.int .i64 p.kind) ∧ W.cell? ⟨mm, 1, none⟩ = some (.int .i64 p.n) ∧ W.cell? ⟨mm, 2, none⟩ = some (.slice A2 p.signs.length c2))
    (first | assumption | exact hS1 | exact H1.out.c3)
    (first | (go_at_call 146; ((refine (HS.out.drew.addX ⟨A2, c2, rfl, HS.out.drew.of0 HR.out⟩ hv hk0 hL).mono ?_); rintro e w3 ⟨rfl, O3, h3⟩; have H1 := Lib.hid h3; clear h3)))
   clear hS1
   have hS2 := H1.out.drew.c3
   go_wp2
   go_region_held3 (fun W => W.cell? ⟨mm, 0, none⟩ = some (.int .i64 p.kind) ∧ W.cell? ⟨mm, 1, none⟩ = some (.int .i64 p.n) ∧ W.cell? ⟨mm, 2, none⟩ = some (.slice A2 p.signs.length c2))
    (first | assumption | exact hS2 | exact H3.out.c3 | exact H2.out.c3)
    (first | (go_at_call 136; ((refine (H1.out.drew.size (r := p) hv).mono ?_); rintro e w4 ⟨rfl, h4, b4⟩; have H2 := Lib.hid h4; clear h4 b4)) | (go_at_call 161; ((refine (H2.out.keepY (by omega) (by omega) hM).mono ?_); rintro e w5 ⟨rfl, P5, h5⟩; have H3 := Lib.hid h5; clear h5)))
   clear hS2
   go_wp2
   go_end0
   exact ⟨rfl, _, _, H3.out.tail⟩
 ·go_simp
  refine hK.out _ _ trivial (fun _ => ?_)
  clear hK K
  try simp only [Act.put, low.pa, low.pb, low.pc]
  have HF := Lib.hid (HS.out.made (.cells #[.int .i64 0, .int .i64 0, .slice none 0 0] 68)).2
  replace HS := Lib.hid (HS.out.made (.cells #[.int .i64 0, .int .i64 0, .slice none 0 0] 68)).1
  generalize wd.heap.size = mm at *
  generalize wd.alloc (.cells #[.int .i64 0, .int .i64 0, .slice none 0 0] 68) = wa at *
  refine wpAnyH_ready (rs := [7]) (by kernel_rfl) (by simp) ?_
  refine AllReadyH.cons rfl (fun K hK => ?_) AllReadyH.nil
  have a0 := HS.out.cellsA0
  have a1 := HS.out.cellsA1
  have a2 := HS.out.cellsA2
  go_simp
  refine hK.out _ _ trivial (fun _ => ?_)
  clear hK K a0 a1 a2
  try simp only [Act.put, low.pa, low.pb, low.pc]
  refine wpAnyH_ready (rs := [8]) (by kernel_rfl) (by simp) ?_
  refine AllReadyH.cons rfl (fun K hK => ?_) AllReadyH.nil
  go_simp
  refine (HS.out.size (r := p) hv).mono ?_
  rintro e w1 ⟨rfl, h1, b1⟩
  refine hK.out _ _ trivial (fun _ => ?_)
  clear hK K b1
  try simp only [Act.put, low.pa, low.pb, low.pc]
  replace HS := Lib.hid h1
  clear h1
  refine wpAnyH_ready (rs := [9]) (by kernel_rfl) (by simp) ?_
  refine AllReadyH.cons rfl (fun K hK => ?_) AllReadyH.nil
  go_simp
  refine (HS.out.takeA h0 (Nat.le_refl _)).mono ?_
  rintro e w2 ⟨v2, rfl, pv2, h2⟩
  rw [cutL_all hv hk0] at pv2
  obtain ⟨A2, c2, rfl, r2⟩ := pv2
  have HR := Lib.hid (h2.to0 r2)
  clear r2
  refine hK.out _ _ trivial (fun _ => ?_)
  clear hK K
  try simp only [Act.put, low.pa, low.pb, low.pc]
  replace HS := Lib.hid h2
  clear h2
  refine wpAnyH_ready (rs := [11]) (by kernel_rfl) (by simp) ?_
  refine AllReadyH.cons rfl (fun K hK => ?_) AllReadyH.nil
  have m0 := HS.out.c3.1
  have m1 := HS.out.c3.2.1
  have m2 := HS.out.c3.2.2
  have n0 := HS.out.f3.1
  have n1 := HS.out.f3.2.1
  have n2 := HS.out.f3.2.2
  go_simp
  refine hK.out _ _ trivial (fun _ => ?_)
  clear hK K m0 m1 m2 n0 n1 n2
  try simp only [Act.put, low.pa, low.pb, low.pc]
  refine wpAnyH_done (by kernel_rfl) ?_ _
  replace HS := Lib.hid (HS.out.set3 HF.out (.int .i64 p.kind) (.int .i64 p.n) (.slice A2 p.signs.length c2))
  generalize (((w2.setCell ⟨mm, 0, none⟩ (.int .i64 p.kind)).setCell ⟨mm, 1, none⟩ (.int .i64 p.n)).setCell ⟨mm, 2, none⟩ (.slice A2 p.signs.length c2)) = ws at *
  clear HF
  have hS1 := HS.out.drew.c3
  go_wp2
  go_region_held3 (fun W => W.cell? ⟨mm, 0, none⟩ = some (.int .i64 p.kind) ∧ W.cell? ⟨mm, 1, none⟩ = some (.int .i64 p.n) ∧ W.cell? ⟨mm, 2, none⟩ = some (.slice A2 p.signs.length c2))
   (first | assumption | exact hS1 | exact H1.out.c3)
   (first | (go_at_call 146; ((refine (HS.out.drew.addX ⟨A2, c2, rfl, HS.out.drew.of0 HR.out⟩ hv hk0 hL).mono ?_); rintro e w3 ⟨rfl, O3, h3⟩; have H1 := Lib.hid h3; clear h3)))
  clear hS1
  have hS2 := H1.out.drew.c3
  go_wp2
  go_region_held3 (fun W => W.cell? ⟨mm, 0, none⟩ = some (.int .i64 p.kind) ∧ W.cell? ⟨mm, 1, none⟩ = some (.int .i64 p.n) ∧ W.cell? ⟨mm, 2, none⟩ = some (.slice A2 p.signs.length c2))
   (first | assumption | exact hS2 | exact H3.out.c3 | exact H2.out.c3)
   (first | (go_at_call 136; ((refine (H1.out.drew.size (r := p) hv).mono ?_); rintro e w4 ⟨rfl, h4, b4⟩; have H2 := Lib.hid h4; clear h4 b4)) | (go_at_call 161; ((refine (H2.out.keepY (by omega) (by omega) hM).mono ?_); rintro e w5 ⟨rfl, P5, h5⟩; have H3 := Lib.hid h5; clear h5)))
  clear hS2
  go_wp2
  go_end0
  exact ⟨rfl, _, _, H3.out.tail⟩
theorem Xs.putSecond (h : Xs F KL O P L M w p ps q qs) (h0 : 0 < sizeP q) (hL : L.length < 100000) (hM : M.length < 100000) : Calls Tryz.prog 173 #[.pointer (some ⟨F.g, 0, none⟩)] w (EffP F KL (L ++ [⟨1, (sizeP q : Int), []⟩]) (M ++ [q]) p ps (cutR q (sizeP q)) qs) := by
 have hv := h.vq
 have hs := hv.size
 have hk0 := hv.kind_ne h0
 have HS := Lib.hid h.drew
 clear h
 go_enter Tryz.func173, Tryz.ntmps173
 go_wp2
 refine wp_region_held_drew (S := fun _ => True) (by kernel_rfl) trivial (fun _ => ?_)
 generalize w.drew = wd at *
 refine wpAnyH_take (i := 0) (v := .pointer (some ⟨F.g, 0, none⟩)) rfl (by kernel_rfl) (by kernel_rfl) (by kernel_rfl) (fun _ _ _ h => h) (Or.inl ⟨by rfl, fun w' hS => ?_⟩) trivial ?_
 ·clear HS; go_simp
 try simp only [Act.put]
 refine wpAnyH_take (i := 1) (v := .pointer (some ⟨F.g, 0, none⟩)) rfl (by kernel_rfl) (by kernel_rfl) (by kernel_rfl) (fun _ _ _ h => h) (Or.inl ⟨by rfl, fun w' hS => ?_⟩) trivial ?_
 ·clear HS; go_simp
 try simp only [Act.put]
 refine wpAnyH_take (i := 2) (v := .pointer (some ⟨F.g, 4, none⟩)) rfl (by kernel_rfl) (by kernel_rfl) (by kernel_rfl) (fun _ _ _ h => h) (Or.inl ⟨by rfl, fun w' hS => ?_⟩) trivial ?_
 ·clear HS; go_simp
 try simp only [Act.put]
 refine wpAnyH_take (i := 3) (v := .pointer (some ⟨F.g, 0, none⟩)) rfl (by kernel_rfl) (by kernel_rfl) (by kernel_rfl) (fun _ _ _ h => h) (Or.inl ⟨by rfl, fun w' hS => ?_⟩) trivial ?_
 ·clear HS; go_simp
 try simp only [Act.put]
 refine wpAnyH_take (i := 4) (v := .pointer (some ⟨F.g, 0, none⟩)) rfl (by kernel_rfl) (by kernel_rfl) (by kernel_rfl) (fun _ _ _ h => h) (Or.inl ⟨by rfl, fun w' hS => ?_⟩) trivial ?_
 ·clear HS; go_simp
 try simp only [Act.put]
 refine wpAnyH_take (i := 5) (v := .pointer (some ⟨F.g, 4, none⟩)) rfl (by kernel_rfl) (by kernel_rfl) (by kernel_rfl) (fun _ _ _ h => h) (Or.inl ⟨by rfl, fun w' hS => ?_⟩) trivial ?_
 ·clear HS; go_simp
 try simp only [Act.put]
 refine wpAnyH_take (i := 6) (v := .pointer (some ⟨F.g, 4, none⟩)) rfl (by kernel_rfl) (by kernel_rfl) (by kernel_rfl) (fun _ _ _ h => h) (Or.inl ⟨by rfl, fun w' hS => ?_⟩) trivial ?_
 ·clear HS; go_simp
 try simp only [Act.put]
 refine wpAnyH_ready (rs := [7, 10]) (by kernel_rfl) (by simp) ?_
 refine AllReadyH.cons rfl (fun K hK => ?_) (AllReadyH.cons rfl (fun K hK => ?_) AllReadyH.nil)
 ·have a0 := HS.out.cellsB0
  have a1 := HS.out.cellsB1
  have a2 := HS.out.cellsB2
  go_simp
  refine hK.out _ _ trivial (fun _ => ?_)
  clear hK K a0 a1 a2
  try simp only [Act.put, low.pa, low.pb, low.pc]
  refine wpAnyH_ready (rs := [8, 10]) (by kernel_rfl) (by simp) ?_
  refine AllReadyH.cons rfl (fun K hK => ?_) (AllReadyH.cons rfl (fun K hK => ?_) AllReadyH.nil)
  ·go_simp
   refine (HS.out.size (r := q) hv).mono ?_
   rintro e w1 ⟨rfl, h1, b1⟩
   refine hK.out _ _ trivial (fun _ => ?_)
   clear hK K b1
   try simp only [Act.put, low.pa, low.pb, low.pc]
   replace HS := Lib.hid h1
   clear h1
   refine wpAnyH_ready (rs := [9, 10]) (by kernel_rfl) (by simp) ?_
   refine AllReadyH.cons rfl (fun K hK => ?_) (AllReadyH.cons rfl (fun K hK => ?_) AllReadyH.nil)
   ·go_simp
    refine (HS.out.takeB h0 (Nat.le_refl _)).mono ?_
    rintro e w2 ⟨v2, rfl, pv2, h2⟩
    rw [cutL_all hv hk0] at pv2
    obtain ⟨A2, c2, rfl, r2⟩ := pv2
    have HR := Lib.hid (h2.to0 r2)
    clear r2
    refine hK.out _ _ trivial (fun _ => ?_)
    clear hK K
    try simp only [Act.put, low.pa, low.pb, low.pc]
    replace HS := Lib.hid h2
    clear h2
    refine wpAnyH_ready (rs := [10]) (by kernel_rfl) (by simp) ?_
    refine AllReadyH.cons rfl (fun K hK => ?_) AllReadyH.nil
    go_simp
    refine hK.out _ _ trivial (fun _ => ?_)
    clear hK K
    try simp only [Act.put, low.pa, low.pb, low.pc]
    have HF := Lib.hid (HS.out.made (.cells #[.int .i64 0, .int .i64 0, .slice none 0 0] 68)).2
    replace HS := Lib.hid (HS.out.made (.cells #[.int .i64 0, .int .i64 0, .slice none 0 0] 68)).1
    generalize w2.heap.size = mm at *
    generalize w2.alloc (.cells #[.int .i64 0, .int .i64 0, .slice none 0 0] 68) = wa at *
    refine wpAnyH_ready (rs := [11]) (by kernel_rfl) (by simp) ?_
    refine AllReadyH.cons rfl (fun K hK => ?_) AllReadyH.nil
    have m0 := HS.out.c3.1
    have m1 := HS.out.c3.2.1
    have m2 := HS.out.c3.2.2
    have n0 := HS.out.f3.1
    have n1 := HS.out.f3.2.1
    have n2 := HS.out.f3.2.2
    go_simp
    refine hK.out _ _ trivial (fun _ => ?_)
    clear hK K m0 m1 m2 n0 n1 n2
    try simp only [Act.put, low.pa, low.pb, low.pc]
    refine wpAnyH_done (by kernel_rfl) ?_ _
    replace HS := Lib.hid (HS.out.set3 HF.out (.int .i64 q.kind) (.int .i64 q.n) (.slice A2 q.signs.length c2))
    generalize (((wa.setCell ⟨mm, 0, none⟩ (.int .i64 q.kind)).setCell ⟨mm, 1, none⟩ (.int .i64 q.n)).setCell ⟨mm, 2, none⟩ (.slice A2 q.signs.length c2)) = ws at *
    clear HF
    have hS2 := HS.out.drew.c3
    go_wp2
    go_region_held3 (fun W => W.cell? ⟨mm, 0, none⟩ = some (.int .i64 q.kind) ∧ W.cell? ⟨mm, 1, none⟩ = some (.int .i64 q.n) ∧ W.cell? ⟨mm, 2, none⟩ = some (.slice A2 q.signs.length c2))
     (first | assumption | exact hS2 | exact H3.out.c3 | exact H2.out.c3)
     (first | (go_at_call 136; ((refine (HS.out.drew.size (r := q) hv).mono ?_); rintro e w4 ⟨rfl, h4, b4⟩; have H2 := Lib.hid h4; clear h4 b4)) | (go_at_call 161; ((refine (H2.out.keepX (by omega) (by omega) hL).mono ?_); rintro e w5 ⟨rfl, P5, h5⟩; have H3 := Lib.hid h5; clear h5)))
    clear hS2
    have hS1 := H3.out.drew.c3
    go_wp2
    go_region_held3 (fun W => W.cell? ⟨mm, 0, none⟩ = some (.int .i64 q.kind) ∧ W.cell? ⟨mm, 1, none⟩ = some (.int .i64 q.n) ∧ W.cell? ⟨mm, 2, none⟩ = some (.slice A2 q.signs.length c2))
     (first | assumption | exact hS1 | exact H1.out.c3)
     (first | (go_at_call 146; ((refine (H3.out.drew.addY ⟨A2, c2, rfl, H3.out.drew.of0 HR.out⟩ hv hk0 hM).mono ?_); rintro e w3 ⟨rfl, O3, h3⟩; have H1 := Lib.hid h3; clear h3)))
    clear hS1
    go_wp2
    go_end0
    exact ⟨rfl, _, _, H1.out.tail⟩
   ·go_simp
    refine hK.out _ _ trivial (fun _ => ?_)
    clear hK K
    try simp only [Act.put, low.pa, low.pb, low.pc]
    have HF := Lib.hid (HS.out.made (.cells #[.int .i64 0, .int .i64 0, .slice none 0 0] 68)).2
    replace HS := Lib.hid (HS.out.made (.cells #[.int .i64 0, .int .i64 0, .slice none 0 0] 68)).1
    generalize w1.heap.size = mm at *
    generalize w1.alloc (.cells #[.int .i64 0, .int .i64 0, .slice none 0 0] 68) = wa at *
    refine wpAnyH_ready (rs := [9]) (by kernel_rfl) (by simp) ?_
    refine AllReadyH.cons rfl (fun K hK => ?_) AllReadyH.nil
    go_simp
    refine (HS.out.takeB h0 (Nat.le_refl _)).mono ?_
    rintro e w2 ⟨v2, rfl, pv2, h2⟩
    rw [cutL_all hv hk0] at pv2
    obtain ⟨A2, c2, rfl, r2⟩ := pv2
    have HR := Lib.hid (h2.to0 r2)
    clear r2
    refine hK.out _ _ trivial (fun _ => ?_)
    clear hK K
    try simp only [Act.put, low.pa, low.pb, low.pc]
    replace HS := Lib.hid h2
    clear h2
    refine wpAnyH_ready (rs := [11]) (by kernel_rfl) (by simp) ?_
    refine AllReadyH.cons rfl (fun K hK => ?_) AllReadyH.nil
    have m0 := HS.out.c3.1
    have m1 := HS.out.c3.2.1
    have m2 := HS.out.c3.2.2
    have n0 := HS.out.f3.1
    have n1 := HS.out.f3.2.1
    have n2 := HS.out.f3.2.2
    go_simp
    refine hK.out _ _ trivial (fun _ => ?_)
    clear hK K m0 m1 m2 n0 n1 n2
    try simp only [Act.put, low.pa, low.pb, low.pc]
    refine wpAnyH_done (by kernel_rfl) ?_ _
    replace HS := Lib.hid (HS.out.set3 HF.out (.int .i64 q.kind) (.int .i64 q.n) (.slice A2 q.signs.length c2))
    generalize (((w2.setCell ⟨mm, 0, none⟩ (.int .i64 q.kind)).setCell ⟨mm, 1, none⟩ (.int .i64 q.n)).setCell ⟨mm, 2, none⟩ (.slice A2 q.signs.length c2)) = ws at *
    clear HF
    have hS2 := HS.out.drew.c3
    go_wp2
    go_region_held3 (fun W => W.cell? ⟨mm, 0, none⟩ = some (.int .i64 q.kind) ∧ W.cell? ⟨mm, 1, none⟩ = some (.int .i64 q.n) ∧ W.cell? ⟨mm, 2, none⟩ = some (.slice A2 q.signs.length c2))
     (first | assumption | exact hS2 | exact H3.out.c3 | exact H2.out.c3)
     (first | (go_at_call 136; ((refine (HS.out.drew.size (r := q) hv).mono ?_); rintro e w4 ⟨rfl, h4, b4⟩; have H2 := Lib.hid h4; clear h4 b4)) | (go_at_call 161; ((refine (H2.out.keepX (by omega) (by omega) hL).mono ?_); rintro e w5 ⟨rfl, P5, h5⟩; have H3 := Lib.hid h5; clear h5)))
    clear hS2
    have hS1 := H3.out.drew.c3
    go_wp2
    go_region_held3 (fun W => W.cell? ⟨mm, 0, none⟩ = some (.int .i64 q.kind) ∧ W.cell? ⟨mm, 1, none⟩ = some (.int .i64 q.n) ∧ W.cell? ⟨mm, 2, none⟩ = some (.slice A2 q.signs.length c2))
     (first | assumption | exact hS1 | exact H1.out.c3)
     (first | (go_at_call 146; ((refine (H3.out.drew.addY ⟨A2, c2, rfl, H3.out.drew.of0 HR.out⟩ hv hk0 hM).mono ?_); rintro e w3 ⟨rfl, O3, h3⟩; have H1 := Lib.hid h3; clear h3)))
    clear hS1
    go_wp2
    go_end0
    exact ⟨rfl, _, _, H1.out.tail⟩
  ·go_simp
   refine hK.out _ _ trivial (fun _ => ?_)
   clear hK K
   try simp only [Act.put, low.pa, low.pb, low.pc]
   have HF := Lib.hid (HS.out.made (.cells #[.int .i64 0, .int .i64 0, .slice none 0 0] 68)).2
   replace HS := Lib.hid (HS.out.made (.cells #[.int .i64 0, .int .i64 0, .slice none 0 0] 68)).1
   generalize wd.heap.size = mm at *
   generalize wd.alloc (.cells #[.int .i64 0, .int .i64 0, .slice none 0 0] 68) = wa at *
   refine wpAnyH_ready (rs := [8]) (by kernel_rfl) (by simp) ?_
   refine AllReadyH.cons rfl (fun K hK => ?_) AllReadyH.nil
   go_simp
   refine (HS.out.size (r := q) hv).mono ?_
   rintro e w1 ⟨rfl, h1, b1⟩
   refine hK.out _ _ trivial (fun _ => ?_)
   clear hK K b1
   try simp only [Act.put, low.pa, low.pb, low.pc]
   replace HS := Lib.hid h1
   clear h1
   refine wpAnyH_ready (rs := [9]) (by kernel_rfl) (by simp) ?_
   refine AllReadyH.cons rfl (fun K hK => ?_) AllReadyH.nil
   go_simp
   refine (HS.out.takeB h0 (Nat.le_refl _)).mono ?_
   rintro e w2 ⟨v2, rfl, pv2, h2⟩
   rw [cutL_all hv hk0] at pv2
   obtain ⟨A2, c2, rfl, r2⟩ := pv2
   have HR := Lib.hid (h2.to0 r2)
   clear r2
   refine hK.out _ _ trivial (fun _ => ?_)
   clear hK K
   try simp only [Act.put, low.pa, low.pb, low.pc]
   replace HS := Lib.hid h2
   clear h2
   refine wpAnyH_ready (rs := [11]) (by kernel_rfl) (by simp) ?_
   refine AllReadyH.cons rfl (fun K hK => ?_) AllReadyH.nil
   have m0 := HS.out.c3.1
   have m1 := HS.out.c3.2.1
   have m2 := HS.out.c3.2.2
   have n0 := HS.out.f3.1
   have n1 := HS.out.f3.2.1
   have n2 := HS.out.f3.2.2
   go_simp
   refine hK.out _ _ trivial (fun _ => ?_)
   clear hK K m0 m1 m2 n0 n1 n2
   try simp only [Act.put, low.pa, low.pb, low.pc]
   refine wpAnyH_done (by kernel_rfl) ?_ _
   replace HS := Lib.hid (HS.out.set3 HF.out (.int .i64 q.kind) (.int .i64 q.n) (.slice A2 q.signs.length c2))
   generalize (((w2.setCell ⟨mm, 0, none⟩ (.int .i64 q.kind)).setCell ⟨mm, 1, none⟩ (.int .i64 q.n)).setCell ⟨mm, 2, none⟩ (.slice A2 q.signs.length c2)) = ws at *
   clear HF
   have hS2 := HS.out.drew.c3
   go_wp2
   go_region_held3 (fun W => W.cell? ⟨mm, 0, none⟩ = some (.int .i64 q.kind) ∧ W.cell? ⟨mm, 1, none⟩ = some (.int .i64 q.n) ∧ W.cell? ⟨mm, 2, none⟩ = some (.slice A2 q.signs.length c2))
    (first | assumption | exact hS2 | exact H3.out.c3 | exact H2.out.c3)
    (first | (go_at_call 136; ((refine (HS.out.drew.size (r := q) hv).mono ?_); rintro e w4 ⟨rfl, h4, b4⟩; have H2 := Lib.hid h4; clear h4 b4)) | (go_at_call 161; ((refine (H2.out.keepX (by omega) (by omega) hL).mono ?_); rintro e w5 ⟨rfl, P5, h5⟩; have H3 := Lib.hid h5; clear h5)))
   clear hS2
   have hS1 := H3.out.drew.c3
   go_wp2
   go_region_held3 (fun W => W.cell? ⟨mm, 0, none⟩ = some (.int .i64 q.kind) ∧ W.cell? ⟨mm, 1, none⟩ = some (.int .i64 q.n) ∧ W.cell? ⟨mm, 2, none⟩ = some (.slice A2 q.signs.length c2))
    (first | assumption | exact hS1 | exact H1.out.c3)
    (first | (go_at_call 146; ((refine (H3.out.drew.addY ⟨A2, c2, rfl, H3.out.drew.of0 HR.out⟩ hv hk0 hM).mono ?_); rintro e w3 ⟨rfl, O3, h3⟩; have H1 := Lib.hid h3; clear h3)))
   clear hS1
   go_wp2
   go_end0
   exact ⟨rfl, _, _, H1.out.tail⟩
 ·go_simp
  refine hK.out _ _ trivial (fun _ => ?_)
  clear hK K
  try simp only [Act.put, low.pa, low.pb, low.pc]
  have HF := Lib.hid (HS.out.made (.cells #[.int .i64 0, .int .i64 0, .slice none 0 0] 68)).2
  replace HS := Lib.hid (HS.out.made (.cells #[.int .i64 0, .int .i64 0, .slice none 0 0] 68)).1
  generalize wd.heap.size = mm at *
  generalize wd.alloc (.cells #[.int .i64 0, .int .i64 0, .slice none 0 0] 68) = wa at *
  refine wpAnyH_ready (rs := [7]) (by kernel_rfl) (by simp) ?_
  refine AllReadyH.cons rfl (fun K hK => ?_) AllReadyH.nil
  have a0 := HS.out.cellsB0
  have a1 := HS.out.cellsB1
  have a2 := HS.out.cellsB2
  go_simp
  refine hK.out _ _ trivial (fun _ => ?_)
  clear hK K a0 a1 a2
  try simp only [Act.put, low.pa, low.pb, low.pc]
  refine wpAnyH_ready (rs := [8]) (by kernel_rfl) (by simp) ?_
  refine AllReadyH.cons rfl (fun K hK => ?_) AllReadyH.nil
  go_simp
  refine (HS.out.size (r := q) hv).mono ?_
  rintro e w1 ⟨rfl, h1, b1⟩
  refine hK.out _ _ trivial (fun _ => ?_)
  clear hK K b1
  try simp only [Act.put, low.pa, low.pb, low.pc]
  replace HS := Lib.hid h1
  clear h1
  refine wpAnyH_ready (rs := [9]) (by kernel_rfl) (by simp) ?_
  refine AllReadyH.cons rfl (fun K hK => ?_) AllReadyH.nil
  go_simp
  refine (HS.out.takeB h0 (Nat.le_refl _)).mono ?_
  rintro e w2 ⟨v2, rfl, pv2, h2⟩
  rw [cutL_all hv hk0] at pv2
  obtain ⟨A2, c2, rfl, r2⟩ := pv2
  have HR := Lib.hid (h2.to0 r2)
  clear r2
  refine hK.out _ _ trivial (fun _ => ?_)
  clear hK K
  try simp only [Act.put, low.pa, low.pb, low.pc]
  replace HS := Lib.hid h2
  clear h2
  refine wpAnyH_ready (rs := [11]) (by kernel_rfl) (by simp) ?_
  refine AllReadyH.cons rfl (fun K hK => ?_) AllReadyH.nil
  have m0 := HS.out.c3.1
  have m1 := HS.out.c3.2.1
  have m2 := HS.out.c3.2.2
  have n0 := HS.out.f3.1
  have n1 := HS.out.f3.2.1
  have n2 := HS.out.f3.2.2
  go_simp
  refine hK.out _ _ trivial (fun _ => ?_)
  clear hK K m0 m1 m2 n0 n1 n2
  try simp only [Act.put, low.pa, low.pb, low.pc]
  refine wpAnyH_done (by kernel_rfl) ?_ _
  replace HS := Lib.hid (HS.out.set3 HF.out (.int .i64 q.kind) (.int .i64 q.n) (.slice A2 q.signs.length c2))
  generalize (((w2.setCell ⟨mm, 0, none⟩ (.int .i64 q.kind)).setCell ⟨mm, 1, none⟩ (.int .i64 q.n)).setCell ⟨mm, 2, none⟩ (.slice A2 q.signs.length c2)) = ws at *
  clear HF
  have hS2 := HS.out.drew.c3
  go_wp2
  go_region_held3 (fun W => W.cell? ⟨mm, 0, none⟩ = some (.int .i64 q.kind) ∧ W.cell? ⟨mm, 1, none⟩ = some (.int .i64 q.n) ∧ W.cell? ⟨mm, 2, none⟩ = some (.slice A2 q.signs.length c2))
   (first | assumption | exact hS2 | exact H3.out.c3 | exact H2.out.c3)
   (first | (go_at_call 136; ((refine (HS.out.drew.size (r := q) hv).mono ?_); rintro e w4 ⟨rfl, h4, b4⟩; have H2 := Lib.hid h4; clear h4 b4)) | (go_at_call 161; ((refine (H2.out.keepX (by omega) (by omega) hL).mono ?_); rintro e w5 ⟨rfl, P5, h5⟩; have H3 := Lib.hid h5; clear h5)))
  clear hS2
  have hS1 := H3.out.drew.c3
  go_wp2
  go_region_held3 (fun W => W.cell? ⟨mm, 0, none⟩ = some (.int .i64 q.kind) ∧ W.cell? ⟨mm, 1, none⟩ = some (.int .i64 q.n) ∧ W.cell? ⟨mm, 2, none⟩ = some (.slice A2 q.signs.length c2))
   (first | assumption | exact hS1 | exact H1.out.c3)
   (first | (go_at_call 146; ((refine (H3.out.drew.addY ⟨A2, c2, rfl, H3.out.drew.of0 HR.out⟩ hv hk0 hM).mono ?_); rintro e w3 ⟨rfl, O3, h3⟩; have H1 := Lib.hid h3; clear h3)))
  clear hS1
  go_wp2
  go_end0
  exact ⟨rfl, _, _, H1.out.tail⟩
end
abbrev tabC : Array Value := #[.nilFunc, .nilFunc, .func (.func 173) #[] #[], .nilFunc,
 .nilFunc, .func (.func 174) #[] #[], .func (.func 173) #[] #[], .func (.func 175) #[] #[],
 .func (.func 176) #[] #[], .func (.func 176) #[] #[], .func (.func 176) #[] #[], .func (.func 176) #[] #[],
 .nilFunc, .func (.func 177) #[] #[], .func (.func 173) #[] #[], .func (.func 178) #[] #[]]
theorem implEffects (w : World) : Calls Tryz.prog 165 #[] w (fun e w' => e = .returned (.agg tabC) ∧ Below w.heap.size w w') := by
 go_enter Tryz.func165, Tryz.ntmps165
 go_wp2
 exact bodyPost_ret (results_cell_row (by rfl) _ _ w.heap.size 215 tabC (0, 0) (.array 4 213) (by rfl) (heap_alloc_new w _) (by kernel_rfl) (by rfl) (by kernel_rfl)) rfl ⟨rfl, alloc_below w _⟩
theorem Xs.new {w : World} {A B : Option Addr} {ca cb : Nat} {a b : List Pt} (ra : RdC w w.heap.size (encPs a) (.slice A a.length ca)) (rb : RdC w w.heap.size (encPs b) (.slice B b.length cb)) (oa : ∀ x ∈ a, okPt x = true) (ob : ∀ x ∈ b, okPt x = true) (la : a.length ≤ 1048576) (lb : b.length ≤ 1048576) :
  Xs ⟨w.heap.size, w.heap.size, w⟩ [] (fun _ => False) (fun _ => False) [] [] (w.alloc (.cells #[.int .i64 0, .int .i64 0, .slice none 0 0, .slice A a.length ca, .int .i64 0, .int .i64 0, .slice none 0 0, .slice B b.length cb, .slice none 0 0, .slice none 0 0, .int .i64 0, .slice none 0 0, .slice none 0 0, .int .i64 0] 211)) ⟨0, 0, []⟩ a ⟨0, 0, []⟩ b := by
 have hb := alloc_below w (.cells #[.int .i64 0, .int .i64 0, .slice none 0 0, .slice A a.length ca, .int .i64 0, .int .i64 0, .slice none 0 0, .slice B b.length cb, .slice none 0 0, .slice none 0 0, .int .i64 0, .slice none 0 0, .slice none 0 0, .int .i64 0] 211)
 have hn := heap_alloc_new w (.cells #[.int .i64 0, .int .i64 0, .slice none 0 0, .slice A a.length ca, .int .i64 0, .int .i64 0, .slice none 0 0, .slice B b.length cb, .slice none 0 0, .slice none 0 0, .int .i64 0, .slice none 0 0, .slice none 0 0, .int .i64 0] 211)
 generalize w.alloc _ = w1 at *
 have v0 : Vp ⟨0, 0, []⟩ := .inr (.inr ⟨rfl, rfl, rfl⟩)
 have bd : ∀ o D, D o = some (.slice none 0 0) → D (o + 1) = some (.slice none 0 0) → D (o + 2) = some (.int .i64 0) → BdV (fun _ => False) w.heap.size w.heap.size w1 D o [] := fun o D h1 h2 h3 =>
  ⟨⟨.slice none 0 0, .slice none 0 0, [], h1, h2, h3, World.ownsRow_nil _ _ _ _, rfl, Apart.bare 2 0 ⟨rfl, fun i p u hp _ => by simp [foldN] at hp, fun i j k u v hu _ _ _ => by simp at hu⟩, fun k hk => by simp [Value.ownBlock] at hk, fun i k x hx hk => by
   cases i with
   | zero => simp at hx; subst hx; simp [Value.ownBlock] at hk
   | succ i => simp at hx⟩, fun p hp => by simp at hp, by simp, fun b hb => hb.elim, fun h => h⟩
 exact ⟨⟨_, ⟨_, hn, fun i => rfl⟩, ⟨⟨none, 0, A, ca, rfl, rfl, rfl, rfl, ints_none, ra.below hb⟩, v0, oa, la⟩, ⟨⟨none, 0, B, cb, rfl, rfl, rfl, rfl, ints_none, rb.below hb⟩, v0, ob, lb⟩, bd 8 _ rfl rfl rfl, bd 11 _ rfl rfl rfl⟩, Nat.le_refl _, fun _ h => h.elim, fun x hx => by simp at hx, hb⟩
theorem least_ex {Q : Nat → Prop} : ∀ n, Q n → ∃ m, Q m ∧ ∀ k, Q k → m ≤ k := by
 intro n
 induction n using Nat.strongRecOn with
 | ind n ih =>
  intro h
  by_cases hk : ∃ k, k < n ∧ Q k
  ·obtain ⟨k, h1, h2⟩ := hk
   exact ih k h1 h2
  ·exact ⟨n, h, fun k hq => by
    rcases Nat.lt_or_ge k n with h1 | h1
    ·exact absurd ⟨k, h1, hq⟩ hk
    ·exact h1⟩
noncomputable def leastOf (St : World → Nat → Prop) (w : World) : Nat := Classical.epsilon (fun m => St w m ∧ ∀ k, St w k → m ≤ k)
theorem leastOf_at {St : World → Nat → Prop} {w : World} {n : Nat} (h : St w n) : St w (leastOf St w) ∧ leastOf St w ≤ n := by
 have := Classical.epsilon_spec (least_ex n h)
 exact ⟨this.1, this.2 n h⟩
section
variable {a b L M : List Pt} {p q : Pt} {R S RX RY : List U} {m : Nat}
theorem ePx (h : XInv a b (unitsP p ++ R) RY L M) (hv : Vp p) (h0 : 0 < sizeP p) (hk : p.kind = 2) : XInv a b (unitsP (cutR p (sizeP p)) ++ R) RY (L ++ [p]) (M ++ [⟨1, (sizeP p : Int), []⟩]) := by
 rw [units_cutR_all hv, List.nil_append]
 rcases hv.form h0 with ⟨k, _⟩ | ⟨k, _⟩ | ⟨_, e1, l, e2⟩
 ·omega
 ·omega
 ·rw [e2] at h
  rw [l]
  have := h.px (by omega)
  rw [e1]
  exact this
theorem ePy (h : XInv a b RX (unitsP q ++ S) L M) (hn : noP RX) (hv : Vp q) (h0 : 0 < sizeP q) (hk : q.kind = 2) : XInv a b RX (unitsP (cutR q (sizeP q)) ++ S) (L ++ [⟨1, (sizeP q : Int), []⟩]) (M ++ [q]) := by
 rw [units_cutR_all hv, List.nil_append]
 rcases hv.form h0 with ⟨k, _⟩ | ⟨k, _⟩ | ⟨_, e1, l, e2⟩
 ·omega
 ·omega
 ·rw [e2] at h
  rw [l]
  have := h.py hn (by omega)
  rw [e1]
  exact this
theorem cutL_u (hk : p.kind = 1 ∨ p.kind = 3) : unitsP (cutL p m) = if p.kind = 1 then List.replicate m .k else List.replicate m .d := by
 rw [cutL_n (by omega)]
 rcases hk with hk | hk <;> simp [hk, unitsP]
theorem eM (h : XInv a b (unitsP p ++ R) (unitsP q ++ S) L M) (hv : Vp p) (hw : Vp q) (h0 : 0 < m) (h1 : m ≤ sizeP p) (h2 : m ≤ sizeP q) (hk : p.kind = 1 ∨ p.kind = 3) (hk' : q.kind = 1 ∨ q.kind = 3) :
  (p.kind = 1 → q.kind = 1 → XInv a b (unitsP (cutR p m) ++ R) (unitsP (cutR q m) ++ S) (L ++ [⟨1, (m : Int), []⟩]) (M ++ [⟨1, (m : Int), []⟩])) ∧
  (p.kind = 1 → q.kind = 3 → XInv a b (unitsP (cutR p m) ++ R) (unitsP (cutR q m) ++ S) L (M ++ [⟨3, (m : Int), []⟩])) ∧
  (p.kind = 3 → q.kind = 1 → XInv a b (unitsP (cutR p m) ++ R) (unitsP (cutR q m) ++ S) (L ++ [⟨3, (m : Int), []⟩]) M) ∧
  (p.kind = 3 → q.kind = 3 → XInv a b (unitsP (cutR p m) ++ R) (unitsP (cutR q m) ++ S) L M) := by
 rw [units_cut hv h1, units_cut hw h2, List.append_assoc, List.append_assoc, cutL_u hk, cutL_u hk'] at h
 refine ⟨fun e e' => ?_, fun e e' => ?_, fun e e' => ?_, fun e e' => ?_⟩ <;> rw [e, e'] at h <;> simp only [if_true, show ¬ ((3 : Int) = 1) by decide, if_false] at h
 ·exact h.kk h0
 ·exact h.kd h0
 ·exact h.dk h0
 ·exact h.dd
theorem noP_of (hv : Vp p) (h0 : 0 < sizeP p) (hk : ¬ p.kind = 2) : noP (unitsP p ++ R) := by
 obtain ⟨m, hm⟩ : ∃ m, sizeP p = m + 1 := ⟨sizeP p - 1, by omega⟩
 rcases hv.form h0 with ⟨_, _, e⟩ | ⟨_, _, e⟩ | ⟨k, _⟩
 ·rw [e, hm, List.replicate_succ]; trivial
 ·rw [e, hm, List.replicate_succ]; trivial
 ·exact absurd k hk
end
theorem kindP_nat {p : Pt} (hv : Vp p) : ∃ k : Nat, kindP p = (k : Int) ∧ k < 4 ∧ (sizeP p = 0 → k = 0) ∧ (0 < sizeP p → (k = 1 ∧ p.kind = 1) ∨ (k = 2 ∧ p.kind = 2) ∨ (k = 3 ∧ p.kind = 3)) := by
 by_cases h0 : 0 < sizeP p
 ·have e : kindP p = p.kind := by simp [kindP, h0]
  rcases hv.form h0 with ⟨k, _⟩ | ⟨k, _⟩ | ⟨k, _⟩
  ·exact ⟨1, by rw [e, k]; rfl, by omega, by omega, fun _ => .inl ⟨rfl, k⟩⟩
  ·exact ⟨3, by rw [e, k]; rfl, by omega, by omega, fun _ => .inr (.inr ⟨rfl, k⟩)⟩
  ·exact ⟨2, by rw [e, k]; rfl, by omega, by omega, fun _ => .inr (.inl ⟨rfl, k⟩)⟩
 ·exact ⟨0, by simp [kindP, h0], by omega, fun _ => rfl, fun h => absurd h h0⟩
theorem xcases {a b L M : List Pt} {p q : Pt} {ps qs : List Pt} {k1 k2 : Nat} {tv : Value} (ht : tabC.getD (k1 * 4 + k2) .nilFunc = tv) (hi : XInv a b (unitsP p ++ units ps) (unitsP q ++ units qs) L M) (hv : Vp p) (hw : Vp q) (l2 : k2 < 4)
  (hp : (sizeP p = 0 → ps = []) ∧ (sizeP p = 0 → k1 = 0) ∧ (0 < sizeP p → (k1 = 1 ∧ p.kind = 1) ∨ (k1 = 2 ∧ p.kind = 2) ∨ (k1 = 3 ∧ p.kind = 3))) (hq : (sizeP q = 0 → qs = []) ∧ (sizeP q = 0 → k2 = 0) ∧ (0 < sizeP q → (k2 = 1 ∧ q.kind = 1) ∨ (k2 = 2 ∧ q.kind = 2) ∨ (k2 = 3 ∧ q.kind = 3))) :
  (tv = .nilFunc ∧ unitsP p ++ units ps = [] ∧ unitsP q ++ units qs = []) ∨
  (tv = .func (.func 176) #[] #[] ∧ 0 < sizeP p ∧ p.kind = 2) ∨
  (tv = .func (.func 173) #[] #[] ∧ 0 < sizeP q ∧ q.kind = 2 ∧ noP (unitsP p ++ units ps)) ∨
  (0 < sizeP p ∧ 0 < sizeP q ∧ ((tv = .func (.func 174) #[] #[] ∧ p.kind = 1 ∧ q.kind = 1) ∨ (tv = .func (.func 175) #[] #[] ∧ p.kind = 1 ∧ q.kind = 3) ∨ (tv = .func (.func 177) #[] #[] ∧ p.kind = 3 ∧ q.kind = 1) ∨ (tv = .func (.func 178) #[] #[] ∧ p.kind = 3 ∧ q.kind = 3))) := by
 have bal := hi.bal
 have nil : ∀ {r : Pt} {rs : List Pt}, sizeP r = 0 → rs = [] → unitsP r ++ units rs = [] := fun h e => by rw [sizeP_nil h, e, units_nil]; rfl
 by_cases h0 : sizeP p = 0
 ·have e1 := nil h0 (hp.1 h0)
  have ek := hp.2.1 h0
  subst ek
  by_cases h1 : sizeP q = 0
  ·have ek := hq.2.1 h1
   subst ek
   exact .inl ⟨ht.symm, e1, nil h1 (hq.1 h1)⟩
  ·have h1' : 0 < sizeP q := by omega
   rcases hq.2.2 h1' with ⟨ek, hk⟩ | ⟨ek, hk⟩ | ⟨ek, hk⟩
   ·have := src_pos (R := units qs) hw h1' (by omega)
    rw [← bal, e1] at this
    simp [src] at this
   ·subst ek
    exact .inr (.inr (.inl ⟨ht.symm, h1', hk, by rw [e1]; trivial⟩))
   ·have := src_pos (R := units qs) hw h1' (by omega)
    rw [← bal, e1] at this
    simp [src] at this
 ·have h0' : 0 < sizeP p := by omega
  rcases hp.2.2 h0' with ⟨ek, hk⟩ | ⟨ek, hk⟩ | ⟨ek, hk⟩
  all_goals subst ek
  ·by_cases h1 : sizeP q = 0
   ·have := src_pos (R := units ps) hv h0' (by omega)
    rw [bal, nil h1 (hq.1 h1)] at this
    simp [src] at this
   ·have h1' : 0 < sizeP q := by omega
    rcases hq.2.2 h1' with ⟨ek, hk2⟩ | ⟨ek, hk2⟩ | ⟨ek, hk2⟩
    all_goals subst ek
    ·exact .inr (.inr (.inr ⟨h0', h1', .inl ⟨ht.symm, hk, hk2⟩⟩))
    ·exact .inr (.inr (.inl ⟨ht.symm, h1', hk2, noP_of hv h0' (by omega)⟩))
    ·exact .inr (.inr (.inr ⟨h0', h1', .inr (.inl ⟨ht.symm, hk, hk2⟩)⟩))
  ·refine .inr (.inl ⟨?_, h0', hk⟩)
   rcases (show k2 = 0 ∨ k2 = 1 ∨ k2 = 2 ∨ k2 = 3 by omega) with rfl | rfl | rfl | rfl <;> exact ht.symm
  ·by_cases h1 : sizeP q = 0
   ·have := src_pos (R := units ps) hv h0' (by omega)
    rw [bal, nil h1 (hq.1 h1)] at this
    simp [src] at this
   ·have h1' : 0 < sizeP q := by omega
    rcases hq.2.2 h1' with ⟨ek, hk2⟩ | ⟨ek, hk2⟩ | ⟨ek, hk2⟩
    all_goals subst ek
    ·exact .inr (.inr (.inr ⟨h0', h1', .inr (.inr (.inl ⟨ht.symm, hk, hk2⟩))⟩))
    ·exact .inr (.inr (.inl ⟨ht.symm, h1', hk2, noP_of hv h0' (by omega)⟩))
    ·exact .inr (.inr (.inr ⟨h0', h1', .inr (.inr (.inr ⟨ht.symm, hk, hk2⟩))⟩))
section
variable {P : Program} {w : World} {t : TypeId} {ps rs : Array TypeId} {v : Bool}
theorem eqlIn_fn (d f : Nat) (h : P.underlying t = some (.func ps rs v)) : (Op.equalIn (d + 1) t (.func (.func f) #[] #[]) .nilFunc).run P w = .ok false w := by
 simp [Op.equalIn, run_underlying h]
theorem eqlIn_nil (d : Nat) (h : P.underlying t = some (.func ps rs v)) : (Op.equalIn (d + 1) t .nilFunc .nilFunc).run P w = .ok true w := by
 simp [Op.equalIn, run_underlying h]
theorem eql_fn (f : Nat) (h : P.underlying t = some (.func ps rs v)) : Sem.run P (binOp .eql t (.func (.func f) #[] #[]) .nilFunc) w = .ok (.bool false) w := by
 have h1 : (Op.equal t (.func (.func f) #[] #[]) .nilFunc).run P w = .ok false w := eqlIn_fn 9999 f h
 simp only [binOp]
 simp [h1]
theorem eql_nil (h : P.underlying t = some (.func ps rs v)) : Sem.run P (binOp .eql t .nilFunc .nilFunc) w = .ok (.bool true) w := by
 have h1 : (Op.equal t .nilFunc .nilFunc).run P w = .ok true w := eqlIn_nil 9999 h
 simp only [binOp]
 simp [h1]
end
def DoneXP (F : Fy) (P : Nat → Prop) (L M : List Pt) (w : World) (e : Ending) (w' : World) : Prop := ∃ v c D, e = .returned v ∧ OwB F.lo w'.heap.size w' (encPs (doneN (foldN L))) v c ∧ Bld P F.lo F.g 11 D w' M ∧ (∀ x ∈ c, ¬ P x ∧ ¬ x = F.g) ∧ Below F.lo w w'
theorem Xs.doneX {F : Fy} {KL : List (Nat × Obj)} {O P : Nat → Prop} {L M : List Pt} {w : World} {p : Pt} {ps : List Pt} {q : Pt} {qs : List Pt} (h : Xs F KL O P L M w p ps q qs) : Calls Tryz.prog 147 #[.pointer (some ⟨F.g, 8, none⟩)] w (DoneXP F P L M w) := by
 obtain ⟨D, hD, ra, rb, bx, by_⟩ := h.box
 refine (implDoneB O F.lo F.g 8 D L w ⟨⟨D, hD, bx, fun _ _ => rfl⟩, h.ge⟩).mono ?_
 rintro e w' ⟨v, c, h1, h2, h3, h4, h5, D', hD', hC'⟩
 refine ⟨v, c, D', h1, h2, ⟨⟨D', hD', by_.keep h5.size (fun b hlt hp => h5.block b hlt (fun ho => h.dis b ho hp) (fun e => by_.ng (by rw [← e]; exact hp))) (fun i _ _ => hC' i (by omega)), fun _ _ => rfl⟩, h.ge⟩, fun x hx => ⟨fun hp => ?_, (h3 x hx).2⟩, h4⟩
 rcases (h3 x hx).1 with k | k
 ·exact h.dis x k hp
 ·have := by_.old x hp; omega
theorem OwB.grewX {O O' : Nat → Prop} {g lo hi : Nat} {w w' : World} {d : Dat} {v : Value} {b : List Nat} (h : OwB lo hi w d v b) (hg : GrewX O O' g w w') (hO : ∀ x ∈ b, ¬ O x ∧ ¬ x = g) : OwB lo hi w' d v b :=
 ⟨OwC.keep d v b h.ow (fun x hx => hg.block x (OwC.lt d v b h.ow x hx) (hO x hx).1 (hO x hx).2), h.nd, h.rng, Nat.le_trans h.top hg.size, h.le⟩
def StX (F : Fy) (KL : List (Nat × Obj)) (a b : List Pt) (w : World) (n : Nat) : Prop := ∃ O P L M p ps q qs, Xs F KL O P L M w p ps q qs ∧ XInv a b (unitsP p ++ units ps) (unitsP q ++ units qs) L M ∧ n = (unitsP p ++ units ps).length + (unitsP q ++ units qs).length
theorem StX.next {F : Fy} {KL : List (Nat × Obj)} {a b : List Pt} {w w' : World} {O P : Nat → Prop} {L M : List Pt} {p : Pt} {ps : List Pt} {q : Pt} {qs : List Pt} {n : Nat} (h : Xs F KL O P L M w' p ps q qs) (hi : XInv a b (unitsP p ++ units ps) (unitsP q ++ units qs) L M) (hn : leastOf (StX F KL a b) w = n) (hl : (unitsP p ++ units ps).length + (unitsP q ++ units qs).length < n) : StX F KL a b w' ((unitsP p ++ units ps).length + (unitsP q ++ units qs).length) ∧ leastOf (StX F KL a b) w' < leastOf (StX F KL a b) w := by
 have st : StX F KL a b w' ((unitsP p ++ units ps).length + (unitsP q ++ units qs).length) := ⟨O, P, L, M, p, ps, q, qs, h, hi, rfl⟩
 have := (leastOf_at st).2
 exact ⟨st, by omega⟩
def CrossP (a b : List Pt) (w : World) (e : Ending) (w' : World) : Prop :=
 ∃ v v' c c', e = .returned (.tuple #[v, v']) ∧ OwB w.heap.size w'.heap.size w' (encPs (xfA a b)) v c ∧ OwB w.heap.size w'.heap.size w' (encPs (xfB a b)) v' c' ∧ (∀ x ∈ c, x ∉ c') ∧ Below w.heap.size w w' ∧ SmP (xfA a b) ∧ SmP (xfB a b)
theorem implCrossed (A B : Option Addr) (ca cb : Nat) (a b : List Pt) (w : World) (ra : RdC w w.heap.size (encPs a) (.slice A a.length ca)) (rb : RdC w w.heap.size (encPs b) (.slice B b.length cb)) (oa : ∀ x ∈ a, okPt x = true) (ob : ∀ x ∈ b, okPt x = true) (la : a.length ≤ 1048576) (lb : b.length ≤ 1048576) (hi : XInv a b (units a) (units b) [] []) :
  Calls Tryz.prog 148 #[.slice A a.length ca, .slice B b.length cb] w (CrossP a b w) := by
 have HX := Lib.hid (Xs.new ra rb oa ob la lb)
 have HI := Lib.hid hi
 clear ra rb oa ob la lb hi
 go_enter Tryz.func148, Tryz.ntmps148
 go_wp2_with fail
 refine (implEffects _).mono ?_
 rintro e w1 ⟨rfl, b1⟩
 have H1 := Lib.hid ((HX.out.past b1).made (.cells tabC 215)).1
 clear b1 HX
 go_wp2
 change Code.wp _ _ _ _ (w1.alloc (.cells tabC 215))
 generalize w1.alloc (.cells tabC 215) = W0 at *
 generalize w1.heap.size = lt at *
 obtain ⟨F, hF⟩ : ∃ F : Fy, F = ⟨w.heap.size, w.heap.size, w⟩ := ⟨_, rfl⟩
 rw [← hF] at H1
 have hg : w.heap.size = F.g := by rw [hF]
 have HF := Lib.hid hF
 clear hF
 rw [hg]
 clear hg
 go_loopw [8] (fun t wr => ∃ n, StX F [(lt, .cells tabC 215 (0, 0))] a b wr n) (fun _ wr => leastOf (StX F [(lt, .cells tabC 215 (0, 0))] a b) wr)
 case atStart => exact ⟨_, _, _, _, _, _, _, _, _, H1.out, HI.out, rfl⟩
 case round =>
  clear H1 HI
  obtain ⟨n, hn⟩ := hrel
  obtain ⟨O, P, L, M, p, ps, q, qs, hx, hi, hlen⟩ := (leastOf_at hn).1
  have HS := Lib.hid hx.drew
  have HI := Lib.hid hi
  have HLEN := Lib.hid hlen
  clear hn hx hi hlen
  go_wp2
  refine wp_region_held_drew (S := fun _ => True) (by kernel_rfl) trivial (fun _ => ?_)
  generalize wr.drew = wd at *
  refine wpAnyH_take (i := 0) (v := .pointer (some ⟨F.g, 0, none⟩)) rfl (by kernel_rfl) (by kernel_rfl) (by kernel_rfl) (fun _ _ _ h => h) (Or.inl ⟨by rfl, fun w' hS => ?_⟩) trivial ?_
  ·clear HS HI HLEN; go_simp
  try simp only [Act.put]
  refine wpAnyH_take (i := 1) (v := .pointer (some ⟨F.g, 0, none⟩)) rfl (by kernel_rfl) (by kernel_rfl) (by kernel_rfl) (fun _ _ _ h => h) (Or.inl ⟨by rfl, fun w' hS => ?_⟩) trivial ?_
  ·clear HS HI HLEN; go_simp
  try simp only [Act.put]
  refine wpAnyH_take (i := 2) (v := .pointer (some ⟨F.g, 0, none⟩)) rfl (by kernel_rfl) (by kernel_rfl) (by kernel_rfl) (fun _ _ _ h => h) (Or.inl ⟨by rfl, fun w' hS => ?_⟩) trivial ?_
  ·clear HS HI HLEN; go_simp
  try simp only [Act.put]
  refine wpAnyH_take (i := 4) (v := .pointer (some ⟨F.g, 0, none⟩)) rfl (by kernel_rfl) (by kernel_rfl) (by kernel_rfl) (fun _ _ _ h => h) (Or.inl ⟨by rfl, fun w' hS => ?_⟩) trivial ?_
  ·clear HS HI HLEN; go_simp
  try simp only [Act.put]
  refine wpAnyH_take (i := 5) (v := .pointer (some ⟨F.g, 0, none⟩)) rfl (by kernel_rfl) (by kernel_rfl) (by kernel_rfl) (fun _ _ _ h => h) (Or.inl ⟨by rfl, fun w' hS => ?_⟩) trivial ?_
  ·clear HS HI HLEN; go_simp
  try simp only [Act.put]
  refine wpAnyH_take (i := 6) (v := .pointer (some ⟨F.g, 4, none⟩)) rfl (by kernel_rfl) (by kernel_rfl) (by kernel_rfl) (fun _ _ _ h => h) (Or.inl ⟨by rfl, fun w' hS => ?_⟩) trivial ?_
  ·clear HS HI HLEN; go_simp
  try simp only [Act.put]
  refine wpAnyH_ready (rs := [3]) (by kernel_rfl) (by simp) ?_
  refine AllReadyH.cons rfl (fun K hK => ?_) AllReadyH.nil
  go_simp
  refine HS.out.kindA.mono ?_
  rintro e w2 ⟨p1, ps1, rfl, h2, u2, z2⟩
  obtain ⟨k1, hk1, hk1l, hk1z, hk1p⟩ := kindP_nat h2.vp
  rw [hk1]
  have hk1i : (k1 : Int) < 4 := by omega
  refine hK.out _ _ trivial (fun _ => ?_)
  clear hK K
  try simp only [Act.put, low.pa, low.pb, low.pc]
  replace HI := Lib.hid (show XInv a b (unitsP p1 ++ units ps1) (unitsP q ++ units qs) L M by rw [u2]; exact HI.out)
  replace HLEN := Lib.hid (show leastOf (StX F [(lt, .cells tabC 215 (0, 0))] a b) wr = (unitsP p1 ++ units ps1).length + (unitsP q ++ units qs).length by rw [u2]; exact HLEN.out)
  have HZ := Lib.hid (And.intro z2 (And.intro hk1z hk1p))
  have H2 := Lib.hid h2
  clear HS h2 u2 z2 hk1z hk1p hk1
  refine wpAnyH_take (i := 8) (v := .pointer (some ⟨lt, k1 * 4, none⟩)) rfl (by kernel_rfl) (by kernel_rfl) (by kernel_rfl) (fun _ _ _ h => h) (Or.inl ⟨by rfl, fun w' hS => ?_⟩) trivial ?_
  ·clear H2 HI HLEN HZ
   go_simp
  try simp only [Act.put]
  refine wpAnyH_ready (rs := [7]) (by kernel_rfl) (by simp) ?_
  refine AllReadyH.cons rfl (fun K hK => ?_) AllReadyH.nil
  go_simp
  refine H2.out.kindB.mono ?_
  rintro e w3 ⟨q1, qs1, rfl, h3, u3, z3⟩
  obtain ⟨k2, hk2, hk2l, hk2z, hk2p⟩ := kindP_nat h3.vq
  rw [hk2]
  have hk2i : (k2 : Int) < 4 := by omega
  refine hK.out _ _ trivial (fun _ => ?_)
  clear hK K
  try simp only [Act.put, low.pa, low.pb, low.pc]
  replace HI := Lib.hid (show XInv a b (unitsP p1 ++ units ps1) (unitsP q1 ++ units qs1) L M by rw [u3]; exact HI.out)
  replace HLEN := Lib.hid (show leastOf (StX F [(lt, .cells tabC 215 (0, 0))] a b) wr = (unitsP p1 ++ units ps1).length + (unitsP q1 ++ units qs1).length by rw [u3]; exact HLEN.out)
  have HZ2 := Lib.hid (And.intro z3 (And.intro hk2z hk2p))
  have H3 := Lib.hid h3
  clear H2 h3 u3 z3 hk2z hk2p hk2
  refine wpAnyH_take (i := 9) (v := .pointer (some ⟨lt, k1 * 4 + k2, none⟩)) rfl (by kernel_rfl) (by kernel_rfl) (by kernel_rfl) (fun _ _ _ h => h) (Or.inl ⟨by rfl, fun w' hS => ?_⟩) trivial ?_
  ·clear H3 HI HLEN HZ HZ2
   go_simp
  try simp only [Act.put]
  have ht : tabC[k1 * 4 + k2]? = some (tabC.getD (k1 * 4 + k2) .nilFunc) := by
   have : k1 * 4 + k2 < tabC.size := by show k1 * 4 + k2 < 16; omega
   rw [Array.getElem?_eq_getElem this, Array.getD]
   simp only [this, dif_pos]
   rfl
  have c0 := H3.out.cellK List.mem_cons_self ht
  clear ht
  generalize htv : tabC.getD (k1 * 4 + k2) .nilFunc = tv at *
  have HTV := Lib.hid htv
  clear htv
  refine wpAnyH_ready (rs := [10]) (by kernel_rfl) (by simp) ?_
  refine AllReadyH.cons rfl (fun K hK => ?_) AllReadyH.nil
  go_simp
  refine hK.out _ _ trivial (fun _ => ?_)
  clear hK K c0
  try simp only [Act.put, low.pa, low.pb, low.pc]
  refine wpAnyH_take (i := 11) (v := tv) rfl (by kernel_rfl) (by kernel_rfl) (by kernel_rfl) (fun _ _ _ h => h) (Or.inl ⟨by rfl, fun w' hS => ?_⟩) trivial ?_
  ·clear H3 HI HLEN HZ HZ2 HTV
   go_simp
  try simp only [Act.put]
  refine wpAnyH_done (by kernel_rfl) ?_ _
  have hLM := HI.out.len
  have hvp := H3.out.vp
  have hvq := H3.out.vq
  rcases xcases HTV.out HI.out hvp hvq hk2l HZ.out HZ2.out with ⟨htv, e1, e2⟩ | ⟨htv, h0, hk⟩ | ⟨htv, h0, hk, hnp⟩ | ⟨h0, h0', hc⟩
  ·clear hk1l hk2l hk1i hk2i HTV
   subst htv
   have hsx : ∀ r ∈ L, szP_ r := by obtain ⟨D, _, _, _, h1, _⟩ := H3.out.box; exact h1.sz
   have hsy : ∀ r ∈ M, szP_ r := by obtain ⟨D, _, _, _, _, h1⟩ := H3.out.box; exact h1.sz
   have q1 : doneN (foldN L) = xfA a b := by
    have h1 := HI.out.eq1
    rw [e1, e2, xf_nil, List.append_nil] at h1
    unfold xfA
    rw [foldN_units hsx, h1]
   have q2 : doneN (foldN M) = xfB a b := by
    have h1 := HI.out.eq2
    rw [e1, e2, xf_nil, List.append_nil] at h1
    unfold xfB
    rw [foldN_units hsy, h1]
   have HS1 := Lib.hid (show SmP (xfA a b) by rw [← q1]; exact built_small hsx (by omega))
   have HS2 := Lib.hid (show SmP (xfB a b) by rw [← q2]; exact built_small hsy (by omega))
   have HQ1 := Lib.hid q1
   have HQ2 := Lib.hid q2
   have hq : ∀ w, Sem.run Tryz.prog (binOp .eql 212 .nilFunc .nilFunc) w = .ok (.bool true) w := fun w => eql_nil Tryz.underlying212
   clear q1 q2 hsx hsy e1 e2 HLEN HZ HZ2 hLM hvp hvq HI
   go_wp2
   clear hq
   have H3d := Lib.hid H3.out.drew
   clear H3
   go_region_held3 (fun _ => True) (trivial)
    (first | (go_at_call 147; ((with_reducible refine (Xs.doneX H3d.out).mono ?_); rintro e w4 ⟨v4, c4, D4, rfl, o4, bd4, ds4, bl4⟩; have H4 := Lib.hid (And.intro o4 (And.intro ds4 (H3d.out.bl.trans bl4))); have HB4 := Lib.hid bd4; clear o4 bd4 ds4 bl4)) | (go_at_call 147; ((with_reducible refine (implDoneB P F.lo F.g 11 D4 M _ HB4.out).mono ?_); rintro e w5 ⟨v5, c5, rfl, o5, in5, bl5, gr5, _⟩; have H5 := Lib.hid (And.intro o5 (And.intro in5 (And.intro bl5 gr5))); clear o5 in5 bl5 gr5)))
   go_wp2
   go_ret2
   obtain ⟨o4, ds4, bl4⟩ := H4.out
   obtain ⟨o5, in5, bl5, gr5⟩ := H5.out
   rw [HQ1.out] at o4
   rw [HQ2.out] at o5
   have o4' := OwB.grewX o4 gr5 ds4
   have bl := bl4.trans bl5
   have eF := HF.out
   subst eF
   exact ⟨v4, v5, c4, c5, rfl, o4'.upto gr5.size (Nat.le_refl _), o5, fun x h1 h2 => by
    rcases (in5 x h2).1 with k | k
    ·exact (ds4 x h1).1 k
    ·have := OwC.lt _ _ _ o4.ow x h1; omega, bl, HS1.out, HS2.out⟩
  ·clear hk1l hk2l hk1i hk2i HTV
   have HD := Lib.hid (show (unitsP (cutR p1 (sizeP p1)) ++ units ps1).length + (unitsP q1 ++ units qs1).length < (unitsP p1 ++ units ps1).length + (unitsP q1 ++ units qs1).length by
    have := cutR_len hvp (Nat.le_refl _) h0
    simp only [List.length_append]
    omega)
   subst htv
   have hq : ∀ w, Sem.run Tryz.prog (binOp .eql 212 (.func (.func 176) #[] #[]) .nilFunc) w = .ok (.bool false) w := fun w => eql_fn _ Tryz.underlying212
   go_wp2_with fail
   clear hq
   refine (H3.out.putFirst h0 (by omega) (by omega)).mono ?_
   rintro e w4 ⟨rfl, O4, P4, h4⟩
   obtain ⟨st, lt4⟩ := StX.next (w := wr) h4 (ePx HI.out hvp h0 hk) HLEN.out HD.out
   have HST := Lib.hid st
   have HLT := Lib.hid lt4
   clear st lt4 h4 H3 HI HLEN HZ HZ2 h0 HD hLM
   go_wp2
   go_roundw
   case rel => exact ⟨_, HST.out⟩
   case measure => exact HLT.out
  ·clear hk1l hk2l hk1i hk2i HTV
   have HD := Lib.hid (show (unitsP p1 ++ units ps1).length + (unitsP (cutR q1 (sizeP q1)) ++ units qs1).length < (unitsP p1 ++ units ps1).length + (unitsP q1 ++ units qs1).length by
    have := cutR_len hvq (Nat.le_refl _) h0
    simp only [List.length_append]
    omega)
   subst htv
   have hq : ∀ w, Sem.run Tryz.prog (binOp .eql 212 (.func (.func 173) #[] #[]) .nilFunc) w = .ok (.bool false) w := fun w => eql_fn _ Tryz.underlying212
   go_wp2_with fail
   clear hq
   refine (H3.out.putSecond h0 (by omega) (by omega)).mono ?_
   rintro e w4 ⟨rfl, O4, P4, h4⟩
   obtain ⟨st, lt4⟩ := StX.next (w := wr) h4 (ePy HI.out hnp hvq h0 hk) HLEN.out HD.out
   have HST := Lib.hid st
   have HLT := Lib.hid lt4
   clear st lt4 h4 H3 HI HLEN HZ HZ2 h0 HD hLM
   go_wp2
   go_roundw
   case rel => exact ⟨_, HST.out⟩
   case measure => exact HLT.out
  ·clear hk1l hk2l hk1i hk2i HTV
   obtain ⟨m, hm0, hm1, hm2, hm⟩ : ∃ m, 0 < m ∧ m ≤ sizeP p1 ∧ m ≤ sizeP q1 ∧ (m = sizeP p1 ∨ m = sizeP q1) := ⟨min (sizeP p1) (sizeP q1), by omega, by omega, by omega, by omega⟩
   have HM := Lib.hid hm
   have HD := Lib.hid (show (unitsP (cutR p1 m) ++ units ps1).length + (unitsP (cutR q1 m) ++ units qs1).length < (unitsP p1 ++ units ps1).length + (unitsP q1 ++ units qs1).length by
    have h1 := cutR_len hvp hm1 hm0
    have h2 := cutR_len hvq hm2 hm0
    simp only [List.length_append]
    omega)
   clear hm
   rcases hc with ⟨htv, hk, hk'⟩ | ⟨htv, hk, hk'⟩ | ⟨htv, hk, hk'⟩ | ⟨htv, hk, hk'⟩
   ·subst htv
    have hq : ∀ w, Sem.run Tryz.prog (binOp .eql 212 (.func (.func 174) #[] #[]) .nilFunc) w = .ok (.bool false) w := fun w => eql_fn _ Tryz.underlying212
    go_wp2_with fail
    clear hq
    refine (H3.out.keepBoth hm0 hm1 hm2 HM.out (by omega) (by omega)).mono ?_
    rintro e w4 ⟨rfl, O4, P4, h4⟩
    obtain ⟨st, lt4⟩ := StX.next (w := wr) h4 ((eM HI.out hvp hvq hm0 hm1 hm2 (.inl hk) (.inl hk')).1 hk hk') HLEN.out HD.out
    have HST := Lib.hid st
    have HLT := Lib.hid lt4
    clear st lt4 h4 H3 HI HLEN HZ HZ2 h0 HD hLM
    go_wp2
    go_roundw
    case rel => exact ⟨_, HST.out⟩
    case measure => exact HLT.out
   ·subst htv
    have hq : ∀ w, Sem.run Tryz.prog (binOp .eql 212 (.func (.func 175) #[] #[]) .nilFunc) w = .ok (.bool false) w := fun w => eql_fn _ Tryz.underlying212
    go_wp2_with fail
    clear hq
    refine (H3.out.dropSecond hm0 hm1 hm2 HM.out (by omega)).mono ?_
    rintro e w4 ⟨rfl, O4, P4, h4⟩
    obtain ⟨st, lt4⟩ := StX.next (w := wr) h4 ((eM HI.out hvp hvq hm0 hm1 hm2 (.inl hk) (.inr hk')).2.1 hk hk') HLEN.out HD.out
    have HST := Lib.hid st
    have HLT := Lib.hid lt4
    clear st lt4 h4 H3 HI HLEN HZ HZ2 h0 HD hLM
    go_wp2
    go_roundw
    case rel => exact ⟨_, HST.out⟩
    case measure => exact HLT.out
   ·subst htv
    have hq : ∀ w, Sem.run Tryz.prog (binOp .eql 212 (.func (.func 177) #[] #[]) .nilFunc) w = .ok (.bool false) w := fun w => eql_fn _ Tryz.underlying212
    go_wp2_with fail
    clear hq
    refine (H3.out.dropFirst hm0 hm1 hm2 HM.out (by omega)).mono ?_
    rintro e w4 ⟨rfl, O4, P4, h4⟩
    obtain ⟨st, lt4⟩ := StX.next (w := wr) h4 ((eM HI.out hvp hvq hm0 hm1 hm2 (.inr hk) (.inl hk')).2.2.1 hk hk') HLEN.out HD.out
    have HST := Lib.hid st
    have HLT := Lib.hid lt4
    clear st lt4 h4 H3 HI HLEN HZ HZ2 h0 HD hLM
    go_wp2
    go_roundw
    case rel => exact ⟨_, HST.out⟩
    case measure => exact HLT.out
   ·subst htv
    have hq : ∀ w, Sem.run Tryz.prog (binOp .eql 212 (.func (.func 178) #[] #[]) .nilFunc) w = .ok (.bool false) w := fun w => eql_fn _ Tryz.underlying212
    go_wp2_with fail
    clear hq
    refine (H3.out.dropBoth hm0 hm1 hm2 HM.out).mono ?_
    rintro e w4 ⟨rfl, O4, P4, h4⟩
    obtain ⟨st, lt4⟩ := StX.next (w := wr) h4 ((eM HI.out hvp hvq hm0 hm1 hm2 (.inr hk) (.inr hk')).2.2.2 hk hk') HLEN.out HD.out
    have HST := Lib.hid st
    have HLT := Lib.hid lt4
    clear st lt4 h4 H3 HI HLEN HZ HZ2 h0 HD hLM
    go_wp2
    go_roundw
    case rel => exact ⟨_, HST.out⟩
    case measure => exact HLT.out
end Go.Proofs.YtglklgnggkenhaaGreatDoor.low.xb
namespace Go.Proofs.YtglklgnggkenhaaGreatDoor.low
open Go.RowKit
set_option linter.unusedVariables false
theorem implOpNorm_d (v : Value) (ps : List Pt) (w : World) (h : RdC w w.heap.size (encPs ps) v) (hs : SmP ps) : Calls Tryz.prog 137 #[v] w (OwnPost (encPs (normL ps)) w) := by
 obtain ⟨A, c, rfl, hr, _⟩ := parts_rd h
 have hl := hs.1
 refine (implOpNorm_any A c ps w hr (by omega) hs.all4 hs.2).mono ?_
 rintro e w1 ⟨v1, rfl, p1, b1⟩
 exact ⟨v1, rfl, own_parts p1, b1⟩
structure InvS (B gr g z2 z3 : Nat) (t : List Int) (qs : List Pt) (Qv : Value) (bq : List Nat) (O : Nat → Prop) (at_ : Nat) (L : List Pt) (w0 wr : World) : Prop where
 rd : Rdr B gr wr (t.drop at_)
 bd : Bld O B g 187 wr L
 far : ∀ x, O x → (x < z2 ∨ z3 ≤ x) ∧ ¬ x = gr
 ow : OwB z2 z3 wr (encPs qs) Qv bq
 low : gr < z2
 bel : Below B w0 wr
theorem InvS.base {B gr g z2 z3 : Nat} {t : List Int} {qs : List Pt} {Qv : Value} {bq : List Nat} {O : Nat → Prop} {at_ : Nat} {L : List Pt} {w0 wr : World} (h : InvS B gr g z2 z3 t qs Qv bq O at_ L w0 wr) : B ≤ gr := by
 obtain ⟨_, _, _, _, _, h4⟩ := h.rd
 exact h4
theorem InvS.past {B gr g z2 z3 : Nat} {t : List Int} {qs : List Pt} {Qv : Value} {bq : List Nat} {O : Nat → Prop} {at_ : Nat} {L : List Pt} {w0 wr w' : World} (h : InvS B gr g z2 z3 t qs Qv bq O at_ L w0 wr) (hb : Below wr.heap.size wr w') (hB : B ≤ wr.heap.size) : InvS B gr g z2 z3 t qs Qv bq O at_ L w0 w' :=
 ⟨h.rd.past hb, h.bd.past hb, h.far, h.ow.past hb, h.low, h.bel.trans (hb.mono hB)⟩
theorem InvS.next {B gr g z2 z3 : Nat} {t : List Int} {qs : List Pt} {Qv : Value} {bq : List Nat} {O : Nat → Prop} {at_ m : Nat} {L : List Pt} {w0 wr w' : World} (h : InvS B gr g z2 z3 t qs Qv bq O at_ L w0 wr) (hr : Rdr B gr w' ((t.drop at_).drop m)) (ht : Touch (fun b => b = gr) wr w') : InvS B gr g z2 z3 t qs Qv bq O (at_ + m) L w0 w' := by
 have hB := h.base
 have hl := h.low
 exact ⟨by rw [List.drop_drop] at hr; exact hr, h.bd.keep (by rw [ht.size]; exact Nat.le_refl _) (fun b _ hO => ht.block b (h.far b hO).2), h.far, h.ow.touch ht (fun x hx e => by have := h.ow.rng x hx; have e' : x = gr := e; omega), h.low, h.bel.trans (ht.below (fun b hb => by have e' : b = gr := hb; omega))⟩
theorem InvS.grow {B gr g z2 z3 : Nat} {t : List Int} {qs : List Pt} {Qv : Value} {bq : List Nat} {O O' : Nat → Prop} {at_ : Nat} {L L' : List Pt} {w0 wr w' : World} (h : InvS B gr g z2 z3 t qs Qv bq O at_ L w0 wr) (hb : Bld O' B g 187 w' L') (b : Below B wr w') (hg : Grew O O' wr w') : InvS B gr g z2 z3 t qs Qv bq O' at_ L' w0 w' := by
 have hlt := h.rd.lt
 refine ⟨h.rd.keep (hg.block gr hlt (fun ho => (h.far gr ho).2 rfl)) (fun p hp => b.cell hp), hb, fun x hx => ?_, h.ow.grew hg (fun x hx => (h.far x hx).1), h.low, h.bel.trans b⟩
 rcases hg.more x hx with h1 | h1
 ·exact h.far x h1
 ·exact ⟨.inr (Nat.le_trans h.ow.top h1), by omega⟩
end Go.Proofs.YtglklgnggkenhaaGreatDoor.low
