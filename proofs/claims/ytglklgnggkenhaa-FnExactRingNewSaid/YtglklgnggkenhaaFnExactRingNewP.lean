/-
  Proved: for every argument (number, number), the law FnExactRingNew of this seat's translation returns true (impl.RingNew answers as spec.RingNew does, twice, leaves its arguments alone, and its result owns its memory); no conditions.
-/
import Derived.Test.YtglklgnggkenhaaRows
import Derived.Test.YtglklgnggkenhaaM1
import Derived.WalkKit
import Derived.ProofKit
import Derived.OpenShut
import Derived.ShutString
import Derived.ChangeOld
import Derived.Below
import Derived.Test.YtglklgnggkenhaaM2
import Derived.Test.YtglklgnggkenhaaM3
set_option maxHeartbeats 12800000
set_option maxRecDepth 1000000
namespace Go.Proofs.Ytglklgnggkenhaa.fnExactRingNew
open Go.ChangeShapes Go.WideShapes Go.ChangeAt Go.RowKit
open Go.ChangeMaps (open_string shut_string)
open low
set_option linter.unusedVariables false
theorem own : ownKnob Try.prog.godebug = none := by kernel_rfl
theorem walk (a0 : Int) (a1 : Int) (w : World) (w0 : (Lit.int .i64 a0).wf = true) (w1 : (Lit.int .i64 a1).wf = true) :
  Calls Try.prog 5 #[.int .i64 a0, .int .i64 a1] w fun e w' => e = .returned (.bool true) ∧ Below w.heap.size w w' := by
 have D0 : Below w.heap.size w w := Below.refl _ _
 go_enter Try.func5, Try.ntmps5
 go_wp2_with fail
 refine (specRingNew_d a0 a1 _ (rngI w0) (rngI w1)).mono ?_
 rintro e u1 ⟨v1, rfl, oW00, b1⟩
 obtain ⟨k1, oW0⟩ := oW00.blocks
 clear oW00
 have z1 := b1.size
 have D1 := D0.trans (b1.mono D0.size)
 have hs0 : SmRi (ringNewT a0 a1) := ringNew_small 
 generalize hL0 : (ringNewT a0 a1) = L0 at *
 have HL0 := Lib.hid hL0
 clear hL0
 generalize hL1 : (ringNewB a0 a1) = L1 at *
 have HL1 := Lib.hid hL1
 clear hL1
 have hc0 := cntRi hs0
 generalize hn0 : cntC (datRi L0) = n0 at *
 have HN0 := Lib.hid hn0
 clear hn0
 have nm0 : (((1 : Int) + (n0 : Int)) != ((1 : Int) + (n0 : Int))) = false := by simp
 have nb1 : (L1 != L1) = false := by simp
 obtain ⟨AW0_3, cW0_3, rfl, _⟩ := aggRi oW0.read
 have ba1 := alloc_below u1 (.cells #[.int .i64 L0.cap, .int .i64 L0.next, .bool L0.out, .slice AW0_3 L0.list.length cW0_3] 27)
 have oW0 := oW0.past ba1
 have bxW0 := Bx.new u1 #[.int .i64 L0.cap, .int .i64 L0.next, .bool L0.out, .slice AW0_3 L0.list.length cW0_3] 27
 have zu1 : (u1.alloc (.cells #[.int .i64 L0.cap, .int .i64 L0.next, .bool L0.out, .slice AW0_3 L0.list.length cW0_3] 27)).heap.size = u1.heap.size + 1 := World.size_alloc _ _
 have Da1 := D1.trans (ba1.mono D1.size)
 clear ba1
 go_wp2_with fail
 generalize u1.alloc (.cells #[.int .i64 L0.cap, .int .i64 L0.next, .bool L0.out, .slice AW0_3 L0.list.length cW0_3] 27) = v1_ at oW0 bxW0 zu1 Da1 ⊢
 refine (implRingNew_d a0 a1 _ (rngI w0) (rngI w1)).mono ?_
 rw [HL0.out, HL1.out]
 rintro e u2 ⟨v2, rfl, oG00, b2⟩
 have oW0 := oW0.past b2
 have bxW0 := bxW0.past b2
 obtain ⟨k2, oG0⟩ := oG00.blocks
 clear oG00
 have z2 := b2.size
 have D2 := Da1.trans (b2.mono Da1.size)
 obtain ⟨AG0_3, cG0_3, rfl, _⟩ := aggRi oG0.read
 have bxW0P := bxW0
 have bxW0L := bxW0.lt
 have ba2 := alloc_below u2 (.cells #[.int .i64 L0.cap, .int .i64 L0.next, .bool L0.out, .slice AG0_3 L0.list.length cG0_3] 27)
 have oW0 := oW0.past ba2
 have oG0 := oG0.past ba2
 have bxW0 := bxW0.past ba2
 have bxG0 := Bx.new u2 #[.int .i64 L0.cap, .int .i64 L0.next, .bool L0.out, .slice AG0_3 L0.list.length cG0_3] 27
 have zu2 : (u2.alloc (.cells #[.int .i64 L0.cap, .int .i64 L0.next, .bool L0.out, .slice AG0_3 L0.list.length cG0_3] 27)).heap.size = u2.heap.size + 1 := World.size_alloc _ _
 have Da2 := D2.trans (ba2.mono D2.size)
 clear ba2
 have HAG := Lib.hid (show ∀  (u : World), Calls Try.prog 11 #[.int .i64 a0, .int .i64 a1] u (ResB (datRi L0) L1 u) from fun  u  => by rw [← HL0.out, ← HL1.out]; exact implRingNew_d  a0 a1 u   (rngI w0) (rngI w1))
 have ybxW00 : _ = (some (.int .i64 L0.cap) : Option Value) := bxW0P.cell (j := 0) rfl
 have ybxW01 : _ = (some (.int .i64 L0.next) : Option Value) := bxW0P.cell (j := 1) rfl
 have ybxW02 : _ = (some (.bool L0.out) : Option Value) := bxW0P.cell (j := 2) rfl
 have ybxW03 : _ = (some (.slice AW0_3 L0.list.length cW0_3) : Option Value) := bxW0P.cell (j := 3) rfl
 go_wp2_with fail
 generalize u2.alloc (.cells #[.int .i64 L0.cap, .int .i64 L0.next, .bool L0.out, .slice AG0_3 L0.list.length cG0_3] 27) = v2_ at oW0 oG0 bxW0 bxG0 zu2 Da2 ⊢
 clear bxW0P bxW0L
 clear ybxW00 ybxW01 ybxW02 ybxW03
 refine (eqRi _ _ L0 _ oG0.read oW0.read hs0).mono ?_
 rintro e u3 ⟨rfl, b3⟩
 have oW0 := oW0.past b3
 have oG0 := oG0.past b3
 have bxW0 := bxW0.past b3
 have bxG0 := bxG0.past b3
 have z3 := b3.size
 have D3 := Da2.trans (b3.mono Da2.size)
 have ybxG00 : _ = (some (.int .i64 L0.cap) : Option Value) := bxG0.cell (j := 0) rfl
 have ybxG01 : _ = (some (.int .i64 L0.next) : Option Value) := bxG0.cell (j := 1) rfl
 have ybxG02 : _ = (some (.bool L0.out) : Option Value) := bxG0.cell (j := 2) rfl
 have ybxG03 : _ = (some (.slice AG0_3 L0.list.length cG0_3) : Option Value) := bxG0.cell (j := 3) rfl
 go_wp2_with fail
 clear ybxG00 ybxG01 ybxG02 ybxG03
 refine (markRi _ L0 _ (1) _ oG0.ow oG0.nd (by omega) (by omega) hs0).mono ?_
 rintro e u4 ⟨rfl, m4, e4_, b4, t4⟩
 have oW0 := oW0.past b4
 have oG0 := oG0.past b4
 have bxW0 := bxW0.past b4
 have bxG0 := bxG0.past b4
 have zb4 := b4.size
 have Db4 := D3.trans (b4.mono D3.size)
 have oW0 := oW0.apart oG0 t4 (by omega)
 have bxW0 := bxW0.apart oG0 t4 (by omega)
 have bxG0 := bxG0.apart oG0 t4 (by omega)
 have z4 := t4.size
 have D4 := Db4.trans (oG0.under t4 (by omega))
 have oG0 := oG0.marked m4 t4
 rw [HN0.out]
 have ybxG00 : _ = (some (.int .i64 L0.cap) : Option Value) := bxG0.cell (j := 0) rfl
 have ybxG01 : _ = (some (.int .i64 L0.next) : Option Value) := bxG0.cell (j := 1) rfl
 have ybxG02 : _ = (some (.bool L0.out) : Option Value) := bxG0.cell (j := 2) rfl
 have ybxG03 : _ = (some (.slice AG0_3 L0.list.length cG0_3) : Option Value) := bxG0.cell (j := 3) rfl
 go_wp2_with fail
 clear ybxG00 ybxG01 ybxG02 ybxG03
 refine (heldRi _ L0 (1) _ oG0.read (by omega) (by omega) hs0).mono ?_
 rintro e u5 ⟨rfl, b5⟩
 rw [HN0.out]
 have oW0 := oW0.past b5
 have oG0 := oG0.past b5
 have bxW0 := bxW0.past b5
 have bxG0 := bxG0.past b5
 have z5 := b5.size
 have D5 := D4.trans (b5.mono D4.size)
 go_wp2_with fail
 refine (HAG.out _).mono ?_
 rintro e u6 ⟨v6, rfl, oH00, b6⟩
 have oW0 := oW0.past b6
 have oG0 := oG0.past b6
 have bxW0 := bxW0.past b6
 have bxG0 := bxG0.past b6
 obtain ⟨k6, oH0⟩ := oH00.blocks
 clear oH00
 have z6 := b6.size
 have D6 := D5.trans (b6.mono D5.size)
 obtain ⟨AH0_3, cH0_3, rfl, _⟩ := aggRi oH0.read
 have bxW0P := bxW0
 have bxW0L := bxW0.lt
 have bxG0P := bxG0
 have bxG0L := bxG0.lt
 have ba6 := alloc_below u6 (.cells #[.int .i64 L0.cap, .int .i64 L0.next, .bool L0.out, .slice AH0_3 L0.list.length cH0_3] 27)
 have oW0 := oW0.past ba6
 have oG0 := oG0.past ba6
 have oH0 := oH0.past ba6
 have bxW0 := bxW0.past ba6
 have bxG0 := bxG0.past ba6
 have bxH0 := Bx.new u6 #[.int .i64 L0.cap, .int .i64 L0.next, .bool L0.out, .slice AH0_3 L0.list.length cH0_3] 27
 have zu6 : (u6.alloc (.cells #[.int .i64 L0.cap, .int .i64 L0.next, .bool L0.out, .slice AH0_3 L0.list.length cH0_3] 27)).heap.size = u6.heap.size + 1 := World.size_alloc _ _
 have Da6 := D6.trans (ba6.mono D6.size)
 clear ba6
 have ybxW00 : _ = (some (.int .i64 L0.cap) : Option Value) := bxW0P.cell (j := 0) rfl
 have ybxW01 : _ = (some (.int .i64 L0.next) : Option Value) := bxW0P.cell (j := 1) rfl
 have ybxW02 : _ = (some (.bool L0.out) : Option Value) := bxW0P.cell (j := 2) rfl
 have ybxW03 : _ = (some (.slice AW0_3 L0.list.length cW0_3) : Option Value) := bxW0P.cell (j := 3) rfl
 go_wp2_with fail
 generalize u6.alloc (.cells #[.int .i64 L0.cap, .int .i64 L0.next, .bool L0.out, .slice AH0_3 L0.list.length cH0_3] 27) = v6_ at oW0 oG0 oH0 bxW0 bxG0 bxH0 zu6 Da6 ⊢
 clear bxW0P bxW0L
 clear bxG0P bxG0L
 clear ybxW00 ybxW01 ybxW02 ybxW03
 refine (eqRi _ _ L0 _ oH0.read oW0.read hs0).mono ?_
 rintro e u7 ⟨rfl, b7⟩
 have oW0 := oW0.past b7
 have oG0 := oG0.past b7
 have oH0 := oH0.past b7
 have bxW0 := bxW0.past b7
 have bxG0 := bxG0.past b7
 have bxH0 := bxH0.past b7
 have z7 := b7.size
 have D7 := Da6.trans (b7.mono Da6.size)
 have ybxG00 : _ = (some (.int .i64 L0.cap) : Option Value) := bxG0.cell (j := 0) rfl
 have ybxG01 : _ = (some (.int .i64 L0.next) : Option Value) := bxG0.cell (j := 1) rfl
 have ybxG02 : _ = (some (.bool L0.out) : Option Value) := bxG0.cell (j := 2) rfl
 have ybxG03 : _ = (some (.slice AG0_3 L0.list.length cG0_3) : Option Value) := bxG0.cell (j := 3) rfl
 go_wp2_with fail
 clear ybxG00 ybxG01 ybxG02 ybxG03
 refine (heldRi _ L0 (1) _ oG0.read (by omega) (by omega) hs0).mono ?_
 rintro e u8 ⟨rfl, b8⟩
 rw [HN0.out]
 have oW0 := oW0.past b8
 have oG0 := oG0.past b8
 have oH0 := oH0.past b8
 have bxW0 := bxW0.past b8
 have bxG0 := bxG0.past b8
 have bxH0 := bxH0.past b8
 have z8 := b8.size
 have D8 := D7.trans (b8.mono D7.size)
 go_wp2
 go_ret
 exact ⟨rfl, D8⟩
theorem lifted (os : Os) (started : os.Started) (H : Type) (enc : TypeId × Value → H) :
  ReturnsInHanded {} Try.checked os 5 .any (Rows.fnExactRingNewSpec.pre6 enc Try.prog Try.f5 Rows.fnExactRingNewRow.domain false) (Rows.fnExactRingNewSpec.post enc Try.prog Try.f5 false true false false) := by
 refine returnsInHanded_of_change (C := Try.checked) own started (by kernel_rfl) Try.func5
  (ChangeSpec.witness6 (enc := enc) (C := Try.checked) false ⟨#[], #[.int .i64 0, .int .i64 0], []⟩ 8 (by kernel_rfl) (by kernel_rfl) (by kernel_rfl) (by kernel_rfl)) ?_
 intro W base args ds gs before hval0 hW hcnd _
 have hval : ∀ (j : Nat) t v, Try.f5.params[j]? = some t → args[j]? = some v → Value.okWide Try.prog W .any base t v := hval0
 have hW' := hW
 obtain ⟨p, q, hA0, hV, rfl, hfz, hnd⟩ := hW
 have hA : DataW.TrodAll enc Try.prog W 0 (fun _ => true) true Try.f5.params.toList args.toList ds p := hA0
 rw [Try.params5] at hA hval
 obtain ⟨v0, vs0, x0, xs0, q0, r0, hargs, rfl, rfl, h0, t0⟩ := trodAll_cons hA
 obtain ⟨v1, vs1, x1, xs1, q1, r1, rfl, rfl, rfl, h1, t1⟩ := trodAll_cons t0
 obtain ⟨rfl, rfl, rfl⟩ := trodAll_nil t1
 obtain rfl : args = #[v0, v1] := by cases args; simp_all
 obtain ⟨rfl, rfl⟩ := trodVars_none hV
 have k0 := h0
 have lt0 : ∀ x ∈ q0, x.block < W.heap.size := by obtain ⟨m, hm⟩ := k0; exact DataW.trod_lt m _ _ _ hm
 have k1 := h1
 have lt1 : ∀ x ∈ q1, x.block < W.heap.size := by obtain ⟨m, hm⟩ := k1; exact DataW.trod_lt m _ _ _ hm
 obtain ⟨a0, rfl, rfl, rfl, w0⟩ := open_int Try.underlying3 (hval 0 3 v0 rfl rfl) h0
 obtain ⟨a1, rfl, rfl, rfl, w1⟩ := open_int Try.underlying3 (hval 1 3 v1 rfl rfl) h1
 clear hA0 hval0
 refine (walk a0 a1 W w0 w1).mono fun e W' ⟨he, bel⟩ => ?_
 subst he
 exact ⟨_, rfl, _, _, _, [], _, [], hW', trodAll_mk1 (shut_bool Try.underlying4 _), (trodAll_cons_mk (Below.trod laidOut (by kernel_rfl) (of_decide_eq_true (by kernel_rfl)) k0 bel lt0) (trodAll_cons_mk (Below.trod laidOut (by kernel_rfl) (of_decide_eq_true (by kernel_rfl)) k1 bel lt1) trodAll_mk0)), rfl, bel.frame _, fun h => by cases h⟩
theorem over : Rows.fnExactRingNewRow.holds Try.pinned (OpenSpec.ofChange Rows.fnExactRingNewSpec) :=
 OpenClaim.holds_of_wide 5 Try.f5 rfl rfl rfl rfl rfl rfl rfl ⟨rfl, rfl, rfl, rfl, rfl⟩ rfl rfl rfl rfl rfl (by kernel_rfl) Try.func5 (by kernel_rfl)
  (of_decide_eq_true (by kernel_rfl)) (by unfold Func.isWrapper; first | (rw [if_pos (by decide +kernel)]; kernel_rfl) | (rw [if_neg (by decide +kernel)]; exact ⟨rfl, rfl⟩))
  (fun os started H enc _ => lifted os started H enc)
theorem proved : Rows.FnExactRingNewSaid := over
end Go.Proofs.Ytglklgnggkenhaa.fnExactRingNew
