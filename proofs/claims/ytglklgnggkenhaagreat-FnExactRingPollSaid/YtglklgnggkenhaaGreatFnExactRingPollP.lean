/-
  Proved: for every argument (ring, number), the law FnExactRingPoll of this seat's translation returns true (impl.RingPoll answers as spec.RingPoll does, twice, leaves its arguments alone, and its result owns its memory); no conditions.
-/
import Derived.Test.YtglklgnggkenhaaGreatRows
import Derived.Test.YtglklgnggkenhaaGreatM1
import Derived.WalkKit
import Derived.ProofKit
import Derived.OpenShut
import Derived.ShutString
import Derived.ChangeOld
import Derived.Below
import Derived.Test.YtglklgnggkenhaaGreatM2
import Derived.Test.YtglklgnggkenhaaGreatM3
set_option maxHeartbeats 12800000
set_option maxRecDepth 1000000
namespace Go.Proofs.YtglklgnggkenhaaGreat.fnExactRingPoll
open Go.ChangeShapes Go.WideShapes Go.ChangeAt Go.RowKit
open Go.ChangeMaps (open_string shut_string)
open low
set_option linter.unusedVariables false
theorem own : ownKnob Tryz.prog.godebug = none := by kernel_rfl
theorem walk (x0 : Ri) (y0 : Value) (a1 : Int) (w : World) (w0 : RdC w w.heap.size (datRi x0) y0) (l0 : LimRi x0) (w1 : (Lit.int .i64 a1).wf = true) :
  Calls Tryz.prog 4 #[y0, .int .i64 a1] w fun e w' => e = .returned (.bool true) ∧ Below w.heap.size w w' := by
 have D0 : Below w.heap.size w w := Below.refl _ _
 have R0 := w0
 obtain ⟨AA0_3, cA0_3, rfl, _⟩ := aggRi w0
 have bxA0 := Bx.new w #[.int .i64 x0.cap, .int .i64 x0.next, .bool x0.out, .slice AA0_3 x0.list.length cA0_3] 24
 have DE := alloc_below w (.cells #[.int .i64 x0.cap, .int .i64 x0.next, .bool x0.out, .slice AA0_3 x0.list.length cA0_3] 24)
 have zE : (w.alloc (.cells #[.int .i64 x0.cap, .int .i64 x0.next, .bool x0.out, .slice AA0_3 x0.list.length cA0_3] 24)).heap.size = w.heap.size + 1 := World.size_alloc _ _
 go_enter Tryz.func4, Tryz.ntmps4
 go_wp2_with fail
 generalize (w.alloc (.cells #[.int .i64 x0.cap, .int .i64 x0.next, .bool x0.out, .slice AA0_3 x0.list.length cA0_3] 24)) = wE at bxA0 DE zE ⊢
 refine (szRi _ x0 1048576 _ (R0.past DE) (by omega) (by omega) l0).mono ?_
 rintro e u1 ⟨r1, rfl, hr1, b1⟩
 rcases hr1 with rfl | ⟨p1, q1⟩
 ·go_wp2
  go_ret
  exact ⟨rfl, DE.trans (b1.mono DE.size)⟩
 have S0 : SmRi x0 := by unfold SmRi; omega
 have t1 : r1 ≤ 1048576 := by omega
 clear q1
 have bxA0 := bxA0.past b1
 have z1 := b1.size
 have D1 := DE.trans (b1.mono DE.size)
 have ybxA00 : _ = (some (.int .i64 x0.cap) : Option Value) := bxA0.cell (j := 0) rfl
 have ybxA01 : _ = (some (.int .i64 x0.next) : Option Value) := bxA0.cell (j := 1) rfl
 have ybxA02 : _ = (some (.bool x0.out) : Option Value) := bxA0.cell (j := 2) rfl
 have ybxA03 : _ = (some (.slice AA0_3 x0.list.length cA0_3) : Option Value) := bxA0.cell (j := 3) rfl
 go_wp2_with fail
 clear ybxA00 ybxA01 ybxA02 ybxA03
 refine (toRi _ x0 _ (R0.past D1) S0).mono ?_
 rintro e u2 ⟨v2, rfl, oT00, b2⟩
 obtain ⟨k2, oT0⟩ := oT00.blocks
 clear oT00
 obtain ⟨A2_3, c2_3, rfl, _⟩ := aggRi oT0.read
 have bxA0 := bxA0.past b2
 have z2 := b2.size
 have D2 := D1.trans (b2.mono D1.size)
 go_wp2_with fail
 refine (specRingPoll_d _ x0 a1 _ oT0.read S0).mono ?_
 rintro e u3 ⟨v3, y3, k3, j3, rfl, oW0, oW1, dis3, b3⟩
 have oT0 := oT0.past b3
 have bxA0 := bxA0.past b3
 have z3 := b3.size
 have D3 := D2.trans (b3.mono D2.size)
 have hs0 : SmRi (ringPollT x0 a1) := ringPoll_small0 S0
 have hs1 : SmEns (ringPollL x0 a1) := ringPoll_small1 S0
 generalize hL0 : (ringPollT x0 a1) = L0 at *
 have HL0 := Lib.hid hL0
 clear hL0
 generalize hL1 : (ringPollL x0 a1) = L1 at *
 have HL1 := Lib.hid hL1
 clear hL1
 generalize hL2 : (ringPollC x0 a1) = L2 at *
 have HL2 := Lib.hid hL2
 clear hL2
 have hc0 := cntRi hs0
 generalize hn0 : cntC (datRi L0) = n0 at *
 have HN0 := Lib.hid hn0
 clear hn0
 have nm0 : (((1 : Int) + (n0 : Int)) != ((1 : Int) + (n0 : Int))) = false := by simp
 have hc1 := cntEns hs1
 generalize hn1 : cntC (encEns L1) = n1 at *
 have HN1 := Lib.hid hn1
 clear hn1
 have nm1 : (((1 : Int) + (n1 : Int)) != ((1 : Int) + (n1 : Int))) = false := by simp
 have nb2 : ((L2 : Int) != L2) = false := by simp
 obtain ⟨AW1_, cW1_, rfl⟩ := sliceEns oW1.read
 obtain ⟨AW0_3, cW0_3, rfl, _⟩ := aggRi oW0.read
 have bxA0P := bxA0
 have bxA0L := bxA0.lt
 have ba3 := alloc_below u3 (.cells #[.int .i64 L0.cap, .int .i64 L0.next, .bool L0.out, .slice AW0_3 L0.list.length cW0_3] 32)
 have oT0 := oT0.past ba3
 have oW0 := oW0.past ba3
 have oW1 := oW1.past ba3
 have bxA0 := bxA0.past ba3
 have bxW0 := Bx.new u3 #[.int .i64 L0.cap, .int .i64 L0.next, .bool L0.out, .slice AW0_3 L0.list.length cW0_3] 32
 have zu3 : (u3.alloc (.cells #[.int .i64 L0.cap, .int .i64 L0.next, .bool L0.out, .slice AW0_3 L0.list.length cW0_3] 32)).heap.size = u3.heap.size + 1 := World.size_alloc _ _
 have Da3 := D3.trans (ba3.mono D3.size)
 clear ba3
 clear oT0
 have ybxA00 : _ = (some (.int .i64 x0.cap) : Option Value) := bxA0P.cell (j := 0) rfl
 have ybxA01 : _ = (some (.int .i64 x0.next) : Option Value) := bxA0P.cell (j := 1) rfl
 have ybxA02 : _ = (some (.bool x0.out) : Option Value) := bxA0P.cell (j := 2) rfl
 have ybxA03 : _ = (some (.slice AA0_3 x0.list.length cA0_3) : Option Value) := bxA0P.cell (j := 3) rfl
 go_wp2_with fail
 generalize u3.alloc (.cells #[.int .i64 L0.cap, .int .i64 L0.next, .bool L0.out, .slice AW0_3 L0.list.length cW0_3] 32) = v3_ at oW0 oW1 bxA0 bxW0 zu3 Da3 ⊢
 clear bxA0P bxA0L
 clear ybxA00 ybxA01 ybxA02 ybxA03
 refine (toRi _ x0 _ (R0.past Da3) S0).mono ?_
 rintro e u4 ⟨v4, rfl, oX00, b4⟩
 obtain ⟨k4, oX0⟩ := oX00.blocks
 clear oX00
 obtain ⟨A4_3, c4_3, rfl, _⟩ := aggRi oX0.read
 have oW0 := oW0.past b4
 have oW1 := oW1.past b4
 have bxA0 := bxA0.past b4
 have bxW0 := bxW0.past b4
 have z4 := b4.size
 have D4 := Da3.trans (b4.mono Da3.size)
 have bxA0P := bxA0
 have bxA0L := bxA0.lt
 have bxW0P := bxW0
 have bxW0L := bxW0.lt
 have ba4 := alloc_below u4 (.cells #[.int .i64 x0.cap, .int .i64 x0.next, .bool x0.out, .slice A4_3 x0.list.length c4_3] 32)
 have oW0 := oW0.past ba4
 have oW1 := oW1.past ba4
 have oX0 := oX0.past ba4
 have bxA0 := bxA0.past ba4
 have bxW0 := bxW0.past ba4
 have bxX0 := Bx.new u4 #[.int .i64 x0.cap, .int .i64 x0.next, .bool x0.out, .slice A4_3 x0.list.length c4_3] 32
 have zu4 : (u4.alloc (.cells #[.int .i64 x0.cap, .int .i64 x0.next, .bool x0.out, .slice A4_3 x0.list.length c4_3] 32)).heap.size = u4.heap.size + 1 := World.size_alloc _ _
 have Da4 := D4.trans (ba4.mono D4.size)
 clear ba4
 go_wp2_with fail
 generalize u4.alloc (.cells #[.int .i64 x0.cap, .int .i64 x0.next, .bool x0.out, .slice A4_3 x0.list.length c4_3] 32) = v4_ at oW0 oW1 oX0 bxA0 bxW0 bxX0 zu4 Da4 ⊢
 clear bxA0P bxA0L
 clear bxW0P bxW0L
 refine (implRingPoll_d _ x0 a1 _ oX0.read S0).mono ?_
 rw [HL0.out, HL1.out, HL2.out]
 rintro e u5 ⟨v5, y5, k5, j5, rfl, oG0, oG1, dis5, b5⟩
 have oW0 := oW0.past b5
 have oW1 := oW1.past b5
 have oX0 := oX0.past b5
 have bxA0 := bxA0.past b5
 have bxW0 := bxW0.past b5
 have bxX0 := bxX0.past b5
 have z5 := b5.size
 have D5 := Da4.trans (b5.mono Da4.size)
 obtain ⟨AG1_, cG1_, rfl⟩ := sliceEns oG1.read
 obtain ⟨AG0_3, cG0_3, rfl, _⟩ := aggRi oG0.read
 have bxA0P := bxA0
 have bxA0L := bxA0.lt
 have bxW0P := bxW0
 have bxW0L := bxW0.lt
 have bxX0P := bxX0
 have bxX0L := bxX0.lt
 have ba5 := alloc_below u5 (.cells #[.int .i64 L0.cap, .int .i64 L0.next, .bool L0.out, .slice AG0_3 L0.list.length cG0_3] 32)
 have oW0 := oW0.past ba5
 have oW1 := oW1.past ba5
 have oX0 := oX0.past ba5
 have oG0 := oG0.past ba5
 have oG1 := oG1.past ba5
 have bxA0 := bxA0.past ba5
 have bxW0 := bxW0.past ba5
 have bxX0 := bxX0.past ba5
 have bxG0 := Bx.new u5 #[.int .i64 L0.cap, .int .i64 L0.next, .bool L0.out, .slice AG0_3 L0.list.length cG0_3] 32
 have zu5 : (u5.alloc (.cells #[.int .i64 L0.cap, .int .i64 L0.next, .bool L0.out, .slice AG0_3 L0.list.length cG0_3] 32)).heap.size = u5.heap.size + 1 := World.size_alloc _ _
 have Da5 := D5.trans (ba5.mono D5.size)
 clear ba5
 have HAG := Lib.hid (show ∀ (x0_ : Value) (u : World), RdC u u.heap.size (datRi x0) x0_ → Calls Tryz.prog 17 #[x0_, .int .i64 a1] u (Res2N (datRi L0) (encEns L1) L2 u) from fun x0_ u h0_ => by rw [← HL0.out, ← HL1.out, ← HL2.out]; exact implRingPoll_d x0_ x0 a1 u h0_ S0 )
 have ybxW00 : _ = (some (.int .i64 L0.cap) : Option Value) := bxW0P.cell (j := 0) rfl
 have ybxW01 : _ = (some (.int .i64 L0.next) : Option Value) := bxW0P.cell (j := 1) rfl
 have ybxW02 : _ = (some (.bool L0.out) : Option Value) := bxW0P.cell (j := 2) rfl
 have ybxW03 : _ = (some (.slice AW0_3 L0.list.length cW0_3) : Option Value) := bxW0P.cell (j := 3) rfl
 go_wp2_with fail
 generalize u5.alloc (.cells #[.int .i64 L0.cap, .int .i64 L0.next, .bool L0.out, .slice AG0_3 L0.list.length cG0_3] 32) = v5_ at oW0 oW1 oX0 oG0 oG1 bxA0 bxW0 bxX0 bxG0 zu5 Da5 ⊢
 clear bxA0P bxA0L
 clear bxW0P bxW0L
 clear bxX0P bxX0L
 clear ybxW00 ybxW01 ybxW02 ybxW03
 refine (eqRi _ _ L0 _ oG0.read oW0.read hs0).mono ?_
 rintro e u6 ⟨rfl, b6⟩
 have oW0 := oW0.past b6
 have oW1 := oW1.past b6
 have oX0 := oX0.past b6
 have oG0 := oG0.past b6
 have oG1 := oG1.past b6
 have bxA0 := bxA0.past b6
 have bxW0 := bxW0.past b6
 have bxX0 := bxX0.past b6
 have bxG0 := bxG0.past b6
 have z6 := b6.size
 have D6 := Da5.trans (b6.mono Da5.size)
 go_wp2_with fail
 refine (eqEns _ _ L1 _ oG1.read oW1.read hs1).mono ?_
 rintro e u7 ⟨rfl, b7⟩
 have oW0 := oW0.past b7
 have oW1 := oW1.past b7
 have oX0 := oX0.past b7
 have oG0 := oG0.past b7
 have oG1 := oG1.past b7
 have bxA0 := bxA0.past b7
 have bxW0 := bxW0.past b7
 have bxX0 := bxX0.past b7
 have bxG0 := bxG0.past b7
 have z7 := b7.size
 have D7 := D6.trans (b7.mono D6.size)
 have lbxX0 := bxX0.lt
 have ybxX00 : u7.cell? ⟨u4.heap.size, 0, none⟩ = some (.int .i64 x0.cap) := bxX0.cell (j := 0) rfl
 have ybxX01 : u7.cell? ⟨u4.heap.size, 1, none⟩ = some (.int .i64 x0.next) := bxX0.cell (j := 1) rfl
 have ybxX02 : u7.cell? ⟨u4.heap.size, 2, none⟩ = some (.bool x0.out) := bxX0.cell (j := 2) rfl
 have ybxX03 : u7.cell? ⟨u4.heap.size, 3, none⟩ = some (.slice A4_3 x0.list.length c4_3) := bxX0.cell (j := 3) rfl
 have lbxA0 := bxA0.lt
 have ybxA00 : u7.cell? ⟨w.heap.size, 0, none⟩ = some (.int .i64 x0.cap) := bxA0.cell (j := 0) rfl
 have ybxA01 : u7.cell? ⟨w.heap.size, 1, none⟩ = some (.int .i64 x0.next) := bxA0.cell (j := 1) rfl
 have ybxA02 : u7.cell? ⟨w.heap.size, 2, none⟩ = some (.bool x0.out) := bxA0.cell (j := 2) rfl
 have ybxA03 : u7.cell? ⟨w.heap.size, 3, none⟩ = some (.slice AA0_3 x0.list.length cA0_3) := bxA0.cell (j := 3) rfl
 have SX := Lib.hid (show ∀ (W W1 : World), (W.cell? ⟨u4.heap.size, 0, none⟩ = some (.int .i64 x0.cap) ∧ W.cell? ⟨u4.heap.size, 1, none⟩ = some (.int .i64 x0.next) ∧ W.cell? ⟨u4.heap.size, 2, none⟩ = some (.bool x0.out) ∧ W.cell? ⟨u4.heap.size, 3, none⟩ = some (.slice A4_3 x0.list.length c4_3) ∧ W.cell? ⟨w.heap.size, 0, none⟩ = some (.int .i64 x0.cap) ∧ W.cell? ⟨w.heap.size, 1, none⟩ = some (.int .i64 x0.next) ∧ W.cell? ⟨w.heap.size, 2, none⟩ = some (.bool x0.out) ∧ W.cell? ⟨w.heap.size, 3, none⟩ = some (.slice AA0_3 x0.list.length cA0_3) ∧ KS u7 W) → Below W.heap.size W W1 → (W1.cell? ⟨u4.heap.size, 0, none⟩ = some (.int .i64 x0.cap) ∧ W1.cell? ⟨u4.heap.size, 1, none⟩ = some (.int .i64 x0.next) ∧ W1.cell? ⟨u4.heap.size, 2, none⟩ = some (.bool x0.out) ∧ W1.cell? ⟨u4.heap.size, 3, none⟩ = some (.slice A4_3 x0.list.length c4_3) ∧ W1.cell? ⟨w.heap.size, 0, none⟩ = some (.int .i64 x0.cap) ∧ W1.cell? ⟨w.heap.size, 1, none⟩ = some (.int .i64 x0.next) ∧ W1.cell? ⟨w.heap.size, 2, none⟩ = some (.bool x0.out) ∧ W1.cell? ⟨w.heap.size, 3, none⟩ = some (.slice AA0_3 x0.list.length cA0_3) ∧ KS u7 W1) from fun W W1 h hb => by have hk := h.2.2.2.2.2.2.2.2; have hkk : KS u7 W1 := hk.trans (hb.mono hk.size); exact ⟨(hkk.cell (p := ⟨u4.heap.size, 0, none⟩) lbxX0).trans ybxX00, (hkk.cell (p := ⟨u4.heap.size, 1, none⟩) lbxX0).trans ybxX01, (hkk.cell (p := ⟨u4.heap.size, 2, none⟩) lbxX0).trans ybxX02, (hkk.cell (p := ⟨u4.heap.size, 3, none⟩) lbxX0).trans ybxX03, (hkk.cell (p := ⟨w.heap.size, 0, none⟩) lbxA0).trans ybxA00, (hkk.cell (p := ⟨w.heap.size, 1, none⟩) lbxA0).trans ybxA01, (hkk.cell (p := ⟨w.heap.size, 2, none⟩) lbxA0).trans ybxA02, (hkk.cell (p := ⟨w.heap.size, 3, none⟩) lbxA0).trans ybxA03, hkk⟩)
 have RX := Lib.hid (show ∀ (W : World), (W.cell? ⟨u4.heap.size, 0, none⟩ = some (.int .i64 x0.cap) ∧ W.cell? ⟨u4.heap.size, 1, none⟩ = some (.int .i64 x0.next) ∧ W.cell? ⟨u4.heap.size, 2, none⟩ = some (.bool x0.out) ∧ W.cell? ⟨u4.heap.size, 3, none⟩ = some (.slice A4_3 x0.list.length c4_3) ∧ W.cell? ⟨w.heap.size, 0, none⟩ = some (.int .i64 x0.cap) ∧ W.cell? ⟨w.heap.size, 1, none⟩ = some (.int .i64 x0.next) ∧ W.cell? ⟨w.heap.size, 2, none⟩ = some (.bool x0.out) ∧ W.cell? ⟨w.heap.size, 3, none⟩ = some (.slice AA0_3 x0.list.length cA0_3) ∧ KS u7 W) → RdC W W.heap.size (datRi x0) (.agg #[.int .i64 x0.cap, .int .i64 x0.next, .bool x0.out, .slice A4_3 x0.list.length c4_3]) from fun W h => by have hk : Below u7.heap.size u7 W := h.2.2.2.2.2.2.2.2; exact (oX0.past hk).read)
 have RA := Lib.hid (show ∀ (W : World), (W.cell? ⟨u4.heap.size, 0, none⟩ = some (.int .i64 x0.cap) ∧ W.cell? ⟨u4.heap.size, 1, none⟩ = some (.int .i64 x0.next) ∧ W.cell? ⟨u4.heap.size, 2, none⟩ = some (.bool x0.out) ∧ W.cell? ⟨u4.heap.size, 3, none⟩ = some (.slice A4_3 x0.list.length c4_3) ∧ W.cell? ⟨w.heap.size, 0, none⟩ = some (.int .i64 x0.cap) ∧ W.cell? ⟨w.heap.size, 1, none⟩ = some (.int .i64 x0.next) ∧ W.cell? ⟨w.heap.size, 2, none⟩ = some (.bool x0.out) ∧ W.cell? ⟨w.heap.size, 3, none⟩ = some (.slice AA0_3 x0.list.length cA0_3) ∧ KS u7 W) → RdC W W.heap.size (datRi x0) (.agg #[.int .i64 x0.cap, .int .i64 x0.next, .bool x0.out, .slice AA0_3 x0.list.length cA0_3]) from fun W h => by have hk : Below u7.heap.size u7 W := h.2.2.2.2.2.2.2.2; exact R0.past (D7.trans (hk.mono D7.size)))
 have hS0 : u7.drew.cell? ⟨u4.heap.size, 0, none⟩ = some (.int .i64 x0.cap) ∧ u7.drew.cell? ⟨u4.heap.size, 1, none⟩ = some (.int .i64 x0.next) ∧ u7.drew.cell? ⟨u4.heap.size, 2, none⟩ = some (.bool x0.out) ∧ u7.drew.cell? ⟨u4.heap.size, 3, none⟩ = some (.slice A4_3 x0.list.length c4_3) ∧ u7.drew.cell? ⟨w.heap.size, 0, none⟩ = some (.int .i64 x0.cap) ∧ u7.drew.cell? ⟨w.heap.size, 1, none⟩ = some (.int .i64 x0.next) ∧ u7.drew.cell? ⟨w.heap.size, 2, none⟩ = some (.bool x0.out) ∧ u7.drew.cell? ⟨w.heap.size, 3, none⟩ = some (.slice AA0_3 x0.list.length cA0_3) ∧ KS u7 u7.drew := ⟨ybxX00, ybxX01, ybxX02, ybxX03, ybxA00, ybxA01, ybxA02, ybxA03, KS.start _⟩
 clear ybxX00 ybxX01 ybxX02 ybxX03 ybxA00 ybxA01 ybxA02 ybxA03
 go_wp2
 go_region_held3 (fun W => W.cell? ⟨u4.heap.size, 0, none⟩ = some (.int .i64 x0.cap) ∧ W.cell? ⟨u4.heap.size, 1, none⟩ = some (.int .i64 x0.next) ∧ W.cell? ⟨u4.heap.size, 2, none⟩ = some (.bool x0.out) ∧ W.cell? ⟨u4.heap.size, 3, none⟩ = some (.slice A4_3 x0.list.length c4_3) ∧ W.cell? ⟨w.heap.size, 0, none⟩ = some (.int .i64 x0.cap) ∧ W.cell? ⟨w.heap.size, 1, none⟩ = some (.int .i64 x0.next) ∧ W.cell? ⟨w.heap.size, 2, none⟩ = some (.bool x0.out) ∧ W.cell? ⟨w.heap.size, 3, none⟩ = some (.slice AA0_3 x0.list.length cA0_3) ∧ KS u7 W)
  (first | assumption | exact hS0 | (exact SX.out _ _ (by assumption) b8) | (exact SX.out _ _ (by assumption) b9))
  (first | (go_at_call 8; refine (toRi _ x0 _ (by exact RA.out _ (by assumption)) S0).mono ?_; rintro e u8 ⟨v8, rfl, o8, b8⟩; obtain ⟨A8_3, c8_3, rfl, _⟩ := aggRi o8.read) | (go_at_call 11; refine (eqRi _ _ x0 _ (by exact RX.out _ (by assumption)) (by exact o8.read) S0).mono ?_; rintro e u9 ⟨rfl, b9⟩))
 rename_i hS2
 have HK9 : Below u7.heap.size u7 u9 := hS2.2.2.2.2.2.2.2.2
 clear hS2 hS0 SX RX RA
 clear lbxX0 lbxA0
 have oW0 := oW0.past HK9
 have oW1 := oW1.past HK9
 have oX0 := oX0.past HK9
 have oG0 := oG0.past HK9
 have oG1 := oG1.past HK9
 have bxA0 := bxA0.past HK9
 have bxW0 := bxW0.past HK9
 have bxX0 := bxX0.past HK9
 have bxG0 := bxG0.past HK9
 have z9 := HK9.size
 have D9 := D7.trans (HK9.mono D7.size)
 clear o8 b8 b9
 have cx0 := cntRi S0
 have ybxX00 : _ = (some (.int .i64 x0.cap) : Option Value) := bxX0.cell (j := 0) rfl
 have ybxX01 : _ = (some (.int .i64 x0.next) : Option Value) := bxX0.cell (j := 1) rfl
 have ybxX02 : _ = (some (.bool x0.out) : Option Value) := bxX0.cell (j := 2) rfl
 have ybxX03 : _ = (some (.slice A4_3 x0.list.length c4_3) : Option Value) := bxX0.cell (j := 3) rfl
 go_wp2_with fail
 clear ybxX00 ybxX01 ybxX02 ybxX03
 refine (markRi _ x0 _ (1) _ oX0.ow oX0.nd (by omega) (by omega) S0).mono ?_
 rintro e u10 ⟨rfl, m10, e10_, b10, t10⟩
 have oW0 := oW0.past b10
 have oW1 := oW1.past b10
 have oX0 := oX0.past b10
 have oG0 := oG0.past b10
 have oG1 := oG1.past b10
 have bxA0 := bxA0.past b10
 have bxW0 := bxW0.past b10
 have bxX0 := bxX0.past b10
 have bxG0 := bxG0.past b10
 have zb10 := b10.size
 have Db10 := D9.trans (b10.mono D9.size)
 have oW0 := oW0.apart oX0 t10 (by omega)
 have oW1 := oW1.apart oX0 t10 (by omega)
 have oG0 := oG0.apart oX0 t10 (by omega)
 have oG1 := oG1.apart oX0 t10 (by omega)
 have bxA0 := bxA0.apart oX0 t10 (by omega)
 have bxW0 := bxW0.apart oX0 t10 (by omega)
 have bxX0 := bxX0.apart oX0 t10 (by omega)
 have bxG0 := bxG0.apart oX0 t10 (by omega)
 have z10 := t10.size
 have D10 := Db10.trans (oX0.under t10 (by omega))
 clear oX0 m10
 generalize cntC (datRi x0) = nx0 at *
 have ybxG00 : _ = (some (.int .i64 L0.cap) : Option Value) := bxG0.cell (j := 0) rfl
 have ybxG01 : _ = (some (.int .i64 L0.next) : Option Value) := bxG0.cell (j := 1) rfl
 have ybxG02 : _ = (some (.bool L0.out) : Option Value) := bxG0.cell (j := 2) rfl
 have ybxG03 : _ = (some (.slice AG0_3 L0.list.length cG0_3) : Option Value) := bxG0.cell (j := 3) rfl
 have ybxW00 : _ = (some (.int .i64 L0.cap) : Option Value) := bxW0.cell (j := 0) rfl
 have ybxW01 : _ = (some (.int .i64 L0.next) : Option Value) := bxW0.cell (j := 1) rfl
 have ybxW02 : _ = (some (.bool L0.out) : Option Value) := bxW0.cell (j := 2) rfl
 have ybxW03 : _ = (some (.slice AW0_3 L0.list.length cW0_3) : Option Value) := bxW0.cell (j := 3) rfl
 go_wp2_with fail
 clear ybxG00 ybxG01 ybxG02 ybxG03 ybxW00 ybxW01 ybxW02 ybxW03
 refine (eqRi _ _ L0 _ oG0.read oW0.read hs0).mono ?_
 rintro e u11 ⟨rfl, b11⟩
 have oW0 := oW0.past b11
 have oW1 := oW1.past b11
 have oG0 := oG0.past b11
 have oG1 := oG1.past b11
 have bxA0 := bxA0.past b11
 have bxW0 := bxW0.past b11
 have bxX0 := bxX0.past b11
 have bxG0 := bxG0.past b11
 have z11 := b11.size
 have D11 := D10.trans (b11.mono D10.size)
 go_wp2_with fail
 refine (eqEns _ _ L1 _ oG1.read oW1.read hs1).mono ?_
 rintro e u12 ⟨rfl, b12⟩
 have oW0 := oW0.past b12
 have oW1 := oW1.past b12
 have oG0 := oG0.past b12
 have oG1 := oG1.past b12
 have bxA0 := bxA0.past b12
 have bxW0 := bxW0.past b12
 have bxX0 := bxX0.past b12
 have bxG0 := bxG0.past b12
 have z12 := b12.size
 have D12 := D11.trans (b12.mono D11.size)
 have ybxG00 : _ = (some (.int .i64 L0.cap) : Option Value) := bxG0.cell (j := 0) rfl
 have ybxG01 : _ = (some (.int .i64 L0.next) : Option Value) := bxG0.cell (j := 1) rfl
 have ybxG02 : _ = (some (.bool L0.out) : Option Value) := bxG0.cell (j := 2) rfl
 have ybxG03 : _ = (some (.slice AG0_3 L0.list.length cG0_3) : Option Value) := bxG0.cell (j := 3) rfl
 go_wp2_with fail
 clear ybxG00 ybxG01 ybxG02 ybxG03
 refine (markRi _ L0 _ (1) _ oG0.ow oG0.nd (by omega) (by omega) hs0).mono ?_
 rintro e u13 ⟨rfl, m13, e13_, b13, t13⟩
 have oW0 := oW0.past b13
 have oW1 := oW1.past b13
 have oG0 := oG0.past b13
 have oG1 := oG1.past b13
 have bxA0 := bxA0.past b13
 have bxW0 := bxW0.past b13
 have bxX0 := bxX0.past b13
 have bxG0 := bxG0.past b13
 have zb13 := b13.size
 have Db13 := D12.trans (b13.mono D12.size)
 have oW0 := oW0.apart oG0 t13 (by omega)
 have oW1 := oW1.apart oG0 t13 (by omega)
 have oG1 := oG1.touch t13 (fun x hx hx' => dis5 x hx' hx)
 have bxA0 := bxA0.apart oG0 t13 (by omega)
 have bxW0 := bxW0.apart oG0 t13 (by omega)
 have bxX0 := bxX0.apart oG0 t13 (by omega)
 have bxG0 := bxG0.apart oG0 t13 (by omega)
 have z13 := t13.size
 have D13 := Db13.trans (oG0.under t13 (by omega))
 have oG0 := oG0.marked m13 t13
 rw [HN0.out]
 go_wp2_with fail
 refine (markEns _ L1 _ (1 + (n0 : Int)) _ oG1.ow oG1.nd (by omega) (by omega) hs1).mono ?_
 rintro e u14 ⟨rfl, m14, t14⟩
 have oW0 := oW0.apart oG1 t14 (by omega)
 have oW1 := oW1.apart oG1 t14 (by omega)
 have oG0 := oG0.touch t14 (fun x hx hx' => dis5 x hx hx')
 have bxA0 := bxA0.apart oG1 t14 (by omega)
 have bxW0 := bxW0.apart oG1 t14 (by omega)
 have bxX0 := bxX0.apart oG1 t14 (by omega)
 have bxG0 := bxG0.apart oG1 t14 (by omega)
 have z14 := t14.size
 have D14 := D13.trans (oG1.under t14 (by omega))
 have oG1 := oG1.marked m14 t14
 rw [HN1.out]
 have ybxG00 : _ = (some (.int .i64 L0.cap) : Option Value) := bxG0.cell (j := 0) rfl
 have ybxG01 : _ = (some (.int .i64 L0.next) : Option Value) := bxG0.cell (j := 1) rfl
 have ybxG02 : _ = (some (.bool L0.out) : Option Value) := bxG0.cell (j := 2) rfl
 have ybxG03 : _ = (some (.slice AG0_3 L0.list.length cG0_3) : Option Value) := bxG0.cell (j := 3) rfl
 go_wp2_with fail
 clear ybxG00 ybxG01 ybxG02 ybxG03
 refine (heldRi _ L0 (1) _ oG0.read (by omega) (by omega) hs0).mono ?_
 rintro e u15 ⟨rfl, b15⟩
 rw [HN0.out]
 have oW0 := oW0.past b15
 have oW1 := oW1.past b15
 have oG0 := oG0.past b15
 have oG1 := oG1.past b15
 have bxA0 := bxA0.past b15
 have bxW0 := bxW0.past b15
 have bxX0 := bxX0.past b15
 have bxG0 := bxG0.past b15
 have z15 := b15.size
 have D15 := D14.trans (b15.mono D14.size)
 go_wp2_with fail
 refine (heldEns _ L1 (1 + (n0 : Int)) _ oG1.read (by omega) (by omega) hs1).mono ?_
 rintro e w'_ ⟨rfl, rfl⟩
 rw [HN1.out]
 have ybxA00 : _ = (some (.int .i64 x0.cap) : Option Value) := bxA0.cell (j := 0) rfl
 have ybxA01 : _ = (some (.int .i64 x0.next) : Option Value) := bxA0.cell (j := 1) rfl
 have ybxA02 : _ = (some (.bool x0.out) : Option Value) := bxA0.cell (j := 2) rfl
 have ybxA03 : _ = (some (.slice AA0_3 x0.list.length cA0_3) : Option Value) := bxA0.cell (j := 3) rfl
 go_wp2_with fail
 clear ybxA00 ybxA01 ybxA02 ybxA03
 refine (toRi _ x0 _ (R0.past D15) S0).mono ?_
 rintro e u17 ⟨v17, rfl, oT00, b17⟩
 obtain ⟨k17, oT0⟩ := oT00.blocks
 clear oT00
 obtain ⟨A17_3, c17_3, rfl, _⟩ := aggRi oT0.read
 have oW0 := oW0.past b17
 have oW1 := oW1.past b17
 have oG0 := oG0.past b17
 have oG1 := oG1.past b17
 have bxA0 := bxA0.past b17
 have bxW0 := bxW0.past b17
 have bxX0 := bxX0.past b17
 have bxG0 := bxG0.past b17
 have z17 := b17.size
 have D17 := D15.trans (b17.mono D15.size)
 go_wp2_with fail
 refine (HAG.out _ _ oT0.read).mono ?_
 rintro e u18 ⟨v18, y18, k18, j18, rfl, oH0, oH1, dis18, b18⟩
 have oW0 := oW0.past b18
 have oW1 := oW1.past b18
 have oG0 := oG0.past b18
 have oG1 := oG1.past b18
 have oT0 := oT0.past b18
 have bxA0 := bxA0.past b18
 have bxW0 := bxW0.past b18
 have bxX0 := bxX0.past b18
 have bxG0 := bxG0.past b18
 have z18 := b18.size
 have D18 := D17.trans (b18.mono D17.size)
 obtain ⟨AH1_, cH1_, rfl⟩ := sliceEns oH1.read
 obtain ⟨AH0_3, cH0_3, rfl, _⟩ := aggRi oH0.read
 have bxA0P := bxA0
 have bxA0L := bxA0.lt
 have bxW0P := bxW0
 have bxW0L := bxW0.lt
 have bxX0P := bxX0
 have bxX0L := bxX0.lt
 have bxG0P := bxG0
 have bxG0L := bxG0.lt
 have ba18 := alloc_below u18 (.cells #[.int .i64 L0.cap, .int .i64 L0.next, .bool L0.out, .slice AH0_3 L0.list.length cH0_3] 32)
 have oW0 := oW0.past ba18
 have oW1 := oW1.past ba18
 have oG0 := oG0.past ba18
 have oG1 := oG1.past ba18
 have oT0 := oT0.past ba18
 have oH0 := oH0.past ba18
 have oH1 := oH1.past ba18
 have bxA0 := bxA0.past ba18
 have bxW0 := bxW0.past ba18
 have bxX0 := bxX0.past ba18
 have bxG0 := bxG0.past ba18
 have bxH0 := Bx.new u18 #[.int .i64 L0.cap, .int .i64 L0.next, .bool L0.out, .slice AH0_3 L0.list.length cH0_3] 32
 have zu18 : (u18.alloc (.cells #[.int .i64 L0.cap, .int .i64 L0.next, .bool L0.out, .slice AH0_3 L0.list.length cH0_3] 32)).heap.size = u18.heap.size + 1 := World.size_alloc _ _
 have Da18 := D18.trans (ba18.mono D18.size)
 clear ba18
 clear oT0
 have ybxW00 : _ = (some (.int .i64 L0.cap) : Option Value) := bxW0P.cell (j := 0) rfl
 have ybxW01 : _ = (some (.int .i64 L0.next) : Option Value) := bxW0P.cell (j := 1) rfl
 have ybxW02 : _ = (some (.bool L0.out) : Option Value) := bxW0P.cell (j := 2) rfl
 have ybxW03 : _ = (some (.slice AW0_3 L0.list.length cW0_3) : Option Value) := bxW0P.cell (j := 3) rfl
 go_wp2_with fail
 generalize u18.alloc (.cells #[.int .i64 L0.cap, .int .i64 L0.next, .bool L0.out, .slice AH0_3 L0.list.length cH0_3] 32) = v18_ at oW0 oW1 oG0 oG1 oH0 oH1 bxA0 bxW0 bxX0 bxG0 bxH0 zu18 Da18 ⊢
 clear bxA0P bxA0L
 clear bxW0P bxW0L
 clear bxX0P bxX0L
 clear bxG0P bxG0L
 clear ybxW00 ybxW01 ybxW02 ybxW03
 refine (eqRi _ _ L0 _ oH0.read oW0.read hs0).mono ?_
 rintro e u19 ⟨rfl, b19⟩
 have oW0 := oW0.past b19
 have oW1 := oW1.past b19
 have oG0 := oG0.past b19
 have oG1 := oG1.past b19
 have oH0 := oH0.past b19
 have oH1 := oH1.past b19
 have bxA0 := bxA0.past b19
 have bxW0 := bxW0.past b19
 have bxX0 := bxX0.past b19
 have bxG0 := bxG0.past b19
 have bxH0 := bxH0.past b19
 have z19 := b19.size
 have D19 := Da18.trans (b19.mono Da18.size)
 go_wp2_with fail
 refine (eqEns _ _ L1 _ oH1.read oW1.read hs1).mono ?_
 rintro e u20 ⟨rfl, b20⟩
 have oW0 := oW0.past b20
 have oW1 := oW1.past b20
 have oG0 := oG0.past b20
 have oG1 := oG1.past b20
 have oH0 := oH0.past b20
 have oH1 := oH1.past b20
 have bxA0 := bxA0.past b20
 have bxW0 := bxW0.past b20
 have bxX0 := bxX0.past b20
 have bxG0 := bxG0.past b20
 have bxH0 := bxH0.past b20
 have z20 := b20.size
 have D20 := D19.trans (b20.mono D19.size)
 have ybxG00 : _ = (some (.int .i64 L0.cap) : Option Value) := bxG0.cell (j := 0) rfl
 have ybxG01 : _ = (some (.int .i64 L0.next) : Option Value) := bxG0.cell (j := 1) rfl
 have ybxG02 : _ = (some (.bool L0.out) : Option Value) := bxG0.cell (j := 2) rfl
 have ybxG03 : _ = (some (.slice AG0_3 L0.list.length cG0_3) : Option Value) := bxG0.cell (j := 3) rfl
 go_wp2_with fail
 clear ybxG00 ybxG01 ybxG02 ybxG03
 refine (heldRi _ L0 (1) _ oG0.read (by omega) (by omega) hs0).mono ?_
 rintro e u21 ⟨rfl, b21⟩
 rw [HN0.out]
 have oW0 := oW0.past b21
 have oW1 := oW1.past b21
 have oG0 := oG0.past b21
 have oG1 := oG1.past b21
 have oH0 := oH0.past b21
 have oH1 := oH1.past b21
 have bxA0 := bxA0.past b21
 have bxW0 := bxW0.past b21
 have bxX0 := bxX0.past b21
 have bxG0 := bxG0.past b21
 have bxH0 := bxH0.past b21
 have z21 := b21.size
 have D21 := D20.trans (b21.mono D20.size)
 go_wp2_with fail
 refine (heldEns _ L1 (1 + (n0 : Int)) _ oG1.read (by omega) (by omega) hs1).mono ?_
 rintro e w'_ ⟨rfl, rfl⟩
 rw [HN1.out]
 go_wp2
 go_ret
 exact ⟨rfl, D21⟩
theorem lifted (os : Os) (started : os.Started) (H : Type) (enc : TypeId × Value → H) :
  ReturnsInHanded {} Tryz.checked os 4 .any (Rows.fnExactRingPollSpec.pre6 enc Tryz.prog Tryz.f4 Rows.fnExactRingPollRow.domain false) (Rows.fnExactRingPollSpec.post enc Tryz.prog Tryz.f4 false true false false) := by
 refine returnsInHanded_of_change (C := Tryz.checked) own started (by kernel_rfl) Tryz.func4
  (ChangeSpec.witness6 (enc := enc) (C := Tryz.checked) false ⟨#[], #[.agg #[.int .i64 0, .int .i64 0, .bool false, .slice none 0 0], .int .i64 0], []⟩ 8 (by kernel_rfl) (by kernel_rfl) (by kernel_rfl) (by kernel_rfl)) ?_
 intro W base args ds gs before hval0 hW hcnd _
 have hval : ∀ (j : Nat) t v, Tryz.f4.params[j]? = some t → args[j]? = some v → Value.okWide Tryz.prog W .any base t v := hval0
 have hW' := hW
 obtain ⟨p, q, hA0, hV, rfl, hfz, hnd⟩ := hW
 have hA : DataW.TrodAll enc Tryz.prog W 0 (fun _ => true) true Tryz.f4.params.toList args.toList ds p := hA0
 rw [Tryz.params4] at hA hval
 obtain ⟨v0, vs0, x0, xs0, q0, r0, hargs, rfl, rfl, h0, t0⟩ := trodAll_cons hA
 obtain ⟨v1, vs1, x1, xs1, q1, r1, rfl, rfl, rfl, h1, t1⟩ := trodAll_cons t0
 obtain ⟨rfl, rfl, rfl⟩ := trodAll_nil t1
 obtain rfl : args = #[v0, v1] := by cases args; simp_all
 obtain ⟨rfl, rfl⟩ := trodVars_none hV
 have k0 := h0
 have lt0 : ∀ x ∈ q0, x.block < W.heap.size := by obtain ⟨m, hm⟩ := k0; exact DataW.trod_lt m _ _ _ hm
 have k1 := h1
 have lt1 : ∀ x ∈ q1, x.block < W.heap.size := by obtain ⟨m, hm⟩ := k1; exact DataW.trod_lt m _ _ _ hm
 obtain ⟨cs0, rfl, hsz0⟩ := okWide_struct Tryz.underlying24 (hval 0 24 v0 rfl rfl)
 obtain ⟨f0, hf0⟩ := h0
 obtain ⟨x0, A0_3, c0_3, e0, r0_3, l0⟩ := open_dRi hf0
 obtain rfl : cs0 = #[.int .i64 x0.cap, .int .i64 x0.next, .bool x0.out, .slice A0_3 x0.list.length c0_3] := by cases cs0; simpa [Value.cells] using e0
 obtain ⟨a1, rfl, rfl, rfl, w1⟩ := open_int Tryz.underlying3 (hval 1 3 v1 rfl rfl) h1
 clear hA0 hval0
 refine (walk x0 _ a1 W (rdRi x0 r0_3) l0 w1).mono fun e W' ⟨he, bel⟩ => ?_
 subst he
 exact ⟨_, rfl, _, _, _, [], _, [], hW', trodAll_mk1 (shut_bool Tryz.underlying4 _), (trodAll_cons_mk (Below.trod laidOut (by kernel_rfl) (of_decide_eq_true (by kernel_rfl)) k0 bel lt0) (trodAll_cons_mk (Below.trod laidOut (by kernel_rfl) (of_decide_eq_true (by kernel_rfl)) k1 bel lt1) trodAll_mk0)), rfl, bel.frame _, fun h => by cases h⟩
theorem over : Rows.fnExactRingPollRow.holds Tryz.pinned (OpenSpec.ofChange Rows.fnExactRingPollSpec) :=
 OpenClaim.holds_of_wide 4 Tryz.f4 rfl rfl rfl rfl rfl rfl rfl ⟨rfl, rfl, rfl, rfl, rfl⟩ rfl rfl rfl rfl rfl (by kernel_rfl) Tryz.func4 (by kernel_rfl)
  (of_decide_eq_true (by kernel_rfl)) (by unfold Func.isWrapper; first | (rw [if_pos (by decide +kernel)]; kernel_rfl) | (rw [if_neg (by decide +kernel)]; exact ⟨rfl, rfl⟩))
  (fun os started H enc _ => lifted os started H enc)
theorem proved : Rows.FnExactRingPollSaid := over
end Go.Proofs.YtglklgnggkenhaaGreat.fnExactRingPoll
