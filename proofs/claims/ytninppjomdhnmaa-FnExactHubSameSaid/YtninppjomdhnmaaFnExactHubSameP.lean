/-
  Proved: for every argument (hub, hub), the law FnExactHubSame of this seat's translation returns true (impl.HubSame answers as spec.HubSame does, leaves its arguments alone); no conditions.
-/
import Derived.Test.YtninppjomdhnmaaRows
import Derived.Test.YtninppjomdhnmaaM1
import Derived.WalkKit
import Derived.ProofKit
import Derived.OpenShut
import Derived.ShutString
import Derived.ChangeOld
import Derived.Below
import Derived.Test.YtninppjomdhnmaaM3
import Derived.Test.YtninppjomdhnmaaM4
namespace Go.Proofs.Ytninppjomdhnmaa.fnExactHubSame
open Go.ChangeShapes Go.WideShapes Go.ChangeAt Go.RowKit
open Go.ChangeMaps (open_string shut_string)
open low
set_option linter.unusedVariables false

theorem own : ownKnob Try.prog.godebug = none := by kernel_rfl
set_option maxRecDepth 100000 in
set_option maxHeartbeats 1600000 in
theorem walk (x0 : Hu) (y0 : Value) (x1 : Hu) (y1 : Value) (w : World) (w0 : RdC w w.heap.size (datHu x0) y0) (l0 : LimHu x0) (w1 : RdC w w.heap.size (datHu x1) y1) (l1 : LimHu x1) :
    Calls Try.prog 5 #[y0, y1] w fun e w' => e = .returned (.bool true) ∧ Below w.heap.size w w' := by
  have D0 : Below w.heap.size w w := Below.refl _ _
  have R0 := w0
  obtain ⟨AA0_1, cA0_1, AA0_2, cA0_2, rfl, _, _⟩ := aggHu w0
  have R1 := w1
  obtain ⟨AA1_1, cA1_1, AA1_2, cA1_2, rfl, _, _⟩ := aggHu w1
  obtain ⟨bxA0', bxA1', DE⟩ := two_boxes w #[.bool x0.shut, .slice AA0_1 x0.docs.length cA0_1, .slice AA0_2 x0.subs.length cA0_2, .int .i64 x0.last] #[.bool x1.shut, .slice AA1_1 x1.docs.length cA1_1, .slice AA1_2 x1.subs.length cA1_2, .int .i64 x1.last] 25
  have bxA0 : Bx ((w.alloc (.cells #[.bool x0.shut, .slice AA0_1 x0.docs.length cA0_1, .slice AA0_2 x0.subs.length cA0_2, .int .i64 x0.last] 25)).alloc (.cells #[.bool x1.shut, .slice AA1_1 x1.docs.length cA1_1, .slice AA1_2 x1.subs.length cA1_2, .int .i64 x1.last] 25)) (w.heap.size) #[.bool x0.shut, .slice AA0_1 x0.docs.length cA0_1, .slice AA0_2 x0.subs.length cA0_2, .int .i64 x0.last] 25 := bxA0'
  clear bxA0'
  have bxA1 : Bx ((w.alloc (.cells #[.bool x0.shut, .slice AA0_1 x0.docs.length cA0_1, .slice AA0_2 x0.subs.length cA0_2, .int .i64 x0.last] 25)).alloc (.cells #[.bool x1.shut, .slice AA1_1 x1.docs.length cA1_1, .slice AA1_2 x1.subs.length cA1_2, .int .i64 x1.last] 25)) (w.heap.size + 1) #[.bool x1.shut, .slice AA1_1 x1.docs.length cA1_1, .slice AA1_2 x1.subs.length cA1_2, .int .i64 x1.last] 25 := bxA1'
  clear bxA1'
  have zE : ((w.alloc (.cells #[.bool x0.shut, .slice AA0_1 x0.docs.length cA0_1, .slice AA0_2 x0.subs.length cA0_2, .int .i64 x0.last] 25)).alloc (.cells #[.bool x1.shut, .slice AA1_1 x1.docs.length cA1_1, .slice AA1_2 x1.subs.length cA1_2, .int .i64 x1.last] 25)).heap.size = w.heap.size + 2 := by rw [World.size_alloc, World.size_alloc]
  go_enter Try.func5, Try.ntmps5
  go_wp2_with fail
  generalize ((w.alloc (.cells #[.bool x0.shut, .slice AA0_1 x0.docs.length cA0_1, .slice AA0_2 x0.subs.length cA0_2, .int .i64 x0.last] 25)).alloc (.cells #[.bool x1.shut, .slice AA1_1 x1.docs.length cA1_1, .slice AA1_2 x1.subs.length cA1_2, .int .i64 x1.last] 25)) = wE at bxA0 bxA1 DE zE ⊢
  refine (szHu _ x0 1048576 _ (R0.past DE) (by omega) (by omega) l0).mono ?_
  rintro e u1 ⟨r1, rfl, hr1, b1⟩
  rcases hr1 with rfl | ⟨p1, q1⟩
  · go_wp2
    go_ret
    exact ⟨rfl, DE.trans (b1.mono DE.size)⟩
  have S0 : SmHu x0 := by unfold SmHu; omega
  have t1 : r1 ≤ 1048576 := by omega
  clear q1
  have bxA0 := bxA0.past b1
  have bxA1 := bxA1.past b1
  have z1 := b1.size
  have D1 := DE.trans (b1.mono DE.size)
  have ybxA10 : _ = (some (.bool x1.shut) : Option Value) := bxA1.cell (j := 0) rfl
  have ybxA11 : _ = (some (.slice AA1_1 x1.docs.length cA1_1) : Option Value) := bxA1.cell (j := 1) rfl
  have ybxA12 : _ = (some (.slice AA1_2 x1.subs.length cA1_2) : Option Value) := bxA1.cell (j := 2) rfl
  have ybxA13 : _ = (some (.int .i64 x1.last) : Option Value) := bxA1.cell (j := 3) rfl
  go_wp2_with fail
  clear ybxA10 ybxA11 ybxA12 ybxA13
  refine (szHu _ x1 r1 _ (R1.past D1) (by omega) (by omega) l1).mono ?_
  rintro e u2 ⟨r2, rfl, hr2, b2⟩
  rcases hr2 with rfl | ⟨p2, q2⟩
  · go_wp2
    go_ret
    exact ⟨rfl, D1.trans (b2.mono D1.size)⟩
  have S1 : SmHu x1 := by unfold SmHu; omega
  have t2 : r2 ≤ 1048576 := by omega
  clear q2
  have bxA0 := bxA0.past b2
  have bxA1 := bxA1.past b2
  have z2 := b2.size
  have D2 := D1.trans (b2.mono D1.size)
  have lbxA0 := bxA0.lt
  have ybxA00 : u2.cell? ⟨w.heap.size, 0, none⟩ = some (.bool x0.shut) := bxA0.cell (j := 0) rfl
  have ybxA01 : u2.cell? ⟨w.heap.size, 1, none⟩ = some (.slice AA0_1 x0.docs.length cA0_1) := bxA0.cell (j := 1) rfl
  have ybxA02 : u2.cell? ⟨w.heap.size, 2, none⟩ = some (.slice AA0_2 x0.subs.length cA0_2) := bxA0.cell (j := 2) rfl
  have ybxA03 : u2.cell? ⟨w.heap.size, 3, none⟩ = some (.int .i64 x0.last) := bxA0.cell (j := 3) rfl
  have lbxA1 := bxA1.lt
  have ybxA10 : u2.cell? ⟨w.heap.size + 1, 0, none⟩ = some (.bool x1.shut) := bxA1.cell (j := 0) rfl
  have ybxA11 : u2.cell? ⟨w.heap.size + 1, 1, none⟩ = some (.slice AA1_1 x1.docs.length cA1_1) := bxA1.cell (j := 1) rfl
  have ybxA12 : u2.cell? ⟨w.heap.size + 1, 2, none⟩ = some (.slice AA1_2 x1.subs.length cA1_2) := bxA1.cell (j := 2) rfl
  have ybxA13 : u2.cell? ⟨w.heap.size + 1, 3, none⟩ = some (.int .i64 x1.last) := bxA1.cell (j := 3) rfl
  have SX := Lib.hid (show ∀ (W W1 : World), (W.cell? ⟨w.heap.size, 0, none⟩ = some (.bool x0.shut) ∧ W.cell? ⟨w.heap.size, 1, none⟩ = some (.slice AA0_1 x0.docs.length cA0_1) ∧ W.cell? ⟨w.heap.size, 2, none⟩ = some (.slice AA0_2 x0.subs.length cA0_2) ∧ W.cell? ⟨w.heap.size, 3, none⟩ = some (.int .i64 x0.last) ∧ W.cell? ⟨w.heap.size + 1, 0, none⟩ = some (.bool x1.shut) ∧ W.cell? ⟨w.heap.size + 1, 1, none⟩ = some (.slice AA1_1 x1.docs.length cA1_1) ∧ W.cell? ⟨w.heap.size + 1, 2, none⟩ = some (.slice AA1_2 x1.subs.length cA1_2) ∧ W.cell? ⟨w.heap.size + 1, 3, none⟩ = some (.int .i64 x1.last) ∧ KS u2 W) → Below W.heap.size W W1 → (W1.cell? ⟨w.heap.size, 0, none⟩ = some (.bool x0.shut) ∧ W1.cell? ⟨w.heap.size, 1, none⟩ = some (.slice AA0_1 x0.docs.length cA0_1) ∧ W1.cell? ⟨w.heap.size, 2, none⟩ = some (.slice AA0_2 x0.subs.length cA0_2) ∧ W1.cell? ⟨w.heap.size, 3, none⟩ = some (.int .i64 x0.last) ∧ W1.cell? ⟨w.heap.size + 1, 0, none⟩ = some (.bool x1.shut) ∧ W1.cell? ⟨w.heap.size + 1, 1, none⟩ = some (.slice AA1_1 x1.docs.length cA1_1) ∧ W1.cell? ⟨w.heap.size + 1, 2, none⟩ = some (.slice AA1_2 x1.subs.length cA1_2) ∧ W1.cell? ⟨w.heap.size + 1, 3, none⟩ = some (.int .i64 x1.last) ∧ KS u2 W1) from fun W W1 h hb => by have hk := h.2.2.2.2.2.2.2.2; have hkk : KS u2 W1 := hk.trans (hb.mono hk.size); exact ⟨(hkk.cell (p := ⟨w.heap.size, 0, none⟩) lbxA0).trans ybxA00, (hkk.cell (p := ⟨w.heap.size, 1, none⟩) lbxA0).trans ybxA01, (hkk.cell (p := ⟨w.heap.size, 2, none⟩) lbxA0).trans ybxA02, (hkk.cell (p := ⟨w.heap.size, 3, none⟩) lbxA0).trans ybxA03, (hkk.cell (p := ⟨w.heap.size + 1, 0, none⟩) lbxA1).trans ybxA10, (hkk.cell (p := ⟨w.heap.size + 1, 1, none⟩) lbxA1).trans ybxA11, (hkk.cell (p := ⟨w.heap.size + 1, 2, none⟩) lbxA1).trans ybxA12, (hkk.cell (p := ⟨w.heap.size + 1, 3, none⟩) lbxA1).trans ybxA13, hkk⟩)
  have RA0 := Lib.hid (show ∀ (W : World), (W.cell? ⟨w.heap.size, 0, none⟩ = some (.bool x0.shut) ∧ W.cell? ⟨w.heap.size, 1, none⟩ = some (.slice AA0_1 x0.docs.length cA0_1) ∧ W.cell? ⟨w.heap.size, 2, none⟩ = some (.slice AA0_2 x0.subs.length cA0_2) ∧ W.cell? ⟨w.heap.size, 3, none⟩ = some (.int .i64 x0.last) ∧ W.cell? ⟨w.heap.size + 1, 0, none⟩ = some (.bool x1.shut) ∧ W.cell? ⟨w.heap.size + 1, 1, none⟩ = some (.slice AA1_1 x1.docs.length cA1_1) ∧ W.cell? ⟨w.heap.size + 1, 2, none⟩ = some (.slice AA1_2 x1.subs.length cA1_2) ∧ W.cell? ⟨w.heap.size + 1, 3, none⟩ = some (.int .i64 x1.last) ∧ KS u2 W) → RdC W W.heap.size (datHu x0) (.agg #[.bool x0.shut, .slice AA0_1 x0.docs.length cA0_1, .slice AA0_2 x0.subs.length cA0_2, .int .i64 x0.last]) from fun W h => by have hk : Below u2.heap.size u2 W := h.2.2.2.2.2.2.2.2; exact R0.past (D2.trans (hk.mono D2.size)))
  have RA1 := Lib.hid (show ∀ (W : World), (W.cell? ⟨w.heap.size, 0, none⟩ = some (.bool x0.shut) ∧ W.cell? ⟨w.heap.size, 1, none⟩ = some (.slice AA0_1 x0.docs.length cA0_1) ∧ W.cell? ⟨w.heap.size, 2, none⟩ = some (.slice AA0_2 x0.subs.length cA0_2) ∧ W.cell? ⟨w.heap.size, 3, none⟩ = some (.int .i64 x0.last) ∧ W.cell? ⟨w.heap.size + 1, 0, none⟩ = some (.bool x1.shut) ∧ W.cell? ⟨w.heap.size + 1, 1, none⟩ = some (.slice AA1_1 x1.docs.length cA1_1) ∧ W.cell? ⟨w.heap.size + 1, 2, none⟩ = some (.slice AA1_2 x1.subs.length cA1_2) ∧ W.cell? ⟨w.heap.size + 1, 3, none⟩ = some (.int .i64 x1.last) ∧ KS u2 W) → RdC W W.heap.size (datHu x1) (.agg #[.bool x1.shut, .slice AA1_1 x1.docs.length cA1_1, .slice AA1_2 x1.subs.length cA1_2, .int .i64 x1.last]) from fun W h => by have hk : Below u2.heap.size u2 W := h.2.2.2.2.2.2.2.2; exact R1.past (D2.trans (hk.mono D2.size)))
  have hS0 : u2.drew.cell? ⟨w.heap.size, 0, none⟩ = some (.bool x0.shut) ∧ u2.drew.cell? ⟨w.heap.size, 1, none⟩ = some (.slice AA0_1 x0.docs.length cA0_1) ∧ u2.drew.cell? ⟨w.heap.size, 2, none⟩ = some (.slice AA0_2 x0.subs.length cA0_2) ∧ u2.drew.cell? ⟨w.heap.size, 3, none⟩ = some (.int .i64 x0.last) ∧ u2.drew.cell? ⟨w.heap.size + 1, 0, none⟩ = some (.bool x1.shut) ∧ u2.drew.cell? ⟨w.heap.size + 1, 1, none⟩ = some (.slice AA1_1 x1.docs.length cA1_1) ∧ u2.drew.cell? ⟨w.heap.size + 1, 2, none⟩ = some (.slice AA1_2 x1.subs.length cA1_2) ∧ u2.drew.cell? ⟨w.heap.size + 1, 3, none⟩ = some (.int .i64 x1.last) ∧ KS u2 u2.drew := ⟨ybxA00, ybxA01, ybxA02, ybxA03, ybxA10, ybxA11, ybxA12, ybxA13, KS.start _⟩
  clear ybxA00 ybxA01 ybxA02 ybxA03 ybxA10 ybxA11 ybxA12 ybxA13
  go_wp2
  go_region_held3 (fun W => W.cell? ⟨w.heap.size, 0, none⟩ = some (.bool x0.shut) ∧ W.cell? ⟨w.heap.size, 1, none⟩ = some (.slice AA0_1 x0.docs.length cA0_1) ∧ W.cell? ⟨w.heap.size, 2, none⟩ = some (.slice AA0_2 x0.subs.length cA0_2) ∧ W.cell? ⟨w.heap.size, 3, none⟩ = some (.int .i64 x0.last) ∧ W.cell? ⟨w.heap.size + 1, 0, none⟩ = some (.bool x1.shut) ∧ W.cell? ⟨w.heap.size + 1, 1, none⟩ = some (.slice AA1_1 x1.docs.length cA1_1) ∧ W.cell? ⟨w.heap.size + 1, 2, none⟩ = some (.slice AA1_2 x1.subs.length cA1_2) ∧ W.cell? ⟨w.heap.size + 1, 3, none⟩ = some (.int .i64 x1.last) ∧ KS u2 W)
    (first | assumption | exact hS0 | (exact SX.out _ _ (by assumption) b3) | (exact SX.out _ _ (by assumption) b4) | (exact SX.out _ _ (by assumption) b5))
    (first | (go_at_call 8; ((with_reducible refine (toHu (.agg #[.bool x0.shut, .slice AA0_1 x0.docs.length cA0_1, .slice AA0_2 x0.subs.length cA0_2, .int .i64 x0.last]) x0 _ (RA0.out _ (by assumption)) S0).mono ?_); rintro e u3 ⟨v3, rfl, o3, b3⟩; obtain ⟨A3_1, c3_1, A3_2, c3_2, rfl, _, _⟩ := aggHu o3.read)) | (go_at_call 8; ((with_reducible refine (toHu (.agg #[.bool x1.shut, .slice AA1_1 x1.docs.length cA1_1, .slice AA1_2 x1.subs.length cA1_2, .int .i64 x1.last]) x1 _ (RA1.out _ (by assumption)) S1).mono ?_); rintro e u4 ⟨v4, rfl, o4, b4⟩; obtain ⟨A4_1, c4_1, A4_2, c4_2, rfl, _, _⟩ := aggHu o4.read; have o3 := o3.past b4)) | (go_at_call 13; refine (specHubSame_d _ _ x0 x1 _ (by exact o3.read) (by exact o4.read) S0 S1).mono ?_; rintro e u5 ⟨rfl, b5⟩))
  rename_i hS2
  have HK5 : Below u2.heap.size u2 u5 := hS2.2.2.2.2.2.2.2.2
  clear hS2 hS0 SX RA0 RA1
  clear lbxA0 lbxA1
  have bxA0 := bxA0.past HK5
  have bxA1 := bxA1.past HK5
  have z5 := HK5.size
  have D5 := D2.trans (HK5.mono D2.size)
  clear o3 o4 b3 b4 b5
  generalize hL0 : (hubSameB x0 x1) = L0 at *
  have HL0 := Lib.hid hL0
  clear hL0
  have nb0 : (L0 != L0) = false := by simp
  have ybxA00 : _ = (some (.bool x0.shut) : Option Value) := bxA0.cell (j := 0) rfl
  have ybxA01 : _ = (some (.slice AA0_1 x0.docs.length cA0_1) : Option Value) := bxA0.cell (j := 1) rfl
  have ybxA02 : _ = (some (.slice AA0_2 x0.subs.length cA0_2) : Option Value) := bxA0.cell (j := 2) rfl
  have ybxA03 : _ = (some (.int .i64 x0.last) : Option Value) := bxA0.cell (j := 3) rfl
  go_wp2_with fail
  clear ybxA00 ybxA01 ybxA02 ybxA03
  refine (toHu _ x0 _ (R0.past D5) S0).mono ?_
  rintro e u6 ⟨v6, rfl, oX00, b6⟩
  obtain ⟨k6, oX0⟩ := oX00.blocks
  clear oX00
  obtain ⟨A6_1, c6_1, A6_2, c6_2, rfl, _, _⟩ := aggHu oX0.read
  have bxA0 := bxA0.past b6
  have bxA1 := bxA1.past b6
  have z6 := b6.size
  have D6 := D5.trans (b6.mono D5.size)
  have bxA0P := bxA0
  have bxA0L := bxA0.lt
  have bxA1P := bxA1
  have bxA1L := bxA1.lt
  have ba6 := alloc_below u6 (.cells #[.bool x0.shut, .slice A6_1 x0.docs.length c6_1, .slice A6_2 x0.subs.length c6_2, .int .i64 x0.last] 31)
  have oX0 := oX0.past ba6
  have bxA0 := bxA0.past ba6
  have bxA1 := bxA1.past ba6
  have bxX0 := Bx.new u6 #[.bool x0.shut, .slice A6_1 x0.docs.length c6_1, .slice A6_2 x0.subs.length c6_2, .int .i64 x0.last] 31
  have zu6 : (u6.alloc (.cells #[.bool x0.shut, .slice A6_1 x0.docs.length c6_1, .slice A6_2 x0.subs.length c6_2, .int .i64 x0.last] 31)).heap.size = u6.heap.size + 1 := World.size_alloc _ _
  have Da6 := D6.trans (ba6.mono D6.size)
  clear ba6
  have ybxA10 : _ = (some (.bool x1.shut) : Option Value) := bxA1P.cell (j := 0) rfl
  have ybxA11 : _ = (some (.slice AA1_1 x1.docs.length cA1_1) : Option Value) := bxA1P.cell (j := 1) rfl
  have ybxA12 : _ = (some (.slice AA1_2 x1.subs.length cA1_2) : Option Value) := bxA1P.cell (j := 2) rfl
  have ybxA13 : _ = (some (.int .i64 x1.last) : Option Value) := bxA1P.cell (j := 3) rfl
  go_wp2_with fail
  generalize u6.alloc (.cells #[.bool x0.shut, .slice A6_1 x0.docs.length c6_1, .slice A6_2 x0.subs.length c6_2, .int .i64 x0.last] 31) = v6_ at oX0 bxA0 bxA1 bxX0 zu6 Da6 ⊢
  clear bxA0P bxA0L
  clear bxA1P bxA1L
  clear ybxA10 ybxA11 ybxA12 ybxA13
  refine (toHu _ x1 _ (R1.past Da6) S1).mono ?_
  rintro e u7 ⟨v7, rfl, oX10, b7⟩
  obtain ⟨k7, oX1⟩ := oX10.blocks
  clear oX10
  obtain ⟨A7_1, c7_1, A7_2, c7_2, rfl, _, _⟩ := aggHu oX1.read
  have oX0 := oX0.past b7
  have bxA0 := bxA0.past b7
  have bxA1 := bxA1.past b7
  have bxX0 := bxX0.past b7
  have z7 := b7.size
  have D7 := Da6.trans (b7.mono Da6.size)
  have bxA0P := bxA0
  have bxA0L := bxA0.lt
  have bxA1P := bxA1
  have bxA1L := bxA1.lt
  have bxX0P := bxX0
  have bxX0L := bxX0.lt
  have ba7 := alloc_below u7 (.cells #[.bool x1.shut, .slice A7_1 x1.docs.length c7_1, .slice A7_2 x1.subs.length c7_2, .int .i64 x1.last] 31)
  have oX0 := oX0.past ba7
  have oX1 := oX1.past ba7
  have bxA0 := bxA0.past ba7
  have bxA1 := bxA1.past ba7
  have bxX0 := bxX0.past ba7
  have bxX1 := Bx.new u7 #[.bool x1.shut, .slice A7_1 x1.docs.length c7_1, .slice A7_2 x1.subs.length c7_2, .int .i64 x1.last] 31
  have zu7 : (u7.alloc (.cells #[.bool x1.shut, .slice A7_1 x1.docs.length c7_1, .slice A7_2 x1.subs.length c7_2, .int .i64 x1.last] 31)).heap.size = u7.heap.size + 1 := World.size_alloc _ _
  have Da7 := D7.trans (ba7.mono D7.size)
  clear ba7
  have ybxX00 : _ = (some (.bool x0.shut) : Option Value) := bxX0P.cell (j := 0) rfl
  have ybxX01 : _ = (some (.slice A6_1 x0.docs.length c6_1) : Option Value) := bxX0P.cell (j := 1) rfl
  have ybxX02 : _ = (some (.slice A6_2 x0.subs.length c6_2) : Option Value) := bxX0P.cell (j := 2) rfl
  have ybxX03 : _ = (some (.int .i64 x0.last) : Option Value) := bxX0P.cell (j := 3) rfl
  go_wp2_with fail
  generalize u7.alloc (.cells #[.bool x1.shut, .slice A7_1 x1.docs.length c7_1, .slice A7_2 x1.subs.length c7_2, .int .i64 x1.last] 31) = v7_ at oX0 oX1 bxA0 bxA1 bxX0 bxX1 zu7 Da7 ⊢
  clear bxA0P bxA0L
  clear bxA1P bxA1L
  clear bxX0P bxX0L
  clear ybxX00 ybxX01 ybxX02 ybxX03
  refine (implHubSame_d _ _ x0 x1 _ oX0.read oX1.read S0 S1).mono ?_
  rw [HL0.out]
  rintro e u8 ⟨rfl, b8⟩
  have oX0 := oX0.past b8
  have oX1 := oX1.past b8
  have bxA0 := bxA0.past b8
  have bxA1 := bxA1.past b8
  have bxX0 := bxX0.past b8
  have bxX1 := bxX1.past b8
  have z8 := b8.size
  have D8 := Da7.trans (b8.mono Da7.size)
  have lbxX0 := bxX0.lt
  have ybxX00 : u8.cell? ⟨u6.heap.size, 0, none⟩ = some (.bool x0.shut) := bxX0.cell (j := 0) rfl
  have ybxX01 : u8.cell? ⟨u6.heap.size, 1, none⟩ = some (.slice A6_1 x0.docs.length c6_1) := bxX0.cell (j := 1) rfl
  have ybxX02 : u8.cell? ⟨u6.heap.size, 2, none⟩ = some (.slice A6_2 x0.subs.length c6_2) := bxX0.cell (j := 2) rfl
  have ybxX03 : u8.cell? ⟨u6.heap.size, 3, none⟩ = some (.int .i64 x0.last) := bxX0.cell (j := 3) rfl
  have lbxA0 := bxA0.lt
  have ybxA00 : u8.cell? ⟨w.heap.size, 0, none⟩ = some (.bool x0.shut) := bxA0.cell (j := 0) rfl
  have ybxA01 : u8.cell? ⟨w.heap.size, 1, none⟩ = some (.slice AA0_1 x0.docs.length cA0_1) := bxA0.cell (j := 1) rfl
  have ybxA02 : u8.cell? ⟨w.heap.size, 2, none⟩ = some (.slice AA0_2 x0.subs.length cA0_2) := bxA0.cell (j := 2) rfl
  have ybxA03 : u8.cell? ⟨w.heap.size, 3, none⟩ = some (.int .i64 x0.last) := bxA0.cell (j := 3) rfl
  have SX := Lib.hid (show ∀ (W W1 : World), (W.cell? ⟨u6.heap.size, 0, none⟩ = some (.bool x0.shut) ∧ W.cell? ⟨u6.heap.size, 1, none⟩ = some (.slice A6_1 x0.docs.length c6_1) ∧ W.cell? ⟨u6.heap.size, 2, none⟩ = some (.slice A6_2 x0.subs.length c6_2) ∧ W.cell? ⟨u6.heap.size, 3, none⟩ = some (.int .i64 x0.last) ∧ W.cell? ⟨w.heap.size, 0, none⟩ = some (.bool x0.shut) ∧ W.cell? ⟨w.heap.size, 1, none⟩ = some (.slice AA0_1 x0.docs.length cA0_1) ∧ W.cell? ⟨w.heap.size, 2, none⟩ = some (.slice AA0_2 x0.subs.length cA0_2) ∧ W.cell? ⟨w.heap.size, 3, none⟩ = some (.int .i64 x0.last) ∧ KS u8 W) → Below W.heap.size W W1 → (W1.cell? ⟨u6.heap.size, 0, none⟩ = some (.bool x0.shut) ∧ W1.cell? ⟨u6.heap.size, 1, none⟩ = some (.slice A6_1 x0.docs.length c6_1) ∧ W1.cell? ⟨u6.heap.size, 2, none⟩ = some (.slice A6_2 x0.subs.length c6_2) ∧ W1.cell? ⟨u6.heap.size, 3, none⟩ = some (.int .i64 x0.last) ∧ W1.cell? ⟨w.heap.size, 0, none⟩ = some (.bool x0.shut) ∧ W1.cell? ⟨w.heap.size, 1, none⟩ = some (.slice AA0_1 x0.docs.length cA0_1) ∧ W1.cell? ⟨w.heap.size, 2, none⟩ = some (.slice AA0_2 x0.subs.length cA0_2) ∧ W1.cell? ⟨w.heap.size, 3, none⟩ = some (.int .i64 x0.last) ∧ KS u8 W1) from fun W W1 h hb => by have hk := h.2.2.2.2.2.2.2.2; have hkk : KS u8 W1 := hk.trans (hb.mono hk.size); exact ⟨(hkk.cell (p := ⟨u6.heap.size, 0, none⟩) lbxX0).trans ybxX00, (hkk.cell (p := ⟨u6.heap.size, 1, none⟩) lbxX0).trans ybxX01, (hkk.cell (p := ⟨u6.heap.size, 2, none⟩) lbxX0).trans ybxX02, (hkk.cell (p := ⟨u6.heap.size, 3, none⟩) lbxX0).trans ybxX03, (hkk.cell (p := ⟨w.heap.size, 0, none⟩) lbxA0).trans ybxA00, (hkk.cell (p := ⟨w.heap.size, 1, none⟩) lbxA0).trans ybxA01, (hkk.cell (p := ⟨w.heap.size, 2, none⟩) lbxA0).trans ybxA02, (hkk.cell (p := ⟨w.heap.size, 3, none⟩) lbxA0).trans ybxA03, hkk⟩)
  have RX := Lib.hid (show ∀ (W : World), (W.cell? ⟨u6.heap.size, 0, none⟩ = some (.bool x0.shut) ∧ W.cell? ⟨u6.heap.size, 1, none⟩ = some (.slice A6_1 x0.docs.length c6_1) ∧ W.cell? ⟨u6.heap.size, 2, none⟩ = some (.slice A6_2 x0.subs.length c6_2) ∧ W.cell? ⟨u6.heap.size, 3, none⟩ = some (.int .i64 x0.last) ∧ W.cell? ⟨w.heap.size, 0, none⟩ = some (.bool x0.shut) ∧ W.cell? ⟨w.heap.size, 1, none⟩ = some (.slice AA0_1 x0.docs.length cA0_1) ∧ W.cell? ⟨w.heap.size, 2, none⟩ = some (.slice AA0_2 x0.subs.length cA0_2) ∧ W.cell? ⟨w.heap.size, 3, none⟩ = some (.int .i64 x0.last) ∧ KS u8 W) → RdC W W.heap.size (datHu x0) (.agg #[.bool x0.shut, .slice A6_1 x0.docs.length c6_1, .slice A6_2 x0.subs.length c6_2, .int .i64 x0.last]) from fun W h => by have hk : Below u8.heap.size u8 W := h.2.2.2.2.2.2.2.2; exact (oX0.past hk).read)
  have RA := Lib.hid (show ∀ (W : World), (W.cell? ⟨u6.heap.size, 0, none⟩ = some (.bool x0.shut) ∧ W.cell? ⟨u6.heap.size, 1, none⟩ = some (.slice A6_1 x0.docs.length c6_1) ∧ W.cell? ⟨u6.heap.size, 2, none⟩ = some (.slice A6_2 x0.subs.length c6_2) ∧ W.cell? ⟨u6.heap.size, 3, none⟩ = some (.int .i64 x0.last) ∧ W.cell? ⟨w.heap.size, 0, none⟩ = some (.bool x0.shut) ∧ W.cell? ⟨w.heap.size, 1, none⟩ = some (.slice AA0_1 x0.docs.length cA0_1) ∧ W.cell? ⟨w.heap.size, 2, none⟩ = some (.slice AA0_2 x0.subs.length cA0_2) ∧ W.cell? ⟨w.heap.size, 3, none⟩ = some (.int .i64 x0.last) ∧ KS u8 W) → RdC W W.heap.size (datHu x0) (.agg #[.bool x0.shut, .slice AA0_1 x0.docs.length cA0_1, .slice AA0_2 x0.subs.length cA0_2, .int .i64 x0.last]) from fun W h => by have hk : Below u8.heap.size u8 W := h.2.2.2.2.2.2.2.2; exact R0.past (D8.trans (hk.mono D8.size)))
  have hS0 : u8.drew.cell? ⟨u6.heap.size, 0, none⟩ = some (.bool x0.shut) ∧ u8.drew.cell? ⟨u6.heap.size, 1, none⟩ = some (.slice A6_1 x0.docs.length c6_1) ∧ u8.drew.cell? ⟨u6.heap.size, 2, none⟩ = some (.slice A6_2 x0.subs.length c6_2) ∧ u8.drew.cell? ⟨u6.heap.size, 3, none⟩ = some (.int .i64 x0.last) ∧ u8.drew.cell? ⟨w.heap.size, 0, none⟩ = some (.bool x0.shut) ∧ u8.drew.cell? ⟨w.heap.size, 1, none⟩ = some (.slice AA0_1 x0.docs.length cA0_1) ∧ u8.drew.cell? ⟨w.heap.size, 2, none⟩ = some (.slice AA0_2 x0.subs.length cA0_2) ∧ u8.drew.cell? ⟨w.heap.size, 3, none⟩ = some (.int .i64 x0.last) ∧ KS u8 u8.drew := ⟨ybxX00, ybxX01, ybxX02, ybxX03, ybxA00, ybxA01, ybxA02, ybxA03, KS.start _⟩
  clear ybxX00 ybxX01 ybxX02 ybxX03 ybxA00 ybxA01 ybxA02 ybxA03
  go_wp2
  go_region_held3 (fun W => W.cell? ⟨u6.heap.size, 0, none⟩ = some (.bool x0.shut) ∧ W.cell? ⟨u6.heap.size, 1, none⟩ = some (.slice A6_1 x0.docs.length c6_1) ∧ W.cell? ⟨u6.heap.size, 2, none⟩ = some (.slice A6_2 x0.subs.length c6_2) ∧ W.cell? ⟨u6.heap.size, 3, none⟩ = some (.int .i64 x0.last) ∧ W.cell? ⟨w.heap.size, 0, none⟩ = some (.bool x0.shut) ∧ W.cell? ⟨w.heap.size, 1, none⟩ = some (.slice AA0_1 x0.docs.length cA0_1) ∧ W.cell? ⟨w.heap.size, 2, none⟩ = some (.slice AA0_2 x0.subs.length cA0_2) ∧ W.cell? ⟨w.heap.size, 3, none⟩ = some (.int .i64 x0.last) ∧ KS u8 W)
    (first | assumption | exact hS0 | (exact SX.out _ _ (by assumption) b9) | (exact SX.out _ _ (by assumption) b10))
    (first | (go_at_call 8; refine (toHu _ x0 _ (by exact RA.out _ (by assumption)) S0).mono ?_; rintro e u9 ⟨v9, rfl, o9, b9⟩; obtain ⟨A9_1, c9_1, A9_2, c9_2, rfl, _, _⟩ := aggHu o9.read) | (go_at_call 10; refine (eqHu _ _ x0 _ (by exact RX.out _ (by assumption)) (by exact o9.read) S0).mono ?_; rintro e u10 ⟨rfl, b10⟩))
  rename_i hS2
  have HK10 : Below u8.heap.size u8 u10 := hS2.2.2.2.2.2.2.2.2
  clear hS2 hS0 SX RX RA
  clear lbxX0 lbxA0
  have oX0 := oX0.past HK10
  have oX1 := oX1.past HK10
  have bxA0 := bxA0.past HK10
  have bxA1 := bxA1.past HK10
  have bxX0 := bxX0.past HK10
  have bxX1 := bxX1.past HK10
  have z10 := HK10.size
  have D10 := D8.trans (HK10.mono D8.size)
  clear o9 b9 b10
  have lbxX1 := bxX1.lt
  have ybxX10 : u10.cell? ⟨u7.heap.size, 0, none⟩ = some (.bool x1.shut) := bxX1.cell (j := 0) rfl
  have ybxX11 : u10.cell? ⟨u7.heap.size, 1, none⟩ = some (.slice A7_1 x1.docs.length c7_1) := bxX1.cell (j := 1) rfl
  have ybxX12 : u10.cell? ⟨u7.heap.size, 2, none⟩ = some (.slice A7_2 x1.subs.length c7_2) := bxX1.cell (j := 2) rfl
  have ybxX13 : u10.cell? ⟨u7.heap.size, 3, none⟩ = some (.int .i64 x1.last) := bxX1.cell (j := 3) rfl
  have lbxA1 := bxA1.lt
  have ybxA10 : u10.cell? ⟨w.heap.size + 1, 0, none⟩ = some (.bool x1.shut) := bxA1.cell (j := 0) rfl
  have ybxA11 : u10.cell? ⟨w.heap.size + 1, 1, none⟩ = some (.slice AA1_1 x1.docs.length cA1_1) := bxA1.cell (j := 1) rfl
  have ybxA12 : u10.cell? ⟨w.heap.size + 1, 2, none⟩ = some (.slice AA1_2 x1.subs.length cA1_2) := bxA1.cell (j := 2) rfl
  have ybxA13 : u10.cell? ⟨w.heap.size + 1, 3, none⟩ = some (.int .i64 x1.last) := bxA1.cell (j := 3) rfl
  have SX := Lib.hid (show ∀ (W W1 : World), (W.cell? ⟨u7.heap.size, 0, none⟩ = some (.bool x1.shut) ∧ W.cell? ⟨u7.heap.size, 1, none⟩ = some (.slice A7_1 x1.docs.length c7_1) ∧ W.cell? ⟨u7.heap.size, 2, none⟩ = some (.slice A7_2 x1.subs.length c7_2) ∧ W.cell? ⟨u7.heap.size, 3, none⟩ = some (.int .i64 x1.last) ∧ W.cell? ⟨w.heap.size + 1, 0, none⟩ = some (.bool x1.shut) ∧ W.cell? ⟨w.heap.size + 1, 1, none⟩ = some (.slice AA1_1 x1.docs.length cA1_1) ∧ W.cell? ⟨w.heap.size + 1, 2, none⟩ = some (.slice AA1_2 x1.subs.length cA1_2) ∧ W.cell? ⟨w.heap.size + 1, 3, none⟩ = some (.int .i64 x1.last) ∧ KS u10 W) → Below W.heap.size W W1 → (W1.cell? ⟨u7.heap.size, 0, none⟩ = some (.bool x1.shut) ∧ W1.cell? ⟨u7.heap.size, 1, none⟩ = some (.slice A7_1 x1.docs.length c7_1) ∧ W1.cell? ⟨u7.heap.size, 2, none⟩ = some (.slice A7_2 x1.subs.length c7_2) ∧ W1.cell? ⟨u7.heap.size, 3, none⟩ = some (.int .i64 x1.last) ∧ W1.cell? ⟨w.heap.size + 1, 0, none⟩ = some (.bool x1.shut) ∧ W1.cell? ⟨w.heap.size + 1, 1, none⟩ = some (.slice AA1_1 x1.docs.length cA1_1) ∧ W1.cell? ⟨w.heap.size + 1, 2, none⟩ = some (.slice AA1_2 x1.subs.length cA1_2) ∧ W1.cell? ⟨w.heap.size + 1, 3, none⟩ = some (.int .i64 x1.last) ∧ KS u10 W1) from fun W W1 h hb => by have hk := h.2.2.2.2.2.2.2.2; have hkk : KS u10 W1 := hk.trans (hb.mono hk.size); exact ⟨(hkk.cell (p := ⟨u7.heap.size, 0, none⟩) lbxX1).trans ybxX10, (hkk.cell (p := ⟨u7.heap.size, 1, none⟩) lbxX1).trans ybxX11, (hkk.cell (p := ⟨u7.heap.size, 2, none⟩) lbxX1).trans ybxX12, (hkk.cell (p := ⟨u7.heap.size, 3, none⟩) lbxX1).trans ybxX13, (hkk.cell (p := ⟨w.heap.size + 1, 0, none⟩) lbxA1).trans ybxA10, (hkk.cell (p := ⟨w.heap.size + 1, 1, none⟩) lbxA1).trans ybxA11, (hkk.cell (p := ⟨w.heap.size + 1, 2, none⟩) lbxA1).trans ybxA12, (hkk.cell (p := ⟨w.heap.size + 1, 3, none⟩) lbxA1).trans ybxA13, hkk⟩)
  have RX := Lib.hid (show ∀ (W : World), (W.cell? ⟨u7.heap.size, 0, none⟩ = some (.bool x1.shut) ∧ W.cell? ⟨u7.heap.size, 1, none⟩ = some (.slice A7_1 x1.docs.length c7_1) ∧ W.cell? ⟨u7.heap.size, 2, none⟩ = some (.slice A7_2 x1.subs.length c7_2) ∧ W.cell? ⟨u7.heap.size, 3, none⟩ = some (.int .i64 x1.last) ∧ W.cell? ⟨w.heap.size + 1, 0, none⟩ = some (.bool x1.shut) ∧ W.cell? ⟨w.heap.size + 1, 1, none⟩ = some (.slice AA1_1 x1.docs.length cA1_1) ∧ W.cell? ⟨w.heap.size + 1, 2, none⟩ = some (.slice AA1_2 x1.subs.length cA1_2) ∧ W.cell? ⟨w.heap.size + 1, 3, none⟩ = some (.int .i64 x1.last) ∧ KS u10 W) → RdC W W.heap.size (datHu x1) (.agg #[.bool x1.shut, .slice A7_1 x1.docs.length c7_1, .slice A7_2 x1.subs.length c7_2, .int .i64 x1.last]) from fun W h => by have hk : Below u10.heap.size u10 W := h.2.2.2.2.2.2.2.2; exact (oX1.past hk).read)
  have RA := Lib.hid (show ∀ (W : World), (W.cell? ⟨u7.heap.size, 0, none⟩ = some (.bool x1.shut) ∧ W.cell? ⟨u7.heap.size, 1, none⟩ = some (.slice A7_1 x1.docs.length c7_1) ∧ W.cell? ⟨u7.heap.size, 2, none⟩ = some (.slice A7_2 x1.subs.length c7_2) ∧ W.cell? ⟨u7.heap.size, 3, none⟩ = some (.int .i64 x1.last) ∧ W.cell? ⟨w.heap.size + 1, 0, none⟩ = some (.bool x1.shut) ∧ W.cell? ⟨w.heap.size + 1, 1, none⟩ = some (.slice AA1_1 x1.docs.length cA1_1) ∧ W.cell? ⟨w.heap.size + 1, 2, none⟩ = some (.slice AA1_2 x1.subs.length cA1_2) ∧ W.cell? ⟨w.heap.size + 1, 3, none⟩ = some (.int .i64 x1.last) ∧ KS u10 W) → RdC W W.heap.size (datHu x1) (.agg #[.bool x1.shut, .slice AA1_1 x1.docs.length cA1_1, .slice AA1_2 x1.subs.length cA1_2, .int .i64 x1.last]) from fun W h => by have hk : Below u10.heap.size u10 W := h.2.2.2.2.2.2.2.2; exact R1.past (D10.trans (hk.mono D10.size)))
  have hS0 : u10.drew.cell? ⟨u7.heap.size, 0, none⟩ = some (.bool x1.shut) ∧ u10.drew.cell? ⟨u7.heap.size, 1, none⟩ = some (.slice A7_1 x1.docs.length c7_1) ∧ u10.drew.cell? ⟨u7.heap.size, 2, none⟩ = some (.slice A7_2 x1.subs.length c7_2) ∧ u10.drew.cell? ⟨u7.heap.size, 3, none⟩ = some (.int .i64 x1.last) ∧ u10.drew.cell? ⟨w.heap.size + 1, 0, none⟩ = some (.bool x1.shut) ∧ u10.drew.cell? ⟨w.heap.size + 1, 1, none⟩ = some (.slice AA1_1 x1.docs.length cA1_1) ∧ u10.drew.cell? ⟨w.heap.size + 1, 2, none⟩ = some (.slice AA1_2 x1.subs.length cA1_2) ∧ u10.drew.cell? ⟨w.heap.size + 1, 3, none⟩ = some (.int .i64 x1.last) ∧ KS u10 u10.drew := ⟨ybxX10, ybxX11, ybxX12, ybxX13, ybxA10, ybxA11, ybxA12, ybxA13, KS.start _⟩
  clear ybxX10 ybxX11 ybxX12 ybxX13 ybxA10 ybxA11 ybxA12 ybxA13
  go_wp2
  go_region_held3 (fun W => W.cell? ⟨u7.heap.size, 0, none⟩ = some (.bool x1.shut) ∧ W.cell? ⟨u7.heap.size, 1, none⟩ = some (.slice A7_1 x1.docs.length c7_1) ∧ W.cell? ⟨u7.heap.size, 2, none⟩ = some (.slice A7_2 x1.subs.length c7_2) ∧ W.cell? ⟨u7.heap.size, 3, none⟩ = some (.int .i64 x1.last) ∧ W.cell? ⟨w.heap.size + 1, 0, none⟩ = some (.bool x1.shut) ∧ W.cell? ⟨w.heap.size + 1, 1, none⟩ = some (.slice AA1_1 x1.docs.length cA1_1) ∧ W.cell? ⟨w.heap.size + 1, 2, none⟩ = some (.slice AA1_2 x1.subs.length cA1_2) ∧ W.cell? ⟨w.heap.size + 1, 3, none⟩ = some (.int .i64 x1.last) ∧ KS u10 W)
    (first | assumption | exact hS0 | (exact SX.out _ _ (by assumption) b11) | (exact SX.out _ _ (by assumption) b12))
    (first | (go_at_call 8; refine (toHu _ x1 _ (by exact RA.out _ (by assumption)) S1).mono ?_; rintro e u11 ⟨v11, rfl, o11, b11⟩; obtain ⟨A11_1, c11_1, A11_2, c11_2, rfl, _, _⟩ := aggHu o11.read) | (go_at_call 10; refine (eqHu _ _ x1 _ (by exact RX.out _ (by assumption)) (by exact o11.read) S1).mono ?_; rintro e u12 ⟨rfl, b12⟩))
  rename_i hS2
  have HK12 : Below u10.heap.size u10 u12 := hS2.2.2.2.2.2.2.2.2
  clear hS2 hS0 SX RX RA
  clear lbxX1 lbxA1
  have oX0 := oX0.past HK12
  have oX1 := oX1.past HK12
  have bxA0 := bxA0.past HK12
  have bxA1 := bxA1.past HK12
  have bxX0 := bxX0.past HK12
  have bxX1 := bxX1.past HK12
  have z12 := HK12.size
  have D12 := D10.trans (HK12.mono D10.size)
  clear o11 b11 b12
  go_wp2
  go_ret
  exact ⟨rfl, D12⟩

set_option maxRecDepth 100000 in
theorem lifted (os : Os) (started : os.Started) (H : Type) (enc : TypeId × Value → H) :
    ReturnsInHanded {} Try.checked os 5 .any (Rows.fnExactHubSameSpec.pre6 enc Try.prog Try.f5 Rows.fnExactHubSameRow.domain false) (Rows.fnExactHubSameSpec.post enc Try.prog Try.f5 false true false false) := by
  refine returnsInHanded_of_change (C := Try.checked) own started (by kernel_rfl) Try.func5
    (ChangeSpec.witness6 (enc := enc) (C := Try.checked) false ⟨#[], #[.agg #[.bool false, .slice none 0 0, .slice none 0 0, .int .i64 0], .agg #[.bool false, .slice none 0 0, .slice none 0 0, .int .i64 0]], []⟩ 8 (by kernel_rfl) (by kernel_rfl) (by kernel_rfl) (by kernel_rfl)) ?_
  intro W base args ds gs before hval0 hW hcnd _
  have hval : ∀ (j : Nat) t v, Try.f5.params[j]? = some t → args[j]? = some v → Value.okWide Try.prog W .any base t v := hval0
  have hW' := hW
  obtain ⟨p, q, hA0, hV, rfl, hfz, hnd⟩ := hW
  have hA : DataW.TrodAll enc Try.prog W 0 (fun _ => true) true Try.f5.params.toList args.toList ds p := hA0
  rw [Try.params5] at hA hval
  obtain ⟨v0, vs0, x0, xs0, q0, r0, hargs, rfl, rfl, h0, t0⟩ := trodAll_cons hA
  obtain ⟨v1, vs1, x1, xs1, q1, r1, rfl, rfl, rfl, h1, t1⟩ := trodAll_cons t0
  obtain ⟨rfl, rfl, rfl⟩ := trodAll_nil t1
  obtain rfl : args = #[v0, v1] := by cases args; simp_all
  obtain ⟨rfl, rfl⟩ := trodVars_none hV
  have k0 := h0
  have lt0 : ∀ x ∈ q0, x.block < W.heap.size := by obtain ⟨m, hm⟩ := k0; exact DataW.trod_lt m _ _ _ hm
  have k1 := h1
  have lt1 : ∀ x ∈ q1, x.block < W.heap.size := by obtain ⟨m, hm⟩ := k1; exact DataW.trod_lt m _ _ _ hm
  obtain ⟨cs0, rfl, hsz0⟩ := okWide_struct Try.underlying25 (hval 0 25 v0 rfl rfl)
  obtain ⟨f0, hf0⟩ := h0
  obtain ⟨x0, A0_1, c0_1, A0_2, c0_2, e0, r0_1, r0_2, l0⟩ := open_dHu hf0
  obtain rfl : cs0 = #[.bool x0.shut, .slice A0_1 x0.docs.length c0_1, .slice A0_2 x0.subs.length c0_2, .int .i64 x0.last] := by cases cs0; simpa [Value.cells] using e0
  obtain ⟨cs1, rfl, hsz1⟩ := okWide_struct Try.underlying25 (hval 1 25 v1 rfl rfl)
  obtain ⟨f1, hf1⟩ := h1
  obtain ⟨x1, A1_1, c1_1, A1_2, c1_2, e1, r1_1, r1_2, l1⟩ := open_dHu hf1
  obtain rfl : cs1 = #[.bool x1.shut, .slice A1_1 x1.docs.length c1_1, .slice A1_2 x1.subs.length c1_2, .int .i64 x1.last] := by cases cs1; simpa [Value.cells] using e1
  clear hA0 hval0
  refine (walk x0 _ x1 _ W (rdHu x0 r0_1 r0_2) l0 (rdHu x1 r1_1 r1_2) l1).mono fun e W' ⟨he, bel⟩ => ?_
  subst he
  exact ⟨_, rfl, _, _, _, [], _, [], hW', trodAll_mk1 (shut_bool Try.underlying4 _), (trodAll_cons_mk (Below.trod laidOut (by kernel_rfl) (of_decide_eq_true (by kernel_rfl)) k0 bel lt0) (trodAll_cons_mk (Below.trod laidOut (by kernel_rfl) (of_decide_eq_true (by kernel_rfl)) k1 bel lt1) trodAll_mk0)), rfl, bel.frame _, fun h => by cases h⟩

theorem over : Rows.fnExactHubSameRow.holds Try.pinned (OpenSpec.ofChange Rows.fnExactHubSameSpec) :=
  OpenClaim.holds_of_wide 5 Try.f5 rfl rfl rfl rfl rfl rfl rfl ⟨rfl, rfl, rfl, rfl, rfl⟩ rfl rfl rfl rfl rfl (by kernel_rfl) Try.func5 (by kernel_rfl)
    (of_decide_eq_true (by kernel_rfl)) (by unfold Func.isWrapper; first | (rw [if_pos (by decide +kernel)]; kernel_rfl) | (rw [if_neg (by decide +kernel)]; exact ⟨rfl, rfl⟩))
    (fun os started H enc _ => lifted os started H enc)

theorem proved : Rows.FnExactHubSameSaid := over
end Go.Proofs.Ytninppjomdhnmaa.fnExactHubSame
