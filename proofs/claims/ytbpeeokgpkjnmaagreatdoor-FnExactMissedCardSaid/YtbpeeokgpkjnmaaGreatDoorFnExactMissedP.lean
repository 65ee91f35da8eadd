/-
  Proved: for every argument (document, number), the law FnExactMissed of this seat's translation returns true (impl.Missed answers as spec.Missed does, leaves its arguments alone); where the listed variable of the library starts as the program's text lays it, and the card that ties it to that text.
-/
import Derived.Test.YtbpeeokgpkjnmaaGreatDoorCards
import Derived.Test.YtbpeeokgpkjnmaaGreatDoorTie
import Derived.Test.YtbpeeokgpkjnmaaGreatDoorM1
import Derived.WalkKit
import Derived.ProofKit
import Derived.OpenShut
import Derived.ShutString
import Derived.ChangeOld
import Derived.Below
import Derived.Deep.DeepHandedRow
import Derived.Lib.LaidTab
import Derived.LaidSub
import Derived.LaidMore
import Derived.MakeChecks
import Derived.LaidHandle
import Derived.Deep.DeepWitnessRowRef
import Derived.Test.YtbpeeokgpkjnmaaGreatDoorM2
import Derived.Test.YtbpeeokgpkjnmaaGreatDoorM4
import Derived.Test.YtbpeeokgpkjnmaaGreatDoorM6
set_option maxHeartbeats 12800000
set_option maxRecDepth 1000000
namespace Go.Proofs.YtbpeeokgpkjnmaaGreatDoor.fnExactMissed
open Go.ChangeShapes Go.WideShapes Go.ChangeAt Go.RowKit
open Go.ChangeMaps (open_string shut_string)
open low
set_option linter.unusedVariables false
theorem own : ownKnob Tryz.prog.godebug = none := by kernel_rfl
theorem et {W : World} (h : laidMetH Tryz.prog Rows.fnExactMissedRow.laid W) : ET W := by
 have hG : Tryz.prog.globalNamed "errors.errorType" = some 0 := by kernel_rfl
 have hR : (Tryz.prog.cutTypes.find? (·.1 == "internal/reflectlite.rtype")).map (·.2) = some 146 := by kernel_rfl
 have hO : ((List.range 248).filter fun t => Tryz.prog.rowNamed t [101, 114, 114, 111, 114]) = [74] := by kernel_rfl
 have hS : Tryz.prog.types.size = 248 := by kernel_rfl
 have h' : laidMet Tryz.prog [] W ∧ handlesMet Tryz.prog Rows.fnExactMissedRow.laid W := h
 obtain ⟨name, u, ty, e1, e2, e3, e4, e5⟩ := h'.2 _ (List.mem_singleton.2 rfl)
 have en : name = [101, 114, 114, 111, 114] := (Option.some.inj e1).symm
 subst en
 obtain rfl := Option.some.inj (hR.symm.trans e2)
 have hm : ty ∈ (List.range 248).filter fun t => Tryz.prog.rowNamed t [101, 114, 114, 111, 114] := List.mem_filter.2 ⟨List.mem_range.2 (by rw [← hS]; exact e3), e4⟩
 rw [hO] at hm
 obtain rfl := List.mem_singleton.1 hm
 have hh : typeHandle Tryz.prog 74 = .pointer (some ⟨1, 74, none⟩) := by kernel_rfl
 rw [hh] at e5
 exact show W.cell? ⟨0, 0, none⟩ = _ by simpa using World.var?_cell hG e5 0
theorem walk (x0 : Do) (y0 : Value) (a1 : Int) (w : World) (w0 : RdC w w.heap.size (datDo x0) y0) (l0 : LimDo x0) (w1 : (Lit.int .i64 a1).wf = true) (hg : ET w) :
  Calls Tryz.prog 5 #[y0, .int .i64 a1] w fun e w' => e = .returned (.bool true) ∧ Below w.heap.size w w' := by
 have HG := Lib.hid hg
 clear hg
 have D0 : Below w.heap.size w w := Below.refl _ _
 have R0 := w0
 obtain ⟨AA0_2, cA0_2, AA0_3, cA0_3, AA0_4, cA0_4, rfl, _, _, _⟩ := aggDo w0
 have bxA0 := Bx.new w #[.string x0.name, .int .i64 x0.from_, .slice AA0_2 x0.text.length cA0_2, .slice AA0_3 x0.list.length cA0_3, .slice AA0_4 x0.seen.length cA0_4] 26
 have DE := alloc_below w (.cells #[.string x0.name, .int .i64 x0.from_, .slice AA0_2 x0.text.length cA0_2, .slice AA0_3 x0.list.length cA0_3, .slice AA0_4 x0.seen.length cA0_4] 26)
 have zE : (w.alloc (.cells #[.string x0.name, .int .i64 x0.from_, .slice AA0_2 x0.text.length cA0_2, .slice AA0_3 x0.list.length cA0_3, .slice AA0_4 x0.seen.length cA0_4] 26)).heap.size = w.heap.size + 1 := World.size_alloc _ _
 go_enter Tryz.func5, Tryz.ntmps5
 go_wp2_with fail
 generalize (w.alloc (.cells #[.string x0.name, .int .i64 x0.from_, .slice AA0_2 x0.text.length cA0_2, .slice AA0_3 x0.list.length cA0_3, .slice AA0_4 x0.seen.length cA0_4] 26)) = wE at bxA0 DE zE ⊢
 refine (szDo _ x0 1048576 _ (R0.past DE) (by omega) (by omega) l0).mono ?_
 rintro e u1 ⟨r1, rfl, hr1, b1⟩
 rcases hr1 with rfl | ⟨p1, q1⟩
 ·go_wp2
  go_ret
  exact ⟨rfl, DE.trans (b1.mono DE.size)⟩
 have S0 : SmDo x0 := by unfold SmDo; omega
 have t1 : r1 ≤ 1048576 := by omega
 clear q1
 have bxA0 := bxA0.past b1
 have z1 := b1.size
 have D1 := DE.trans (b1.mono DE.size)
 have ybxA00 : _ = (some (.string x0.name) : Option Value) := bxA0.cell (j := 0) rfl
 have ybxA01 : _ = (some (.int .i64 x0.from_) : Option Value) := bxA0.cell (j := 1) rfl
 have ybxA02 : _ = (some (.slice AA0_2 x0.text.length cA0_2) : Option Value) := bxA0.cell (j := 2) rfl
 have ybxA03 : _ = (some (.slice AA0_3 x0.list.length cA0_3) : Option Value) := bxA0.cell (j := 3) rfl
 have ybxA04 : _ = (some (.slice AA0_4 x0.seen.length cA0_4) : Option Value) := bxA0.cell (j := 4) rfl
 go_wp2_with fail
 clear ybxA00 ybxA01 ybxA02 ybxA03 ybxA04
 refine (toDo _ x0 _ (R0.past D1) S0).mono ?_
 rintro e u2 ⟨v2, rfl, oT00, b2⟩
 obtain ⟨k2, oT0⟩ := oT00.blocks
 clear oT00
 obtain ⟨A2_2, c2_2, A2_3, c2_3, A2_4, c2_4, rfl, _, _, _⟩ := aggDo oT0.read
 have bxA0 := bxA0.past b2
 have z2 := b2.size
 have D2 := D1.trans (b2.mono D1.size)
 go_wp2_with fail
 refine (specMissed_d _ x0 a1 _ oT0.read S0).mono ?_
 rintro e u3 ⟨rfl, b3⟩
 have oT0 := oT0.past b3
 have bxA0 := bxA0.past b3
 have z3 := b3.size
 have D3 := D2.trans (b3.mono D2.size)
 generalize hL0 : (missedT x0 a1) = L0 at *
 have HL0 := Lib.hid hL0
 clear hL0
 have nb0 : ((L0 : Int) != L0) = false := by simp
 clear oT0
 have ybxA00 : _ = (some (.string x0.name) : Option Value) := bxA0.cell (j := 0) rfl
 have ybxA01 : _ = (some (.int .i64 x0.from_) : Option Value) := bxA0.cell (j := 1) rfl
 have ybxA02 : _ = (some (.slice AA0_2 x0.text.length cA0_2) : Option Value) := bxA0.cell (j := 2) rfl
 have ybxA03 : _ = (some (.slice AA0_3 x0.list.length cA0_3) : Option Value) := bxA0.cell (j := 3) rfl
 have ybxA04 : _ = (some (.slice AA0_4 x0.seen.length cA0_4) : Option Value) := bxA0.cell (j := 4) rfl
 go_wp2_with fail
 clear ybxA00 ybxA01 ybxA02 ybxA03 ybxA04
 refine (toDo _ x0 _ (R0.past D3) S0).mono ?_
 rintro e u4 ⟨v4, rfl, oX00, b4⟩
 obtain ⟨k4, oX0⟩ := oX00.blocks
 clear oX00
 obtain ⟨A4_2, c4_2, A4_3, c4_3, A4_4, c4_4, rfl, _, _, _⟩ := aggDo oX0.read
 have bxA0 := bxA0.past b4
 have z4 := b4.size
 have D4 := D3.trans (b4.mono D3.size)
 have bxA0P := bxA0
 have bxA0L := bxA0.lt
 have ba4 := alloc_below u4 (.cells #[.string x0.name, .int .i64 x0.from_, .slice A4_2 x0.text.length c4_2, .slice A4_3 x0.list.length c4_3, .slice A4_4 x0.seen.length c4_4] 36)
 have oX0 := oX0.past ba4
 have bxA0 := bxA0.past ba4
 have bxX0 := Bx.new u4 #[.string x0.name, .int .i64 x0.from_, .slice A4_2 x0.text.length c4_2, .slice A4_3 x0.list.length c4_3, .slice A4_4 x0.seen.length c4_4] 36
 have zu4 : (u4.alloc (.cells #[.string x0.name, .int .i64 x0.from_, .slice A4_2 x0.text.length c4_2, .slice A4_3 x0.list.length c4_3, .slice A4_4 x0.seen.length c4_4] 36)).heap.size = u4.heap.size + 1 := World.size_alloc _ _
 have Da4 := D4.trans (ba4.mono D4.size)
 clear ba4
 go_wp2_with fail
 generalize u4.alloc (.cells #[.string x0.name, .int .i64 x0.from_, .slice A4_2 x0.text.length c4_2, .slice A4_3 x0.list.length c4_3, .slice A4_4 x0.seen.length c4_4] 36) = v4_ at oX0 bxA0 bxX0 zu4 Da4 ⊢
 clear bxA0P bxA0L
 refine (implMissed_d _ x0 a1 _ oX0.read S0 (HG.out.past rfl Da4)).mono ?_
 rw [HL0.out]
 rintro e u5 ⟨rfl, b5⟩
 have oX0 := oX0.past b5
 have bxA0 := bxA0.past b5
 have bxX0 := bxX0.past b5
 have z5 := b5.size
 have D5 := Da4.trans (b5.mono Da4.size)
 have lbxX0 := bxX0.lt
 have ybxX00 : u5.cell? ⟨u4.heap.size, 0, none⟩ = some (.string x0.name) := bxX0.cell (j := 0) rfl
 have ybxX01 : u5.cell? ⟨u4.heap.size, 1, none⟩ = some (.int .i64 x0.from_) := bxX0.cell (j := 1) rfl
 have ybxX02 : u5.cell? ⟨u4.heap.size, 2, none⟩ = some (.slice A4_2 x0.text.length c4_2) := bxX0.cell (j := 2) rfl
 have ybxX03 : u5.cell? ⟨u4.heap.size, 3, none⟩ = some (.slice A4_3 x0.list.length c4_3) := bxX0.cell (j := 3) rfl
 have ybxX04 : u5.cell? ⟨u4.heap.size, 4, none⟩ = some (.slice A4_4 x0.seen.length c4_4) := bxX0.cell (j := 4) rfl
 have lbxA0 := bxA0.lt
 have ybxA00 : u5.cell? ⟨w.heap.size, 0, none⟩ = some (.string x0.name) := bxA0.cell (j := 0) rfl
 have ybxA01 : u5.cell? ⟨w.heap.size, 1, none⟩ = some (.int .i64 x0.from_) := bxA0.cell (j := 1) rfl
 have ybxA02 : u5.cell? ⟨w.heap.size, 2, none⟩ = some (.slice AA0_2 x0.text.length cA0_2) := bxA0.cell (j := 2) rfl
 have ybxA03 : u5.cell? ⟨w.heap.size, 3, none⟩ = some (.slice AA0_3 x0.list.length cA0_3) := bxA0.cell (j := 3) rfl
 have ybxA04 : u5.cell? ⟨w.heap.size, 4, none⟩ = some (.slice AA0_4 x0.seen.length cA0_4) := bxA0.cell (j := 4) rfl
 have SX := Lib.hid (show ∀ (W W1 : World), (W.cell? ⟨u4.heap.size, 0, none⟩ = some (.string x0.name) ∧ W.cell? ⟨u4.heap.size, 1, none⟩ = some (.int .i64 x0.from_) ∧ W.cell? ⟨u4.heap.size, 2, none⟩ = some (.slice A4_2 x0.text.length c4_2) ∧ W.cell? ⟨u4.heap.size, 3, none⟩ = some (.slice A4_3 x0.list.length c4_3) ∧ W.cell? ⟨u4.heap.size, 4, none⟩ = some (.slice A4_4 x0.seen.length c4_4) ∧ W.cell? ⟨w.heap.size, 0, none⟩ = some (.string x0.name) ∧ W.cell? ⟨w.heap.size, 1, none⟩ = some (.int .i64 x0.from_) ∧ W.cell? ⟨w.heap.size, 2, none⟩ = some (.slice AA0_2 x0.text.length cA0_2) ∧ W.cell? ⟨w.heap.size, 3, none⟩ = some (.slice AA0_3 x0.list.length cA0_3) ∧ W.cell? ⟨w.heap.size, 4, none⟩ = some (.slice AA0_4 x0.seen.length cA0_4) ∧ KS u5 W) → Below W.heap.size W W1 → (W1.cell? ⟨u4.heap.size, 0, none⟩ = some (.string x0.name) ∧ W1.cell? ⟨u4.heap.size, 1, none⟩ = some (.int .i64 x0.from_) ∧ W1.cell? ⟨u4.heap.size, 2, none⟩ = some (.slice A4_2 x0.text.length c4_2) ∧ W1.cell? ⟨u4.heap.size, 3, none⟩ = some (.slice A4_3 x0.list.length c4_3) ∧ W1.cell? ⟨u4.heap.size, 4, none⟩ = some (.slice A4_4 x0.seen.length c4_4) ∧ W1.cell? ⟨w.heap.size, 0, none⟩ = some (.string x0.name) ∧ W1.cell? ⟨w.heap.size, 1, none⟩ = some (.int .i64 x0.from_) ∧ W1.cell? ⟨w.heap.size, 2, none⟩ = some (.slice AA0_2 x0.text.length cA0_2) ∧ W1.cell? ⟨w.heap.size, 3, none⟩ = some (.slice AA0_3 x0.list.length cA0_3) ∧ W1.cell? ⟨w.heap.size, 4, none⟩ = some (.slice AA0_4 x0.seen.length cA0_4) ∧ KS u5 W1) from fun W W1 h hb => by have hk := h.2.2.2.2.2.2.2.2.2.2; have hkk : KS u5 W1 := hk.trans (hb.mono hk.size); exact ⟨(hkk.cell (p := ⟨u4.heap.size, 0, none⟩) lbxX0).trans ybxX00, (hkk.cell (p := ⟨u4.heap.size, 1, none⟩) lbxX0).trans ybxX01, (hkk.cell (p := ⟨u4.heap.size, 2, none⟩) lbxX0).trans ybxX02, (hkk.cell (p := ⟨u4.heap.size, 3, none⟩) lbxX0).trans ybxX03, (hkk.cell (p := ⟨u4.heap.size, 4, none⟩) lbxX0).trans ybxX04, (hkk.cell (p := ⟨w.heap.size, 0, none⟩) lbxA0).trans ybxA00, (hkk.cell (p := ⟨w.heap.size, 1, none⟩) lbxA0).trans ybxA01, (hkk.cell (p := ⟨w.heap.size, 2, none⟩) lbxA0).trans ybxA02, (hkk.cell (p := ⟨w.heap.size, 3, none⟩) lbxA0).trans ybxA03, (hkk.cell (p := ⟨w.heap.size, 4, none⟩) lbxA0).trans ybxA04, hkk⟩)
 have RX := Lib.hid (show ∀ (W : World), (W.cell? ⟨u4.heap.size, 0, none⟩ = some (.string x0.name) ∧ W.cell? ⟨u4.heap.size, 1, none⟩ = some (.int .i64 x0.from_) ∧ W.cell? ⟨u4.heap.size, 2, none⟩ = some (.slice A4_2 x0.text.length c4_2) ∧ W.cell? ⟨u4.heap.size, 3, none⟩ = some (.slice A4_3 x0.list.length c4_3) ∧ W.cell? ⟨u4.heap.size, 4, none⟩ = some (.slice A4_4 x0.seen.length c4_4) ∧ W.cell? ⟨w.heap.size, 0, none⟩ = some (.string x0.name) ∧ W.cell? ⟨w.heap.size, 1, none⟩ = some (.int .i64 x0.from_) ∧ W.cell? ⟨w.heap.size, 2, none⟩ = some (.slice AA0_2 x0.text.length cA0_2) ∧ W.cell? ⟨w.heap.size, 3, none⟩ = some (.slice AA0_3 x0.list.length cA0_3) ∧ W.cell? ⟨w.heap.size, 4, none⟩ = some (.slice AA0_4 x0.seen.length cA0_4) ∧ KS u5 W) → RdC W W.heap.size (datDo x0) (.agg #[.string x0.name, .int .i64 x0.from_, .slice A4_2 x0.text.length c4_2, .slice A4_3 x0.list.length c4_3, .slice A4_4 x0.seen.length c4_4]) from fun W h => by have hk : Below u5.heap.size u5 W := h.2.2.2.2.2.2.2.2.2.2; exact (oX0.past hk).read)
 have RA := Lib.hid (show ∀ (W : World), (W.cell? ⟨u4.heap.size, 0, none⟩ = some (.string x0.name) ∧ W.cell? ⟨u4.heap.size, 1, none⟩ = some (.int .i64 x0.from_) ∧ W.cell? ⟨u4.heap.size, 2, none⟩ = some (.slice A4_2 x0.text.length c4_2) ∧ W.cell? ⟨u4.heap.size, 3, none⟩ = some (.slice A4_3 x0.list.length c4_3) ∧ W.cell? ⟨u4.heap.size, 4, none⟩ = some (.slice A4_4 x0.seen.length c4_4) ∧ W.cell? ⟨w.heap.size, 0, none⟩ = some (.string x0.name) ∧ W.cell? ⟨w.heap.size, 1, none⟩ = some (.int .i64 x0.from_) ∧ W.cell? ⟨w.heap.size, 2, none⟩ = some (.slice AA0_2 x0.text.length cA0_2) ∧ W.cell? ⟨w.heap.size, 3, none⟩ = some (.slice AA0_3 x0.list.length cA0_3) ∧ W.cell? ⟨w.heap.size, 4, none⟩ = some (.slice AA0_4 x0.seen.length cA0_4) ∧ KS u5 W) → RdC W W.heap.size (datDo x0) (.agg #[.string x0.name, .int .i64 x0.from_, .slice AA0_2 x0.text.length cA0_2, .slice AA0_3 x0.list.length cA0_3, .slice AA0_4 x0.seen.length cA0_4]) from fun W h => by have hk : Below u5.heap.size u5 W := h.2.2.2.2.2.2.2.2.2.2; exact R0.past (D5.trans (hk.mono D5.size)))
 have hS0 : u5.drew.cell? ⟨u4.heap.size, 0, none⟩ = some (.string x0.name) ∧ u5.drew.cell? ⟨u4.heap.size, 1, none⟩ = some (.int .i64 x0.from_) ∧ u5.drew.cell? ⟨u4.heap.size, 2, none⟩ = some (.slice A4_2 x0.text.length c4_2) ∧ u5.drew.cell? ⟨u4.heap.size, 3, none⟩ = some (.slice A4_3 x0.list.length c4_3) ∧ u5.drew.cell? ⟨u4.heap.size, 4, none⟩ = some (.slice A4_4 x0.seen.length c4_4) ∧ u5.drew.cell? ⟨w.heap.size, 0, none⟩ = some (.string x0.name) ∧ u5.drew.cell? ⟨w.heap.size, 1, none⟩ = some (.int .i64 x0.from_) ∧ u5.drew.cell? ⟨w.heap.size, 2, none⟩ = some (.slice AA0_2 x0.text.length cA0_2) ∧ u5.drew.cell? ⟨w.heap.size, 3, none⟩ = some (.slice AA0_3 x0.list.length cA0_3) ∧ u5.drew.cell? ⟨w.heap.size, 4, none⟩ = some (.slice AA0_4 x0.seen.length cA0_4) ∧ KS u5 u5.drew := ⟨ybxX00, ybxX01, ybxX02, ybxX03, ybxX04, ybxA00, ybxA01, ybxA02, ybxA03, ybxA04, KS.start _⟩
 clear ybxX00 ybxX01 ybxX02 ybxX03 ybxX04 ybxA00 ybxA01 ybxA02 ybxA03 ybxA04
 go_wp2
 go_region_held3 (fun W => W.cell? ⟨u4.heap.size, 0, none⟩ = some (.string x0.name) ∧ W.cell? ⟨u4.heap.size, 1, none⟩ = some (.int .i64 x0.from_) ∧ W.cell? ⟨u4.heap.size, 2, none⟩ = some (.slice A4_2 x0.text.length c4_2) ∧ W.cell? ⟨u4.heap.size, 3, none⟩ = some (.slice A4_3 x0.list.length c4_3) ∧ W.cell? ⟨u4.heap.size, 4, none⟩ = some (.slice A4_4 x0.seen.length c4_4) ∧ W.cell? ⟨w.heap.size, 0, none⟩ = some (.string x0.name) ∧ W.cell? ⟨w.heap.size, 1, none⟩ = some (.int .i64 x0.from_) ∧ W.cell? ⟨w.heap.size, 2, none⟩ = some (.slice AA0_2 x0.text.length cA0_2) ∧ W.cell? ⟨w.heap.size, 3, none⟩ = some (.slice AA0_3 x0.list.length cA0_3) ∧ W.cell? ⟨w.heap.size, 4, none⟩ = some (.slice AA0_4 x0.seen.length cA0_4) ∧ KS u5 W)
  (first | assumption | exact hS0 | (exact SX.out _ _ (by assumption) b6) | (exact SX.out _ _ (by assumption) b7))
  (first | (go_at_call 9; refine (toDo _ x0 _ (by exact RA.out _ (by assumption)) S0).mono ?_; rintro e u6 ⟨v6, rfl, o6, b6⟩; obtain ⟨A6_2, c6_2, A6_3, c6_3, A6_4, c6_4, rfl, _, _, _⟩ := aggDo o6.read) | (go_at_call 13; refine (eqDo _ _ x0 _ (by exact RX.out _ (by assumption)) (by exact o6.read) S0).mono ?_; rintro e u7 ⟨rfl, b7⟩))
 rename_i hS2
 have HK7 : Below u5.heap.size u5 u7 := hS2.2.2.2.2.2.2.2.2.2.2
 clear hS2 hS0 SX RX RA
 clear lbxX0 lbxA0
 have oX0 := oX0.past HK7
 have bxA0 := bxA0.past HK7
 have bxX0 := bxX0.past HK7
 have z7 := HK7.size
 have D7 := D5.trans (HK7.mono D5.size)
 clear o6 b6 b7
 go_wp2
 go_ret
 exact ⟨rfl, D7⟩
theorem contract (H : Type) (enc : TypeId × Value → H) (W : World) (base : Nat) (args : Array Value) (ds gs : List (DataW H)) (before : List MemPlace)
  (hval0 : ∀ (j : Nat) t v, Tryz.f5.params[j]? = some t → args[j]? = some v → Value.okWide Tryz.prog W .any base t v)
  (hW : DataW.Whole enc Tryz.prog Tryz.f5.params.toList Rows.fnExactMissedSpec.vars false W args.toList ds gs before) (hL : laidMetH Tryz.prog Rows.fnExactMissedRow.laid W) :
  Calls Tryz.prog 5 args W fun e W' => ∃ v, e = .returned v ∧ Rows.fnExactMissedSpec.post enc Tryz.prog Tryz.f5 false true false false W args v W' := by
 have hval : ∀ (j : Nat) t v, Tryz.f5.params[j]? = some t → args[j]? = some v → Value.okWide Tryz.prog W .any base t v := hval0
 have hW' := hW
 obtain ⟨p, q, hA0, hV, rfl, hfz, hnd⟩ := hW
 have hA : DataW.TrodAll enc Tryz.prog W 0 (fun _ => true) true Tryz.f5.params.toList args.toList ds p := hA0
 rw [Tryz.params5] at hA hval
 obtain ⟨v0, vs0, x0, xs0, q0, r0, hargs, rfl, rfl, h0, t0⟩ := trodAll_cons hA
 obtain ⟨v1, vs1, x1, xs1, q1, r1, rfl, rfl, rfl, h1, t1⟩ := trodAll_cons t0
 obtain ⟨rfl, rfl, rfl⟩ := trodAll_nil t1
 obtain rfl : args = #[v0, v1] := by cases args; simp_all
 obtain ⟨rfl, rfl⟩ := trodVars_none hV
 have k0 := h0
 have lt0 : ∀ x ∈ q0, x.block < W.heap.size := by obtain ⟨m, hm⟩ := k0; exact DataW.trod_lt m _ _ _ hm
 have k1 := h1
 have lt1 : ∀ x ∈ q1, x.block < W.heap.size := by obtain ⟨m, hm⟩ := k1; exact DataW.trod_lt m _ _ _ hm
 obtain ⟨cs0, rfl, hsz0⟩ := okWide_struct Tryz.underlying26 (hval 0 26 v0 rfl rfl)
 obtain ⟨f0, hf0⟩ := h0
 obtain ⟨x0, A0_2, c0_2, A0_3, c0_3, A0_4, c0_4, e0, r0_2, r0_3, r0_4, l0⟩ := open_dDo hf0
 obtain rfl : cs0 = #[.string x0.name, .int .i64 x0.from_, .slice A0_2 x0.text.length c0_2, .slice A0_3 x0.list.length c0_3, .slice A0_4 x0.seen.length c0_4] := by cases cs0; simpa [Value.cells] using e0
 obtain ⟨a1, rfl, rfl, rfl, w1⟩ := open_int Tryz.underlying3 (hval 1 3 v1 rfl rfl) h1
 clear hA0 hval0
 refine (walk x0 _ a1 W (rdDo x0 r0_2 r0_3 r0_4) l0 w1 (et hL)).mono fun e W' ⟨he, bel⟩ => ?_
 subst he
 exact ⟨_, rfl, _, _, _, [], _, [], hW', trodAll_mk1 (shut_bool Tryz.underlying4 _), (trodAll_cons_mk (Below.trod laidOut (by kernel_rfl) (of_decide_eq_true (by kernel_rfl)) k0 bel lt0) (trodAll_cons_mk (Below.trod laidOut (by kernel_rfl) (of_decide_eq_true (by kernel_rfl)) k1 bel lt1) trodAll_mk0)), rfl, bel.frame _, fun h => by cases h⟩
noncomputable def laidWorld (os : Os) : World :=
 let w0 := World.holding Tryz.prog os ⟨#[], #[], []⟩
 { w0 with heap := w0.heap.modify 0 fun
   | .cells _ t frozen => .cells #[.iface 146 (.agg #[.pointer (some ⟨1, 74, none⟩)])] t frozen
   | o => o }
theorem laid_met (os : Os) : laidMetH Tryz.prog Rows.fnExactMissedRow.laid ((laidWorld os).forCall (fun _ _ => 0) ⟨#[], #[.agg #[.string ⟨#[]⟩, .int .i64 0, .slice none 0 0, .slice none 0 0, .slice none 0 0], .int .i64 0], []⟩).memory :=
 laidMetH_of_parts (laidMet_nil _ _) (by kernel_rfl)
theorem reads (os : Os) {H : Type} (enc : TypeId × Value → H) : ∃ places, DataW.whole enc Tryz.prog ((laidWorld os).forCall (fun _ _ => 0) ⟨#[], #[.agg #[.string ⟨#[]⟩, .int .i64 0, .slice none 0 0, .slice none 0 0, .slice none 0 0], .int .i64 0], []⟩).memory Tryz.f5.params.toList Rows.fnExactMissedSpec.vars false #[Value.agg #[.string ⟨#[]⟩, .int .i64 0, .slice none 0 0, .slice none 0 0, .slice none 0 0], Value.int .i64 0].toList 8 = some ([.agg [.lit (.string []), .lit (.int .i64 0), .nil, .nil, .nil], .lit (.int .i64 0)], [], places) :=
 ⟨[], by kernel_rfl⟩
theorem lifted (os : Os) (started : os.Started) (H : Type) (enc : TypeId × Value → H) (F : Stop.Interp) :
  ReturnsInHanded {} Tryz.checked os 5 .any ((OpenSpec.ofChange Rows.fnExactMissedSpec).preRow enc Tryz.prog Tryz.f5 Rows.fnExactMissedRow.domain false Rows.fnExactMissedRow.laid) (((OpenSpec.ofChange Rows.fnExactMissedSpec).at F).post enc Tryz.prog Tryz.f5 false true false false) := by
 obtain ⟨places, hx⟩ := reads os enc
 refine returnsInHanded_of_row (C := Tryz.checked) (s := OpenSpec.ofChange Rows.fnExactMissedSpec) own started (by kernel_rfl) Tryz.func5
  (witness_row_atRef (enc := enc) (C := Tryz.checked) false (laidWorld os) #[.agg #[.string ⟨#[]⟩, .int .i64 0, .slice none 0 0, .slice none 0 0, .slice none 0 0], .int .i64 0] rfl (by kernel_rfl) (by kernel_rfl) (by kernel_rfl)
   (OpenSpec.preRow_of_cond 8 hx (by kernel_rfl) (fun k hk => by cases hk) (by kernel_rfl) (laid_met os))) ?_
 intro W base args ds gs before hval hW _ _ _ hL _ _
 exact contract H enc W base args ds gs before hval hW hL
theorem said : Rows.FnExactMissedSaid :=
 OpenClaim.holds_of_cond 5 Tryz.f5 rfl rfl rfl rfl rfl rfl rfl ⟨rfl, rfl, rfl, rfl, rfl⟩ rfl rfl rfl rfl rfl (by kernel_rfl) Tryz.func5 (by kernel_rfl)
  (of_decide_eq_true (by kernel_rfl)) (by unfold Func.isWrapper; first | (rw [if_pos (by decide +kernel)]; kernel_rfl) | (rw [if_neg (by decide +kernel)]; exact ⟨rfl, rfl⟩))
  (fun os started H enc _ F => by rw [OpenClaim.pre_eq_preRow]; exact lifted os started H enc F)
theorem plain (f : FuncId) (fn : Func) (hf : Tryz.pinned.checked.prog.funcNamed "loop.example/g00797/laws.FnExactMissed" = some f) (hfn : Tryz.pinned.checked.prog.funcs[f]? = some fn) :
  true = Tryz.pinned.checked.prog.looks [] ∧ ∀ (j : Nat) t, fn.params[j]? = some t → Tryz.pinned.checked.prog.wantsStandIn t = false := by
 obtain rfl : f = 5 := Option.some.inj ((show Tryz.prog.funcNamed "loop.example/g00797/laws.FnExactMissed" = some 5 by kernel_rfl).symm.trans hf) |>.symm
 obtain rfl : fn = Tryz.f5 := (Option.some.inj (Tryz.func5.symm.trans hfn)).symm
 refine ⟨by kernel_rfl, fun j t ht => ?_⟩
 have hall : (Tryz.f5.params.toList.all fun t => !Tryz.prog.wantsStandIn t) = true := by kernel_rfl
 have hm := List.all_eq_true.1 hall t (by rw [Array.mem_toList_iff]; exact Array.mem_of_getElem? ht)
 have hm' : (!Tryz.prog.wantsStandIn t) = true := hm
 exact show Tryz.prog.wantsStandIn t = false by
  cases hq : Tryz.prog.wantsStandIn t
  ·rfl
  ·rw [hq] at hm'
   cases hm'
theorem card : Rows.FnExactMissedCardSaid :=
 Claim7.holds_tied_plain_at .later [] _ _ _ _ said (fun _ h => by cases h) (by kernel_rfl) (fun _ h => by cases h) fnExactMissed_row_tie rfl ⟨rfl, rfl⟩ (by kernel_rfl) rfl plain (by kernel_rfl)
end Go.Proofs.YtbpeeokgpkjnmaaGreatDoor.fnExactMissed
