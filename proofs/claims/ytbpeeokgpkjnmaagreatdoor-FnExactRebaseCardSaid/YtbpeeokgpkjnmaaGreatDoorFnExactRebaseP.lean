/-
  Proved: for every argument (document, number, slice of parts), the law FnExactRebase of this seat's translation returns true (impl.Rebase answers as spec.Rebase does, twice, leaves its arguments alone, and its result owns its memory); where the listed variable of the library starts as the program's text lays it, and the card that ties it to that text.
-/
import Derived.Test.YtbpeeokgpkjnmaaGreatDoorCards
import Derived.Test.YtbpeeokgpkjnmaaGreatDoorTie
import Derived.Test.YtbpeeokgpkjnmaaGreatDoorM1
import Derived.WalkKit
import Derived.ProofKit
import Derived.OpenShut
import Derived.ShutString
import Derived.ChangeOld
import Derived.Below
import Derived.Deep.DeepHandedRow
import Derived.Lib.LaidTab
import Derived.LaidSub
import Derived.LaidMore
import Derived.MakeChecks
import Derived.LaidHandle
import Derived.Deep.DeepWitnessRowRef
import Derived.Test.YtbpeeokgpkjnmaaGreatDoorM2
import Derived.Test.YtbpeeokgpkjnmaaGreatDoorM5
import Derived.Test.YtbpeeokgpkjnmaaGreatDoorM6
set_option maxHeartbeats 12800000
set_option maxRecDepth 1000000
namespace Go.Proofs.YtbpeeokgpkjnmaaGreatDoor.fnExactRebase
open Go.ChangeShapes Go.WideShapes Go.ChangeAt Go.RowKit
open Go.ChangeMaps (open_string shut_string)
open low
set_option linter.unusedVariables false
theorem own : ownKnob Tryz.prog.godebug = none := by kernel_rfl
theorem et {W : World} (h : laidMetH Tryz.prog Rows.fnExactRebaseRow.laid W) : ET W := by
 have hG : Tryz.prog.globalNamed "errors.errorType" = some 0 := by kernel_rfl
 have hR : (Tryz.prog.cutTypes.find? (·.1 == "internal/reflectlite.rtype")).map (·.2) = some 146 := by kernel_rfl
 have hO : ((List.range 248).filter fun t => Tryz.prog.rowNamed t [101, 114, 114, 111, 114]) = [74] := by kernel_rfl
 have hS : Tryz.prog.types.size = 248 := by kernel_rfl
 have h' : laidMet Tryz.prog [] W ∧ handlesMet Tryz.prog Rows.fnExactRebaseRow.laid W := h
 obtain ⟨name, u, ty, e1, e2, e3, e4, e5⟩ := h'.2 _ (List.mem_singleton.2 rfl)
 have en : name = [101, 114, 114, 111, 114] := (Option.some.inj e1).symm
 subst en
 obtain rfl := Option.some.inj (hR.symm.trans e2)
 have hm : ty ∈ (List.range 248).filter fun t => Tryz.prog.rowNamed t [101, 114, 114, 111, 114] := List.mem_filter.2 ⟨List.mem_range.2 (by rw [← hS]; exact e3), e4⟩
 rw [hO] at hm
 obtain rfl := List.mem_singleton.1 hm
 have hh : typeHandle Tryz.prog 74 = .pointer (some ⟨1, 74, none⟩) := by kernel_rfl
 rw [hh] at e5
 exact show W.cell? ⟨0, 0, none⟩ = _ by simpa using World.var?_cell hG e5 0
theorem walk (x0 : Do) (y0 : Value) (a1 : Int) (A2 : Option Addr) (c2 : Nat) (ps2 : List Pt) (w : World) (w0 : RdC w w.heap.size (datDo x0) y0) (l0 : LimDo x0) (w1 : (Lit.int .i64 a1).wf = true) (w2 : RdC w w.heap.size (encPs ps2) (.slice A2 ps2.length c2)) (l2 : ps2.length ≤ maxLen) (m2 : ∀ p ∈ ps2, p.signs.length ≤ maxLen) (hg : ET w) :
  Calls Tryz.prog 3 #[y0, .int .i64 a1, .slice A2 ps2.length c2] w fun e w' => e = .returned (.bool true) ∧ Below w.heap.size w w' := by
 have HG := Lib.hid hg
 clear hg
 have D0 : Below w.heap.size w w := Below.refl _ _
 have R0 := w0
 obtain ⟨AA0_2, cA0_2, AA0_3, cA0_3, AA0_4, cA0_4, rfl, _, _, _⟩ := aggDo w0
 have R2 := w2
 have bxA0 := Bx.new w #[.string x0.name, .int .i64 x0.from_, .slice AA0_2 x0.text.length cA0_2, .slice AA0_3 x0.list.length cA0_3, .slice AA0_4 x0.seen.length cA0_4] 26
 have DE := alloc_below w (.cells #[.string x0.name, .int .i64 x0.from_, .slice AA0_2 x0.text.length cA0_2, .slice AA0_3 x0.list.length cA0_3, .slice AA0_4 x0.seen.length cA0_4] 26)
 have zE : (w.alloc (.cells #[.string x0.name, .int .i64 x0.from_, .slice AA0_2 x0.text.length cA0_2, .slice AA0_3 x0.list.length cA0_3, .slice AA0_4 x0.seen.length cA0_4] 26)).heap.size = w.heap.size + 1 := World.size_alloc _ _
 go_enter Tryz.func3, Tryz.ntmps3
 go_wp2_with fail
 generalize (w.alloc (.cells #[.string x0.name, .int .i64 x0.from_, .slice AA0_2 x0.text.length cA0_2, .slice AA0_3 x0.list.length cA0_3, .slice AA0_4 x0.seen.length cA0_4] 26)) = wE at bxA0 DE zE ⊢
 refine (szDo _ x0 1048576 _ (R0.past DE) (by omega) (by omega) l0).mono ?_
 rintro e u1 ⟨r1, rfl, hr1, b1⟩
 rcases hr1 with rfl | ⟨p1, q1⟩
 ·go_wp2
  go_ret
  exact ⟨rfl, DE.trans (b1.mono DE.size)⟩
 have S0 : SmDo x0 := by unfold SmDo; omega
 have t1 : r1 ≤ 1048576 := by omega
 clear q1
 have bxA0 := bxA0.past b1
 have z1 := b1.size
 have D1 := DE.trans (b1.mono DE.size)
 go_wp2_with fail
 refine (szP _ ps2 r1 _ (R2.past D1) (by omega) (by omega) ⟨l2, m2⟩).mono ?_
 rintro e u2 ⟨r2, rfl, hr2, b2⟩
 rcases hr2 with rfl | ⟨p2, q2⟩
 ·go_wp2
  go_ret
  exact ⟨rfl, D1.trans (b2.mono D1.size)⟩
 have S2 : SmP ps2 := ⟨by omega, by omega⟩
 have t2 : r2 ≤ 1048576 := by omega
 clear q2
 have bxA0 := bxA0.past b2
 have z2 := b2.size
 have D2 := D1.trans (b2.mono D1.size)
 have ybxA00 : _ = (some (.string x0.name) : Option Value) := bxA0.cell (j := 0) rfl
 have ybxA01 : _ = (some (.int .i64 x0.from_) : Option Value) := bxA0.cell (j := 1) rfl
 have ybxA02 : _ = (some (.slice AA0_2 x0.text.length cA0_2) : Option Value) := bxA0.cell (j := 2) rfl
 have ybxA03 : _ = (some (.slice AA0_3 x0.list.length cA0_3) : Option Value) := bxA0.cell (j := 3) rfl
 have ybxA04 : _ = (some (.slice AA0_4 x0.seen.length cA0_4) : Option Value) := bxA0.cell (j := 4) rfl
 go_wp2_with fail
 clear ybxA00 ybxA01 ybxA02 ybxA03 ybxA04
 refine (toDo _ x0 _ (R0.past D2) S0).mono ?_
 rintro e u3 ⟨v3, rfl, oT00, b3⟩
 obtain ⟨k3, oT0⟩ := oT00.blocks
 clear oT00
 obtain ⟨A3_2, c3_2, A3_3, c3_3, A3_4, c3_4, rfl, _, _, _⟩ := aggDo oT0.read
 have bxA0 := bxA0.past b3
 have z3 := b3.size
 have D3 := D2.trans (b3.mono D2.size)
 go_wp2_with fail
 refine (toP _ ps2 _ (R2.past D3) S2).mono ?_
 rintro e u4 ⟨v4, rfl, oT20, b4⟩
 obtain ⟨k4, oT2⟩ := oT20.blocks
 clear oT20
 obtain ⟨A4_, c4_, rfl⟩ := sliceP oT2.read
 have oT0 := oT0.past b4
 have bxA0 := bxA0.past b4
 have z4 := b4.size
 have D4 := D3.trans (b4.mono D3.size)
 go_wp2_with fail
 refine (specRebase_d _ _ x0 a1 ps2 _ oT0.read oT2.read S0 S2).mono ?_
 rintro e u5 ⟨v5, rfl, oW00, b5⟩
 have oT0 := oT0.past b5
 have oT2 := oT2.past b5
 have bxA0 := bxA0.past b5
 obtain ⟨k5, oW0⟩ := oW00.blocks
 clear oW00
 have z5 := b5.size
 have D5 := D4.trans (b5.mono D4.size)
 have hs0 : SmP (rebOp x0 a1 ps2) := rebase_small S0 S2
 generalize hL0 : (rebOp x0 a1 ps2) = L0 at *
 have HL0 := Lib.hid hL0
 clear hL0
 generalize hL1 : (rebCode x0 a1 ps2) = L1 at *
 have HL1 := Lib.hid hL1
 clear hL1
 have hc0 := cntP hs0
 generalize hn0 : cntC (encPs L0) = n0 at *
 have HN0 := Lib.hid hn0
 clear hn0
 have nm0 : (((1 : Int) + (n0 : Int)) != ((1 : Int) + (n0 : Int))) = false := by simp
 have nb1 : ((L1 : Int) != L1) = false := by simp
 obtain ⟨AW0_, cW0_, rfl⟩ := sliceP oW0.read
 clear oT0
 clear oT2
 have ybxA00 : _ = (some (.string x0.name) : Option Value) := bxA0.cell (j := 0) rfl
 have ybxA01 : _ = (some (.int .i64 x0.from_) : Option Value) := bxA0.cell (j := 1) rfl
 have ybxA02 : _ = (some (.slice AA0_2 x0.text.length cA0_2) : Option Value) := bxA0.cell (j := 2) rfl
 have ybxA03 : _ = (some (.slice AA0_3 x0.list.length cA0_3) : Option Value) := bxA0.cell (j := 3) rfl
 have ybxA04 : _ = (some (.slice AA0_4 x0.seen.length cA0_4) : Option Value) := bxA0.cell (j := 4) rfl
 go_wp2_with fail
 clear ybxA00 ybxA01 ybxA02 ybxA03 ybxA04
 refine (toDo _ x0 _ (R0.past D5) S0).mono ?_
 rintro e u6 ⟨v6, rfl, oX00, b6⟩
 obtain ⟨k6, oX0⟩ := oX00.blocks
 clear oX00
 obtain ⟨A6_2, c6_2, A6_3, c6_3, A6_4, c6_4, rfl, _, _, _⟩ := aggDo oX0.read
 have oW0 := oW0.past b6
 have bxA0 := bxA0.past b6
 have z6 := b6.size
 have D6 := D5.trans (b6.mono D5.size)
 have bxA0P := bxA0
 have bxA0L := bxA0.lt
 have ba6 := alloc_below u6 (.cells #[.string x0.name, .int .i64 x0.from_, .slice A6_2 x0.text.length c6_2, .slice A6_3 x0.list.length c6_3, .slice A6_4 x0.seen.length c6_4] 36)
 have oW0 := oW0.past ba6
 have oX0 := oX0.past ba6
 have bxA0 := bxA0.past ba6
 have bxX0 := Bx.new u6 #[.string x0.name, .int .i64 x0.from_, .slice A6_2 x0.text.length c6_2, .slice A6_3 x0.list.length c6_3, .slice A6_4 x0.seen.length c6_4] 36
 have zu6 : (u6.alloc (.cells #[.string x0.name, .int .i64 x0.from_, .slice A6_2 x0.text.length c6_2, .slice A6_3 x0.list.length c6_3, .slice A6_4 x0.seen.length c6_4] 36)).heap.size = u6.heap.size + 1 := World.size_alloc _ _
 have Da6 := D6.trans (ba6.mono D6.size)
 clear ba6
 go_wp2_with fail
 generalize u6.alloc (.cells #[.string x0.name, .int .i64 x0.from_, .slice A6_2 x0.text.length c6_2, .slice A6_3 x0.list.length c6_3, .slice A6_4 x0.seen.length c6_4] 36) = v6_ at oW0 oX0 bxA0 bxX0 zu6 Da6 ⊢
 clear bxA0P bxA0L
 refine (toP _ ps2 _ (R2.past Da6) S2).mono ?_
 rintro e u7 ⟨v7, rfl, oX20, b7⟩
 obtain ⟨k7, oX2⟩ := oX20.blocks
 clear oX20
 obtain ⟨A7_, c7_, rfl⟩ := sliceP oX2.read
 have oW0 := oW0.past b7
 have oX0 := oX0.past b7
 have bxA0 := bxA0.past b7
 have bxX0 := bxX0.past b7
 have z7 := b7.size
 have D7 := Da6.trans (b7.mono Da6.size)
 have ybxX00 : _ = (some (.string x0.name) : Option Value) := bxX0.cell (j := 0) rfl
 have ybxX01 : _ = (some (.int .i64 x0.from_) : Option Value) := bxX0.cell (j := 1) rfl
 have ybxX02 : _ = (some (.slice A6_2 x0.text.length c6_2) : Option Value) := bxX0.cell (j := 2) rfl
 have ybxX03 : _ = (some (.slice A6_3 x0.list.length c6_3) : Option Value) := bxX0.cell (j := 3) rfl
 have ybxX04 : _ = (some (.slice A6_4 x0.seen.length c6_4) : Option Value) := bxX0.cell (j := 4) rfl
 go_wp2_with fail
 clear ybxX00 ybxX01 ybxX02 ybxX03 ybxX04
 refine (implRebase_d _ _ x0 a1 ps2 _ oX0.read oX2.read S0 S2 (HG.out.past rfl D7)).mono ?_
 rw [HL0.out, HL1.out]
 rintro e u8 ⟨v8, rfl, oG00, b8⟩
 have oW0 := oW0.past b8
 have oX0 := oX0.past b8
 have oX2 := oX2.past b8
 have bxA0 := bxA0.past b8
 have bxX0 := bxX0.past b8
 obtain ⟨k8, oG0⟩ := oG00.blocks
 clear oG00
 have z8 := b8.size
 have D8 := D7.trans (b8.mono D7.size)
 obtain ⟨AG0_, cG0_, rfl⟩ := sliceP oG0.read
 have HAG := Lib.hid (show ∀ (x0_ : Value) (x2_ : Value) (u : World), RdC u u.heap.size (datDo x0) x0_ → RdC u u.heap.size (encPs ps2) x2_ → ET u → Calls Tryz.prog 11 #[x0_, .int .i64 a1, x2_] u (ResN (encPs L0) L1 u) from fun x0_ x2_ u h0_ h2_ hg_ => by rw [← HL0.out, ← HL1.out]; exact implRebase_d x0_ x2_ x0 a1 ps2 u h0_ h2_ S0 S2  hg_)
 go_wp2_with fail
 refine (eqP _ _ L0 _ oG0.read oW0.read hs0).mono ?_
 rintro e u9 ⟨rfl, b9⟩
 have oW0 := oW0.past b9
 have oX0 := oX0.past b9
 have oX2 := oX2.past b9
 have oG0 := oG0.past b9
 have bxA0 := bxA0.past b9
 have bxX0 := bxX0.past b9
 have z9 := b9.size
 have D9 := D8.trans (b9.mono D8.size)
 have lbxX0 := bxX0.lt
 have ybxX00 : u9.cell? ⟨u6.heap.size, 0, none⟩ = some (.string x0.name) := bxX0.cell (j := 0) rfl
 have ybxX01 : u9.cell? ⟨u6.heap.size, 1, none⟩ = some (.int .i64 x0.from_) := bxX0.cell (j := 1) rfl
 have ybxX02 : u9.cell? ⟨u6.heap.size, 2, none⟩ = some (.slice A6_2 x0.text.length c6_2) := bxX0.cell (j := 2) rfl
 have ybxX03 : u9.cell? ⟨u6.heap.size, 3, none⟩ = some (.slice A6_3 x0.list.length c6_3) := bxX0.cell (j := 3) rfl
 have ybxX04 : u9.cell? ⟨u6.heap.size, 4, none⟩ = some (.slice A6_4 x0.seen.length c6_4) := bxX0.cell (j := 4) rfl
 have lbxA0 := bxA0.lt
 have ybxA00 : u9.cell? ⟨w.heap.size, 0, none⟩ = some (.string x0.name) := bxA0.cell (j := 0) rfl
 have ybxA01 : u9.cell? ⟨w.heap.size, 1, none⟩ = some (.int .i64 x0.from_) := bxA0.cell (j := 1) rfl
 have ybxA02 : u9.cell? ⟨w.heap.size, 2, none⟩ = some (.slice AA0_2 x0.text.length cA0_2) := bxA0.cell (j := 2) rfl
 have ybxA03 : u9.cell? ⟨w.heap.size, 3, none⟩ = some (.slice AA0_3 x0.list.length cA0_3) := bxA0.cell (j := 3) rfl
 have ybxA04 : u9.cell? ⟨w.heap.size, 4, none⟩ = some (.slice AA0_4 x0.seen.length cA0_4) := bxA0.cell (j := 4) rfl
 have SX := Lib.hid (show ∀ (W W1 : World), (W.cell? ⟨u6.heap.size, 0, none⟩ = some (.string x0.name) ∧ W.cell? ⟨u6.heap.size, 1, none⟩ = some (.int .i64 x0.from_) ∧ W.cell? ⟨u6.heap.size, 2, none⟩ = some (.slice A6_2 x0.text.length c6_2) ∧ W.cell? ⟨u6.heap.size, 3, none⟩ = some (.slice A6_3 x0.list.length c6_3) ∧ W.cell? ⟨u6.heap.size, 4, none⟩ = some (.slice A6_4 x0.seen.length c6_4) ∧ W.cell? ⟨w.heap.size, 0, none⟩ = some (.string x0.name) ∧ W.cell? ⟨w.heap.size, 1, none⟩ = some (.int .i64 x0.from_) ∧ W.cell? ⟨w.heap.size, 2, none⟩ = some (.slice AA0_2 x0.text.length cA0_2) ∧ W.cell? ⟨w.heap.size, 3, none⟩ = some (.slice AA0_3 x0.list.length cA0_3) ∧ W.cell? ⟨w.heap.size, 4, none⟩ = some (.slice AA0_4 x0.seen.length cA0_4) ∧ KS u9 W) → Below W.heap.size W W1 → (W1.cell? ⟨u6.heap.size, 0, none⟩ = some (.string x0.name) ∧ W1.cell? ⟨u6.heap.size, 1, none⟩ = some (.int .i64 x0.from_) ∧ W1.cell? ⟨u6.heap.size, 2, none⟩ = some (.slice A6_2 x0.text.length c6_2) ∧ W1.cell? ⟨u6.heap.size, 3, none⟩ = some (.slice A6_3 x0.list.length c6_3) ∧ W1.cell? ⟨u6.heap.size, 4, none⟩ = some (.slice A6_4 x0.seen.length c6_4) ∧ W1.cell? ⟨w.heap.size, 0, none⟩ = some (.string x0.name) ∧ W1.cell? ⟨w.heap.size, 1, none⟩ = some (.int .i64 x0.from_) ∧ W1.cell? ⟨w.heap.size, 2, none⟩ = some (.slice AA0_2 x0.text.length cA0_2) ∧ W1.cell? ⟨w.heap.size, 3, none⟩ = some (.slice AA0_3 x0.list.length cA0_3) ∧ W1.cell? ⟨w.heap.size, 4, none⟩ = some (.slice AA0_4 x0.seen.length cA0_4) ∧ KS u9 W1) from fun W W1 h hb => by have hk := h.2.2.2.2.2.2.2.2.2.2; have hkk : KS u9 W1 := hk.trans (hb.mono hk.size); exact ⟨(hkk.cell (p := ⟨u6.heap.size, 0, none⟩) lbxX0).trans ybxX00, (hkk.cell (p := ⟨u6.heap.size, 1, none⟩) lbxX0).trans ybxX01, (hkk.cell (p := ⟨u6.heap.size, 2, none⟩) lbxX0).trans ybxX02, (hkk.cell (p := ⟨u6.heap.size, 3, none⟩) lbxX0).trans ybxX03, (hkk.cell (p := ⟨u6.heap.size, 4, none⟩) lbxX0).trans ybxX04, (hkk.cell (p := ⟨w.heap.size, 0, none⟩) lbxA0).trans ybxA00, (hkk.cell (p := ⟨w.heap.size, 1, none⟩) lbxA0).trans ybxA01, (hkk.cell (p := ⟨w.heap.size, 2, none⟩) lbxA0).trans ybxA02, (hkk.cell (p := ⟨w.heap.size, 3, none⟩) lbxA0).trans ybxA03, (hkk.cell (p := ⟨w.heap.size, 4, none⟩) lbxA0).trans ybxA04, hkk⟩)
 have RX := Lib.hid (show ∀ (W : World), (W.cell? ⟨u6.heap.size, 0, none⟩ = some (.string x0.name) ∧ W.cell? ⟨u6.heap.size, 1, none⟩ = some (.int .i64 x0.from_) ∧ W.cell? ⟨u6.heap.size, 2, none⟩ = some (.slice A6_2 x0.text.length c6_2) ∧ W.cell? ⟨u6.heap.size, 3, none⟩ = some (.slice A6_3 x0.list.length c6_3) ∧ W.cell? ⟨u6.heap.size, 4, none⟩ = some (.slice A6_4 x0.seen.length c6_4) ∧ W.cell? ⟨w.heap.size, 0, none⟩ = some (.string x0.name) ∧ W.cell? ⟨w.heap.size, 1, none⟩ = some (.int .i64 x0.from_) ∧ W.cell? ⟨w.heap.size, 2, none⟩ = some (.slice AA0_2 x0.text.length cA0_2) ∧ W.cell? ⟨w.heap.size, 3, none⟩ = some (.slice AA0_3 x0.list.length cA0_3) ∧ W.cell? ⟨w.heap.size, 4, none⟩ = some (.slice AA0_4 x0.seen.length cA0_4) ∧ KS u9 W) → RdC W W.heap.size (datDo x0) (.agg #[.string x0.name, .int .i64 x0.from_, .slice A6_2 x0.text.length c6_2, .slice A6_3 x0.list.length c6_3, .slice A6_4 x0.seen.length c6_4]) from fun W h => by have hk : Below u9.heap.size u9 W := h.2.2.2.2.2.2.2.2.2.2; exact (oX0.past hk).read)
 have RA := Lib.hid (show ∀ (W : World), (W.cell? ⟨u6.heap.size, 0, none⟩ = some (.string x0.name) ∧ W.cell? ⟨u6.heap.size, 1, none⟩ = some (.int .i64 x0.from_) ∧ W.cell? ⟨u6.heap.size, 2, none⟩ = some (.slice A6_2 x0.text.length c6_2) ∧ W.cell? ⟨u6.heap.size, 3, none⟩ = some (.slice A6_3 x0.list.length c6_3) ∧ W.cell? ⟨u6.heap.size, 4, none⟩ = some (.slice A6_4 x0.seen.length c6_4) ∧ W.cell? ⟨w.heap.size, 0, none⟩ = some (.string x0.name) ∧ W.cell? ⟨w.heap.size, 1, none⟩ = some (.int .i64 x0.from_) ∧ W.cell? ⟨w.heap.size, 2, none⟩ = some (.slice AA0_2 x0.text.length cA0_2) ∧ W.cell? ⟨w.heap.size, 3, none⟩ = some (.slice AA0_3 x0.list.length cA0_3) ∧ W.cell? ⟨w.heap.size, 4, none⟩ = some (.slice AA0_4 x0.seen.length cA0_4) ∧ KS u9 W) → RdC W W.heap.size (datDo x0) (.agg #[.string x0.name, .int .i64 x0.from_, .slice AA0_2 x0.text.length cA0_2, .slice AA0_3 x0.list.length cA0_3, .slice AA0_4 x0.seen.length cA0_4]) from fun W h => by have hk : Below u9.heap.size u9 W := h.2.2.2.2.2.2.2.2.2.2; exact R0.past (D9.trans (hk.mono D9.size)))
 have hS0 : u9.drew.cell? ⟨u6.heap.size, 0, none⟩ = some (.string x0.name) ∧ u9.drew.cell? ⟨u6.heap.size, 1, none⟩ = some (.int .i64 x0.from_) ∧ u9.drew.cell? ⟨u6.heap.size, 2, none⟩ = some (.slice A6_2 x0.text.length c6_2) ∧ u9.drew.cell? ⟨u6.heap.size, 3, none⟩ = some (.slice A6_3 x0.list.length c6_3) ∧ u9.drew.cell? ⟨u6.heap.size, 4, none⟩ = some (.slice A6_4 x0.seen.length c6_4) ∧ u9.drew.cell? ⟨w.heap.size, 0, none⟩ = some (.string x0.name) ∧ u9.drew.cell? ⟨w.heap.size, 1, none⟩ = some (.int .i64 x0.from_) ∧ u9.drew.cell? ⟨w.heap.size, 2, none⟩ = some (.slice AA0_2 x0.text.length cA0_2) ∧ u9.drew.cell? ⟨w.heap.size, 3, none⟩ = some (.slice AA0_3 x0.list.length cA0_3) ∧ u9.drew.cell? ⟨w.heap.size, 4, none⟩ = some (.slice AA0_4 x0.seen.length cA0_4) ∧ KS u9 u9.drew := ⟨ybxX00, ybxX01, ybxX02, ybxX03, ybxX04, ybxA00, ybxA01, ybxA02, ybxA03, ybxA04, KS.start _⟩
 clear ybxX00 ybxX01 ybxX02 ybxX03 ybxX04 ybxA00 ybxA01 ybxA02 ybxA03 ybxA04
 go_wp2
 go_region_held3 (fun W => W.cell? ⟨u6.heap.size, 0, none⟩ = some (.string x0.name) ∧ W.cell? ⟨u6.heap.size, 1, none⟩ = some (.int .i64 x0.from_) ∧ W.cell? ⟨u6.heap.size, 2, none⟩ = some (.slice A6_2 x0.text.length c6_2) ∧ W.cell? ⟨u6.heap.size, 3, none⟩ = some (.slice A6_3 x0.list.length c6_3) ∧ W.cell? ⟨u6.heap.size, 4, none⟩ = some (.slice A6_4 x0.seen.length c6_4) ∧ W.cell? ⟨w.heap.size, 0, none⟩ = some (.string x0.name) ∧ W.cell? ⟨w.heap.size, 1, none⟩ = some (.int .i64 x0.from_) ∧ W.cell? ⟨w.heap.size, 2, none⟩ = some (.slice AA0_2 x0.text.length cA0_2) ∧ W.cell? ⟨w.heap.size, 3, none⟩ = some (.slice AA0_3 x0.list.length cA0_3) ∧ W.cell? ⟨w.heap.size, 4, none⟩ = some (.slice AA0_4 x0.seen.length cA0_4) ∧ KS u9 W)
  (first | assumption | exact hS0 | (exact SX.out _ _ (by assumption) b10) | (exact SX.out _ _ (by assumption) b11))
  (first | (go_at_call 9; refine (toDo _ x0 _ (by exact RA.out _ (by assumption)) S0).mono ?_; rintro e u10 ⟨v10, rfl, o10, b10⟩; obtain ⟨A10_2, c10_2, A10_3, c10_3, A10_4, c10_4, rfl, _, _, _⟩ := aggDo o10.read) | (go_at_call 13; refine (eqDo _ _ x0 _ (by exact RX.out _ (by assumption)) (by exact o10.read) S0).mono ?_; rintro e u11 ⟨rfl, b11⟩))
 rename_i hS2
 have HK11 : Below u9.heap.size u9 u11 := hS2.2.2.2.2.2.2.2.2.2.2
 clear hS2 hS0 SX RX RA
 clear lbxX0 lbxA0
 have oW0 := oW0.past HK11
 have oX0 := oX0.past HK11
 have oX2 := oX2.past HK11
 have oG0 := oG0.past HK11
 have bxA0 := bxA0.past HK11
 have bxX0 := bxX0.past HK11
 have z11 := HK11.size
 have D11 := D9.trans (HK11.mono D9.size)
 clear o10 b10 b11
 go_wp2_with fail
 refine (toP _ ps2 _ (R2.past D11) S2).mono ?_
 rintro e u12 ⟨v12, rfl, oT90, b12⟩
 obtain ⟨k12, oT9⟩ := oT90.blocks
 clear oT90
 obtain ⟨A12_, c12_, rfl⟩ := sliceP oT9.read
 have oW0 := oW0.past b12
 have oX0 := oX0.past b12
 have oX2 := oX2.past b12
 have oG0 := oG0.past b12
 have bxA0 := bxA0.past b12
 have bxX0 := bxX0.past b12
 have z12 := b12.size
 have D12 := D11.trans (b12.mono D11.size)
 go_wp2_with fail
 refine (eqP _ _ ps2 _ oX2.read oT9.read S2).mono ?_
 rintro e u13 ⟨rfl, b13⟩
 have oW0 := oW0.past b13
 have oX0 := oX0.past b13
 have oX2 := oX2.past b13
 have oG0 := oG0.past b13
 have oT9 := oT9.past b13
 have bxA0 := bxA0.past b13
 have bxX0 := bxX0.past b13
 have z13 := b13.size
 have D13 := D12.trans (b13.mono D12.size)
 clear oT9
 have cx0 := cntDo S0
 have ybxX00 : _ = (some (.string x0.name) : Option Value) := bxX0.cell (j := 0) rfl
 have ybxX01 : _ = (some (.int .i64 x0.from_) : Option Value) := bxX0.cell (j := 1) rfl
 have ybxX02 : _ = (some (.slice A6_2 x0.text.length c6_2) : Option Value) := bxX0.cell (j := 2) rfl
 have ybxX03 : _ = (some (.slice A6_3 x0.list.length c6_3) : Option Value) := bxX0.cell (j := 3) rfl
 have ybxX04 : _ = (some (.slice A6_4 x0.seen.length c6_4) : Option Value) := bxX0.cell (j := 4) rfl
 go_wp2_with fail
 clear ybxX00 ybxX01 ybxX02 ybxX03 ybxX04
 refine (markDo _ x0 _ (1) _ oX0.ow oX0.nd (by omega) (by omega) S0).mono ?_
 rintro e u14 ⟨rfl, m14, e14_, b14, t14⟩
 have oW0 := oW0.past b14
 have oX0 := oX0.past b14
 have oX2 := oX2.past b14
 have oG0 := oG0.past b14
 have bxA0 := bxA0.past b14
 have bxX0 := bxX0.past b14
 have zb14 := b14.size
 have Db14 := D13.trans (b14.mono D13.size)
 have oW0 := oW0.apart oX0 t14 (by omega)
 have oX2 := oX2.apart oX0 t14 (by omega)
 have oG0 := oG0.apart oX0 t14 (by omega)
 have bxA0 := bxA0.apart oX0 t14 (by omega)
 have bxX0 := bxX0.apart oX0 t14 (by omega)
 have z14 := t14.size
 have D14 := Db14.trans (oX0.under t14 (by omega))
 clear oX0 m14
 generalize cntC (datDo x0) = nx0 at *
 have cx2 := cntP S2
 go_wp2_with fail
 refine (markP _ ps2 _ (1 + (nx0 : Int)) _ oX2.ow oX2.nd (by omega) (by omega) S2).mono ?_
 rintro e u15 ⟨rfl, m15, t15⟩
 have oW0 := oW0.apart oX2 t15 (by omega)
 have oG0 := oG0.apart oX2 t15 (by omega)
 have bxA0 := bxA0.apart oX2 t15 (by omega)
 have bxX0 := bxX0.apart oX2 t15 (by omega)
 have z15 := t15.size
 have D15 := D14.trans (oX2.under t15 (by omega))
 clear oX2 m15
 generalize cntC (encPs ps2) = nx2 at *
 go_wp2_with fail
 refine (eqP _ _ L0 _ oG0.read oW0.read hs0).mono ?_
 rintro e u16 ⟨rfl, b16⟩
 have oW0 := oW0.past b16
 have oG0 := oG0.past b16
 have bxA0 := bxA0.past b16
 have bxX0 := bxX0.past b16
 have z16 := b16.size
 have D16 := D15.trans (b16.mono D15.size)
 go_wp2_with fail
 refine (markP _ L0 _ (1) _ oG0.ow oG0.nd (by omega) (by omega) hs0).mono ?_
 rintro e u17 ⟨rfl, m17, t17⟩
 have oW0 := oW0.apart oG0 t17 (by omega)
 have bxA0 := bxA0.apart oG0 t17 (by omega)
 have bxX0 := bxX0.apart oG0 t17 (by omega)
 have z17 := t17.size
 have D17 := D16.trans (oG0.under t17 (by omega))
 have oG0 := oG0.marked m17 t17
 rw [HN0.out]
 go_wp2_with fail
 refine (heldP _ L0 (1) _ oG0.read (by omega) (by omega) hs0).mono ?_
 rintro e w'_ ⟨rfl, rfl⟩
 rw [HN0.out]
 have ybxA00 : _ = (some (.string x0.name) : Option Value) := bxA0.cell (j := 0) rfl
 have ybxA01 : _ = (some (.int .i64 x0.from_) : Option Value) := bxA0.cell (j := 1) rfl
 have ybxA02 : _ = (some (.slice AA0_2 x0.text.length cA0_2) : Option Value) := bxA0.cell (j := 2) rfl
 have ybxA03 : _ = (some (.slice AA0_3 x0.list.length cA0_3) : Option Value) := bxA0.cell (j := 3) rfl
 have ybxA04 : _ = (some (.slice AA0_4 x0.seen.length cA0_4) : Option Value) := bxA0.cell (j := 4) rfl
 go_wp2_with fail
 clear ybxA00 ybxA01 ybxA02 ybxA03 ybxA04
 refine (toDo _ x0 _ (R0.past D17) S0).mono ?_
 rintro e u19 ⟨v19, rfl, oT00, b19⟩
 obtain ⟨k19, oT0⟩ := oT00.blocks
 clear oT00
 obtain ⟨A19_2, c19_2, A19_3, c19_3, A19_4, c19_4, rfl, _, _, _⟩ := aggDo oT0.read
 have oW0 := oW0.past b19
 have oG0 := oG0.past b19
 have bxA0 := bxA0.past b19
 have bxX0 := bxX0.past b19
 have z19 := b19.size
 have D19 := D17.trans (b19.mono D17.size)
 go_wp2_with fail
 refine (toP _ ps2 _ (R2.past D19) S2).mono ?_
 rintro e u20 ⟨v20, rfl, oT20, b20⟩
 obtain ⟨k20, oT2⟩ := oT20.blocks
 clear oT20
 obtain ⟨A20_, c20_, rfl⟩ := sliceP oT2.read
 have oW0 := oW0.past b20
 have oG0 := oG0.past b20
 have oT0 := oT0.past b20
 have bxA0 := bxA0.past b20
 have bxX0 := bxX0.past b20
 have z20 := b20.size
 have D20 := D19.trans (b20.mono D19.size)
 go_wp2_with fail
 refine (HAG.out _ _ _ oT0.read oT2.read (HG.out.past rfl D20)).mono ?_
 rintro e u21 ⟨v21, rfl, oH00, b21⟩
 have oW0 := oW0.past b21
 have oG0 := oG0.past b21
 have oT0 := oT0.past b21
 have oT2 := oT2.past b21
 have bxA0 := bxA0.past b21
 have bxX0 := bxX0.past b21
 obtain ⟨k21, oH0⟩ := oH00.blocks
 clear oH00
 have z21 := b21.size
 have D21 := D20.trans (b21.mono D20.size)
 obtain ⟨AH0_, cH0_, rfl⟩ := sliceP oH0.read
 clear oT0
 clear oT2
 go_wp2_with fail
 refine (eqP _ _ L0 _ oH0.read oW0.read hs0).mono ?_
 rintro e u22 ⟨rfl, b22⟩
 have oW0 := oW0.past b22
 have oG0 := oG0.past b22
 have oH0 := oH0.past b22
 have bxA0 := bxA0.past b22
 have bxX0 := bxX0.past b22
 have z22 := b22.size
 have D22 := D21.trans (b22.mono D21.size)
 go_wp2_with fail
 refine (heldP _ L0 (1) _ oG0.read (by omega) (by omega) hs0).mono ?_
 rintro e w'_ ⟨rfl, rfl⟩
 rw [HN0.out]
 go_wp2
 go_ret
 exact ⟨rfl, D22⟩
theorem contract (H : Type) (enc : TypeId × Value → H) (W : World) (base : Nat) (args : Array Value) (ds gs : List (DataW H)) (before : List MemPlace)
  (hval0 : ∀ (j : Nat) t v, Tryz.f3.params[j]? = some t → args[j]? = some v → Value.okWide Tryz.prog W .any base t v)
  (hW : DataW.Whole enc Tryz.prog Tryz.f3.params.toList Rows.fnExactRebaseSpec.vars false W args.toList ds gs before) (hL : laidMetH Tryz.prog Rows.fnExactRebaseRow.laid W) :
  Calls Tryz.prog 3 args W fun e W' => ∃ v, e = .returned v ∧ Rows.fnExactRebaseSpec.post enc Tryz.prog Tryz.f3 false true false false W args v W' := by
 have hval : ∀ (j : Nat) t v, Tryz.f3.params[j]? = some t → args[j]? = some v → Value.okWide Tryz.prog W .any base t v := hval0
 have hW' := hW
 obtain ⟨p, q, hA0, hV, rfl, hfz, hnd⟩ := hW
 have hA : DataW.TrodAll enc Tryz.prog W 0 (fun _ => true) true Tryz.f3.params.toList args.toList ds p := hA0
 rw [Tryz.params3] at hA hval
 obtain ⟨v0, vs0, x0, xs0, q0, r0, hargs, rfl, rfl, h0, t0⟩ := trodAll_cons hA
 obtain ⟨v1, vs1, x1, xs1, q1, r1, rfl, rfl, rfl, h1, t1⟩ := trodAll_cons t0
 obtain ⟨v2, vs2, x2, xs2, q2, r2, rfl, rfl, rfl, h2, t2⟩ := trodAll_cons t1
 obtain ⟨rfl, rfl, rfl⟩ := trodAll_nil t2
 obtain rfl : args = #[v0, v1, v2] := by cases args; simp_all
 obtain ⟨rfl, rfl⟩ := trodVars_none hV
 have k0 := h0
 have lt0 : ∀ x ∈ q0, x.block < W.heap.size := by obtain ⟨m, hm⟩ := k0; exact DataW.trod_lt m _ _ _ hm
 have k1 := h1
 have lt1 : ∀ x ∈ q1, x.block < W.heap.size := by obtain ⟨m, hm⟩ := k1; exact DataW.trod_lt m _ _ _ hm
 have k2 := h2
 have lt2 : ∀ x ∈ q2, x.block < W.heap.size := by obtain ⟨m, hm⟩ := k2; exact DataW.trod_lt m _ _ _ hm
 obtain ⟨cs0, rfl, hsz0⟩ := okWide_struct Tryz.underlying26 (hval 0 26 v0 rfl rfl)
 obtain ⟨f0, hf0⟩ := h0
 obtain ⟨x0, A0_2, c0_2, A0_3, c0_3, A0_4, c0_4, e0, r0_2, r0_3, r0_4, l0⟩ := open_dDo hf0
 obtain rfl : cs0 = #[.string x0.name, .int .i64 x0.from_, .slice A0_2 x0.text.length c0_2, .slice A0_3 x0.list.length c0_3, .slice A0_4 x0.seen.length c0_4] := by cases cs0; simpa [Value.cells] using e0
 obtain ⟨a1, rfl, rfl, rfl, w1⟩ := open_int Tryz.underlying3 (hval 1 3 v1 rfl rfl) h1
 obtain ⟨B2, n2, d2, rfl⟩ := okWide_slice Tryz.underlying27 (hval 2 27 v2 rfl rfl)
 obtain ⟨f2, hf2⟩ := h2
 obtain ⟨ps2, A2, c2, e2, w2, l2, m2⟩ := open_dparts hf2
 obtain ⟨rfl, rfl, rfl⟩ : B2 = A2 ∧ n2 = ps2.length ∧ d2 = c2 := by simpa [Value.cells] using e2
 clear hA0 hval0
 refine (walk x0 _ a1 B2 d2 ps2 W (rdDo x0 r0_2 r0_3 r0_4) l0 w1 w2 l2 m2 (et hL)).mono fun e W' ⟨he, bel⟩ => ?_
 subst he
 exact ⟨_, rfl, _, _, _, [], _, [], hW', trodAll_mk1 (shut_bool Tryz.underlying4 _), (trodAll_cons_mk (Below.trod laidOut (by kernel_rfl) (of_decide_eq_true (by kernel_rfl)) k0 bel lt0) (trodAll_cons_mk (Below.trod laidOut (by kernel_rfl) (of_decide_eq_true (by kernel_rfl)) k1 bel lt1) (trodAll_cons_mk (Below.trod laidOut (by kernel_rfl) (of_decide_eq_true (by kernel_rfl)) k2 bel lt2) trodAll_mk0))), rfl, bel.frame _, fun h => by cases h⟩
noncomputable def laidWorld (os : Os) : World :=
 let w0 := World.holding Tryz.prog os ⟨#[], #[], []⟩
 { w0 with heap := w0.heap.modify 0 fun
   | .cells _ t frozen => .cells #[.iface 146 (.agg #[.pointer (some ⟨1, 74, none⟩)])] t frozen
   | o => o }
theorem laid_met (os : Os) : laidMetH Tryz.prog Rows.fnExactRebaseRow.laid ((laidWorld os).forCall (fun _ _ => 0) ⟨#[], #[.agg #[.string ⟨#[]⟩, .int .i64 0, .slice none 0 0, .slice none 0 0, .slice none 0 0], .int .i64 0, .slice none 0 0], []⟩).memory :=
 laidMetH_of_parts (laidMet_nil _ _) (by kernel_rfl)
theorem reads (os : Os) {H : Type} (enc : TypeId × Value → H) : ∃ places, DataW.whole enc Tryz.prog ((laidWorld os).forCall (fun _ _ => 0) ⟨#[], #[.agg #[.string ⟨#[]⟩, .int .i64 0, .slice none 0 0, .slice none 0 0, .slice none 0 0], .int .i64 0, .slice none 0 0], []⟩).memory Tryz.f3.params.toList Rows.fnExactRebaseSpec.vars false #[Value.agg #[.string ⟨#[]⟩, .int .i64 0, .slice none 0 0, .slice none 0 0, .slice none 0 0], Value.int .i64 0, Value.slice none 0 0].toList 8 = some ([.agg [.lit (.string []), .lit (.int .i64 0), .nil, .nil, .nil], .lit (.int .i64 0), .nil], [], places) :=
 ⟨[], by kernel_rfl⟩
theorem lifted (os : Os) (started : os.Started) (H : Type) (enc : TypeId × Value → H) (F : Stop.Interp) :
  ReturnsInHanded {} Tryz.checked os 3 .any ((OpenSpec.ofChange Rows.fnExactRebaseSpec).preRow enc Tryz.prog Tryz.f3 Rows.fnExactRebaseRow.domain false Rows.fnExactRebaseRow.laid) (((OpenSpec.ofChange Rows.fnExactRebaseSpec).at F).post enc Tryz.prog Tryz.f3 false true false false) := by
 obtain ⟨places, hx⟩ := reads os enc
 refine returnsInHanded_of_row (C := Tryz.checked) (s := OpenSpec.ofChange Rows.fnExactRebaseSpec) own started (by kernel_rfl) Tryz.func3
  (witness_row_atRef (enc := enc) (C := Tryz.checked) false (laidWorld os) #[.agg #[.string ⟨#[]⟩, .int .i64 0, .slice none 0 0, .slice none 0 0, .slice none 0 0], .int .i64 0, .slice none 0 0] rfl (by kernel_rfl) (by kernel_rfl) (by kernel_rfl)
   (OpenSpec.preRow_of_cond 8 hx (by kernel_rfl) (fun k hk => by cases hk) (by kernel_rfl) (laid_met os))) ?_
 intro W base args ds gs before hval hW _ _ _ hL _ _
 exact contract H enc W base args ds gs before hval hW hL
theorem said : Rows.FnExactRebaseSaid :=
 OpenClaim.holds_of_cond 3 Tryz.f3 rfl rfl rfl rfl rfl rfl rfl ⟨rfl, rfl, rfl, rfl, rfl⟩ rfl rfl rfl rfl rfl (by kernel_rfl) Tryz.func3 (by kernel_rfl)
  (of_decide_eq_true (by kernel_rfl)) (by unfold Func.isWrapper; first | (rw [if_pos (by decide +kernel)]; kernel_rfl) | (rw [if_neg (by decide +kernel)]; exact ⟨rfl, rfl⟩))
  (fun os started H enc _ F => by rw [OpenClaim.pre_eq_preRow]; exact lifted os started H enc F)
theorem plain (f : FuncId) (fn : Func) (hf : Tryz.pinned.checked.prog.funcNamed "loop.example/g00797/laws.FnExactRebase" = some f) (hfn : Tryz.pinned.checked.prog.funcs[f]? = some fn) :
  true = Tryz.pinned.checked.prog.looks [] ∧ ∀ (j : Nat) t, fn.params[j]? = some t → Tryz.pinned.checked.prog.wantsStandIn t = false := by
 obtain rfl : f = 3 := Option.some.inj ((show Tryz.prog.funcNamed "loop.example/g00797/laws.FnExactRebase" = some 3 by kernel_rfl).symm.trans hf) |>.symm
 obtain rfl : fn = Tryz.f3 := (Option.some.inj (Tryz.func3.symm.trans hfn)).symm
 refine ⟨by kernel_rfl, fun j t ht => ?_⟩
 have hall : (Tryz.f3.params.toList.all fun t => !Tryz.prog.wantsStandIn t) = true := by kernel_rfl
 have hm := List.all_eq_true.1 hall t (by rw [Array.mem_toList_iff]; exact Array.mem_of_getElem? ht)
 have hm' : (!Tryz.prog.wantsStandIn t) = true := hm
 exact show Tryz.prog.wantsStandIn t = false by
  cases hq : Tryz.prog.wantsStandIn t
  ·rfl
  ·rw [hq] at hm'
   cases hm'
theorem card : Rows.FnExactRebaseCardSaid :=
 Claim7.holds_tied_plain_at .later [] _ _ _ _ said (fun _ h => by cases h) (by kernel_rfl) (fun _ h => by cases h) fnExactRebase_row_tie rfl ⟨rfl, rfl⟩ (by kernel_rfl) rfl plain (by kernel_rfl)
end Go.Proofs.YtbpeeokgpkjnmaaGreatDoor.fnExactRebase
