/-
  Proved: for every argument (document, number), the law FnExactForget of this seat's translation returns true (impl.Forget answers as spec.Forget does, twice, leaves its arguments alone, and its result owns its memory); no conditions.
-/
import Derived.Test.YtninppjomdhnmaaGreatRows
import Derived.Test.YtninppjomdhnmaaGreatM1
import Derived.WalkKit
import Derived.ProofKit
import Derived.OpenShut
import Derived.ShutString
import Derived.ChangeOld
import Derived.Below
import Derived.Test.YtninppjomdhnmaaGreatM2
import Derived.Test.YtninppjomdhnmaaGreatM3
import Derived.Test.YtninppjomdhnmaaGreatM4
namespace Go.Proofs.YtninppjomdhnmaaGreat.fnExactForget
open Go.ChangeShapes Go.WideShapes Go.ChangeAt Go.RowKit
open Go.ChangeMaps (open_string shut_string)
open low
set_option linter.unusedVariables false

theorem own : ownKnob Tryz.prog.godebug = none := by kernel_rfl
set_option maxRecDepth 100000 in
set_option maxHeartbeats 1600000 in
theorem walk (x0 : Do) (y0 : Value) (a1 : Int) (w : World) (w0 : RdC w w.heap.size (datDo x0) y0) (l0 : LimDo x0) (w1 : (Lit.int .i64 a1).wf = true) :
    Calls Tryz.prog 3 #[y0, .int .i64 a1] w fun e w' => e = .returned (.bool true) ∧ Below w.heap.size w w' := by
  have D0 : Below w.heap.size w w := Below.refl _ _
  have R0 := w0
  obtain ⟨AA0_2, cA0_2, AA0_3, cA0_3, AA0_4, cA0_4, rfl, _, _, _⟩ := aggDo w0
  have bxA0 := Bx.new w #[.string x0.name, .int .i64 x0.from_, .slice AA0_2 x0.text.length cA0_2, .slice AA0_3 x0.list.length cA0_3, .slice AA0_4 x0.seen.length cA0_4] 26
  have DE := alloc_below w (.cells #[.string x0.name, .int .i64 x0.from_, .slice AA0_2 x0.text.length cA0_2, .slice AA0_3 x0.list.length cA0_3, .slice AA0_4 x0.seen.length cA0_4] 26)
  have zE : (w.alloc (.cells #[.string x0.name, .int .i64 x0.from_, .slice AA0_2 x0.text.length cA0_2, .slice AA0_3 x0.list.length cA0_3, .slice AA0_4 x0.seen.length cA0_4] 26)).heap.size = w.heap.size + 1 := World.size_alloc _ _
  go_enter Tryz.func3, Tryz.ntmps3
  go_wp2_with fail
  generalize (w.alloc (.cells #[.string x0.name, .int .i64 x0.from_, .slice AA0_2 x0.text.length cA0_2, .slice AA0_3 x0.list.length cA0_3, .slice AA0_4 x0.seen.length cA0_4] 26)) = wE at bxA0 DE zE ⊢
  refine (szDo _ x0 1048576 _ (R0.past DE) (by omega) (by omega) l0).mono ?_
  rintro e u1 ⟨r1, rfl, hr1, b1⟩
  rcases hr1 with rfl | ⟨p1, q1⟩
  · go_wp2
    go_ret
    exact ⟨rfl, DE.trans (b1.mono DE.size)⟩
  have S0 : SmDo x0 := by unfold SmDo; omega
  have t1 : r1 ≤ 1048576 := by omega
  clear q1
  have bxA0 := bxA0.past b1
  have z1 := b1.size
  have D1 := DE.trans (b1.mono DE.size)
  have ybxA00 : _ = (some (.string x0.name) : Option Value) := bxA0.cell (j := 0) rfl
  have ybxA01 : _ = (some (.int .i64 x0.from_) : Option Value) := bxA0.cell (j := 1) rfl
  have ybxA02 : _ = (some (.slice AA0_2 x0.text.length cA0_2) : Option Value) := bxA0.cell (j := 2) rfl
  have ybxA03 : _ = (some (.slice AA0_3 x0.list.length cA0_3) : Option Value) := bxA0.cell (j := 3) rfl
  have ybxA04 : _ = (some (.slice AA0_4 x0.seen.length cA0_4) : Option Value) := bxA0.cell (j := 4) rfl
  go_wp2_with fail
  clear ybxA00 ybxA01 ybxA02 ybxA03 ybxA04
  refine (toDo _ x0 _ (R0.past D1) S0).mono ?_
  rintro e u2 ⟨v2, rfl, oT00, b2⟩
  obtain ⟨k2, oT0⟩ := oT00.blocks
  clear oT00
  obtain ⟨A2_2, c2_2, A2_3, c2_3, A2_4, c2_4, rfl, _, _, _⟩ := aggDo oT0.read
  have bxA0 := bxA0.past b2
  have z2 := b2.size
  have D2 := D1.trans (b2.mono D1.size)
  go_wp2_with fail
  refine (specForget_d _ x0 a1 _ oT0.read S0 (rngI w1)).mono ?_
  rintro e u3 ⟨v3, rfl, oW00, b3⟩
  have oT0 := oT0.past b3
  have bxA0 := bxA0.past b3
  obtain ⟨k3, oW0⟩ := oW00.blocks
  clear oW00
  have z3 := b3.size
  have D3 := D2.trans (b3.mono D2.size)
  have hs0 : SmDo (forgetT x0 a1) := forget_small S0
  generalize hL0 : (forgetT x0 a1) = L0 at *
  have HL0 := Lib.hid hL0
  clear hL0
  generalize hL1 : (forgetB x0 a1) = L1 at *
  have HL1 := Lib.hid hL1
  clear hL1
  have hc0 := cntDo hs0
  generalize hn0 : cntC (datDo L0) = n0 at *
  have HN0 := Lib.hid hn0
  clear hn0
  have nm0 : (((1 : Int) + (n0 : Int)) != ((1 : Int) + (n0 : Int))) = false := by simp
  have nb1 : (L1 != L1) = false := by simp
  obtain ⟨AW0_2, cW0_2, AW0_3, cW0_3, AW0_4, cW0_4, rfl, _, _, _⟩ := aggDo oW0.read
  have bxA0P := bxA0
  have bxA0L := bxA0.lt
  have ba3 := alloc_below u3 (.cells #[.string L0.name, .int .i64 L0.from_, .slice AW0_2 L0.text.length cW0_2, .slice AW0_3 L0.list.length cW0_3, .slice AW0_4 L0.seen.length cW0_4] 31)
  have oT0 := oT0.past ba3
  have oW0 := oW0.past ba3
  have bxA0 := bxA0.past ba3
  have bxW0 := Bx.new u3 #[.string L0.name, .int .i64 L0.from_, .slice AW0_2 L0.text.length cW0_2, .slice AW0_3 L0.list.length cW0_3, .slice AW0_4 L0.seen.length cW0_4] 31
  have zu3 : (u3.alloc (.cells #[.string L0.name, .int .i64 L0.from_, .slice AW0_2 L0.text.length cW0_2, .slice AW0_3 L0.list.length cW0_3, .slice AW0_4 L0.seen.length cW0_4] 31)).heap.size = u3.heap.size + 1 := World.size_alloc _ _
  have Da3 := D3.trans (ba3.mono D3.size)
  clear ba3
  clear oT0
  have ybxA00 : _ = (some (.string x0.name) : Option Value) := bxA0P.cell (j := 0) rfl
  have ybxA01 : _ = (some (.int .i64 x0.from_) : Option Value) := bxA0P.cell (j := 1) rfl
  have ybxA02 : _ = (some (.slice AA0_2 x0.text.length cA0_2) : Option Value) := bxA0P.cell (j := 2) rfl
  have ybxA03 : _ = (some (.slice AA0_3 x0.list.length cA0_3) : Option Value) := bxA0P.cell (j := 3) rfl
  have ybxA04 : _ = (some (.slice AA0_4 x0.seen.length cA0_4) : Option Value) := bxA0P.cell (j := 4) rfl
  go_wp2_with fail
  generalize u3.alloc (.cells #[.string L0.name, .int .i64 L0.from_, .slice AW0_2 L0.text.length cW0_2, .slice AW0_3 L0.list.length cW0_3, .slice AW0_4 L0.seen.length cW0_4] 31) = v3_ at oW0 bxA0 bxW0 zu3 Da3 ⊢
  clear bxA0P bxA0L
  clear ybxA00 ybxA01 ybxA02 ybxA03 ybxA04
  refine (toDo _ x0 _ (R0.past Da3) S0).mono ?_
  rintro e u4 ⟨v4, rfl, oX00, b4⟩
  obtain ⟨k4, oX0⟩ := oX00.blocks
  clear oX00
  obtain ⟨A4_2, c4_2, A4_3, c4_3, A4_4, c4_4, rfl, _, _, _⟩ := aggDo oX0.read
  have oW0 := oW0.past b4
  have bxA0 := bxA0.past b4
  have bxW0 := bxW0.past b4
  have z4 := b4.size
  have D4 := Da3.trans (b4.mono Da3.size)
  have bxA0P := bxA0
  have bxA0L := bxA0.lt
  have bxW0P := bxW0
  have bxW0L := bxW0.lt
  have ba4 := alloc_below u4 (.cells #[.string x0.name, .int .i64 x0.from_, .slice A4_2 x0.text.length c4_2, .slice A4_3 x0.list.length c4_3, .slice A4_4 x0.seen.length c4_4] 31)
  have oW0 := oW0.past ba4
  have oX0 := oX0.past ba4
  have bxA0 := bxA0.past ba4
  have bxW0 := bxW0.past ba4
  have bxX0 := Bx.new u4 #[.string x0.name, .int .i64 x0.from_, .slice A4_2 x0.text.length c4_2, .slice A4_3 x0.list.length c4_3, .slice A4_4 x0.seen.length c4_4] 31
  have zu4 : (u4.alloc (.cells #[.string x0.name, .int .i64 x0.from_, .slice A4_2 x0.text.length c4_2, .slice A4_3 x0.list.length c4_3, .slice A4_4 x0.seen.length c4_4] 31)).heap.size = u4.heap.size + 1 := World.size_alloc _ _
  have Da4 := D4.trans (ba4.mono D4.size)
  clear ba4
  go_wp2_with fail
  generalize u4.alloc (.cells #[.string x0.name, .int .i64 x0.from_, .slice A4_2 x0.text.length c4_2, .slice A4_3 x0.list.length c4_3, .slice A4_4 x0.seen.length c4_4] 31) = v4_ at oW0 oX0 bxA0 bxW0 bxX0 zu4 Da4 ⊢
  clear bxA0P bxA0L
  clear bxW0P bxW0L
  refine (implForget_d _ x0 a1 _ oX0.read S0 (rngI w1)).mono ?_
  rw [HL0.out, HL1.out]
  rintro e u5 ⟨v5, rfl, oG00, b5⟩
  have oW0 := oW0.past b5
  have oX0 := oX0.past b5
  have bxA0 := bxA0.past b5
  have bxW0 := bxW0.past b5
  have bxX0 := bxX0.past b5
  obtain ⟨k5, oG0⟩ := oG00.blocks
  clear oG00
  have z5 := b5.size
  have D5 := Da4.trans (b5.mono Da4.size)
  obtain ⟨AG0_2, cG0_2, AG0_3, cG0_3, AG0_4, cG0_4, rfl, _, _, _⟩ := aggDo oG0.read
  have bxA0P := bxA0
  have bxA0L := bxA0.lt
  have bxW0P := bxW0
  have bxW0L := bxW0.lt
  have bxX0P := bxX0
  have bxX0L := bxX0.lt
  have ba5 := alloc_below u5 (.cells #[.string L0.name, .int .i64 L0.from_, .slice AG0_2 L0.text.length cG0_2, .slice AG0_3 L0.list.length cG0_3, .slice AG0_4 L0.seen.length cG0_4] 31)
  have oW0 := oW0.past ba5
  have oX0 := oX0.past ba5
  have oG0 := oG0.past ba5
  have bxA0 := bxA0.past ba5
  have bxW0 := bxW0.past ba5
  have bxX0 := bxX0.past ba5
  have bxG0 := Bx.new u5 #[.string L0.name, .int .i64 L0.from_, .slice AG0_2 L0.text.length cG0_2, .slice AG0_3 L0.list.length cG0_3, .slice AG0_4 L0.seen.length cG0_4] 31
  have zu5 : (u5.alloc (.cells #[.string L0.name, .int .i64 L0.from_, .slice AG0_2 L0.text.length cG0_2, .slice AG0_3 L0.list.length cG0_3, .slice AG0_4 L0.seen.length cG0_4] 31)).heap.size = u5.heap.size + 1 := World.size_alloc _ _
  have Da5 := D5.trans (ba5.mono D5.size)
  clear ba5
  have HAG := Lib.hid (show ∀ (x0_ : Value) (u : World), RdC u u.heap.size (datDo x0) x0_ → Calls Tryz.prog 8 #[x0_, .int .i64 a1] u (ResB (datDo L0) L1 u) from fun x0_ u h0_ => by rw [← HL0.out, ← HL1.out]; exact implForget_d x0_ x0 a1 u h0_ S0 (rngI w1))
  have ybxW00 : _ = (some (.string L0.name) : Option Value) := bxW0P.cell (j := 0) rfl
  have ybxW01 : _ = (some (.int .i64 L0.from_) : Option Value) := bxW0P.cell (j := 1) rfl
  have ybxW02 : _ = (some (.slice AW0_2 L0.text.length cW0_2) : Option Value) := bxW0P.cell (j := 2) rfl
  have ybxW03 : _ = (some (.slice AW0_3 L0.list.length cW0_3) : Option Value) := bxW0P.cell (j := 3) rfl
  have ybxW04 : _ = (some (.slice AW0_4 L0.seen.length cW0_4) : Option Value) := bxW0P.cell (j := 4) rfl
  go_wp2_with fail
  generalize u5.alloc (.cells #[.string L0.name, .int .i64 L0.from_, .slice AG0_2 L0.text.length cG0_2, .slice AG0_3 L0.list.length cG0_3, .slice AG0_4 L0.seen.length cG0_4] 31) = v5_ at oW0 oX0 oG0 bxA0 bxW0 bxX0 bxG0 zu5 Da5 ⊢
  clear bxA0P bxA0L
  clear bxW0P bxW0L
  clear bxX0P bxX0L
  clear ybxW00 ybxW01 ybxW02 ybxW03 ybxW04
  refine (eqDo _ _ L0 _ oG0.read oW0.read hs0).mono ?_
  rintro e u6 ⟨rfl, b6⟩
  have oW0 := oW0.past b6
  have oX0 := oX0.past b6
  have oG0 := oG0.past b6
  have bxA0 := bxA0.past b6
  have bxW0 := bxW0.past b6
  have bxX0 := bxX0.past b6
  have bxG0 := bxG0.past b6
  have z6 := b6.size
  have D6 := Da5.trans (b6.mono Da5.size)
  have lbxX0 := bxX0.lt
  have ybxX00 : u6.cell? ⟨u4.heap.size, 0, none⟩ = some (.string x0.name) := bxX0.cell (j := 0) rfl
  have ybxX01 : u6.cell? ⟨u4.heap.size, 1, none⟩ = some (.int .i64 x0.from_) := bxX0.cell (j := 1) rfl
  have ybxX02 : u6.cell? ⟨u4.heap.size, 2, none⟩ = some (.slice A4_2 x0.text.length c4_2) := bxX0.cell (j := 2) rfl
  have ybxX03 : u6.cell? ⟨u4.heap.size, 3, none⟩ = some (.slice A4_3 x0.list.length c4_3) := bxX0.cell (j := 3) rfl
  have ybxX04 : u6.cell? ⟨u4.heap.size, 4, none⟩ = some (.slice A4_4 x0.seen.length c4_4) := bxX0.cell (j := 4) rfl
  have lbxA0 := bxA0.lt
  have ybxA00 : u6.cell? ⟨w.heap.size, 0, none⟩ = some (.string x0.name) := bxA0.cell (j := 0) rfl
  have ybxA01 : u6.cell? ⟨w.heap.size, 1, none⟩ = some (.int .i64 x0.from_) := bxA0.cell (j := 1) rfl
  have ybxA02 : u6.cell? ⟨w.heap.size, 2, none⟩ = some (.slice AA0_2 x0.text.length cA0_2) := bxA0.cell (j := 2) rfl
  have ybxA03 : u6.cell? ⟨w.heap.size, 3, none⟩ = some (.slice AA0_3 x0.list.length cA0_3) := bxA0.cell (j := 3) rfl
  have ybxA04 : u6.cell? ⟨w.heap.size, 4, none⟩ = some (.slice AA0_4 x0.seen.length cA0_4) := bxA0.cell (j := 4) rfl
  have SX := Lib.hid (show ∀ (W W1 : World), (W.cell? ⟨u4.heap.size, 0, none⟩ = some (.string x0.name) ∧ W.cell? ⟨u4.heap.size, 1, none⟩ = some (.int .i64 x0.from_) ∧ W.cell? ⟨u4.heap.size, 2, none⟩ = some (.slice A4_2 x0.text.length c4_2) ∧ W.cell? ⟨u4.heap.size, 3, none⟩ = some (.slice A4_3 x0.list.length c4_3) ∧ W.cell? ⟨u4.heap.size, 4, none⟩ = some (.slice A4_4 x0.seen.length c4_4) ∧ W.cell? ⟨w.heap.size, 0, none⟩ = some (.string x0.name) ∧ W.cell? ⟨w.heap.size, 1, none⟩ = some (.int .i64 x0.from_) ∧ W.cell? ⟨w.heap.size, 2, none⟩ = some (.slice AA0_2 x0.text.length cA0_2) ∧ W.cell? ⟨w.heap.size, 3, none⟩ = some (.slice AA0_3 x0.list.length cA0_3) ∧ W.cell? ⟨w.heap.size, 4, none⟩ = some (.slice AA0_4 x0.seen.length cA0_4) ∧ KS u6 W) → Below W.heap.size W W1 → (W1.cell? ⟨u4.heap.size, 0, none⟩ = some (.string x0.name) ∧ W1.cell? ⟨u4.heap.size, 1, none⟩ = some (.int .i64 x0.from_) ∧ W1.cell? ⟨u4.heap.size, 2, none⟩ = some (.slice A4_2 x0.text.length c4_2) ∧ W1.cell? ⟨u4.heap.size, 3, none⟩ = some (.slice A4_3 x0.list.length c4_3) ∧ W1.cell? ⟨u4.heap.size, 4, none⟩ = some (.slice A4_4 x0.seen.length c4_4) ∧ W1.cell? ⟨w.heap.size, 0, none⟩ = some (.string x0.name) ∧ W1.cell? ⟨w.heap.size, 1, none⟩ = some (.int .i64 x0.from_) ∧ W1.cell? ⟨w.heap.size, 2, none⟩ = some (.slice AA0_2 x0.text.length cA0_2) ∧ W1.cell? ⟨w.heap.size, 3, none⟩ = some (.slice AA0_3 x0.list.length cA0_3) ∧ W1.cell? ⟨w.heap.size, 4, none⟩ = some (.slice AA0_4 x0.seen.length cA0_4) ∧ KS u6 W1) from fun W W1 h hb => by have hk := h.2.2.2.2.2.2.2.2.2.2; have hkk : KS u6 W1 := hk.trans (hb.mono hk.size); exact ⟨(hkk.cell (p := ⟨u4.heap.size, 0, none⟩) lbxX0).trans ybxX00, (hkk.cell (p := ⟨u4.heap.size, 1, none⟩) lbxX0).trans ybxX01, (hkk.cell (p := ⟨u4.heap.size, 2, none⟩) lbxX0).trans ybxX02, (hkk.cell (p := ⟨u4.heap.size, 3, none⟩) lbxX0).trans ybxX03, (hkk.cell (p := ⟨u4.heap.size, 4, none⟩) lbxX0).trans ybxX04, (hkk.cell (p := ⟨w.heap.size, 0, none⟩) lbxA0).trans ybxA00, (hkk.cell (p := ⟨w.heap.size, 1, none⟩) lbxA0).trans ybxA01, (hkk.cell (p := ⟨w.heap.size, 2, none⟩) lbxA0).trans ybxA02, (hkk.cell (p := ⟨w.heap.size, 3, none⟩) lbxA0).trans ybxA03, (hkk.cell (p := ⟨w.heap.size, 4, none⟩) lbxA0).trans ybxA04, hkk⟩)
  have RX := Lib.hid (show ∀ (W : World), (W.cell? ⟨u4.heap.size, 0, none⟩ = some (.string x0.name) ∧ W.cell? ⟨u4.heap.size, 1, none⟩ = some (.int .i64 x0.from_) ∧ W.cell? ⟨u4.heap.size, 2, none⟩ = some (.slice A4_2 x0.text.length c4_2) ∧ W.cell? ⟨u4.heap.size, 3, none⟩ = some (.slice A4_3 x0.list.length c4_3) ∧ W.cell? ⟨u4.heap.size, 4, none⟩ = some (.slice A4_4 x0.seen.length c4_4) ∧ W.cell? ⟨w.heap.size, 0, none⟩ = some (.string x0.name) ∧ W.cell? ⟨w.heap.size, 1, none⟩ = some (.int .i64 x0.from_) ∧ W.cell? ⟨w.heap.size, 2, none⟩ = some (.slice AA0_2 x0.text.length cA0_2) ∧ W.cell? ⟨w.heap.size, 3, none⟩ = some (.slice AA0_3 x0.list.length cA0_3) ∧ W.cell? ⟨w.heap.size, 4, none⟩ = some (.slice AA0_4 x0.seen.length cA0_4) ∧ KS u6 W) → RdC W W.heap.size (datDo x0) (.agg #[.string x0.name, .int .i64 x0.from_, .slice A4_2 x0.text.length c4_2, .slice A4_3 x0.list.length c4_3, .slice A4_4 x0.seen.length c4_4]) from fun W h => by have hk : Below u6.heap.size u6 W := h.2.2.2.2.2.2.2.2.2.2; exact (oX0.past hk).read)
  have RA := Lib.hid (show ∀ (W : World), (W.cell? ⟨u4.heap.size, 0, none⟩ = some (.string x0.name) ∧ W.cell? ⟨u4.heap.size, 1, none⟩ = some (.int .i64 x0.from_) ∧ W.cell? ⟨u4.heap.size, 2, none⟩ = some (.slice A4_2 x0.text.length c4_2) ∧ W.cell? ⟨u4.heap.size, 3, none⟩ = some (.slice A4_3 x0.list.length c4_3) ∧ W.cell? ⟨u4.heap.size, 4, none⟩ = some (.slice A4_4 x0.seen.length c4_4) ∧ W.cell? ⟨w.heap.size, 0, none⟩ = some (.string x0.name) ∧ W.cell? ⟨w.heap.size, 1, none⟩ = some (.int .i64 x0.from_) ∧ W.cell? ⟨w.heap.size, 2, none⟩ = some (.slice AA0_2 x0.text.length cA0_2) ∧ W.cell? ⟨w.heap.size, 3, none⟩ = some (.slice AA0_3 x0.list.length cA0_3) ∧ W.cell? ⟨w.heap.size, 4, none⟩ = some (.slice AA0_4 x0.seen.length cA0_4) ∧ KS u6 W) → RdC W W.heap.size (datDo x0) (.agg #[.string x0.name, .int .i64 x0.from_, .slice AA0_2 x0.text.length cA0_2, .slice AA0_3 x0.list.length cA0_3, .slice AA0_4 x0.seen.length cA0_4]) from fun W h => by have hk : Below u6.heap.size u6 W := h.2.2.2.2.2.2.2.2.2.2; exact R0.past (D6.trans (hk.mono D6.size)))
  have hS0 : u6.drew.cell? ⟨u4.heap.size, 0, none⟩ = some (.string x0.name) ∧ u6.drew.cell? ⟨u4.heap.size, 1, none⟩ = some (.int .i64 x0.from_) ∧ u6.drew.cell? ⟨u4.heap.size, 2, none⟩ = some (.slice A4_2 x0.text.length c4_2) ∧ u6.drew.cell? ⟨u4.heap.size, 3, none⟩ = some (.slice A4_3 x0.list.length c4_3) ∧ u6.drew.cell? ⟨u4.heap.size, 4, none⟩ = some (.slice A4_4 x0.seen.length c4_4) ∧ u6.drew.cell? ⟨w.heap.size, 0, none⟩ = some (.string x0.name) ∧ u6.drew.cell? ⟨w.heap.size, 1, none⟩ = some (.int .i64 x0.from_) ∧ u6.drew.cell? ⟨w.heap.size, 2, none⟩ = some (.slice AA0_2 x0.text.length cA0_2) ∧ u6.drew.cell? ⟨w.heap.size, 3, none⟩ = some (.slice AA0_3 x0.list.length cA0_3) ∧ u6.drew.cell? ⟨w.heap.size, 4, none⟩ = some (.slice AA0_4 x0.seen.length cA0_4) ∧ KS u6 u6.drew := ⟨ybxX00, ybxX01, ybxX02, ybxX03, ybxX04, ybxA00, ybxA01, ybxA02, ybxA03, ybxA04, KS.start _⟩
  clear ybxX00 ybxX01 ybxX02 ybxX03 ybxX04 ybxA00 ybxA01 ybxA02 ybxA03 ybxA04
  go_wp2
  go_region_held3 (fun W => W.cell? ⟨u4.heap.size, 0, none⟩ = some (.string x0.name) ∧ W.cell? ⟨u4.heap.size, 1, none⟩ = some (.int .i64 x0.from_) ∧ W.cell? ⟨u4.heap.size, 2, none⟩ = some (.slice A4_2 x0.text.length c4_2) ∧ W.cell? ⟨u4.heap.size, 3, none⟩ = some (.slice A4_3 x0.list.length c4_3) ∧ W.cell? ⟨u4.heap.size, 4, none⟩ = some (.slice A4_4 x0.seen.length c4_4) ∧ W.cell? ⟨w.heap.size, 0, none⟩ = some (.string x0.name) ∧ W.cell? ⟨w.heap.size, 1, none⟩ = some (.int .i64 x0.from_) ∧ W.cell? ⟨w.heap.size, 2, none⟩ = some (.slice AA0_2 x0.text.length cA0_2) ∧ W.cell? ⟨w.heap.size, 3, none⟩ = some (.slice AA0_3 x0.list.length cA0_3) ∧ W.cell? ⟨w.heap.size, 4, none⟩ = some (.slice AA0_4 x0.seen.length cA0_4) ∧ KS u6 W)
    (first | assumption | exact hS0 | (exact SX.out _ _ (by assumption) b7) | (exact SX.out _ _ (by assumption) b8))
    (first | (go_at_call 7; refine (toDo _ x0 _ (by exact RA.out _ (by assumption)) S0).mono ?_; rintro e u7 ⟨v7, rfl, o7, b7⟩; obtain ⟨A7_2, c7_2, A7_3, c7_3, A7_4, c7_4, rfl, _, _, _⟩ := aggDo o7.read) | (go_at_call 9; refine (eqDo _ _ x0 _ (by exact RX.out _ (by assumption)) (by exact o7.read) S0).mono ?_; rintro e u8 ⟨rfl, b8⟩))
  rename_i hS2
  have HK8 : Below u6.heap.size u6 u8 := hS2.2.2.2.2.2.2.2.2.2.2
  clear hS2 hS0 SX RX RA
  clear lbxX0 lbxA0
  have oW0 := oW0.past HK8
  have oX0 := oX0.past HK8
  have oG0 := oG0.past HK8
  have bxA0 := bxA0.past HK8
  have bxW0 := bxW0.past HK8
  have bxX0 := bxX0.past HK8
  have bxG0 := bxG0.past HK8
  have z8 := HK8.size
  have D8 := D6.trans (HK8.mono D6.size)
  clear o7 b7 b8
  have cx0 := cntDo S0
  have ybxX00 : _ = (some (.string x0.name) : Option Value) := bxX0.cell (j := 0) rfl
  have ybxX01 : _ = (some (.int .i64 x0.from_) : Option Value) := bxX0.cell (j := 1) rfl
  have ybxX02 : _ = (some (.slice A4_2 x0.text.length c4_2) : Option Value) := bxX0.cell (j := 2) rfl
  have ybxX03 : _ = (some (.slice A4_3 x0.list.length c4_3) : Option Value) := bxX0.cell (j := 3) rfl
  have ybxX04 : _ = (some (.slice A4_4 x0.seen.length c4_4) : Option Value) := bxX0.cell (j := 4) rfl
  go_wp2_with fail
  clear ybxX00 ybxX01 ybxX02 ybxX03 ybxX04
  refine (markDo _ x0 _ (1) _ oX0.ow oX0.nd (by omega) (by omega) S0).mono ?_
  rintro e u9 ⟨rfl, m9, e9_, b9, t9⟩
  have oW0 := oW0.past b9
  have oX0 := oX0.past b9
  have oG0 := oG0.past b9
  have bxA0 := bxA0.past b9
  have bxW0 := bxW0.past b9
  have bxX0 := bxX0.past b9
  have bxG0 := bxG0.past b9
  have zb9 := b9.size
  have Db9 := D8.trans (b9.mono D8.size)
  have oW0 := oW0.apart oX0 t9 (by omega)
  have oG0 := oG0.apart oX0 t9 (by omega)
  have bxA0 := bxA0.apart oX0 t9 (by omega)
  have bxW0 := bxW0.apart oX0 t9 (by omega)
  have bxX0 := bxX0.apart oX0 t9 (by omega)
  have bxG0 := bxG0.apart oX0 t9 (by omega)
  have z9 := t9.size
  have D9 := Db9.trans (oX0.under t9 (by omega))
  clear oX0 m9
  generalize cntC (datDo x0) = nx0 at *
  have ybxG00 : _ = (some (.string L0.name) : Option Value) := bxG0.cell (j := 0) rfl
  have ybxG01 : _ = (some (.int .i64 L0.from_) : Option Value) := bxG0.cell (j := 1) rfl
  have ybxG02 : _ = (some (.slice AG0_2 L0.text.length cG0_2) : Option Value) := bxG0.cell (j := 2) rfl
  have ybxG03 : _ = (some (.slice AG0_3 L0.list.length cG0_3) : Option Value) := bxG0.cell (j := 3) rfl
  have ybxG04 : _ = (some (.slice AG0_4 L0.seen.length cG0_4) : Option Value) := bxG0.cell (j := 4) rfl
  have ybxW00 : _ = (some (.string L0.name) : Option Value) := bxW0.cell (j := 0) rfl
  have ybxW01 : _ = (some (.int .i64 L0.from_) : Option Value) := bxW0.cell (j := 1) rfl
  have ybxW02 : _ = (some (.slice AW0_2 L0.text.length cW0_2) : Option Value) := bxW0.cell (j := 2) rfl
  have ybxW03 : _ = (some (.slice AW0_3 L0.list.length cW0_3) : Option Value) := bxW0.cell (j := 3) rfl
  have ybxW04 : _ = (some (.slice AW0_4 L0.seen.length cW0_4) : Option Value) := bxW0.cell (j := 4) rfl
  go_wp2_with fail
  clear ybxG00 ybxG01 ybxG02 ybxG03 ybxG04 ybxW00 ybxW01 ybxW02 ybxW03 ybxW04
  refine (eqDo _ _ L0 _ oG0.read oW0.read hs0).mono ?_
  rintro e u10 ⟨rfl, b10⟩
  have oW0 := oW0.past b10
  have oG0 := oG0.past b10
  have bxA0 := bxA0.past b10
  have bxW0 := bxW0.past b10
  have bxX0 := bxX0.past b10
  have bxG0 := bxG0.past b10
  have z10 := b10.size
  have D10 := D9.trans (b10.mono D9.size)
  have ybxG00 : _ = (some (.string L0.name) : Option Value) := bxG0.cell (j := 0) rfl
  have ybxG01 : _ = (some (.int .i64 L0.from_) : Option Value) := bxG0.cell (j := 1) rfl
  have ybxG02 : _ = (some (.slice AG0_2 L0.text.length cG0_2) : Option Value) := bxG0.cell (j := 2) rfl
  have ybxG03 : _ = (some (.slice AG0_3 L0.list.length cG0_3) : Option Value) := bxG0.cell (j := 3) rfl
  have ybxG04 : _ = (some (.slice AG0_4 L0.seen.length cG0_4) : Option Value) := bxG0.cell (j := 4) rfl
  go_wp2_with fail
  clear ybxG00 ybxG01 ybxG02 ybxG03 ybxG04
  refine (markDo _ L0 _ (1) _ oG0.ow oG0.nd (by omega) (by omega) hs0).mono ?_
  rintro e u11 ⟨rfl, m11, e11_, b11, t11⟩
  have oW0 := oW0.past b11
  have oG0 := oG0.past b11
  have bxA0 := bxA0.past b11
  have bxW0 := bxW0.past b11
  have bxX0 := bxX0.past b11
  have bxG0 := bxG0.past b11
  have zb11 := b11.size
  have Db11 := D10.trans (b11.mono D10.size)
  have oW0 := oW0.apart oG0 t11 (by omega)
  have bxA0 := bxA0.apart oG0 t11 (by omega)
  have bxW0 := bxW0.apart oG0 t11 (by omega)
  have bxX0 := bxX0.apart oG0 t11 (by omega)
  have bxG0 := bxG0.apart oG0 t11 (by omega)
  have z11 := t11.size
  have D11 := Db11.trans (oG0.under t11 (by omega))
  have oG0 := oG0.marked m11 t11
  rw [HN0.out]
  have ybxG00 : _ = (some (.string L0.name) : Option Value) := bxG0.cell (j := 0) rfl
  have ybxG01 : _ = (some (.int .i64 L0.from_) : Option Value) := bxG0.cell (j := 1) rfl
  have ybxG02 : _ = (some (.slice AG0_2 L0.text.length cG0_2) : Option Value) := bxG0.cell (j := 2) rfl
  have ybxG03 : _ = (some (.slice AG0_3 L0.list.length cG0_3) : Option Value) := bxG0.cell (j := 3) rfl
  have ybxG04 : _ = (some (.slice AG0_4 L0.seen.length cG0_4) : Option Value) := bxG0.cell (j := 4) rfl
  go_wp2_with fail
  clear ybxG00 ybxG01 ybxG02 ybxG03 ybxG04
  refine (heldDo _ L0 (1) _ oG0.read (by omega) (by omega) hs0).mono ?_
  rintro e u12 ⟨rfl, b12⟩
  rw [HN0.out]
  have oW0 := oW0.past b12
  have oG0 := oG0.past b12
  have bxA0 := bxA0.past b12
  have bxW0 := bxW0.past b12
  have bxX0 := bxX0.past b12
  have bxG0 := bxG0.past b12
  have z12 := b12.size
  have D12 := D11.trans (b12.mono D11.size)
  have ybxA00 : _ = (some (.string x0.name) : Option Value) := bxA0.cell (j := 0) rfl
  have ybxA01 : _ = (some (.int .i64 x0.from_) : Option Value) := bxA0.cell (j := 1) rfl
  have ybxA02 : _ = (some (.slice AA0_2 x0.text.length cA0_2) : Option Value) := bxA0.cell (j := 2) rfl
  have ybxA03 : _ = (some (.slice AA0_3 x0.list.length cA0_3) : Option Value) := bxA0.cell (j := 3) rfl
  have ybxA04 : _ = (some (.slice AA0_4 x0.seen.length cA0_4) : Option Value) := bxA0.cell (j := 4) rfl
  go_wp2_with fail
  clear ybxA00 ybxA01 ybxA02 ybxA03 ybxA04
  refine (toDo _ x0 _ (R0.past D12) S0).mono ?_
  rintro e u13 ⟨v13, rfl, oT00, b13⟩
  obtain ⟨k13, oT0⟩ := oT00.blocks
  clear oT00
  obtain ⟨A13_2, c13_2, A13_3, c13_3, A13_4, c13_4, rfl, _, _, _⟩ := aggDo oT0.read
  have oW0 := oW0.past b13
  have oG0 := oG0.past b13
  have bxA0 := bxA0.past b13
  have bxW0 := bxW0.past b13
  have bxX0 := bxX0.past b13
  have bxG0 := bxG0.past b13
  have z13 := b13.size
  have D13 := D12.trans (b13.mono D12.size)
  go_wp2_with fail
  refine (HAG.out _ _ oT0.read).mono ?_
  rintro e u14 ⟨v14, rfl, oH00, b14⟩
  have oW0 := oW0.past b14
  have oG0 := oG0.past b14
  have oT0 := oT0.past b14
  have bxA0 := bxA0.past b14
  have bxW0 := bxW0.past b14
  have bxX0 := bxX0.past b14
  have bxG0 := bxG0.past b14
  obtain ⟨k14, oH0⟩ := oH00.blocks
  clear oH00
  have z14 := b14.size
  have D14 := D13.trans (b14.mono D13.size)
  obtain ⟨AH0_2, cH0_2, AH0_3, cH0_3, AH0_4, cH0_4, rfl, _, _, _⟩ := aggDo oH0.read
  have bxA0P := bxA0
  have bxA0L := bxA0.lt
  have bxW0P := bxW0
  have bxW0L := bxW0.lt
  have bxX0P := bxX0
  have bxX0L := bxX0.lt
  have bxG0P := bxG0
  have bxG0L := bxG0.lt
  have ba14 := alloc_below u14 (.cells #[.string L0.name, .int .i64 L0.from_, .slice AH0_2 L0.text.length cH0_2, .slice AH0_3 L0.list.length cH0_3, .slice AH0_4 L0.seen.length cH0_4] 31)
  have oW0 := oW0.past ba14
  have oG0 := oG0.past ba14
  have oT0 := oT0.past ba14
  have oH0 := oH0.past ba14
  have bxA0 := bxA0.past ba14
  have bxW0 := bxW0.past ba14
  have bxX0 := bxX0.past ba14
  have bxG0 := bxG0.past ba14
  have bxH0 := Bx.new u14 #[.string L0.name, .int .i64 L0.from_, .slice AH0_2 L0.text.length cH0_2, .slice AH0_3 L0.list.length cH0_3, .slice AH0_4 L0.seen.length cH0_4] 31
  have zu14 : (u14.alloc (.cells #[.string L0.name, .int .i64 L0.from_, .slice AH0_2 L0.text.length cH0_2, .slice AH0_3 L0.list.length cH0_3, .slice AH0_4 L0.seen.length cH0_4] 31)).heap.size = u14.heap.size + 1 := World.size_alloc _ _
  have Da14 := D14.trans (ba14.mono D14.size)
  clear ba14
  clear oT0
  have ybxW00 : _ = (some (.string L0.name) : Option Value) := bxW0P.cell (j := 0) rfl
  have ybxW01 : _ = (some (.int .i64 L0.from_) : Option Value) := bxW0P.cell (j := 1) rfl
  have ybxW02 : _ = (some (.slice AW0_2 L0.text.length cW0_2) : Option Value) := bxW0P.cell (j := 2) rfl
  have ybxW03 : _ = (some (.slice AW0_3 L0.list.length cW0_3) : Option Value) := bxW0P.cell (j := 3) rfl
  have ybxW04 : _ = (some (.slice AW0_4 L0.seen.length cW0_4) : Option Value) := bxW0P.cell (j := 4) rfl
  go_wp2_with fail
  generalize u14.alloc (.cells #[.string L0.name, .int .i64 L0.from_, .slice AH0_2 L0.text.length cH0_2, .slice AH0_3 L0.list.length cH0_3, .slice AH0_4 L0.seen.length cH0_4] 31) = v14_ at oW0 oG0 oH0 bxA0 bxW0 bxX0 bxG0 bxH0 zu14 Da14 ⊢
  clear bxA0P bxA0L
  clear bxW0P bxW0L
  clear bxX0P bxX0L
  clear bxG0P bxG0L
  clear ybxW00 ybxW01 ybxW02 ybxW03 ybxW04
  refine (eqDo _ _ L0 _ oH0.read oW0.read hs0).mono ?_
  rintro e u15 ⟨rfl, b15⟩
  have oW0 := oW0.past b15
  have oG0 := oG0.past b15
  have oH0 := oH0.past b15
  have bxA0 := bxA0.past b15
  have bxW0 := bxW0.past b15
  have bxX0 := bxX0.past b15
  have bxG0 := bxG0.past b15
  have bxH0 := bxH0.past b15
  have z15 := b15.size
  have D15 := Da14.trans (b15.mono Da14.size)
  have ybxG00 : _ = (some (.string L0.name) : Option Value) := bxG0.cell (j := 0) rfl
  have ybxG01 : _ = (some (.int .i64 L0.from_) : Option Value) := bxG0.cell (j := 1) rfl
  have ybxG02 : _ = (some (.slice AG0_2 L0.text.length cG0_2) : Option Value) := bxG0.cell (j := 2) rfl
  have ybxG03 : _ = (some (.slice AG0_3 L0.list.length cG0_3) : Option Value) := bxG0.cell (j := 3) rfl
  have ybxG04 : _ = (some (.slice AG0_4 L0.seen.length cG0_4) : Option Value) := bxG0.cell (j := 4) rfl
  go_wp2_with fail
  clear ybxG00 ybxG01 ybxG02 ybxG03 ybxG04
  refine (heldDo _ L0 (1) _ oG0.read (by omega) (by omega) hs0).mono ?_
  rintro e u16 ⟨rfl, b16⟩
  rw [HN0.out]
  have oW0 := oW0.past b16
  have oG0 := oG0.past b16
  have oH0 := oH0.past b16
  have bxA0 := bxA0.past b16
  have bxW0 := bxW0.past b16
  have bxX0 := bxX0.past b16
  have bxG0 := bxG0.past b16
  have bxH0 := bxH0.past b16
  have z16 := b16.size
  have D16 := D15.trans (b16.mono D15.size)
  go_wp2
  go_ret
  exact ⟨rfl, D16⟩

set_option maxRecDepth 100000 in
theorem lifted (os : Os) (started : os.Started) (H : Type) (enc : TypeId × Value → H) :
    ReturnsInHanded {} Tryz.checked os 3 .any (Rows.fnExactForgetSpec.pre6 enc Tryz.prog Tryz.f3 Rows.fnExactForgetRow.domain false) (Rows.fnExactForgetSpec.post enc Tryz.prog Tryz.f3 false true false false) := by
  refine returnsInHanded_of_change (C := Tryz.checked) own started (by kernel_rfl) Tryz.func3
    (ChangeSpec.witness6 (enc := enc) (C := Tryz.checked) false ⟨#[], #[.agg #[.string ⟨#[]⟩, .int .i64 0, .slice none 0 0, .slice none 0 0, .slice none 0 0], .int .i64 0], []⟩ 8 (by kernel_rfl) (by kernel_rfl) (by kernel_rfl) (by kernel_rfl)) ?_
  intro W base args ds gs before hval0 hW hcnd _
  have hval : ∀ (j : Nat) t v, Tryz.f3.params[j]? = some t → args[j]? = some v → Value.okWide Tryz.prog W .any base t v := hval0
  have hW' := hW
  obtain ⟨p, q, hA0, hV, rfl, hfz, hnd⟩ := hW
  have hA : DataW.TrodAll enc Tryz.prog W 0 (fun _ => true) true Tryz.f3.params.toList args.toList ds p := hA0
  rw [Tryz.params3] at hA hval
  obtain ⟨v0, vs0, x0, xs0, q0, r0, hargs, rfl, rfl, h0, t0⟩ := trodAll_cons hA
  obtain ⟨v1, vs1, x1, xs1, q1, r1, rfl, rfl, rfl, h1, t1⟩ := trodAll_cons t0
  obtain ⟨rfl, rfl, rfl⟩ := trodAll_nil t1
  obtain rfl : args = #[v0, v1] := by cases args; simp_all
  obtain ⟨rfl, rfl⟩ := trodVars_none hV
  have k0 := h0
  have lt0 : ∀ x ∈ q0, x.block < W.heap.size := by obtain ⟨m, hm⟩ := k0; exact DataW.trod_lt m _ _ _ hm
  have k1 := h1
  have lt1 : ∀ x ∈ q1, x.block < W.heap.size := by obtain ⟨m, hm⟩ := k1; exact DataW.trod_lt m _ _ _ hm
  obtain ⟨cs0, rfl, hsz0⟩ := okWide_struct Tryz.underlying26 (hval 0 26 v0 rfl rfl)
  obtain ⟨f0, hf0⟩ := h0
  obtain ⟨x0, A0_2, c0_2, A0_3, c0_3, A0_4, c0_4, e0, r0_2, r0_3, r0_4, l0⟩ := open_dDo hf0
  obtain rfl : cs0 = #[.string x0.name, .int .i64 x0.from_, .slice A0_2 x0.text.length c0_2, .slice A0_3 x0.list.length c0_3, .slice A0_4 x0.seen.length c0_4] := by cases cs0; simpa [Value.cells] using e0
  obtain ⟨a1, rfl, rfl, rfl, w1⟩ := open_int Tryz.underlying3 (hval 1 3 v1 rfl rfl) h1
  clear hA0 hval0
  refine (walk x0 _ a1 W (rdDo x0 r0_2 r0_3 r0_4) l0 w1).mono fun e W' ⟨he, bel⟩ => ?_
  subst he
  exact ⟨_, rfl, _, _, _, [], _, [], hW', trodAll_mk1 (shut_bool Tryz.underlying4 _), (trodAll_cons_mk (Below.trod laidOut (by kernel_rfl) (of_decide_eq_true (by kernel_rfl)) k0 bel lt0) (trodAll_cons_mk (Below.trod laidOut (by kernel_rfl) (of_decide_eq_true (by kernel_rfl)) k1 bel lt1) trodAll_mk0)), rfl, bel.frame _, fun h => by cases h⟩

theorem over : Rows.fnExactForgetRow.holds Tryz.pinned (OpenSpec.ofChange Rows.fnExactForgetSpec) :=
  OpenClaim.holds_of_wide 3 Tryz.f3 rfl rfl rfl rfl rfl rfl rfl ⟨rfl, rfl, rfl, rfl, rfl⟩ rfl rfl rfl rfl rfl (by kernel_rfl) Tryz.func3 (by kernel_rfl)
    (of_decide_eq_true (by kernel_rfl)) (by unfold Func.isWrapper; first | (rw [if_pos (by decide +kernel)]; kernel_rfl) | (rw [if_neg (by decide +kernel)]; exact ⟨rfl, rfl⟩))
    (fun os started H enc _ => lifted os started H enc)

theorem proved : Rows.FnExactForgetSaid := over
end Go.Proofs.YtninppjomdhnmaaGreat.fnExactForget
