/-
  Proved: for every argument (string, slice of numbers), the law FnExactDocNew of this seat's translation returns true (impl.DocNew answers as spec.DocNew does, twice, leaves its arguments alone, and its result owns its memory); no conditions.
-/
import Derived.Test.YtjbabdkgficjnaaGreatRows
import Derived.Test.YtjbabdkgficjnaaGreatM1
import Derived.WalkKit
import Derived.ProofKit
import Derived.OpenShut
import Derived.ShutString
import Derived.ChangeOld
import Derived.Below
import Derived.Test.YtjbabdkgficjnaaGreatM2
import Derived.Test.YtjbabdkgficjnaaGreatM3
import Derived.Test.YtjbabdkgficjnaaGreatM4
set_option maxHeartbeats 12800000
set_option maxRecDepth 1000000
namespace Go.Proofs.YtjbabdkgficjnaaGreat.fnExactDocNew
open Go.ChangeShapes Go.WideShapes Go.ChangeAt Go.RowKit
open Go.ChangeMaps (open_string shut_string)
open low
set_option linter.unusedVariables false
theorem own : ownKnob Tryz.prog.godebug = none := by kernel_rfl
theorem walk (a0 : ByteArray) (A1 : Option Addr) (c1 : Nat) (zs1 : List Int) (w : World) (w0 : a0.size ≤ maxLen) (w1 : RdC w w.heap.size (encInts zs1) (.slice A1 zs1.length c1)) (l1 : zs1.length ≤ maxLen) :
  Calls Tryz.prog 4 #[.string a0, .slice A1 zs1.length c1] w fun e w' => e = .returned (.bool true) ∧ Below w.heap.size w w' := by
 have D0 : Below w.heap.size w w := Below.refl _ _
 have R1 := w1
 by_cases big0 : (1048576 : Int) < (a0.size : Int)
 ·go_enter Tryz.func4, Tryz.ntmps4
  go_wp2
  go_ret
  exact ⟨rfl, D0⟩
 have S0 : a0.size ≤ 1048576 := by omega
 by_cases big1 : (1048576 : Int) < (zs1.length : Int)
 ·go_enter Tryz.func4, Tryz.ntmps4
  go_wp2
  go_ret
  exact ⟨rfl, D0⟩
 have S1 : SmI zs1 := by unfold SmI; omega
 go_enter Tryz.func4, Tryz.ntmps4
 go_wp2_with fail
 refine (toI _ zs1 _ (R1.past D0) S1).mono ?_
 rintro e u1 ⟨v1, rfl, oT10, b1⟩
 obtain ⟨k1, oT1⟩ := oT10.blocks
 clear oT10
 obtain ⟨A1_, c1_, rfl⟩ := sliceI oT1.read
 have z1 := b1.size
 have D1 := D0.trans (b1.mono D0.size)
 go_wp2_with fail
 refine (specDocNew_d _ a0 zs1 _ oT1.read S0 S1).mono ?_
 rintro e u2 ⟨v2, rfl, oW00, b2⟩
 have oT1 := oT1.past b2
 obtain ⟨k2, oW0⟩ := oW00.blocks
 clear oW00
 have z2 := b2.size
 have D2 := D1.trans (b2.mono D1.size)
 have hs0 : SmDo (docNewT a0 zs1) := docNew_small S0 S1
 generalize hL0 : (docNewT a0 zs1) = L0 at *
 have HL0 := Lib.hid hL0
 clear hL0
 generalize hL1 : (docNewB a0 zs1) = L1 at *
 have HL1 := Lib.hid hL1
 clear hL1
 have hc0 := cntDo hs0
 generalize hn0 : cntC (datDo L0) = n0 at *
 have HN0 := Lib.hid hn0
 clear hn0
 have nm0 : (((1 : Int) + (n0 : Int)) != ((1 : Int) + (n0 : Int))) = false := by simp
 have nb1 : (L1 != L1) = false := by simp
 obtain ⟨AW0_2, cW0_2, AW0_3, cW0_3, AW0_4, cW0_4, rfl, _, _, _⟩ := aggDo oW0.read
 have ba2 := alloc_below u2 (.cells #[.string L0.name, .int .i64 L0.from_, .slice AW0_2 L0.text.length cW0_2, .slice AW0_3 L0.list.length cW0_3, .slice AW0_4 L0.seen.length cW0_4] 32)
 have oT1 := oT1.past ba2
 have oW0 := oW0.past ba2
 have bxW0 := Bx.new u2 #[.string L0.name, .int .i64 L0.from_, .slice AW0_2 L0.text.length cW0_2, .slice AW0_3 L0.list.length cW0_3, .slice AW0_4 L0.seen.length cW0_4] 32
 have zu2 : (u2.alloc (.cells #[.string L0.name, .int .i64 L0.from_, .slice AW0_2 L0.text.length cW0_2, .slice AW0_3 L0.list.length cW0_3, .slice AW0_4 L0.seen.length cW0_4] 32)).heap.size = u2.heap.size + 1 := World.size_alloc _ _
 have Da2 := D2.trans (ba2.mono D2.size)
 clear ba2
 clear oT1
 go_wp2_with fail
 generalize u2.alloc (.cells #[.string L0.name, .int .i64 L0.from_, .slice AW0_2 L0.text.length cW0_2, .slice AW0_3 L0.list.length cW0_3, .slice AW0_4 L0.seen.length cW0_4] 32) = v2_ at oW0 bxW0 zu2 Da2 ⊢
 refine (toI _ zs1 _ (R1.past Da2) S1).mono ?_
 rintro e u3 ⟨v3, rfl, oX10, b3⟩
 obtain ⟨k3, oX1⟩ := oX10.blocks
 clear oX10
 obtain ⟨A3_, c3_, rfl⟩ := sliceI oX1.read
 have oW0 := oW0.past b3
 have bxW0 := bxW0.past b3
 have z3 := b3.size
 have D3 := Da2.trans (b3.mono Da2.size)
 go_wp2_with fail
 refine (implDocNew_d _ a0 zs1 _ oX1.read S0 S1).mono ?_
 rw [HL0.out, HL1.out]
 rintro e u4 ⟨v4, rfl, oG00, b4⟩
 have oW0 := oW0.past b4
 have oX1 := oX1.past b4
 have bxW0 := bxW0.past b4
 obtain ⟨k4, oG0⟩ := oG00.blocks
 clear oG00
 have z4 := b4.size
 have D4 := D3.trans (b4.mono D3.size)
 obtain ⟨AG0_2, cG0_2, AG0_3, cG0_3, AG0_4, cG0_4, rfl, _, _, _⟩ := aggDo oG0.read
 have bxW0P := bxW0
 have bxW0L := bxW0.lt
 have ba4 := alloc_below u4 (.cells #[.string L0.name, .int .i64 L0.from_, .slice AG0_2 L0.text.length cG0_2, .slice AG0_3 L0.list.length cG0_3, .slice AG0_4 L0.seen.length cG0_4] 32)
 have oW0 := oW0.past ba4
 have oX1 := oX1.past ba4
 have oG0 := oG0.past ba4
 have bxW0 := bxW0.past ba4
 have bxG0 := Bx.new u4 #[.string L0.name, .int .i64 L0.from_, .slice AG0_2 L0.text.length cG0_2, .slice AG0_3 L0.list.length cG0_3, .slice AG0_4 L0.seen.length cG0_4] 32
 have zu4 : (u4.alloc (.cells #[.string L0.name, .int .i64 L0.from_, .slice AG0_2 L0.text.length cG0_2, .slice AG0_3 L0.list.length cG0_3, .slice AG0_4 L0.seen.length cG0_4] 32)).heap.size = u4.heap.size + 1 := World.size_alloc _ _
 have Da4 := D4.trans (ba4.mono D4.size)
 clear ba4
 have HAG := Lib.hid (show ∀ (x1_ : Value) (u : World), RdC u u.heap.size (encInts zs1) x1_ → Calls Tryz.prog 15 #[.string a0, x1_] u (ResB (datDo L0) L1 u) from fun x1_ u h1_ => by rw [← HL0.out, ← HL1.out]; exact implDocNew_d x1_ a0 zs1 u h1_ S0 S1 )
 have ybxW00 : _ = (some (.string L0.name) : Option Value) := bxW0P.cell (j := 0) rfl
 have ybxW01 : _ = (some (.int .i64 L0.from_) : Option Value) := bxW0P.cell (j := 1) rfl
 have ybxW02 : _ = (some (.slice AW0_2 L0.text.length cW0_2) : Option Value) := bxW0P.cell (j := 2) rfl
 have ybxW03 : _ = (some (.slice AW0_3 L0.list.length cW0_3) : Option Value) := bxW0P.cell (j := 3) rfl
 have ybxW04 : _ = (some (.slice AW0_4 L0.seen.length cW0_4) : Option Value) := bxW0P.cell (j := 4) rfl
 go_wp2_with fail
 generalize u4.alloc (.cells #[.string L0.name, .int .i64 L0.from_, .slice AG0_2 L0.text.length cG0_2, .slice AG0_3 L0.list.length cG0_3, .slice AG0_4 L0.seen.length cG0_4] 32) = v4_ at oW0 oX1 oG0 bxW0 bxG0 zu4 Da4 ⊢
 clear bxW0P bxW0L
 clear ybxW00 ybxW01 ybxW02 ybxW03 ybxW04
 refine (eqDo _ _ L0 _ oG0.read oW0.read hs0).mono ?_
 rintro e u5 ⟨rfl, b5⟩
 have oW0 := oW0.past b5
 have oX1 := oX1.past b5
 have oG0 := oG0.past b5
 have bxW0 := bxW0.past b5
 have bxG0 := bxG0.past b5
 have z5 := b5.size
 have D5 := Da4.trans (b5.mono Da4.size)
 go_wp2_with fail
 refine (toI _ zs1 _ (R1.past D5) S1).mono ?_
 rintro e u6 ⟨v6, rfl, oT90, b6⟩
 obtain ⟨k6, oT9⟩ := oT90.blocks
 clear oT90
 obtain ⟨A6_, c6_, rfl⟩ := sliceI oT9.read
 have oW0 := oW0.past b6
 have oX1 := oX1.past b6
 have oG0 := oG0.past b6
 have bxW0 := bxW0.past b6
 have bxG0 := bxG0.past b6
 have z6 := b6.size
 have D6 := D5.trans (b6.mono D5.size)
 go_wp2_with fail
 refine (eqI _ _ zs1 _ oX1.read oT9.read S1).mono ?_
 rintro e u7 ⟨rfl, b7⟩
 have oW0 := oW0.past b7
 have oX1 := oX1.past b7
 have oG0 := oG0.past b7
 have oT9 := oT9.past b7
 have bxW0 := bxW0.past b7
 have bxG0 := bxG0.past b7
 have z7 := b7.size
 have D7 := D6.trans (b7.mono D6.size)
 clear oT9
 have cx1 := cntI S1
 go_wp2_with fail
 refine (markI _ zs1 _ (1) _ oX1.ow oX1.nd (by omega) (by omega) S1).mono ?_
 rintro e u8 ⟨rfl, m8, t8⟩
 have oW0 := oW0.apart oX1 t8 (by omega)
 have oG0 := oG0.apart oX1 t8 (by omega)
 have bxW0 := bxW0.apart oX1 t8 (by omega)
 have bxG0 := bxG0.apart oX1 t8 (by omega)
 have z8 := t8.size
 have D8 := D7.trans (oX1.under t8 (by omega))
 clear oX1 m8
 generalize cntC (encInts zs1) = nx1 at *
 have ybxG00 : _ = (some (.string L0.name) : Option Value) := bxG0.cell (j := 0) rfl
 have ybxG01 : _ = (some (.int .i64 L0.from_) : Option Value) := bxG0.cell (j := 1) rfl
 have ybxG02 : _ = (some (.slice AG0_2 L0.text.length cG0_2) : Option Value) := bxG0.cell (j := 2) rfl
 have ybxG03 : _ = (some (.slice AG0_3 L0.list.length cG0_3) : Option Value) := bxG0.cell (j := 3) rfl
 have ybxG04 : _ = (some (.slice AG0_4 L0.seen.length cG0_4) : Option Value) := bxG0.cell (j := 4) rfl
 have ybxW00 : _ = (some (.string L0.name) : Option Value) := bxW0.cell (j := 0) rfl
 have ybxW01 : _ = (some (.int .i64 L0.from_) : Option Value) := bxW0.cell (j := 1) rfl
 have ybxW02 : _ = (some (.slice AW0_2 L0.text.length cW0_2) : Option Value) := bxW0.cell (j := 2) rfl
 have ybxW03 : _ = (some (.slice AW0_3 L0.list.length cW0_3) : Option Value) := bxW0.cell (j := 3) rfl
 have ybxW04 : _ = (some (.slice AW0_4 L0.seen.length cW0_4) : Option Value) := bxW0.cell (j := 4) rfl
 go_wp2_with fail
 clear ybxG00 ybxG01 ybxG02 ybxG03 ybxG04 ybxW00 ybxW01 ybxW02 ybxW03 ybxW04
 refine (eqDo _ _ L0 _ oG0.read oW0.read hs0).mono ?_
 rintro e u9 ⟨rfl, b9⟩
 have oW0 := oW0.past b9
 have oG0 := oG0.past b9
 have bxW0 := bxW0.past b9
 have bxG0 := bxG0.past b9
 have z9 := b9.size
 have D9 := D8.trans (b9.mono D8.size)
 have ybxG00 : _ = (some (.string L0.name) : Option Value) := bxG0.cell (j := 0) rfl
 have ybxG01 : _ = (some (.int .i64 L0.from_) : Option Value) := bxG0.cell (j := 1) rfl
 have ybxG02 : _ = (some (.slice AG0_2 L0.text.length cG0_2) : Option Value) := bxG0.cell (j := 2) rfl
 have ybxG03 : _ = (some (.slice AG0_3 L0.list.length cG0_3) : Option Value) := bxG0.cell (j := 3) rfl
 have ybxG04 : _ = (some (.slice AG0_4 L0.seen.length cG0_4) : Option Value) := bxG0.cell (j := 4) rfl
 go_wp2_with fail
 clear ybxG00 ybxG01 ybxG02 ybxG03 ybxG04
 refine (markDo _ L0 _ (1) _ oG0.ow oG0.nd (by omega) (by omega) hs0).mono ?_
 rintro e u10 ⟨rfl, m10, e10_, b10, t10⟩
 have oW0 := oW0.past b10
 have oG0 := oG0.past b10
 have bxW0 := bxW0.past b10
 have bxG0 := bxG0.past b10
 have zb10 := b10.size
 have Db10 := D9.trans (b10.mono D9.size)
 have oW0 := oW0.apart oG0 t10 (by omega)
 have bxW0 := bxW0.apart oG0 t10 (by omega)
 have bxG0 := bxG0.apart oG0 t10 (by omega)
 have z10 := t10.size
 have D10 := Db10.trans (oG0.under t10 (by omega))
 have oG0 := oG0.marked m10 t10
 rw [HN0.out]
 have ybxG00 : _ = (some (.string L0.name) : Option Value) := bxG0.cell (j := 0) rfl
 have ybxG01 : _ = (some (.int .i64 L0.from_) : Option Value) := bxG0.cell (j := 1) rfl
 have ybxG02 : _ = (some (.slice AG0_2 L0.text.length cG0_2) : Option Value) := bxG0.cell (j := 2) rfl
 have ybxG03 : _ = (some (.slice AG0_3 L0.list.length cG0_3) : Option Value) := bxG0.cell (j := 3) rfl
 have ybxG04 : _ = (some (.slice AG0_4 L0.seen.length cG0_4) : Option Value) := bxG0.cell (j := 4) rfl
 go_wp2_with fail
 clear ybxG00 ybxG01 ybxG02 ybxG03 ybxG04
 refine (heldDo _ L0 (1) _ oG0.read (by omega) (by omega) hs0).mono ?_
 rintro e u11 ⟨rfl, b11⟩
 rw [HN0.out]
 have oW0 := oW0.past b11
 have oG0 := oG0.past b11
 have bxW0 := bxW0.past b11
 have bxG0 := bxG0.past b11
 have z11 := b11.size
 have D11 := D10.trans (b11.mono D10.size)
 go_wp2_with fail
 refine (toI _ zs1 _ (R1.past D11) S1).mono ?_
 rintro e u12 ⟨v12, rfl, oT10, b12⟩
 obtain ⟨k12, oT1⟩ := oT10.blocks
 clear oT10
 obtain ⟨A12_, c12_, rfl⟩ := sliceI oT1.read
 have oW0 := oW0.past b12
 have oG0 := oG0.past b12
 have bxW0 := bxW0.past b12
 have bxG0 := bxG0.past b12
 have z12 := b12.size
 have D12 := D11.trans (b12.mono D11.size)
 go_wp2_with fail
 refine (HAG.out _ _ oT1.read).mono ?_
 rintro e u13 ⟨v13, rfl, oH00, b13⟩
 have oW0 := oW0.past b13
 have oG0 := oG0.past b13
 have oT1 := oT1.past b13
 have bxW0 := bxW0.past b13
 have bxG0 := bxG0.past b13
 obtain ⟨k13, oH0⟩ := oH00.blocks
 clear oH00
 have z13 := b13.size
 have D13 := D12.trans (b13.mono D12.size)
 obtain ⟨AH0_2, cH0_2, AH0_3, cH0_3, AH0_4, cH0_4, rfl, _, _, _⟩ := aggDo oH0.read
 have bxW0P := bxW0
 have bxW0L := bxW0.lt
 have bxG0P := bxG0
 have bxG0L := bxG0.lt
 have ba13 := alloc_below u13 (.cells #[.string L0.name, .int .i64 L0.from_, .slice AH0_2 L0.text.length cH0_2, .slice AH0_3 L0.list.length cH0_3, .slice AH0_4 L0.seen.length cH0_4] 32)
 have oW0 := oW0.past ba13
 have oG0 := oG0.past ba13
 have oT1 := oT1.past ba13
 have oH0 := oH0.past ba13
 have bxW0 := bxW0.past ba13
 have bxG0 := bxG0.past ba13
 have bxH0 := Bx.new u13 #[.string L0.name, .int .i64 L0.from_, .slice AH0_2 L0.text.length cH0_2, .slice AH0_3 L0.list.length cH0_3, .slice AH0_4 L0.seen.length cH0_4] 32
 have zu13 : (u13.alloc (.cells #[.string L0.name, .int .i64 L0.from_, .slice AH0_2 L0.text.length cH0_2, .slice AH0_3 L0.list.length cH0_3, .slice AH0_4 L0.seen.length cH0_4] 32)).heap.size = u13.heap.size + 1 := World.size_alloc _ _
 have Da13 := D13.trans (ba13.mono D13.size)
 clear ba13
 clear oT1
 have ybxW00 : _ = (some (.string L0.name) : Option Value) := bxW0P.cell (j := 0) rfl
 have ybxW01 : _ = (some (.int .i64 L0.from_) : Option Value) := bxW0P.cell (j := 1) rfl
 have ybxW02 : _ = (some (.slice AW0_2 L0.text.length cW0_2) : Option Value) := bxW0P.cell (j := 2) rfl
 have ybxW03 : _ = (some (.slice AW0_3 L0.list.length cW0_3) : Option Value) := bxW0P.cell (j := 3) rfl
 have ybxW04 : _ = (some (.slice AW0_4 L0.seen.length cW0_4) : Option Value) := bxW0P.cell (j := 4) rfl
 go_wp2_with fail
 generalize u13.alloc (.cells #[.string L0.name, .int .i64 L0.from_, .slice AH0_2 L0.text.length cH0_2, .slice AH0_3 L0.list.length cH0_3, .slice AH0_4 L0.seen.length cH0_4] 32) = v13_ at oW0 oG0 oH0 bxW0 bxG0 bxH0 zu13 Da13 ⊢
 clear bxW0P bxW0L
 clear bxG0P bxG0L
 clear ybxW00 ybxW01 ybxW02 ybxW03 ybxW04
 refine (eqDo _ _ L0 _ oH0.read oW0.read hs0).mono ?_
 rintro e u14 ⟨rfl, b14⟩
 have oW0 := oW0.past b14
 have oG0 := oG0.past b14
 have oH0 := oH0.past b14
 have bxW0 := bxW0.past b14
 have bxG0 := bxG0.past b14
 have bxH0 := bxH0.past b14
 have z14 := b14.size
 have D14 := Da13.trans (b14.mono Da13.size)
 have ybxG00 : _ = (some (.string L0.name) : Option Value) := bxG0.cell (j := 0) rfl
 have ybxG01 : _ = (some (.int .i64 L0.from_) : Option Value) := bxG0.cell (j := 1) rfl
 have ybxG02 : _ = (some (.slice AG0_2 L0.text.length cG0_2) : Option Value) := bxG0.cell (j := 2) rfl
 have ybxG03 : _ = (some (.slice AG0_3 L0.list.length cG0_3) : Option Value) := bxG0.cell (j := 3) rfl
 have ybxG04 : _ = (some (.slice AG0_4 L0.seen.length cG0_4) : Option Value) := bxG0.cell (j := 4) rfl
 go_wp2_with fail
 clear ybxG00 ybxG01 ybxG02 ybxG03 ybxG04
 refine (heldDo _ L0 (1) _ oG0.read (by omega) (by omega) hs0).mono ?_
 rintro e u15 ⟨rfl, b15⟩
 rw [HN0.out]
 have oW0 := oW0.past b15
 have oG0 := oG0.past b15
 have oH0 := oH0.past b15
 have bxW0 := bxW0.past b15
 have bxG0 := bxG0.past b15
 have bxH0 := bxH0.past b15
 have z15 := b15.size
 have D15 := D14.trans (b15.mono D14.size)
 go_wp2
 go_ret
 exact ⟨rfl, D15⟩
theorem lifted (os : Os) (started : os.Started) (H : Type) (enc : TypeId × Value → H) :
  ReturnsInHanded {} Tryz.checked os 4 .any (Rows.fnExactDocNewSpec.pre6 enc Tryz.prog Tryz.f4 Rows.fnExactDocNewRow.domain false) (Rows.fnExactDocNewSpec.post enc Tryz.prog Tryz.f4 false true false false) := by
 refine returnsInHanded_of_change (C := Tryz.checked) own started (by kernel_rfl) Tryz.func4
  (ChangeSpec.witness6 (enc := enc) (C := Tryz.checked) false ⟨#[], #[.string ByteArray.empty, .slice none 0 0], []⟩ 8 (by kernel_rfl) (by kernel_rfl) (by kernel_rfl) (by kernel_rfl)) ?_
 intro W base args ds gs before hval0 hW hcnd _
 have hval : ∀ (j : Nat) t v, Tryz.f4.params[j]? = some t → args[j]? = some v → Value.okWide Tryz.prog W .any base t v := hval0
 have hW' := hW
 obtain ⟨p, q, hA0, hV, rfl, hfz, hnd⟩ := hW
 have hA : DataW.TrodAll enc Tryz.prog W 0 (fun _ => true) true Tryz.f4.params.toList args.toList ds p := hA0
 rw [Tryz.params4] at hA hval
 obtain ⟨v0, vs0, x0, xs0, q0, r0, hargs, rfl, rfl, h0, t0⟩ := trodAll_cons hA
 obtain ⟨v1, vs1, x1, xs1, q1, r1, rfl, rfl, rfl, h1, t1⟩ := trodAll_cons t0
 obtain ⟨rfl, rfl, rfl⟩ := trodAll_nil t1
 obtain rfl : args = #[v0, v1] := by cases args; simp_all
 obtain ⟨rfl, rfl⟩ := trodVars_none hV
 have k0 := h0
 have lt0 : ∀ x ∈ q0, x.block < W.heap.size := by obtain ⟨m, hm⟩ := k0; exact DataW.trod_lt m _ _ _ hm
 have k1 := h1
 have lt1 : ∀ x ∈ q1, x.block < W.heap.size := by obtain ⟨m, hm⟩ := k1; exact DataW.trod_lt m _ _ _ hm
 obtain ⟨a0, rfl, rfl, rfl, w0⟩ := open_string Tryz.underlying9 (hval 0 9 v0 rfl rfl) h0
 obtain ⟨B1, n1, d1, rfl⟩ := okWide_slice Tryz.underlying22 (hval 1 22 v1 rfl rfl)
 obtain ⟨f1, hf1⟩ := h1
 obtain ⟨A1, c1, zs1, e1, w1, l1⟩ := open_dints hf1
 obtain ⟨rfl, rfl, rfl⟩ : B1 = A1 ∧ n1 = zs1.length ∧ d1 = c1 := by simpa [Value.cells] using e1
 clear hA0 hval0
 refine (walk a0 B1 d1 zs1 W w0 w1 l1).mono fun e W' ⟨he, bel⟩ => ?_
 subst he
 exact ⟨_, rfl, _, _, _, [], _, [], hW', trodAll_mk1 (shut_bool Tryz.underlying4 _), (trodAll_cons_mk (Below.trod laidOut (by kernel_rfl) (of_decide_eq_true (by kernel_rfl)) k0 bel lt0) (trodAll_cons_mk (Below.trod laidOut (by kernel_rfl) (of_decide_eq_true (by kernel_rfl)) k1 bel lt1) trodAll_mk0)), rfl, bel.frame _, fun h => by cases h⟩
theorem over : Rows.fnExactDocNewRow.holds Tryz.pinned (OpenSpec.ofChange Rows.fnExactDocNewSpec) :=
 OpenClaim.holds_of_wide 4 Tryz.f4 rfl rfl rfl rfl rfl rfl rfl ⟨rfl, rfl, rfl, rfl, rfl⟩ rfl rfl rfl rfl rfl (by kernel_rfl) Tryz.func4 (by kernel_rfl)
  (of_decide_eq_true (by kernel_rfl)) (by unfold Func.isWrapper; first | (rw [if_pos (by decide +kernel)]; kernel_rfl) | (rw [if_neg (by decide +kernel)]; exact ⟨rfl, rfl⟩))
  (fun os started H enc _ => lifted os started H enc)
theorem proved : Rows.FnExactDocNewSaid := over
end Go.Proofs.YtjbabdkgficjnaaGreat.fnExactDocNew
