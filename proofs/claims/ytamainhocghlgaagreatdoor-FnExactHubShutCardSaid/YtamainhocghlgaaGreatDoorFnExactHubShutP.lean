/-
  Proved: for every argument (hub), the law FnExactHubShut of this seat's translation returns true (impl.HubShut answers as spec.HubShut does, twice, leaves its arguments alone, and its result owns its memory); where the listed variable of the library starts as the program's text lays it, and the card that ties it to that text.
-/
import Derived.Test.YtamainhocghlgaaGreatDoorCards
import Derived.Test.YtamainhocghlgaaGreatDoorTie
import Derived.Test.YtamainhocghlgaaGreatDoorM1
import Derived.WalkKit
import Derived.ProofKit
import Derived.OpenShut
import Derived.ShutString
import Derived.ChangeOld
import Derived.Below
import Derived.Deep.DeepHandedRow
import Derived.Lib.LaidTab
import Derived.LaidSub
import Derived.LaidMore
import Derived.MakeChecks
import Derived.LaidHandle
import Derived.Deep.DeepWitnessRowRef
import Derived.Test.YtamainhocghlgaaGreatDoorM3
import Derived.Test.YtamainhocghlgaaGreatDoorM4
import Derived.Test.YtamainhocghlgaaGreatDoorM6
namespace Go.Proofs.YtamainhocghlgaaGreatDoor.fnExactHubShut
open Go.ChangeShapes Go.WideShapes Go.ChangeAt Go.RowKit
open Go.ChangeMaps (open_string shut_string)
open low
set_option linter.unusedVariables false

theorem own : ownKnob Tryz.prog.godebug = none := by kernel_rfl
theorem et {W : World} (h : laidMetH Tryz.prog Rows.fnExactHubShutRow.laid W) : ET W := by
  have hG : Tryz.prog.globalNamed "errors.errorType" = some 0 := by kernel_rfl
  have hR : (Tryz.prog.cutTypes.find? (·.1 == "internal/reflectlite.rtype")).map (·.2) = some 155 := by kernel_rfl
  have hO : ((List.range 269).filter fun t => Tryz.prog.rowNamed t [101, 114, 114, 111, 114]) = [44] := by kernel_rfl
  have hS : Tryz.prog.types.size = 269 := by kernel_rfl
  have h' : laidMet Tryz.prog [] W ∧ handlesMet Tryz.prog Rows.fnExactHubShutRow.laid W := h
  obtain ⟨name, u, ty, e1, e2, e3, e4, e5⟩ := h'.2 _ (List.mem_singleton.2 rfl)
  have en : name = [101, 114, 114, 111, 114] := (Option.some.inj e1).symm
  subst en
  obtain rfl := Option.some.inj (hR.symm.trans e2)
  have hm : ty ∈ (List.range 269).filter fun t => Tryz.prog.rowNamed t [101, 114, 114, 111, 114] := List.mem_filter.2 ⟨List.mem_range.2 (by rw [← hS]; exact e3), e4⟩
  rw [hO] at hm
  obtain rfl := List.mem_singleton.1 hm
  have hh : typeHandle Tryz.prog 44 = .pointer (some ⟨1, 44, none⟩) := by kernel_rfl
  rw [hh] at e5
  exact show W.cell? ⟨0, 0, none⟩ = _ by simpa using World.var?_cell hG e5 0
set_option maxRecDepth 100000 in
set_option maxHeartbeats 1600000 in
theorem walk (x0 : Hu) (y0 : Value) (w : World) (w0 : RdC w w.heap.size (datHu x0) y0) (l0 : LimHu x0) (hg : ET w) :
    Calls Tryz.prog 3 #[y0] w fun e w' => e = .returned (.bool true) ∧ Below w.heap.size w w' := by
  have HG := Lib.hid hg
  clear hg
  have D0 : Below w.heap.size w w := Below.refl _ _
  have R0 := w0
  obtain ⟨AA0_1, cA0_1, AA0_2, cA0_2, rfl, _, _⟩ := aggHu w0
  have bxA0 := Bx.new w #[.bool x0.shut, .slice AA0_1 x0.docs.length cA0_1, .slice AA0_2 x0.subs.length cA0_2, .int .i64 x0.last] 25
  have DE := alloc_below w (.cells #[.bool x0.shut, .slice AA0_1 x0.docs.length cA0_1, .slice AA0_2 x0.subs.length cA0_2, .int .i64 x0.last] 25)
  have zE : (w.alloc (.cells #[.bool x0.shut, .slice AA0_1 x0.docs.length cA0_1, .slice AA0_2 x0.subs.length cA0_2, .int .i64 x0.last] 25)).heap.size = w.heap.size + 1 := World.size_alloc _ _
  go_enter Tryz.func3, Tryz.ntmps3
  go_wp2_with fail
  generalize (w.alloc (.cells #[.bool x0.shut, .slice AA0_1 x0.docs.length cA0_1, .slice AA0_2 x0.subs.length cA0_2, .int .i64 x0.last] 25)) = wE at bxA0 DE zE ⊢
  refine (szHu _ x0 1048576 _ (R0.past DE) (by omega) (by omega) l0).mono ?_
  rintro e u1 ⟨r1, rfl, hr1, b1⟩
  rcases hr1 with rfl | ⟨p1, q1⟩
  · go_wp2
    go_ret
    exact ⟨rfl, DE.trans (b1.mono DE.size)⟩
  have S0 : SmHu x0 := by unfold SmHu; omega
  have t1 : r1 ≤ 1048576 := by omega
  clear q1
  have bxA0 := bxA0.past b1
  have z1 := b1.size
  have D1 := DE.trans (b1.mono DE.size)
  have ybxA00 : _ = (some (.bool x0.shut) : Option Value) := bxA0.cell (j := 0) rfl
  have ybxA01 : _ = (some (.slice AA0_1 x0.docs.length cA0_1) : Option Value) := bxA0.cell (j := 1) rfl
  have ybxA02 : _ = (some (.slice AA0_2 x0.subs.length cA0_2) : Option Value) := bxA0.cell (j := 2) rfl
  have ybxA03 : _ = (some (.int .i64 x0.last) : Option Value) := bxA0.cell (j := 3) rfl
  go_wp2_with fail
  clear ybxA00 ybxA01 ybxA02 ybxA03
  refine (toHu _ x0 _ (R0.past D1) S0).mono ?_
  rintro e u2 ⟨v2, rfl, oT00, b2⟩
  obtain ⟨k2, oT0⟩ := oT00.blocks
  clear oT00
  obtain ⟨A2_1, c2_1, A2_2, c2_2, rfl, _, _⟩ := aggHu oT0.read
  have bxA0 := bxA0.past b2
  have z2 := b2.size
  have D2 := D1.trans (b2.mono D1.size)
  go_wp2_with fail
  refine (specHubShut_d _ x0 _ oT0.read S0).mono ?_
  rintro e u3 ⟨v3, rfl, oW00, b3⟩
  have oT0 := oT0.past b3
  have bxA0 := bxA0.past b3
  obtain ⟨k3, oW0⟩ := oW00.blocks
  clear oW00
  have z3 := b3.size
  have D3 := D2.trans (b3.mono D2.size)
  have hs0 : SmHu (shutT x0) := hubShut_small S0
  generalize hL0 : (shutT x0) = L0 at *
  have HL0 := Lib.hid hL0
  clear hL0
  generalize hL1 : (shutC x0) = L1 at *
  have HL1 := Lib.hid hL1
  clear hL1
  have hc0 := cntHu hs0
  generalize hn0 : cntC (datHu L0) = n0 at *
  have HN0 := Lib.hid hn0
  clear hn0
  have nm0 : (((1 : Int) + (n0 : Int)) != ((1 : Int) + (n0 : Int))) = false := by simp
  have nb1 : ((L1 : Int) != L1) = false := by simp
  obtain ⟨AW0_1, cW0_1, AW0_2, cW0_2, rfl, _, _⟩ := aggHu oW0.read
  have bxA0P := bxA0
  have bxA0L := bxA0.lt
  have ba3 := alloc_below u3 (.cells #[.bool L0.shut, .slice AW0_1 L0.docs.length cW0_1, .slice AW0_2 L0.subs.length cW0_2, .int .i64 L0.last] 30)
  have oT0 := oT0.past ba3
  have oW0 := oW0.past ba3
  have bxA0 := bxA0.past ba3
  have bxW0 := Bx.new u3 #[.bool L0.shut, .slice AW0_1 L0.docs.length cW0_1, .slice AW0_2 L0.subs.length cW0_2, .int .i64 L0.last] 30
  have zu3 : (u3.alloc (.cells #[.bool L0.shut, .slice AW0_1 L0.docs.length cW0_1, .slice AW0_2 L0.subs.length cW0_2, .int .i64 L0.last] 30)).heap.size = u3.heap.size + 1 := World.size_alloc _ _
  have Da3 := D3.trans (ba3.mono D3.size)
  clear ba3
  clear oT0
  have ybxA00 : _ = (some (.bool x0.shut) : Option Value) := bxA0P.cell (j := 0) rfl
  have ybxA01 : _ = (some (.slice AA0_1 x0.docs.length cA0_1) : Option Value) := bxA0P.cell (j := 1) rfl
  have ybxA02 : _ = (some (.slice AA0_2 x0.subs.length cA0_2) : Option Value) := bxA0P.cell (j := 2) rfl
  have ybxA03 : _ = (some (.int .i64 x0.last) : Option Value) := bxA0P.cell (j := 3) rfl
  go_wp2_with fail
  generalize u3.alloc (.cells #[.bool L0.shut, .slice AW0_1 L0.docs.length cW0_1, .slice AW0_2 L0.subs.length cW0_2, .int .i64 L0.last] 30) = v3_ at oW0 bxA0 bxW0 zu3 Da3 ⊢
  clear bxA0P bxA0L
  clear ybxA00 ybxA01 ybxA02 ybxA03
  refine (toHu _ x0 _ (R0.past Da3) S0).mono ?_
  rintro e u4 ⟨v4, rfl, oX00, b4⟩
  obtain ⟨k4, oX0⟩ := oX00.blocks
  clear oX00
  obtain ⟨A4_1, c4_1, A4_2, c4_2, rfl, _, _⟩ := aggHu oX0.read
  have oW0 := oW0.past b4
  have bxA0 := bxA0.past b4
  have bxW0 := bxW0.past b4
  have z4 := b4.size
  have D4 := Da3.trans (b4.mono Da3.size)
  have bxA0P := bxA0
  have bxA0L := bxA0.lt
  have bxW0P := bxW0
  have bxW0L := bxW0.lt
  have ba4 := alloc_below u4 (.cells #[.bool x0.shut, .slice A4_1 x0.docs.length c4_1, .slice A4_2 x0.subs.length c4_2, .int .i64 x0.last] 30)
  have oW0 := oW0.past ba4
  have oX0 := oX0.past ba4
  have bxA0 := bxA0.past ba4
  have bxW0 := bxW0.past ba4
  have bxX0 := Bx.new u4 #[.bool x0.shut, .slice A4_1 x0.docs.length c4_1, .slice A4_2 x0.subs.length c4_2, .int .i64 x0.last] 30
  have zu4 : (u4.alloc (.cells #[.bool x0.shut, .slice A4_1 x0.docs.length c4_1, .slice A4_2 x0.subs.length c4_2, .int .i64 x0.last] 30)).heap.size = u4.heap.size + 1 := World.size_alloc _ _
  have Da4 := D4.trans (ba4.mono D4.size)
  clear ba4
  go_wp2_with fail
  generalize u4.alloc (.cells #[.bool x0.shut, .slice A4_1 x0.docs.length c4_1, .slice A4_2 x0.subs.length c4_2, .int .i64 x0.last] 30) = v4_ at oW0 oX0 bxA0 bxW0 bxX0 zu4 Da4 ⊢
  clear bxA0P bxA0L
  clear bxW0P bxW0L
  refine (implHubShut_d _ x0 _ oX0.read S0 (HG.out.past rfl Da4)).mono ?_
  rw [HL0.out, HL1.out]
  rintro e u5 ⟨v5, rfl, oG00, b5⟩
  have oW0 := oW0.past b5
  have oX0 := oX0.past b5
  have bxA0 := bxA0.past b5
  have bxW0 := bxW0.past b5
  have bxX0 := bxX0.past b5
  obtain ⟨k5, oG0⟩ := oG00.blocks
  clear oG00
  have z5 := b5.size
  have D5 := Da4.trans (b5.mono Da4.size)
  obtain ⟨AG0_1, cG0_1, AG0_2, cG0_2, rfl, _, _⟩ := aggHu oG0.read
  have bxA0P := bxA0
  have bxA0L := bxA0.lt
  have bxW0P := bxW0
  have bxW0L := bxW0.lt
  have bxX0P := bxX0
  have bxX0L := bxX0.lt
  have ba5 := alloc_below u5 (.cells #[.bool L0.shut, .slice AG0_1 L0.docs.length cG0_1, .slice AG0_2 L0.subs.length cG0_2, .int .i64 L0.last] 30)
  have oW0 := oW0.past ba5
  have oX0 := oX0.past ba5
  have oG0 := oG0.past ba5
  have bxA0 := bxA0.past ba5
  have bxW0 := bxW0.past ba5
  have bxX0 := bxX0.past ba5
  have bxG0 := Bx.new u5 #[.bool L0.shut, .slice AG0_1 L0.docs.length cG0_1, .slice AG0_2 L0.subs.length cG0_2, .int .i64 L0.last] 30
  have zu5 : (u5.alloc (.cells #[.bool L0.shut, .slice AG0_1 L0.docs.length cG0_1, .slice AG0_2 L0.subs.length cG0_2, .int .i64 L0.last] 30)).heap.size = u5.heap.size + 1 := World.size_alloc _ _
  have Da5 := D5.trans (ba5.mono D5.size)
  clear ba5
  have HAG := Lib.hid (show ∀ (x0_ : Value) (u : World), RdC u u.heap.size (datHu x0) x0_ → ET u → Calls Tryz.prog 7 #[x0_] u (ResN (datHu L0) L1 u) from fun x0_ u h0_ hg_ => by rw [← HL0.out, ← HL1.out]; exact implHubShut_d x0_ x0 u h0_ S0  hg_)
  have ybxW00 : _ = (some (.bool L0.shut) : Option Value) := bxW0P.cell (j := 0) rfl
  have ybxW01 : _ = (some (.slice AW0_1 L0.docs.length cW0_1) : Option Value) := bxW0P.cell (j := 1) rfl
  have ybxW02 : _ = (some (.slice AW0_2 L0.subs.length cW0_2) : Option Value) := bxW0P.cell (j := 2) rfl
  have ybxW03 : _ = (some (.int .i64 L0.last) : Option Value) := bxW0P.cell (j := 3) rfl
  go_wp2_with fail
  generalize u5.alloc (.cells #[.bool L0.shut, .slice AG0_1 L0.docs.length cG0_1, .slice AG0_2 L0.subs.length cG0_2, .int .i64 L0.last] 30) = v5_ at oW0 oX0 oG0 bxA0 bxW0 bxX0 bxG0 zu5 Da5 ⊢
  clear bxA0P bxA0L
  clear bxW0P bxW0L
  clear bxX0P bxX0L
  clear ybxW00 ybxW01 ybxW02 ybxW03
  refine (eqHu _ _ L0 _ oG0.read oW0.read hs0).mono ?_
  rintro e u6 ⟨rfl, b6⟩
  have oW0 := oW0.past b6
  have oX0 := oX0.past b6
  have oG0 := oG0.past b6
  have bxA0 := bxA0.past b6
  have bxW0 := bxW0.past b6
  have bxX0 := bxX0.past b6
  have bxG0 := bxG0.past b6
  have z6 := b6.size
  have D6 := Da5.trans (b6.mono Da5.size)
  have lbxX0 := bxX0.lt
  have ybxX00 : u6.cell? ⟨u4.heap.size, 0, none⟩ = some (.bool x0.shut) := bxX0.cell (j := 0) rfl
  have ybxX01 : u6.cell? ⟨u4.heap.size, 1, none⟩ = some (.slice A4_1 x0.docs.length c4_1) := bxX0.cell (j := 1) rfl
  have ybxX02 : u6.cell? ⟨u4.heap.size, 2, none⟩ = some (.slice A4_2 x0.subs.length c4_2) := bxX0.cell (j := 2) rfl
  have ybxX03 : u6.cell? ⟨u4.heap.size, 3, none⟩ = some (.int .i64 x0.last) := bxX0.cell (j := 3) rfl
  have lbxA0 := bxA0.lt
  have ybxA00 : u6.cell? ⟨w.heap.size, 0, none⟩ = some (.bool x0.shut) := bxA0.cell (j := 0) rfl
  have ybxA01 : u6.cell? ⟨w.heap.size, 1, none⟩ = some (.slice AA0_1 x0.docs.length cA0_1) := bxA0.cell (j := 1) rfl
  have ybxA02 : u6.cell? ⟨w.heap.size, 2, none⟩ = some (.slice AA0_2 x0.subs.length cA0_2) := bxA0.cell (j := 2) rfl
  have ybxA03 : u6.cell? ⟨w.heap.size, 3, none⟩ = some (.int .i64 x0.last) := bxA0.cell (j := 3) rfl
  have SX := Lib.hid (show ∀ (W W1 : World), (W.cell? ⟨u4.heap.size, 0, none⟩ = some (.bool x0.shut) ∧ W.cell? ⟨u4.heap.size, 1, none⟩ = some (.slice A4_1 x0.docs.length c4_1) ∧ W.cell? ⟨u4.heap.size, 2, none⟩ = some (.slice A4_2 x0.subs.length c4_2) ∧ W.cell? ⟨u4.heap.size, 3, none⟩ = some (.int .i64 x0.last) ∧ W.cell? ⟨w.heap.size, 0, none⟩ = some (.bool x0.shut) ∧ W.cell? ⟨w.heap.size, 1, none⟩ = some (.slice AA0_1 x0.docs.length cA0_1) ∧ W.cell? ⟨w.heap.size, 2, none⟩ = some (.slice AA0_2 x0.subs.length cA0_2) ∧ W.cell? ⟨w.heap.size, 3, none⟩ = some (.int .i64 x0.last) ∧ KS u6 W) → Below W.heap.size W W1 → (W1.cell? ⟨u4.heap.size, 0, none⟩ = some (.bool x0.shut) ∧ W1.cell? ⟨u4.heap.size, 1, none⟩ = some (.slice A4_1 x0.docs.length c4_1) ∧ W1.cell? ⟨u4.heap.size, 2, none⟩ = some (.slice A4_2 x0.subs.length c4_2) ∧ W1.cell? ⟨u4.heap.size, 3, none⟩ = some (.int .i64 x0.last) ∧ W1.cell? ⟨w.heap.size, 0, none⟩ = some (.bool x0.shut) ∧ W1.cell? ⟨w.heap.size, 1, none⟩ = some (.slice AA0_1 x0.docs.length cA0_1) ∧ W1.cell? ⟨w.heap.size, 2, none⟩ = some (.slice AA0_2 x0.subs.length cA0_2) ∧ W1.cell? ⟨w.heap.size, 3, none⟩ = some (.int .i64 x0.last) ∧ KS u6 W1) from fun W W1 h hb => by have hk := h.2.2.2.2.2.2.2.2; have hkk : KS u6 W1 := hk.trans (hb.mono hk.size); exact ⟨(hkk.cell (p := ⟨u4.heap.size, 0, none⟩) lbxX0).trans ybxX00, (hkk.cell (p := ⟨u4.heap.size, 1, none⟩) lbxX0).trans ybxX01, (hkk.cell (p := ⟨u4.heap.size, 2, none⟩) lbxX0).trans ybxX02, (hkk.cell (p := ⟨u4.heap.size, 3, none⟩) lbxX0).trans ybxX03, (hkk.cell (p := ⟨w.heap.size, 0, none⟩) lbxA0).trans ybxA00, (hkk.cell (p := ⟨w.heap.size, 1, none⟩) lbxA0).trans ybxA01, (hkk.cell (p := ⟨w.heap.size, 2, none⟩) lbxA0).trans ybxA02, (hkk.cell (p := ⟨w.heap.size, 3, none⟩) lbxA0).trans ybxA03, hkk⟩)
  have RX := Lib.hid (show ∀ (W : World), (W.cell? ⟨u4.heap.size, 0, none⟩ = some (.bool x0.shut) ∧ W.cell? ⟨u4.heap.size, 1, none⟩ = some (.slice A4_1 x0.docs.length c4_1) ∧ W.cell? ⟨u4.heap.size, 2, none⟩ = some (.slice A4_2 x0.subs.length c4_2) ∧ W.cell? ⟨u4.heap.size, 3, none⟩ = some (.int .i64 x0.last) ∧ W.cell? ⟨w.heap.size, 0, none⟩ = some (.bool x0.shut) ∧ W.cell? ⟨w.heap.size, 1, none⟩ = some (.slice AA0_1 x0.docs.length cA0_1) ∧ W.cell? ⟨w.heap.size, 2, none⟩ = some (.slice AA0_2 x0.subs.length cA0_2) ∧ W.cell? ⟨w.heap.size, 3, none⟩ = some (.int .i64 x0.last) ∧ KS u6 W) → RdC W W.heap.size (datHu x0) (.agg #[.bool x0.shut, .slice A4_1 x0.docs.length c4_1, .slice A4_2 x0.subs.length c4_2, .int .i64 x0.last]) from fun W h => by have hk : Below u6.heap.size u6 W := h.2.2.2.2.2.2.2.2; exact (oX0.past hk).read)
  have RA := Lib.hid (show ∀ (W : World), (W.cell? ⟨u4.heap.size, 0, none⟩ = some (.bool x0.shut) ∧ W.cell? ⟨u4.heap.size, 1, none⟩ = some (.slice A4_1 x0.docs.length c4_1) ∧ W.cell? ⟨u4.heap.size, 2, none⟩ = some (.slice A4_2 x0.subs.length c4_2) ∧ W.cell? ⟨u4.heap.size, 3, none⟩ = some (.int .i64 x0.last) ∧ W.cell? ⟨w.heap.size, 0, none⟩ = some (.bool x0.shut) ∧ W.cell? ⟨w.heap.size, 1, none⟩ = some (.slice AA0_1 x0.docs.length cA0_1) ∧ W.cell? ⟨w.heap.size, 2, none⟩ = some (.slice AA0_2 x0.subs.length cA0_2) ∧ W.cell? ⟨w.heap.size, 3, none⟩ = some (.int .i64 x0.last) ∧ KS u6 W) → RdC W W.heap.size (datHu x0) (.agg #[.bool x0.shut, .slice AA0_1 x0.docs.length cA0_1, .slice AA0_2 x0.subs.length cA0_2, .int .i64 x0.last]) from fun W h => by have hk : Below u6.heap.size u6 W := h.2.2.2.2.2.2.2.2; exact R0.past (D6.trans (hk.mono D6.size)))
  have hS0 : u6.drew.cell? ⟨u4.heap.size, 0, none⟩ = some (.bool x0.shut) ∧ u6.drew.cell? ⟨u4.heap.size, 1, none⟩ = some (.slice A4_1 x0.docs.length c4_1) ∧ u6.drew.cell? ⟨u4.heap.size, 2, none⟩ = some (.slice A4_2 x0.subs.length c4_2) ∧ u6.drew.cell? ⟨u4.heap.size, 3, none⟩ = some (.int .i64 x0.last) ∧ u6.drew.cell? ⟨w.heap.size, 0, none⟩ = some (.bool x0.shut) ∧ u6.drew.cell? ⟨w.heap.size, 1, none⟩ = some (.slice AA0_1 x0.docs.length cA0_1) ∧ u6.drew.cell? ⟨w.heap.size, 2, none⟩ = some (.slice AA0_2 x0.subs.length cA0_2) ∧ u6.drew.cell? ⟨w.heap.size, 3, none⟩ = some (.int .i64 x0.last) ∧ KS u6 u6.drew := ⟨ybxX00, ybxX01, ybxX02, ybxX03, ybxA00, ybxA01, ybxA02, ybxA03, KS.start _⟩
  clear ybxX00 ybxX01 ybxX02 ybxX03 ybxA00 ybxA01 ybxA02 ybxA03
  go_wp2
  go_region_held3 (fun W => W.cell? ⟨u4.heap.size, 0, none⟩ = some (.bool x0.shut) ∧ W.cell? ⟨u4.heap.size, 1, none⟩ = some (.slice A4_1 x0.docs.length c4_1) ∧ W.cell? ⟨u4.heap.size, 2, none⟩ = some (.slice A4_2 x0.subs.length c4_2) ∧ W.cell? ⟨u4.heap.size, 3, none⟩ = some (.int .i64 x0.last) ∧ W.cell? ⟨w.heap.size, 0, none⟩ = some (.bool x0.shut) ∧ W.cell? ⟨w.heap.size, 1, none⟩ = some (.slice AA0_1 x0.docs.length cA0_1) ∧ W.cell? ⟨w.heap.size, 2, none⟩ = some (.slice AA0_2 x0.subs.length cA0_2) ∧ W.cell? ⟨w.heap.size, 3, none⟩ = some (.int .i64 x0.last) ∧ KS u6 W)
    (first | assumption | exact hS0 | (exact SX.out _ _ (by assumption) b7) | (exact SX.out _ _ (by assumption) b8))
    (first | (go_at_call 6; refine (toHu _ x0 _ (by exact RA.out _ (by assumption)) S0).mono ?_; rintro e u7 ⟨v7, rfl, o7, b7⟩; obtain ⟨A7_1, c7_1, A7_2, c7_2, rfl, _, _⟩ := aggHu o7.read) | (go_at_call 8; refine (eqHu _ _ x0 _ (by exact RX.out _ (by assumption)) (by exact o7.read) S0).mono ?_; rintro e u8 ⟨rfl, b8⟩))
  rename_i hS2
  have HK8 : Below u6.heap.size u6 u8 := hS2.2.2.2.2.2.2.2.2
  clear hS2 hS0 SX RX RA
  clear lbxX0 lbxA0
  have oW0 := oW0.past HK8
  have oX0 := oX0.past HK8
  have oG0 := oG0.past HK8
  have bxA0 := bxA0.past HK8
  have bxW0 := bxW0.past HK8
  have bxX0 := bxX0.past HK8
  have bxG0 := bxG0.past HK8
  have z8 := HK8.size
  have D8 := D6.trans (HK8.mono D6.size)
  clear o7 b7 b8
  have cx0 := cntHu S0
  have ybxX00 : _ = (some (.bool x0.shut) : Option Value) := bxX0.cell (j := 0) rfl
  have ybxX01 : _ = (some (.slice A4_1 x0.docs.length c4_1) : Option Value) := bxX0.cell (j := 1) rfl
  have ybxX02 : _ = (some (.slice A4_2 x0.subs.length c4_2) : Option Value) := bxX0.cell (j := 2) rfl
  have ybxX03 : _ = (some (.int .i64 x0.last) : Option Value) := bxX0.cell (j := 3) rfl
  go_wp2_with fail
  clear ybxX00 ybxX01 ybxX02 ybxX03
  refine (markHu _ x0 _ (1) _ oX0.ow oX0.nd (by omega) (by omega) S0).mono ?_
  rintro e u9 ⟨rfl, m9, e9_, b9, t9⟩
  have oW0 := oW0.past b9
  have oX0 := oX0.past b9
  have oG0 := oG0.past b9
  have bxA0 := bxA0.past b9
  have bxW0 := bxW0.past b9
  have bxX0 := bxX0.past b9
  have bxG0 := bxG0.past b9
  have zb9 := b9.size
  have Db9 := D8.trans (b9.mono D8.size)
  have oW0 := oW0.apart oX0 t9 (by omega)
  have oG0 := oG0.apart oX0 t9 (by omega)
  have bxA0 := bxA0.apart oX0 t9 (by omega)
  have bxW0 := bxW0.apart oX0 t9 (by omega)
  have bxX0 := bxX0.apart oX0 t9 (by omega)
  have bxG0 := bxG0.apart oX0 t9 (by omega)
  have z9 := t9.size
  have D9 := Db9.trans (oX0.under t9 (by omega))
  clear oX0 m9
  generalize cntC (datHu x0) = nx0 at *
  have ybxG00 : _ = (some (.bool L0.shut) : Option Value) := bxG0.cell (j := 0) rfl
  have ybxG01 : _ = (some (.slice AG0_1 L0.docs.length cG0_1) : Option Value) := bxG0.cell (j := 1) rfl
  have ybxG02 : _ = (some (.slice AG0_2 L0.subs.length cG0_2) : Option Value) := bxG0.cell (j := 2) rfl
  have ybxG03 : _ = (some (.int .i64 L0.last) : Option Value) := bxG0.cell (j := 3) rfl
  have ybxW00 : _ = (some (.bool L0.shut) : Option Value) := bxW0.cell (j := 0) rfl
  have ybxW01 : _ = (some (.slice AW0_1 L0.docs.length cW0_1) : Option Value) := bxW0.cell (j := 1) rfl
  have ybxW02 : _ = (some (.slice AW0_2 L0.subs.length cW0_2) : Option Value) := bxW0.cell (j := 2) rfl
  have ybxW03 : _ = (some (.int .i64 L0.last) : Option Value) := bxW0.cell (j := 3) rfl
  go_wp2_with fail
  clear ybxG00 ybxG01 ybxG02 ybxG03 ybxW00 ybxW01 ybxW02 ybxW03
  refine (eqHu _ _ L0 _ oG0.read oW0.read hs0).mono ?_
  rintro e u10 ⟨rfl, b10⟩
  have oW0 := oW0.past b10
  have oG0 := oG0.past b10
  have bxA0 := bxA0.past b10
  have bxW0 := bxW0.past b10
  have bxX0 := bxX0.past b10
  have bxG0 := bxG0.past b10
  have z10 := b10.size
  have D10 := D9.trans (b10.mono D9.size)
  have ybxG00 : _ = (some (.bool L0.shut) : Option Value) := bxG0.cell (j := 0) rfl
  have ybxG01 : _ = (some (.slice AG0_1 L0.docs.length cG0_1) : Option Value) := bxG0.cell (j := 1) rfl
  have ybxG02 : _ = (some (.slice AG0_2 L0.subs.length cG0_2) : Option Value) := bxG0.cell (j := 2) rfl
  have ybxG03 : _ = (some (.int .i64 L0.last) : Option Value) := bxG0.cell (j := 3) rfl
  go_wp2_with fail
  clear ybxG00 ybxG01 ybxG02 ybxG03
  refine (markHu _ L0 _ (1) _ oG0.ow oG0.nd (by omega) (by omega) hs0).mono ?_
  rintro e u11 ⟨rfl, m11, e11_, b11, t11⟩
  have oW0 := oW0.past b11
  have oG0 := oG0.past b11
  have bxA0 := bxA0.past b11
  have bxW0 := bxW0.past b11
  have bxX0 := bxX0.past b11
  have bxG0 := bxG0.past b11
  have zb11 := b11.size
  have Db11 := D10.trans (b11.mono D10.size)
  have oW0 := oW0.apart oG0 t11 (by omega)
  have bxA0 := bxA0.apart oG0 t11 (by omega)
  have bxW0 := bxW0.apart oG0 t11 (by omega)
  have bxX0 := bxX0.apart oG0 t11 (by omega)
  have bxG0 := bxG0.apart oG0 t11 (by omega)
  have z11 := t11.size
  have D11 := Db11.trans (oG0.under t11 (by omega))
  have oG0 := oG0.marked m11 t11
  rw [HN0.out]
  have ybxG00 : _ = (some (.bool L0.shut) : Option Value) := bxG0.cell (j := 0) rfl
  have ybxG01 : _ = (some (.slice AG0_1 L0.docs.length cG0_1) : Option Value) := bxG0.cell (j := 1) rfl
  have ybxG02 : _ = (some (.slice AG0_2 L0.subs.length cG0_2) : Option Value) := bxG0.cell (j := 2) rfl
  have ybxG03 : _ = (some (.int .i64 L0.last) : Option Value) := bxG0.cell (j := 3) rfl
  go_wp2_with fail
  clear ybxG00 ybxG01 ybxG02 ybxG03
  refine (heldHu _ L0 (1) _ oG0.read (by omega) (by omega) hs0).mono ?_
  rintro e u12 ⟨rfl, b12⟩
  rw [HN0.out]
  have oW0 := oW0.past b12
  have oG0 := oG0.past b12
  have bxA0 := bxA0.past b12
  have bxW0 := bxW0.past b12
  have bxX0 := bxX0.past b12
  have bxG0 := bxG0.past b12
  have z12 := b12.size
  have D12 := D11.trans (b12.mono D11.size)
  have ybxA00 : _ = (some (.bool x0.shut) : Option Value) := bxA0.cell (j := 0) rfl
  have ybxA01 : _ = (some (.slice AA0_1 x0.docs.length cA0_1) : Option Value) := bxA0.cell (j := 1) rfl
  have ybxA02 : _ = (some (.slice AA0_2 x0.subs.length cA0_2) : Option Value) := bxA0.cell (j := 2) rfl
  have ybxA03 : _ = (some (.int .i64 x0.last) : Option Value) := bxA0.cell (j := 3) rfl
  go_wp2_with fail
  clear ybxA00 ybxA01 ybxA02 ybxA03
  refine (toHu _ x0 _ (R0.past D12) S0).mono ?_
  rintro e u13 ⟨v13, rfl, oT00, b13⟩
  obtain ⟨k13, oT0⟩ := oT00.blocks
  clear oT00
  obtain ⟨A13_1, c13_1, A13_2, c13_2, rfl, _, _⟩ := aggHu oT0.read
  have oW0 := oW0.past b13
  have oG0 := oG0.past b13
  have bxA0 := bxA0.past b13
  have bxW0 := bxW0.past b13
  have bxX0 := bxX0.past b13
  have bxG0 := bxG0.past b13
  have z13 := b13.size
  have D13 := D12.trans (b13.mono D12.size)
  go_wp2_with fail
  refine (HAG.out _ _ oT0.read (HG.out.past rfl D13)).mono ?_
  rintro e u14 ⟨v14, rfl, oH00, b14⟩
  have oW0 := oW0.past b14
  have oG0 := oG0.past b14
  have oT0 := oT0.past b14
  have bxA0 := bxA0.past b14
  have bxW0 := bxW0.past b14
  have bxX0 := bxX0.past b14
  have bxG0 := bxG0.past b14
  obtain ⟨k14, oH0⟩ := oH00.blocks
  clear oH00
  have z14 := b14.size
  have D14 := D13.trans (b14.mono D13.size)
  obtain ⟨AH0_1, cH0_1, AH0_2, cH0_2, rfl, _, _⟩ := aggHu oH0.read
  have bxA0P := bxA0
  have bxA0L := bxA0.lt
  have bxW0P := bxW0
  have bxW0L := bxW0.lt
  have bxX0P := bxX0
  have bxX0L := bxX0.lt
  have bxG0P := bxG0
  have bxG0L := bxG0.lt
  have ba14 := alloc_below u14 (.cells #[.bool L0.shut, .slice AH0_1 L0.docs.length cH0_1, .slice AH0_2 L0.subs.length cH0_2, .int .i64 L0.last] 30)
  have oW0 := oW0.past ba14
  have oG0 := oG0.past ba14
  have oT0 := oT0.past ba14
  have oH0 := oH0.past ba14
  have bxA0 := bxA0.past ba14
  have bxW0 := bxW0.past ba14
  have bxX0 := bxX0.past ba14
  have bxG0 := bxG0.past ba14
  have bxH0 := Bx.new u14 #[.bool L0.shut, .slice AH0_1 L0.docs.length cH0_1, .slice AH0_2 L0.subs.length cH0_2, .int .i64 L0.last] 30
  have zu14 : (u14.alloc (.cells #[.bool L0.shut, .slice AH0_1 L0.docs.length cH0_1, .slice AH0_2 L0.subs.length cH0_2, .int .i64 L0.last] 30)).heap.size = u14.heap.size + 1 := World.size_alloc _ _
  have Da14 := D14.trans (ba14.mono D14.size)
  clear ba14
  clear oT0
  have ybxW00 : _ = (some (.bool L0.shut) : Option Value) := bxW0P.cell (j := 0) rfl
  have ybxW01 : _ = (some (.slice AW0_1 L0.docs.length cW0_1) : Option Value) := bxW0P.cell (j := 1) rfl
  have ybxW02 : _ = (some (.slice AW0_2 L0.subs.length cW0_2) : Option Value) := bxW0P.cell (j := 2) rfl
  have ybxW03 : _ = (some (.int .i64 L0.last) : Option Value) := bxW0P.cell (j := 3) rfl
  go_wp2_with fail
  generalize u14.alloc (.cells #[.bool L0.shut, .slice AH0_1 L0.docs.length cH0_1, .slice AH0_2 L0.subs.length cH0_2, .int .i64 L0.last] 30) = v14_ at oW0 oG0 oH0 bxA0 bxW0 bxX0 bxG0 bxH0 zu14 Da14 ⊢
  clear bxA0P bxA0L
  clear bxW0P bxW0L
  clear bxX0P bxX0L
  clear bxG0P bxG0L
  clear ybxW00 ybxW01 ybxW02 ybxW03
  refine (eqHu _ _ L0 _ oH0.read oW0.read hs0).mono ?_
  rintro e u15 ⟨rfl, b15⟩
  have oW0 := oW0.past b15
  have oG0 := oG0.past b15
  have oH0 := oH0.past b15
  have bxA0 := bxA0.past b15
  have bxW0 := bxW0.past b15
  have bxX0 := bxX0.past b15
  have bxG0 := bxG0.past b15
  have bxH0 := bxH0.past b15
  have z15 := b15.size
  have D15 := Da14.trans (b15.mono Da14.size)
  have ybxG00 : _ = (some (.bool L0.shut) : Option Value) := bxG0.cell (j := 0) rfl
  have ybxG01 : _ = (some (.slice AG0_1 L0.docs.length cG0_1) : Option Value) := bxG0.cell (j := 1) rfl
  have ybxG02 : _ = (some (.slice AG0_2 L0.subs.length cG0_2) : Option Value) := bxG0.cell (j := 2) rfl
  have ybxG03 : _ = (some (.int .i64 L0.last) : Option Value) := bxG0.cell (j := 3) rfl
  go_wp2_with fail
  clear ybxG00 ybxG01 ybxG02 ybxG03
  refine (heldHu _ L0 (1) _ oG0.read (by omega) (by omega) hs0).mono ?_
  rintro e u16 ⟨rfl, b16⟩
  rw [HN0.out]
  have oW0 := oW0.past b16
  have oG0 := oG0.past b16
  have oH0 := oH0.past b16
  have bxA0 := bxA0.past b16
  have bxW0 := bxW0.past b16
  have bxX0 := bxX0.past b16
  have bxG0 := bxG0.past b16
  have bxH0 := bxH0.past b16
  have z16 := b16.size
  have D16 := D15.trans (b16.mono D15.size)
  go_wp2
  go_ret
  exact ⟨rfl, D16⟩

set_option maxRecDepth 100000 in
theorem contract (H : Type) (enc : TypeId × Value → H) (W : World) (base : Nat) (args : Array Value) (ds gs : List (DataW H)) (before : List MemPlace)
    (hval0 : ∀ (j : Nat) t v, Tryz.f3.params[j]? = some t → args[j]? = some v → Value.okWide Tryz.prog W .any base t v)
    (hW : DataW.Whole enc Tryz.prog Tryz.f3.params.toList Rows.fnExactHubShutSpec.vars false W args.toList ds gs before) (hL : laidMetH Tryz.prog Rows.fnExactHubShutRow.laid W) :
    Calls Tryz.prog 3 args W fun e W' => ∃ v, e = .returned v ∧ Rows.fnExactHubShutSpec.post enc Tryz.prog Tryz.f3 false true false false W args v W' := by
  have hval : ∀ (j : Nat) t v, Tryz.f3.params[j]? = some t → args[j]? = some v → Value.okWide Tryz.prog W .any base t v := hval0
  have hW' := hW
  obtain ⟨p, q, hA0, hV, rfl, hfz, hnd⟩ := hW
  have hA : DataW.TrodAll enc Tryz.prog W 0 (fun _ => true) true Tryz.f3.params.toList args.toList ds p := hA0
  rw [Tryz.params3] at hA hval
  obtain ⟨v0, vs0, x0, xs0, q0, r0, hargs, rfl, rfl, h0, t0⟩ := trodAll_cons hA
  obtain ⟨rfl, rfl, rfl⟩ := trodAll_nil t0
  obtain rfl : args = #[v0] := by cases args; simp_all
  obtain ⟨rfl, rfl⟩ := trodVars_none hV
  have k0 := h0
  have lt0 : ∀ x ∈ q0, x.block < W.heap.size := by obtain ⟨m, hm⟩ := k0; exact DataW.trod_lt m _ _ _ hm
  obtain ⟨cs0, rfl, hsz0⟩ := okWide_struct Tryz.underlying25 (hval 0 25 v0 rfl rfl)
  obtain ⟨f0, hf0⟩ := h0
  obtain ⟨x0, A0_1, c0_1, A0_2, c0_2, e0, r0_1, r0_2, l0⟩ := open_dHu hf0
  obtain rfl : cs0 = #[.bool x0.shut, .slice A0_1 x0.docs.length c0_1, .slice A0_2 x0.subs.length c0_2, .int .i64 x0.last] := by cases cs0; simpa [Value.cells] using e0
  clear hA0 hval0
  refine (walk x0 _ W (rdHu x0 r0_1 r0_2) l0 (et hL)).mono fun e W' ⟨he, bel⟩ => ?_
  subst he
  exact ⟨_, rfl, _, _, _, [], _, [], hW', trodAll_mk1 (shut_bool Tryz.underlying4 _), (trodAll_cons_mk (Below.trod laidOut (by kernel_rfl) (of_decide_eq_true (by kernel_rfl)) k0 bel lt0) trodAll_mk0), rfl, bel.frame _, fun h => by cases h⟩

/-- a world for the witness: the settled one, the library's variable laid -/
noncomputable def laidWorld (os : Os) : World :=
  let w0 := World.holding Tryz.prog os ⟨#[], #[], []⟩
  { w0 with heap := w0.heap.modify 0 fun
      | .cells _ t frozen => .cells #[.iface 155 (.agg #[.pointer (some ⟨1, 44, none⟩)])] t frozen
      | o => o }
theorem laid_met (os : Os) : laidMetH Tryz.prog Rows.fnExactHubShutRow.laid ((laidWorld os).forCall (fun _ _ => 0) ⟨#[], #[.agg #[.bool false, .slice none 0 0, .slice none 0 0, .int .i64 0]], []⟩).memory :=
  laidMetH_of_parts (laidMet_nil _ _) (by kernel_rfl)
theorem reads (os : Os) {H : Type} (enc : TypeId × Value → H) : ∃ places, DataW.whole enc Tryz.prog ((laidWorld os).forCall (fun _ _ => 0) ⟨#[], #[.agg #[.bool false, .slice none 0 0, .slice none 0 0, .int .i64 0]], []⟩).memory Tryz.f3.params.toList Rows.fnExactHubShutSpec.vars false #[Value.agg #[.bool false, .slice none 0 0, .slice none 0 0, .int .i64 0]].toList 8 = some ([.agg [.lit (.bool false), .nil, .nil, .lit (.int .i64 0)]], [], places) :=
  ⟨[], by kernel_rfl⟩

set_option maxRecDepth 100000 in
theorem lifted (os : Os) (started : os.Started) (H : Type) (enc : TypeId × Value → H) (F : Stop.Interp) :
    ReturnsInHanded {} Tryz.checked os 3 .any ((OpenSpec.ofChange Rows.fnExactHubShutSpec).preRow enc Tryz.prog Tryz.f3 Rows.fnExactHubShutRow.domain false Rows.fnExactHubShutRow.laid) (((OpenSpec.ofChange Rows.fnExactHubShutSpec).at F).post enc Tryz.prog Tryz.f3 false true false false) := by
  obtain ⟨places, hx⟩ := reads os enc
  refine returnsInHanded_of_row (C := Tryz.checked) (s := OpenSpec.ofChange Rows.fnExactHubShutSpec) own started (by kernel_rfl) Tryz.func3
    (witness_row_atRef (enc := enc) (C := Tryz.checked) false (laidWorld os) #[.agg #[.bool false, .slice none 0 0, .slice none 0 0, .int .i64 0]] rfl (by kernel_rfl) (by kernel_rfl) (by kernel_rfl)
      (OpenSpec.preRow_of_cond 8 hx (by kernel_rfl) (fun k hk => by cases hk) (by kernel_rfl) (laid_met os))) ?_
  intro W base args ds gs before hval hW _ _ _ hL _ _
  exact contract H enc W base args ds gs before hval hW hL

theorem said : Rows.FnExactHubShutSaid :=
  OpenClaim.holds_of_cond 3 Tryz.f3 rfl rfl rfl rfl rfl rfl rfl ⟨rfl, rfl, rfl, rfl, rfl⟩ rfl rfl rfl rfl rfl (by kernel_rfl) Tryz.func3 (by kernel_rfl)
    (of_decide_eq_true (by kernel_rfl)) (by unfold Func.isWrapper; first | (rw [if_pos (by decide +kernel)]; kernel_rfl) | (rw [if_neg (by decide +kernel)]; exact ⟨rfl, rfl⟩))
    (fun os started H enc _ F => by rw [OpenClaim.pre_eq_preRow]; exact lifted os started H enc F)

theorem plain (f : FuncId) (fn : Func) (hf : Tryz.pinned.checked.prog.funcNamed "loop.example/g00797/laws.FnExactHubShut" = some f) (hfn : Tryz.pinned.checked.prog.funcs[f]? = some fn) :
    true = Tryz.pinned.checked.prog.looks [] ∧ ∀ (j : Nat) t, fn.params[j]? = some t → Tryz.pinned.checked.prog.wantsStandIn t = false := by
  obtain rfl : f = 3 := Option.some.inj ((show Tryz.prog.funcNamed "loop.example/g00797/laws.FnExactHubShut" = some 3 by kernel_rfl).symm.trans hf) |>.symm
  obtain rfl : fn = Tryz.f3 := (Option.some.inj (Tryz.func3.symm.trans hfn)).symm
  refine ⟨by kernel_rfl, fun j t ht => ?_⟩
  have hall : (Tryz.f3.params.toList.all fun t => !Tryz.prog.wantsStandIn t) = true := by kernel_rfl
  have hm := List.all_eq_true.1 hall t (by rw [Array.mem_toList_iff]; exact Array.mem_of_getElem? ht)
  have hm' : (!Tryz.prog.wantsStandIn t) = true := hm
  exact show Tryz.prog.wantsStandIn t = false by
    cases hq : Tryz.prog.wantsStandIn t
    · rfl
    · rw [hq] at hm'
      cases hm'

theorem card : Rows.FnExactHubShutCardSaid :=
  Claim7.holds_tied_plain_at .later [] _ _ _ _ said (fun _ h => by cases h) (by kernel_rfl) (fun _ h => by cases h) fnExactHubShut_row_tie rfl ⟨rfl, rfl⟩ (by kernel_rfl) rfl plain (by kernel_rfl)
end Go.Proofs.YtamainhocghlgaaGreatDoor.fnExactHubShut
