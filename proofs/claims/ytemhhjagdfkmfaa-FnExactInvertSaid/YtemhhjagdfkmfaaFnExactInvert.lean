/-
  Proved: for every argument (slice of parts, slice of numbers), the law FnExactInvert of this seat's translation returns true (impl.Invert answers as spec.Invert does, twice, leaves its arguments alone, and its result owns its memory); no conditions.
-/
import Derived.Test.YtemhhjagdfkmfaaRows
import Derived.Test.YtemhhjagdfkmfaaOpenPart
import Derived.WalkKit
import Derived.ProofKit
import Derived.OpenShut
import Derived.ShutString
import Derived.ChangeOld
import Derived.Below
import Derived.Test.YtemhhjagdfkmfaaLawKit
import Derived.Test.YtemhhjagdfkmfaaOpenPss
import Derived.Test.YtemhhjagdfkmfaaSpecInvert
import Derived.Test.YtemhhjagdfkmfaaImplInvert
namespace Go.Proofs.Ytemhhjagdfkmfaa.fnExactInvert
open Go.ChangeShapes Go.WideShapes Go.ChangeAt Go.RowKit
open Go.ChangeMaps (open_string shut_string)
open low
set_option linter.unusedVariables false

theorem own : ownKnob Try.prog.godebug = none := by kernel_rfl
set_option maxRecDepth 100000 in
set_option maxHeartbeats 3200000 in
theorem walk (A0 : Option Addr) (c0 : Nat) (ps0 : List Pt) (A1 : Option Addr) (c1 : Nat) (zs1 : List Int) (w : World) (w0 : RdC w w.heap.size (encPs ps0) (.slice A0 ps0.length c0)) (l0 : ps0.length ≤ maxLen) (m0 : ∀ p ∈ ps0, p.signs.length ≤ maxLen) (w1 : RdC w w.heap.size (encInts zs1) (.slice A1 zs1.length c1)) (l1 : zs1.length ≤ maxLen) :
    Calls Try.prog 5 #[.slice A0 ps0.length c0, .slice A1 zs1.length c1] w fun e w' => e = .returned (.bool true) ∧ Below w.heap.size w w' := by
  have D0 : Below w.heap.size w w := Below.refl _ _
  have R0 := w0
  have R1 := w1
  by_cases big1 : (1048576 : Int) < (zs1.length : Int)
  · go_enter Try.func5, Try.ntmps5
    go_wp2
    go_ret
    exact ⟨rfl, D0⟩
  have S1 : SmI zs1 := by unfold SmI; omega
  go_enter Try.func5, Try.ntmps5
  go_wp2_with fail
  refine (szP _ ps0 1048576 _ (R0.past D0) (by omega) (by omega) ⟨l0, m0⟩).mono ?_
  rintro e u1 ⟨r1, rfl, hr1, b1⟩
  rcases hr1 with rfl | ⟨p1, q1⟩
  · go_wp2
    go_ret
    exact ⟨rfl, D0.trans (b1.mono D0.size)⟩
  have S0 : SmP ps0 := ⟨by omega, by omega⟩
  have t1 : r1 ≤ 1048576 := by omega
  clear q1
  have z1 := b1.size
  have D1 := D0.trans (b1.mono D0.size)
  go_wp2_with fail
  refine (toP _ ps0 _ (R0.past D1) S0).mono ?_
  rintro e u2 ⟨v2, rfl, oT00, b2⟩
  obtain ⟨k2, oT0⟩ := oT00.blocks
  clear oT00
  obtain ⟨A2_, c2_, rfl⟩ := sliceP oT0.read
  have z2 := b2.size
  have D2 := D1.trans (b2.mono D1.size)
  go_wp2_with fail
  refine (toI _ zs1 _ (R1.past D2) S1).mono ?_
  rintro e u3 ⟨v3, rfl, oT10, b3⟩
  obtain ⟨k3, oT1⟩ := oT10.blocks
  clear oT10
  obtain ⟨A3_, c3_, rfl⟩ := sliceI oT1.read
  have oT0 := oT0.past b3
  have z3 := b3.size
  have D3 := D2.trans (b3.mono D2.size)
  go_wp2_with fail
  refine (specInvert_d _ _ ps0 zs1 _ oT0.read oT1.read S0 S1).mono ?_
  rintro e u4 ⟨v4, rfl, oW00, b4⟩
  have oT0 := oT0.past b4
  have oT1 := oT1.past b4
  obtain ⟨k4, oW0⟩ := oW00.blocks
  clear oW00
  have z4 := b4.size
  have D4 := D3.trans (b4.mono D3.size)
  clear oT0
  clear oT1
  go_wp2_with fail
  refine (toP _ ps0 _ (R0.past D4) S0).mono ?_
  rintro e u5 ⟨v5, rfl, oX00, b5⟩
  obtain ⟨k5, oX0⟩ := oX00.blocks
  clear oX00
  obtain ⟨A5_, c5_, rfl⟩ := sliceP oX0.read
  have oW0 := oW0.past b5
  have z5 := b5.size
  have D5 := D4.trans (b5.mono D4.size)
  go_wp2_with fail
  refine (toI _ zs1 _ (R1.past D5) S1).mono ?_
  rintro e u6 ⟨v6, rfl, oX10, b6⟩
  obtain ⟨k6, oX1⟩ := oX10.blocks
  clear oX10
  obtain ⟨A6_, c6_, rfl⟩ := sliceI oX1.read
  have oW0 := oW0.past b6
  have oX0 := oX0.past b6
  have z6 := b6.size
  have D6 := D5.trans (b6.mono D5.size)
  go_wp2_with fail
  refine (implInvert_d _ _ ps0 zs1 _ oX0.read oX1.read S0 S1).mono ?_
  rintro e u7 ⟨v7, rfl, oG00, b7⟩
  have oW0 := oW0.past b7
  have oX0 := oX0.past b7
  have oX1 := oX1.past b7
  obtain ⟨k7, oG0⟩ := oG00.blocks
  clear oG00
  have z7 := b7.size
  have D7 := D6.trans (b7.mono D6.size)
  have hs0 : SmP (invertT ps0 zs1) := invert_small S0 S1
  have hagain : ∀ (x0_ : Value) (x1_ : Value) (u : World), RdC u u.heap.size (encPs ps0) x0_ → RdC u u.heap.size (encInts zs1) x1_ → Calls Try.prog 22 #[x0_, x1_] u (ResB (encPs (invertT ps0 zs1)) (fitsB ps0 zs1) u) := fun x0_ x1_ u h0_ h1_ => implInvert_d x0_ x1_ ps0 zs1 u h0_ h1_ S0 S1
  have HAG := Lib.hid hagain
  clear hagain
  generalize (invertT ps0 zs1) = L0 at *
  generalize (fitsB ps0 zs1) = L1 at *
  have hc0 := cntP hs0
  generalize hn0 : cntC (encPs L0) = n0 at *
  have HN0 := Lib.hid hn0
  clear hn0
  have nm0 : (((1 : Int) + (n0 : Int)) != ((1 : Int) + (n0 : Int))) = false := by simp
  have nb1 : (L1 != L1) = false := by simp
  obtain ⟨AW0_, cW0_, rfl⟩ := sliceP oW0.read
  obtain ⟨AG0_, cG0_, rfl⟩ := sliceP oG0.read
  go_wp2_with fail
  refine (eqP _ _ L0 _ oG0.read oW0.read hs0).mono ?_
  rintro e u8 ⟨rfl, b8⟩
  have oW0 := oW0.past b8
  have oX0 := oX0.past b8
  have oX1 := oX1.past b8
  have oG0 := oG0.past b8
  have z8 := b8.size
  have D8 := D7.trans (b8.mono D7.size)
  go_wp2_with fail
  refine (toP _ ps0 _ (R0.past D8) S0).mono ?_
  rintro e u9 ⟨v9, rfl, oT90, b9⟩
  obtain ⟨k9, oT9⟩ := oT90.blocks
  clear oT90
  obtain ⟨A9_, c9_, rfl⟩ := sliceP oT9.read
  have oW0 := oW0.past b9
  have oX0 := oX0.past b9
  have oX1 := oX1.past b9
  have oG0 := oG0.past b9
  have z9 := b9.size
  have D9 := D8.trans (b9.mono D8.size)
  go_wp2_with fail
  refine (eqP _ _ ps0 _ oX0.read oT9.read S0).mono ?_
  rintro e u10 ⟨rfl, b10⟩
  have oW0 := oW0.past b10
  have oX0 := oX0.past b10
  have oX1 := oX1.past b10
  have oG0 := oG0.past b10
  have oT9 := oT9.past b10
  have z10 := b10.size
  have D10 := D9.trans (b10.mono D9.size)
  clear oT9
  go_wp2_with fail
  refine (toI _ zs1 _ (R1.past D10) S1).mono ?_
  rintro e u11 ⟨v11, rfl, oT90, b11⟩
  obtain ⟨k11, oT9⟩ := oT90.blocks
  clear oT90
  obtain ⟨A11_, c11_, rfl⟩ := sliceI oT9.read
  have oW0 := oW0.past b11
  have oX0 := oX0.past b11
  have oX1 := oX1.past b11
  have oG0 := oG0.past b11
  have z11 := b11.size
  have D11 := D10.trans (b11.mono D10.size)
  go_wp2_with fail
  refine (eqI _ _ zs1 _ oX1.read oT9.read S1).mono ?_
  rintro e u12 ⟨rfl, b12⟩
  have oW0 := oW0.past b12
  have oX0 := oX0.past b12
  have oX1 := oX1.past b12
  have oG0 := oG0.past b12
  have oT9 := oT9.past b12
  have z12 := b12.size
  have D12 := D11.trans (b12.mono D11.size)
  clear oT9
  have cx0 := cntP S0
  go_wp2_with fail
  refine (markP _ ps0 _ (1) _ oX0.ow oX0.nd (by omega) (by omega) S0).mono ?_
  rintro e u13 ⟨rfl, m13, t13⟩
  have oW0 := oW0.apart oX0 t13 (by omega)
  have oX1 := oX1.apart oX0 t13 (by omega)
  have oG0 := oG0.apart oX0 t13 (by omega)
  have z13 := t13.size
  have D13 := D12.trans (oX0.under t13 (by omega))
  clear oX0 m13
  generalize cntC (encPs ps0) = nx0 at *
  have cx1 := cntI S1
  go_wp2_with fail
  refine (markI _ zs1 _ (1 + (nx0 : Int)) _ oX1.ow oX1.nd (by omega) (by omega) S1).mono ?_
  rintro e u14 ⟨rfl, m14, t14⟩
  have oW0 := oW0.apart oX1 t14 (by omega)
  have oG0 := oG0.apart oX1 t14 (by omega)
  have z14 := t14.size
  have D14 := D13.trans (oX1.under t14 (by omega))
  clear oX1 m14
  generalize cntC (encInts zs1) = nx1 at *
  go_wp2_with fail
  refine (eqP _ _ L0 _ oG0.read oW0.read hs0).mono ?_
  rintro e u15 ⟨rfl, b15⟩
  have oW0 := oW0.past b15
  have oG0 := oG0.past b15
  have z15 := b15.size
  have D15 := D14.trans (b15.mono D14.size)
  go_wp2_with fail
  refine (markP _ L0 _ (1) _ oG0.ow oG0.nd (by omega) (by omega) hs0).mono ?_
  rintro e u16 ⟨rfl, m16, t16⟩
  have oW0 := oW0.apart oG0 t16 (by omega)
  have z16 := t16.size
  have D16 := D15.trans (oG0.under t16 (by omega))
  have oG0 := oG0.marked m16 t16
  rw [HN0.out]
  go_wp2_with fail
  refine (heldP _ L0 (1) _ oG0.read (by omega) (by omega) hs0).mono ?_
  rintro e w'_ ⟨rfl, rfl⟩
  rw [HN0.out]
  go_wp2_with fail
  refine (toP _ ps0 _ (R0.past D16) S0).mono ?_
  rintro e u17 ⟨v17, rfl, oT00, b17⟩
  obtain ⟨k17, oT0⟩ := oT00.blocks
  clear oT00
  obtain ⟨A17_, c17_, rfl⟩ := sliceP oT0.read
  have oW0 := oW0.past b17
  have oG0 := oG0.past b17
  have z17 := b17.size
  have D17 := D16.trans (b17.mono D16.size)
  go_wp2_with fail
  refine (toI _ zs1 _ (R1.past D17) S1).mono ?_
  rintro e u18 ⟨v18, rfl, oT10, b18⟩
  obtain ⟨k18, oT1⟩ := oT10.blocks
  clear oT10
  obtain ⟨A18_, c18_, rfl⟩ := sliceI oT1.read
  have oW0 := oW0.past b18
  have oG0 := oG0.past b18
  have oT0 := oT0.past b18
  have z18 := b18.size
  have D18 := D17.trans (b18.mono D17.size)
  go_wp2_with fail
  refine (HAG.out _ _ _ oT0.read oT1.read).mono ?_
  rintro e u19 ⟨v19, rfl, oH00, b19⟩
  have oW0 := oW0.past b19
  have oG0 := oG0.past b19
  have oT0 := oT0.past b19
  have oT1 := oT1.past b19
  obtain ⟨k19, oH0⟩ := oH00.blocks
  clear oH00
  have z19 := b19.size
  have D19 := D18.trans (b19.mono D18.size)
  obtain ⟨AH0_, cH0_, rfl⟩ := sliceP oH0.read
  clear oT0
  clear oT1
  go_wp2_with fail
  refine (eqP _ _ L0 _ oH0.read oW0.read hs0).mono ?_
  rintro e u20 ⟨rfl, b20⟩
  have oW0 := oW0.past b20
  have oG0 := oG0.past b20
  have oH0 := oH0.past b20
  have z20 := b20.size
  have D20 := D19.trans (b20.mono D19.size)
  go_wp2_with fail
  refine (heldP _ L0 (1) _ oG0.read (by omega) (by omega) hs0).mono ?_
  rintro e w'_ ⟨rfl, rfl⟩
  rw [HN0.out]
  go_wp2
  go_ret
  exact ⟨rfl, D20⟩

set_option maxRecDepth 100000 in
theorem lifted (os : Os) (started : os.Started) (H : Type) (enc : TypeId × Value → H) :
    ReturnsInHanded {} Try.checked os 5 .any (Rows.fnExactInvertSpec.pre6 enc Try.prog Try.f5 Rows.fnExactInvertRow.domain false) (Rows.fnExactInvertSpec.post enc Try.prog Try.f5 false true false false) := by
  refine returnsInHanded_of_change (C := Try.checked) own started (by kernel_rfl) Try.func5
    (ChangeSpec.witness6 (enc := enc) (C := Try.checked) false ⟨#[], #[.slice none 0 0, .slice none 0 0], []⟩ 8 (by kernel_rfl) (by kernel_rfl) (by kernel_rfl) (by kernel_rfl)) ?_
  intro W base args ds gs before hval0 hW hcnd _
  have hval : ∀ (j : Nat) t v, Try.f5.params[j]? = some t → args[j]? = some v → Value.okWide Try.prog W .any base t v := hval0
  have hW' := hW
  obtain ⟨p, q, hA0, hV, rfl, hfz, hnd⟩ := hW
  have hA : DataW.TrodAll enc Try.prog W 0 (fun _ => true) true Try.f5.params.toList args.toList ds p := hA0
  rw [Try.params5] at hA hval
  obtain ⟨v0, vs0, x0, xs0, q0, r0, hargs, rfl, rfl, h0, t0⟩ := trodAll_cons hA
  obtain ⟨v1, vs1, x1, xs1, q1, r1, rfl, rfl, rfl, h1, t1⟩ := trodAll_cons t0
  obtain ⟨rfl, rfl, rfl⟩ := trodAll_nil t1
  obtain rfl : args = #[v0, v1] := by cases args; simp_all
  obtain ⟨rfl, rfl⟩ := trodVars_none hV
  have k0 := h0
  have lt0 : ∀ x ∈ q0, x.block < W.heap.size := by obtain ⟨m, hm⟩ := k0; exact DataW.trod_lt m _ _ _ hm
  have k1 := h1
  have lt1 : ∀ x ∈ q1, x.block < W.heap.size := by obtain ⟨m, hm⟩ := k1; exact DataW.trod_lt m _ _ _ hm
  obtain ⟨B0, n0, d0, rfl⟩ := okWide_slice Try.underlying26 (hval 0 26 v0 rfl rfl)
  obtain ⟨f0, hf0⟩ := h0
  obtain ⟨ps0, A0, c0, e0, w0, l0, m0⟩ := open_dparts hf0
  obtain ⟨rfl, rfl, rfl⟩ : B0 = A0 ∧ n0 = ps0.length ∧ d0 = c0 := by simpa [Value.cells] using e0
  obtain ⟨B1, n1, d1, rfl⟩ := okWide_slice Try.underlying22 (hval 1 22 v1 rfl rfl)
  obtain ⟨f1, hf1⟩ := h1
  obtain ⟨A1, c1, zs1, e1, w1, l1⟩ := open_dints hf1
  obtain ⟨rfl, rfl, rfl⟩ : B1 = A1 ∧ n1 = zs1.length ∧ d1 = c1 := by simpa [Value.cells] using e1
  clear hA0 hval0
  refine (walk B0 d0 ps0 B1 d1 zs1 W w0 l0 m0 w1 l1).mono fun e W' ⟨he, bel⟩ => ?_
  subst he
  exact ⟨_, rfl, _, _, _, [], _, [], hW', trodAll_mk1 (shut_bool Try.underlying4 _), (trodAll_cons_mk (Below.trod laidOut (by kernel_rfl) (of_decide_eq_true (by kernel_rfl)) k0 bel lt0) (trodAll_cons_mk (Below.trod laidOut (by kernel_rfl) (of_decide_eq_true (by kernel_rfl)) k1 bel lt1) trodAll_mk0)), rfl, bel.frame _, fun h => by cases h⟩

theorem over : Rows.fnExactInvertRow.holds Try.pinned (OpenSpec.ofChange Rows.fnExactInvertSpec) :=
  OpenClaim.holds_of_wide 5 Try.f5 rfl rfl rfl rfl rfl rfl rfl ⟨rfl, rfl, rfl, rfl, rfl⟩ rfl rfl rfl rfl rfl (by kernel_rfl) Try.func5 (by kernel_rfl)
    (of_decide_eq_true (by kernel_rfl)) (by unfold Func.isWrapper; first | (rw [if_pos (by decide +kernel)]; kernel_rfl) | (rw [if_neg (by decide +kernel)]; exact ⟨rfl, rfl⟩))
    (fun os started H enc _ => lifted os started H enc)

theorem proved : Rows.FnExactInvertSaid := over
end Go.Proofs.Ytemhhjagdfkmfaa.fnExactInvert
