/-
  Proved: for every argument (slice of parts, slice of parts), the law FnExactTransform of this seat's translation returns true (impl.Transform answers as spec.Transform does, twice, leaves its arguments alone, and its result owns its memory); no conditions.
-/
import Derived.Test.YtfpjoncaccbnmaaRows
import Derived.Test.YtfpjoncaccbnmaaM1
import Derived.WalkKit
import Derived.ProofKit
import Derived.OpenShut
import Derived.ShutString
import Derived.ChangeOld
import Derived.Below
import Derived.Test.YtfpjoncaccbnmaaM3
import Derived.Test.YtfpjoncaccbnmaaM4
namespace Go.Proofs.Ytfpjoncaccbnmaa.fnExactTransform
open Go.ChangeShapes Go.WideShapes Go.ChangeAt Go.RowKit
open Go.ChangeMaps (open_string shut_string)
open low
set_option linter.unusedVariables false

theorem own : ownKnob Try.prog.godebug = none := by kernel_rfl
set_option maxRecDepth 100000 in
set_option maxHeartbeats 3200000 in
theorem walk (A0 : Option Addr) (c0 : Nat) (ps0 : List Pt) (A1 : Option Addr) (c1 : Nat) (ps1 : List Pt) (w : World) (w0 : RdC w w.heap.size (encPs ps0) (.slice A0 ps0.length c0)) (l0 : ps0.length ≤ maxLen) (m0 : ∀ p ∈ ps0, p.signs.length ≤ maxLen) (w1 : RdC w w.heap.size (encPs ps1) (.slice A1 ps1.length c1)) (l1 : ps1.length ≤ maxLen) (m1 : ∀ p ∈ ps1, p.signs.length ≤ maxLen) :
    Calls Try.prog 5 #[.slice A0 ps0.length c0, .slice A1 ps1.length c1] w fun e w' => e = .returned (.bool true) ∧ Below w.heap.size w w' := by
  have D0 : Below w.heap.size w w := Below.refl _ _
  have R0 := w0
  have R1 := w1
  go_enter Try.func5, Try.ntmps5
  go_wp2_with fail
  refine (szP _ ps0 1048576 _ (R0.past D0) (by omega) (by omega) ⟨l0, m0⟩).mono ?_
  rintro e u1 ⟨r1, rfl, hr1, b1⟩
  rcases hr1 with rfl | ⟨p1, q1⟩
  · go_wp2
    go_ret
    exact ⟨rfl, D0.trans (b1.mono D0.size)⟩
  have S0 : SmP ps0 := ⟨by omega, by omega⟩
  have t1 : r1 ≤ 1048576 := by omega
  clear q1
  have z1 := b1.size
  have D1 := D0.trans (b1.mono D0.size)
  go_wp2_with fail
  refine (szP _ ps1 r1 _ (R1.past D1) (by omega) (by omega) ⟨l1, m1⟩).mono ?_
  rintro e u2 ⟨r2, rfl, hr2, b2⟩
  rcases hr2 with rfl | ⟨p2, q2⟩
  · go_wp2
    go_ret
    exact ⟨rfl, D1.trans (b2.mono D1.size)⟩
  have S1 : SmP ps1 := ⟨by omega, by omega⟩
  have t2 : r2 ≤ 1048576 := by omega
  clear q2
  have z2 := b2.size
  have D2 := D1.trans (b2.mono D1.size)
  go_wp2_with fail
  refine (toP _ ps0 _ (R0.past D2) S0).mono ?_
  rintro e u3 ⟨v3, rfl, oT00, b3⟩
  obtain ⟨k3, oT0⟩ := oT00.blocks
  clear oT00
  obtain ⟨A3_, c3_, rfl⟩ := sliceP oT0.read
  have z3 := b3.size
  have D3 := D2.trans (b3.mono D2.size)
  go_wp2_with fail
  refine (toP _ ps1 _ (R1.past D3) S1).mono ?_
  rintro e u4 ⟨v4, rfl, oT10, b4⟩
  obtain ⟨k4, oT1⟩ := oT10.blocks
  clear oT10
  obtain ⟨A4_, c4_, rfl⟩ := sliceP oT1.read
  have oT0 := oT0.past b4
  have z4 := b4.size
  have D4 := D3.trans (b4.mono D3.size)
  go_wp2_with fail
  refine (specTransform_d _ _ ps0 ps1 _ oT0.read oT1.read S0 S1).mono ?_
  rintro e u5 ⟨v5, y5, k5, j5, rfl, oW0, oW1, dis5, b5⟩
  have oT0 := oT0.past b5
  have oT1 := oT1.past b5
  have z5 := b5.size
  have D5 := D4.trans (b5.mono D4.size)
  clear oT0
  clear oT1
  go_wp2_with fail
  refine (toP _ ps0 _ (R0.past D5) S0).mono ?_
  rintro e u6 ⟨v6, rfl, oX00, b6⟩
  obtain ⟨k6, oX0⟩ := oX00.blocks
  clear oX00
  obtain ⟨A6_, c6_, rfl⟩ := sliceP oX0.read
  have oW0 := oW0.past b6
  have oW1 := oW1.past b6
  have z6 := b6.size
  have D6 := D5.trans (b6.mono D5.size)
  go_wp2_with fail
  refine (toP _ ps1 _ (R1.past D6) S1).mono ?_
  rintro e u7 ⟨v7, rfl, oX10, b7⟩
  obtain ⟨k7, oX1⟩ := oX10.blocks
  clear oX10
  obtain ⟨A7_, c7_, rfl⟩ := sliceP oX1.read
  have oW0 := oW0.past b7
  have oW1 := oW1.past b7
  have oX0 := oX0.past b7
  have z7 := b7.size
  have D7 := D6.trans (b7.mono D6.size)
  go_wp2_with fail
  refine (implTransform_d _ _ ps0 ps1 _ oX0.read oX1.read S0 S1).mono ?_
  rintro e u8 ⟨v8, y8, k8, j8, rfl, oG0, oG1, dis8, b8⟩
  have oW0 := oW0.past b8
  have oW1 := oW1.past b8
  have oX0 := oX0.past b8
  have oX1 := oX1.past b8
  have z8 := b8.size
  have D8 := D7.trans (b8.mono D7.size)
  have hs0 : SmP (xformA ps0 ps1) := transform_small0 S0 S1
  have hs1 : SmP (xformB ps0 ps1) := transform_small1 S0 S1
  have hagain : ∀ (x0_ : Value) (x1_ : Value) (u : World), RdC u u.heap.size (encPs ps0) x0_ → RdC u u.heap.size (encPs ps1) x1_ → Calls Try.prog 9 #[x0_, x1_] u (Res2B (encPs (xformA ps0 ps1)) (encPs (xformB ps0 ps1)) (xformOk ps0 ps1) u) := fun x0_ x1_ u h0_ h1_ => implTransform_d x0_ x1_ ps0 ps1 u h0_ h1_ S0 S1
  have HAG := Lib.hid hagain
  clear hagain
  generalize (xformA ps0 ps1) = L0 at *
  generalize (xformB ps0 ps1) = L1 at *
  generalize (xformOk ps0 ps1) = L2 at *
  have hc0 := cntP hs0
  generalize hn0 : cntC (encPs L0) = n0 at *
  have HN0 := Lib.hid hn0
  clear hn0
  have nm0 : (((1 : Int) + (n0 : Int)) != ((1 : Int) + (n0 : Int))) = false := by simp
  have hc1 := cntP hs1
  generalize hn1 : cntC (encPs L1) = n1 at *
  have HN1 := Lib.hid hn1
  clear hn1
  have nm1 : (((1 : Int) + (n1 : Int)) != ((1 : Int) + (n1 : Int))) = false := by simp
  have nb2 : (L2 != L2) = false := by simp
  obtain ⟨AW0_, cW0_, rfl⟩ := sliceP oW0.read
  obtain ⟨AW1_, cW1_, rfl⟩ := sliceP oW1.read
  obtain ⟨AG0_, cG0_, rfl⟩ := sliceP oG0.read
  obtain ⟨AG1_, cG1_, rfl⟩ := sliceP oG1.read
  go_wp2_with fail
  refine (eqP _ _ L0 _ oG0.read oW0.read hs0).mono ?_
  rintro e u9 ⟨rfl, b9⟩
  have oW0 := oW0.past b9
  have oW1 := oW1.past b9
  have oX0 := oX0.past b9
  have oX1 := oX1.past b9
  have oG0 := oG0.past b9
  have oG1 := oG1.past b9
  have z9 := b9.size
  have D9 := D8.trans (b9.mono D8.size)
  go_wp2_with fail
  refine (eqP _ _ L1 _ oG1.read oW1.read hs1).mono ?_
  rintro e u10 ⟨rfl, b10⟩
  have oW0 := oW0.past b10
  have oW1 := oW1.past b10
  have oX0 := oX0.past b10
  have oX1 := oX1.past b10
  have oG0 := oG0.past b10
  have oG1 := oG1.past b10
  have z10 := b10.size
  have D10 := D9.trans (b10.mono D9.size)
  go_wp2_with fail
  refine (toP _ ps0 _ (R0.past D10) S0).mono ?_
  rintro e u11 ⟨v11, rfl, oT90, b11⟩
  obtain ⟨k11, oT9⟩ := oT90.blocks
  clear oT90
  obtain ⟨A11_, c11_, rfl⟩ := sliceP oT9.read
  have oW0 := oW0.past b11
  have oW1 := oW1.past b11
  have oX0 := oX0.past b11
  have oX1 := oX1.past b11
  have oG0 := oG0.past b11
  have oG1 := oG1.past b11
  have z11 := b11.size
  have D11 := D10.trans (b11.mono D10.size)
  go_wp2_with fail
  refine (eqP _ _ ps0 _ oX0.read oT9.read S0).mono ?_
  rintro e u12 ⟨rfl, b12⟩
  have oW0 := oW0.past b12
  have oW1 := oW1.past b12
  have oX0 := oX0.past b12
  have oX1 := oX1.past b12
  have oG0 := oG0.past b12
  have oG1 := oG1.past b12
  have oT9 := oT9.past b12
  have z12 := b12.size
  have D12 := D11.trans (b12.mono D11.size)
  clear oT9
  go_wp2_with fail
  refine (toP _ ps1 _ (R1.past D12) S1).mono ?_
  rintro e u13 ⟨v13, rfl, oT90, b13⟩
  obtain ⟨k13, oT9⟩ := oT90.blocks
  clear oT90
  obtain ⟨A13_, c13_, rfl⟩ := sliceP oT9.read
  have oW0 := oW0.past b13
  have oW1 := oW1.past b13
  have oX0 := oX0.past b13
  have oX1 := oX1.past b13
  have oG0 := oG0.past b13
  have oG1 := oG1.past b13
  have z13 := b13.size
  have D13 := D12.trans (b13.mono D12.size)
  go_wp2_with fail
  refine (eqP _ _ ps1 _ oX1.read oT9.read S1).mono ?_
  rintro e u14 ⟨rfl, b14⟩
  have oW0 := oW0.past b14
  have oW1 := oW1.past b14
  have oX0 := oX0.past b14
  have oX1 := oX1.past b14
  have oG0 := oG0.past b14
  have oG1 := oG1.past b14
  have oT9 := oT9.past b14
  have z14 := b14.size
  have D14 := D13.trans (b14.mono D13.size)
  clear oT9
  have cx0 := cntP S0
  go_wp2_with fail
  refine (markP _ ps0 _ (1) _ oX0.ow oX0.nd (by omega) (by omega) S0).mono ?_
  rintro e u15 ⟨rfl, m15, t15⟩
  have oW0 := oW0.apart oX0 t15 (by omega)
  have oW1 := oW1.apart oX0 t15 (by omega)
  have oX1 := oX1.apart oX0 t15 (by omega)
  have oG0 := oG0.apart oX0 t15 (by omega)
  have oG1 := oG1.apart oX0 t15 (by omega)
  have z15 := t15.size
  have D15 := D14.trans (oX0.under t15 (by omega))
  clear oX0 m15
  generalize cntC (encPs ps0) = nx0 at *
  have cx1 := cntP S1
  go_wp2_with fail
  refine (markP _ ps1 _ (1 + (nx0 : Int)) _ oX1.ow oX1.nd (by omega) (by omega) S1).mono ?_
  rintro e u16 ⟨rfl, m16, t16⟩
  have oW0 := oW0.apart oX1 t16 (by omega)
  have oW1 := oW1.apart oX1 t16 (by omega)
  have oG0 := oG0.apart oX1 t16 (by omega)
  have oG1 := oG1.apart oX1 t16 (by omega)
  have z16 := t16.size
  have D16 := D15.trans (oX1.under t16 (by omega))
  clear oX1 m16
  generalize cntC (encPs ps1) = nx1 at *
  go_wp2_with fail
  refine (eqP _ _ L0 _ oG0.read oW0.read hs0).mono ?_
  rintro e u17 ⟨rfl, b17⟩
  have oW0 := oW0.past b17
  have oW1 := oW1.past b17
  have oG0 := oG0.past b17
  have oG1 := oG1.past b17
  have z17 := b17.size
  have D17 := D16.trans (b17.mono D16.size)
  go_wp2_with fail
  refine (eqP _ _ L1 _ oG1.read oW1.read hs1).mono ?_
  rintro e u18 ⟨rfl, b18⟩
  have oW0 := oW0.past b18
  have oW1 := oW1.past b18
  have oG0 := oG0.past b18
  have oG1 := oG1.past b18
  have z18 := b18.size
  have D18 := D17.trans (b18.mono D17.size)
  go_wp2_with fail
  refine (markP _ L0 _ (1) _ oG0.ow oG0.nd (by omega) (by omega) hs0).mono ?_
  rintro e u19 ⟨rfl, m19, t19⟩
  have oW0 := oW0.apart oG0 t19 (by omega)
  have oW1 := oW1.apart oG0 t19 (by omega)
  have oG1 := oG1.touch t19 (fun x hx hx' => dis8 x hx' hx )
  have z19 := t19.size
  have D19 := D18.trans (oG0.under t19 (by omega))
  have oG0 := oG0.marked m19 t19
  rw [HN0.out]
  go_wp2_with fail
  refine (markP _ L1 _ (1 + (n0 : Int)) _ oG1.ow oG1.nd (by omega) (by omega) hs1).mono ?_
  rintro e u20 ⟨rfl, m20, t20⟩
  have oW0 := oW0.apart oG1 t20 (by omega)
  have oW1 := oW1.apart oG1 t20 (by omega)
  have oG0 := oG0.touch t20 (fun x hx hx' => dis8 x hx hx' )
  have z20 := t20.size
  have D20 := D19.trans (oG1.under t20 (by omega))
  have oG1 := oG1.marked m20 t20
  rw [HN1.out]
  go_wp2_with fail
  refine (heldP _ L0 (1) _ oG0.read (by omega) (by omega) hs0).mono ?_
  rintro e w'_ ⟨rfl, rfl⟩
  rw [HN0.out]
  go_wp2_with fail
  refine (heldP _ L1 (1 + (n0 : Int)) _ oG1.read (by omega) (by omega) hs1).mono ?_
  rintro e w'_ ⟨rfl, rfl⟩
  rw [HN1.out]
  go_wp2_with fail
  refine (toP _ ps0 _ (R0.past D20) S0).mono ?_
  rintro e u21 ⟨v21, rfl, oT00, b21⟩
  obtain ⟨k21, oT0⟩ := oT00.blocks
  clear oT00
  obtain ⟨A21_, c21_, rfl⟩ := sliceP oT0.read
  have oW0 := oW0.past b21
  have oW1 := oW1.past b21
  have oG0 := oG0.past b21
  have oG1 := oG1.past b21
  have z21 := b21.size
  have D21 := D20.trans (b21.mono D20.size)
  go_wp2_with fail
  refine (toP _ ps1 _ (R1.past D21) S1).mono ?_
  rintro e u22 ⟨v22, rfl, oT10, b22⟩
  obtain ⟨k22, oT1⟩ := oT10.blocks
  clear oT10
  obtain ⟨A22_, c22_, rfl⟩ := sliceP oT1.read
  have oW0 := oW0.past b22
  have oW1 := oW1.past b22
  have oG0 := oG0.past b22
  have oG1 := oG1.past b22
  have oT0 := oT0.past b22
  have z22 := b22.size
  have D22 := D21.trans (b22.mono D21.size)
  go_wp2_with fail
  refine (HAG.out _ _ _ oT0.read oT1.read).mono ?_
  rintro e u23 ⟨v23, y23, k23, j23, rfl, oH0, oH1, dis23, b23⟩
  have oW0 := oW0.past b23
  have oW1 := oW1.past b23
  have oG0 := oG0.past b23
  have oG1 := oG1.past b23
  have oT0 := oT0.past b23
  have oT1 := oT1.past b23
  have z23 := b23.size
  have D23 := D22.trans (b23.mono D22.size)
  obtain ⟨AH0_, cH0_, rfl⟩ := sliceP oH0.read
  obtain ⟨AH1_, cH1_, rfl⟩ := sliceP oH1.read
  clear oT0
  clear oT1
  go_wp2_with fail
  refine (eqP _ _ L0 _ oH0.read oW0.read hs0).mono ?_
  rintro e u24 ⟨rfl, b24⟩
  have oW0 := oW0.past b24
  have oW1 := oW1.past b24
  have oG0 := oG0.past b24
  have oG1 := oG1.past b24
  have oH0 := oH0.past b24
  have oH1 := oH1.past b24
  have z24 := b24.size
  have D24 := D23.trans (b24.mono D23.size)
  go_wp2_with fail
  refine (eqP _ _ L1 _ oH1.read oW1.read hs1).mono ?_
  rintro e u25 ⟨rfl, b25⟩
  have oW0 := oW0.past b25
  have oW1 := oW1.past b25
  have oG0 := oG0.past b25
  have oG1 := oG1.past b25
  have oH0 := oH0.past b25
  have oH1 := oH1.past b25
  have z25 := b25.size
  have D25 := D24.trans (b25.mono D24.size)
  go_wp2_with fail
  refine (heldP _ L0 (1) _ oG0.read (by omega) (by omega) hs0).mono ?_
  rintro e w'_ ⟨rfl, rfl⟩
  rw [HN0.out]
  go_wp2_with fail
  refine (heldP _ L1 (1 + (n0 : Int)) _ oG1.read (by omega) (by omega) hs1).mono ?_
  rintro e w'_ ⟨rfl, rfl⟩
  rw [HN1.out]
  go_wp2
  go_ret
  exact ⟨rfl, D25⟩

set_option maxRecDepth 100000 in
theorem lifted (os : Os) (started : os.Started) (H : Type) (enc : TypeId × Value → H) :
    ReturnsInHanded {} Try.checked os 5 .any (Rows.fnExactTransformSpec.pre6 enc Try.prog Try.f5 Rows.fnExactTransformRow.domain false) (Rows.fnExactTransformSpec.post enc Try.prog Try.f5 false true false false) := by
  refine returnsInHanded_of_change (C := Try.checked) own started (by kernel_rfl) Try.func5
    (ChangeSpec.witness6 (enc := enc) (C := Try.checked) false ⟨#[], #[.slice none 0 0, .slice none 0 0], []⟩ 8 (by kernel_rfl) (by kernel_rfl) (by kernel_rfl) (by kernel_rfl)) ?_
  intro W base args ds gs before hval0 hW hcnd _
  have hval : ∀ (j : Nat) t v, Try.f5.params[j]? = some t → args[j]? = some v → Value.okWide Try.prog W .any base t v := hval0
  have hW' := hW
  obtain ⟨p, q, hA0, hV, rfl, hfz, hnd⟩ := hW
  have hA : DataW.TrodAll enc Try.prog W 0 (fun _ => true) true Try.f5.params.toList args.toList ds p := hA0
  rw [Try.params5] at hA hval
  obtain ⟨v0, vs0, x0, xs0, q0, r0, hargs, rfl, rfl, h0, t0⟩ := trodAll_cons hA
  obtain ⟨v1, vs1, x1, xs1, q1, r1, rfl, rfl, rfl, h1, t1⟩ := trodAll_cons t0
  obtain ⟨rfl, rfl, rfl⟩ := trodAll_nil t1
  obtain rfl : args = #[v0, v1] := by cases args; simp_all
  obtain ⟨rfl, rfl⟩ := trodVars_none hV
  have k0 := h0
  have lt0 : ∀ x ∈ q0, x.block < W.heap.size := by obtain ⟨m, hm⟩ := k0; exact DataW.trod_lt m _ _ _ hm
  have k1 := h1
  have lt1 : ∀ x ∈ q1, x.block < W.heap.size := by obtain ⟨m, hm⟩ := k1; exact DataW.trod_lt m _ _ _ hm
  obtain ⟨B0, n0, d0, rfl⟩ := okWide_slice Try.underlying42 (hval 0 42 v0 rfl rfl)
  obtain ⟨f0, hf0⟩ := h0
  obtain ⟨ps0, A0, c0, e0, w0, l0, m0⟩ := open_dparts hf0
  obtain ⟨rfl, rfl, rfl⟩ : B0 = A0 ∧ n0 = ps0.length ∧ d0 = c0 := by simpa [Value.cells] using e0
  obtain ⟨B1, n1, d1, rfl⟩ := okWide_slice Try.underlying42 (hval 1 42 v1 rfl rfl)
  obtain ⟨f1, hf1⟩ := h1
  obtain ⟨ps1, A1, c1, e1, w1, l1, m1⟩ := open_dparts hf1
  obtain ⟨rfl, rfl, rfl⟩ : B1 = A1 ∧ n1 = ps1.length ∧ d1 = c1 := by simpa [Value.cells] using e1
  clear hA0 hval0
  refine (walk B0 d0 ps0 B1 d1 ps1 W w0 l0 m0 w1 l1 m1).mono fun e W' ⟨he, bel⟩ => ?_
  subst he
  exact ⟨_, rfl, _, _, _, [], _, [], hW', trodAll_mk1 (shut_bool Try.underlying4 _), (trodAll_cons_mk (Below.trod laidOut (by kernel_rfl) (of_decide_eq_true (by kernel_rfl)) k0 bel lt0) (trodAll_cons_mk (Below.trod laidOut (by kernel_rfl) (of_decide_eq_true (by kernel_rfl)) k1 bel lt1) trodAll_mk0)), rfl, bel.frame _, fun h => by cases h⟩

theorem over : Rows.fnExactTransformRow.holds Try.pinned (OpenSpec.ofChange Rows.fnExactTransformSpec) :=
  OpenClaim.holds_of_wide 5 Try.f5 rfl rfl rfl rfl rfl rfl rfl ⟨rfl, rfl, rfl, rfl, rfl⟩ rfl rfl rfl rfl rfl (by kernel_rfl) Try.func5 (by kernel_rfl)
    (of_decide_eq_true (by kernel_rfl)) (by unfold Func.isWrapper; first | (rw [if_pos (by decide +kernel)]; kernel_rfl) | (rw [if_neg (by decide +kernel)]; exact ⟨rfl, rfl⟩))
    (fun os started H enc _ => lifted os started H enc)

theorem proved : Rows.FnExactTransformSaid := over
end Go.Proofs.Ytfpjoncaccbnmaa.fnExactTransform
