/-
  Proved: for every argument (list of slices of parts, slice of parts), the law FnExactPastAll of this seat's translation returns true (impl.PastAll answers as spec.PastAll does, twice, leaves its arguments alone, and its result owns its memory); no conditions.
-/
import Derived.Test.YtfpjoncaccbnmaaRows
import Derived.Test.YtfpjoncaccbnmaaM1
import Derived.WalkKit
import Derived.ProofKit
import Derived.OpenShut
import Derived.ShutString
import Derived.ChangeOld
import Derived.Below
import Derived.Test.YtfpjoncaccbnmaaM4
namespace Go.Proofs.Ytfpjoncaccbnmaa.fnExactPastAll
open Go.ChangeShapes Go.WideShapes Go.ChangeAt Go.RowKit
open Go.ChangeMaps (open_string shut_string)
open low
set_option linter.unusedVariables false

theorem own : ownKnob Try.prog.godebug = none := by kernel_rfl
set_option maxRecDepth 100000 in
set_option maxHeartbeats 3200000 in
theorem walk (A0 : Option Addr) (c0 : Nat) (ls0 : List (List Pt)) (A1 : Option Addr) (c1 : Nat) (ps1 : List Pt) (w : World) (w0 : RdC w w.heap.size (encPss ls0) (.slice A0 ls0.length c0)) (l0 : ls0.length ≤ maxLen) (m0 : ∀ ps ∈ ls0, ps.length ≤ maxLen ∧ ∀ p ∈ ps, p.signs.length ≤ maxLen) (w1 : RdC w w.heap.size (encPs ps1) (.slice A1 ps1.length c1)) (l1 : ps1.length ≤ maxLen) (m1 : ∀ p ∈ ps1, p.signs.length ≤ maxLen) :
    Calls Try.prog 7 #[.slice A0 ls0.length c0, .slice A1 ps1.length c1] w fun e w' => e = .returned (.bool true) ∧ Below w.heap.size w w' := by
  have D0 : Below w.heap.size w w := Below.refl _ _
  have R0 := w0
  have R1 := w1
  go_enter Try.func7, Try.ntmps7
  go_wp2_with fail
  refine (szPP _ ls0 1048576 _ (R0.past D0) (by omega) (by omega) ⟨l0, m0⟩).mono ?_
  rintro e u1 ⟨r1, rfl, hr1, b1⟩
  rcases hr1 with rfl | ⟨p1, q1⟩
  · go_wp2
    go_ret
    exact ⟨rfl, D0.trans (b1.mono D0.size)⟩
  have S0 : SmPP ls0 := ⟨by omega, by omega⟩
  have t1 : r1 ≤ 1048576 := by omega
  clear q1
  have z1 := b1.size
  have D1 := D0.trans (b1.mono D0.size)
  go_wp2_with fail
  refine (szP _ ps1 r1 _ (R1.past D1) (by omega) (by omega) ⟨l1, m1⟩).mono ?_
  rintro e u2 ⟨r2, rfl, hr2, b2⟩
  rcases hr2 with rfl | ⟨p2, q2⟩
  · go_wp2
    go_ret
    exact ⟨rfl, D1.trans (b2.mono D1.size)⟩
  have S1 : SmP ps1 := ⟨by omega, by omega⟩
  have t2 : r2 ≤ 1048576 := by omega
  clear q2
  have z2 := b2.size
  have D2 := D1.trans (b2.mono D1.size)
  go_wp2_with fail
  refine (toPP _ ls0 _ (R0.past D2) S0).mono ?_
  rintro e u3 ⟨v3, rfl, oT00, b3⟩
  obtain ⟨k3, oT0⟩ := oT00.blocks
  clear oT00
  obtain ⟨A3_, c3_, rfl⟩ := slicePP oT0.read
  have z3 := b3.size
  have D3 := D2.trans (b3.mono D2.size)
  go_wp2_with fail
  refine (toP _ ps1 _ (R1.past D3) S1).mono ?_
  rintro e u4 ⟨v4, rfl, oT10, b4⟩
  obtain ⟨k4, oT1⟩ := oT10.blocks
  clear oT10
  obtain ⟨A4_, c4_, rfl⟩ := sliceP oT1.read
  have oT0 := oT0.past b4
  have z4 := b4.size
  have D4 := D3.trans (b4.mono D3.size)
  go_wp2_with fail
  refine (specPastAll_d _ _ ls0 ps1 _ oT0.read oT1.read S0 S1).mono ?_
  rintro e u5 ⟨v5, rfl, oW00, b5⟩
  have oT0 := oT0.past b5
  have oT1 := oT1.past b5
  obtain ⟨k5, oW0⟩ := oW00.blocks
  clear oW00
  have z5 := b5.size
  have D5 := D4.trans (b5.mono D4.size)
  clear oT0
  clear oT1
  go_wp2_with fail
  refine (toPP _ ls0 _ (R0.past D5) S0).mono ?_
  rintro e u6 ⟨v6, rfl, oX00, b6⟩
  obtain ⟨k6, oX0⟩ := oX00.blocks
  clear oX00
  obtain ⟨A6_, c6_, rfl⟩ := slicePP oX0.read
  have oW0 := oW0.past b6
  have z6 := b6.size
  have D6 := D5.trans (b6.mono D5.size)
  go_wp2_with fail
  refine (toP _ ps1 _ (R1.past D6) S1).mono ?_
  rintro e u7 ⟨v7, rfl, oX10, b7⟩
  obtain ⟨k7, oX1⟩ := oX10.blocks
  clear oX10
  obtain ⟨A7_, c7_, rfl⟩ := sliceP oX1.read
  have oW0 := oW0.past b7
  have oX0 := oX0.past b7
  have z7 := b7.size
  have D7 := D6.trans (b7.mono D6.size)
  go_wp2_with fail
  refine (implPastAll_d _ _ ls0 ps1 _ oX0.read oX1.read S0 S1).mono ?_
  rintro e u8 ⟨v8, rfl, oG00, b8⟩
  have oW0 := oW0.past b8
  have oX0 := oX0.past b8
  have oX1 := oX1.past b8
  obtain ⟨k8, oG0⟩ := oG00.blocks
  clear oG00
  have z8 := b8.size
  have D8 := D7.trans (b8.mono D7.size)
  have hs0 : SmQ (pastAllT ls0 ps1) := pastAll_small S0 S1
  have hagain : ∀ (x0_ : Value) (x1_ : Value) (u : World), RdC u u.heap.size (encPss ls0) x0_ → RdC u u.heap.size (encPs ps1) x1_ → Calls Try.prog 15 #[x0_, x1_] u (ResB (encPss (pastAllT ls0 ps1)) (pastB ls0 ps1) u) := fun x0_ x1_ u h0_ h1_ => implPastAll_d x0_ x1_ ls0 ps1 u h0_ h1_ S0 S1
  have HAG := Lib.hid hagain
  clear hagain
  generalize (pastAllT ls0 ps1) = L0 at *
  generalize (pastB ls0 ps1) = L1 at *
  have hc0 := cntQ hs0
  generalize hn0 : cntC (encPss L0) = n0 at *
  have HN0 := Lib.hid hn0
  clear hn0
  have nm0 : (((1 : Int) + (n0 : Int)) != ((1 : Int) + (n0 : Int))) = false := by simp
  have nb1 : (L1 != L1) = false := by simp
  obtain ⟨AW0_, cW0_, rfl⟩ := sliceQ oW0.read
  obtain ⟨AG0_, cG0_, rfl⟩ := sliceQ oG0.read
  go_wp2_with fail
  refine (eqQ _ _ L0 _ oG0.read oW0.read hs0).mono ?_
  rintro e u9 ⟨rfl, b9⟩
  have oW0 := oW0.past b9
  have oX0 := oX0.past b9
  have oX1 := oX1.past b9
  have oG0 := oG0.past b9
  have z9 := b9.size
  have D9 := D8.trans (b9.mono D8.size)
  go_wp2_with fail
  refine (toPP _ ls0 _ (R0.past D9) S0).mono ?_
  rintro e u10 ⟨v10, rfl, oT90, b10⟩
  obtain ⟨k10, oT9⟩ := oT90.blocks
  clear oT90
  obtain ⟨A10_, c10_, rfl⟩ := slicePP oT9.read
  have oW0 := oW0.past b10
  have oX0 := oX0.past b10
  have oX1 := oX1.past b10
  have oG0 := oG0.past b10
  have z10 := b10.size
  have D10 := D9.trans (b10.mono D9.size)
  go_wp2_with fail
  refine (eqPP _ _ ls0 _ oX0.read oT9.read S0).mono ?_
  rintro e u11 ⟨rfl, b11⟩
  have oW0 := oW0.past b11
  have oX0 := oX0.past b11
  have oX1 := oX1.past b11
  have oG0 := oG0.past b11
  have oT9 := oT9.past b11
  have z11 := b11.size
  have D11 := D10.trans (b11.mono D10.size)
  clear oT9
  go_wp2_with fail
  refine (toP _ ps1 _ (R1.past D11) S1).mono ?_
  rintro e u12 ⟨v12, rfl, oT90, b12⟩
  obtain ⟨k12, oT9⟩ := oT90.blocks
  clear oT90
  obtain ⟨A12_, c12_, rfl⟩ := sliceP oT9.read
  have oW0 := oW0.past b12
  have oX0 := oX0.past b12
  have oX1 := oX1.past b12
  have oG0 := oG0.past b12
  have z12 := b12.size
  have D12 := D11.trans (b12.mono D11.size)
  go_wp2_with fail
  refine (eqP _ _ ps1 _ oX1.read oT9.read S1).mono ?_
  rintro e u13 ⟨rfl, b13⟩
  have oW0 := oW0.past b13
  have oX0 := oX0.past b13
  have oX1 := oX1.past b13
  have oG0 := oG0.past b13
  have oT9 := oT9.past b13
  have z13 := b13.size
  have D13 := D12.trans (b13.mono D12.size)
  clear oT9
  have cx0 := cntPP S0
  go_wp2_with fail
  refine (markPP _ ls0 _ (1) _ oX0.ow oX0.nd (by omega) (by omega) S0).mono ?_
  rintro e u14 ⟨rfl, m14, t14⟩
  have oW0 := oW0.apart oX0 t14 (by omega)
  have oX1 := oX1.apart oX0 t14 (by omega)
  have oG0 := oG0.apart oX0 t14 (by omega)
  have z14 := t14.size
  have D14 := D13.trans (oX0.under t14 (by omega))
  clear oX0 m14
  generalize cntC (encPss ls0) = nx0 at *
  have cx1 := cntP S1
  go_wp2_with fail
  refine (markP _ ps1 _ (1 + (nx0 : Int)) _ oX1.ow oX1.nd (by omega) (by omega) S1).mono ?_
  rintro e u15 ⟨rfl, m15, t15⟩
  have oW0 := oW0.apart oX1 t15 (by omega)
  have oG0 := oG0.apart oX1 t15 (by omega)
  have z15 := t15.size
  have D15 := D14.trans (oX1.under t15 (by omega))
  clear oX1 m15
  generalize cntC (encPs ps1) = nx1 at *
  go_wp2_with fail
  refine (eqQ _ _ L0 _ oG0.read oW0.read hs0).mono ?_
  rintro e u16 ⟨rfl, b16⟩
  have oW0 := oW0.past b16
  have oG0 := oG0.past b16
  have z16 := b16.size
  have D16 := D15.trans (b16.mono D15.size)
  go_wp2_with fail
  refine (markQ _ L0 _ (1) _ oG0.ow oG0.nd (by omega) (by omega) hs0).mono ?_
  rintro e u17 ⟨rfl, m17, t17⟩
  have oW0 := oW0.apart oG0 t17 (by omega)
  have z17 := t17.size
  have D17 := D16.trans (oG0.under t17 (by omega))
  have oG0 := oG0.marked m17 t17
  rw [HN0.out]
  go_wp2_with fail
  refine (heldQ _ L0 (1) _ oG0.read (by omega) (by omega) hs0).mono ?_
  rintro e w'_ ⟨rfl, rfl⟩
  rw [HN0.out]
  go_wp2_with fail
  refine (toPP _ ls0 _ (R0.past D17) S0).mono ?_
  rintro e u18 ⟨v18, rfl, oT00, b18⟩
  obtain ⟨k18, oT0⟩ := oT00.blocks
  clear oT00
  obtain ⟨A18_, c18_, rfl⟩ := slicePP oT0.read
  have oW0 := oW0.past b18
  have oG0 := oG0.past b18
  have z18 := b18.size
  have D18 := D17.trans (b18.mono D17.size)
  go_wp2_with fail
  refine (toP _ ps1 _ (R1.past D18) S1).mono ?_
  rintro e u19 ⟨v19, rfl, oT10, b19⟩
  obtain ⟨k19, oT1⟩ := oT10.blocks
  clear oT10
  obtain ⟨A19_, c19_, rfl⟩ := sliceP oT1.read
  have oW0 := oW0.past b19
  have oG0 := oG0.past b19
  have oT0 := oT0.past b19
  have z19 := b19.size
  have D19 := D18.trans (b19.mono D18.size)
  go_wp2_with fail
  refine (HAG.out _ _ _ oT0.read oT1.read).mono ?_
  rintro e u20 ⟨v20, rfl, oH00, b20⟩
  have oW0 := oW0.past b20
  have oG0 := oG0.past b20
  have oT0 := oT0.past b20
  have oT1 := oT1.past b20
  obtain ⟨k20, oH0⟩ := oH00.blocks
  clear oH00
  have z20 := b20.size
  have D20 := D19.trans (b20.mono D19.size)
  obtain ⟨AH0_, cH0_, rfl⟩ := sliceQ oH0.read
  clear oT0
  clear oT1
  go_wp2_with fail
  refine (eqQ _ _ L0 _ oH0.read oW0.read hs0).mono ?_
  rintro e u21 ⟨rfl, b21⟩
  have oW0 := oW0.past b21
  have oG0 := oG0.past b21
  have oH0 := oH0.past b21
  have z21 := b21.size
  have D21 := D20.trans (b21.mono D20.size)
  go_wp2_with fail
  refine (heldQ _ L0 (1) _ oG0.read (by omega) (by omega) hs0).mono ?_
  rintro e w'_ ⟨rfl, rfl⟩
  rw [HN0.out]
  go_wp2
  go_ret
  exact ⟨rfl, D21⟩

set_option maxRecDepth 100000 in
theorem lifted (os : Os) (started : os.Started) (H : Type) (enc : TypeId × Value → H) :
    ReturnsInHanded {} Try.checked os 7 .any (Rows.fnExactPastAllSpec.pre6 enc Try.prog Try.f7 Rows.fnExactPastAllRow.domain false) (Rows.fnExactPastAllSpec.post enc Try.prog Try.f7 false true false false) := by
  refine returnsInHanded_of_change (C := Try.checked) own started (by kernel_rfl) Try.func7
    (ChangeSpec.witness6 (enc := enc) (C := Try.checked) false ⟨#[], #[.slice none 0 0, .slice none 0 0], []⟩ 8 (by kernel_rfl) (by kernel_rfl) (by kernel_rfl) (by kernel_rfl)) ?_
  intro W base args ds gs before hval0 hW hcnd _
  have hval : ∀ (j : Nat) t v, Try.f7.params[j]? = some t → args[j]? = some v → Value.okWide Try.prog W .any base t v := hval0
  have hW' := hW
  obtain ⟨p, q, hA0, hV, rfl, hfz, hnd⟩ := hW
  have hA : DataW.TrodAll enc Try.prog W 0 (fun _ => true) true Try.f7.params.toList args.toList ds p := hA0
  rw [Try.params7] at hA hval
  obtain ⟨v0, vs0, x0, xs0, q0, r0, hargs, rfl, rfl, h0, t0⟩ := trodAll_cons hA
  obtain ⟨v1, vs1, x1, xs1, q1, r1, rfl, rfl, rfl, h1, t1⟩ := trodAll_cons t0
  obtain ⟨rfl, rfl, rfl⟩ := trodAll_nil t1
  obtain rfl : args = #[v0, v1] := by cases args; simp_all
  obtain ⟨rfl, rfl⟩ := trodVars_none hV
  have k0 := h0
  have lt0 : ∀ x ∈ q0, x.block < W.heap.size := by obtain ⟨m, hm⟩ := k0; exact DataW.trod_lt m _ _ _ hm
  have k1 := h1
  have lt1 : ∀ x ∈ q1, x.block < W.heap.size := by obtain ⟨m, hm⟩ := k1; exact DataW.trod_lt m _ _ _ hm
  obtain ⟨B0, n0, d0, rfl⟩ := okWide_slice Try.underlying48 (hval 0 48 v0 rfl rfl)
  obtain ⟨f0, hf0⟩ := h0
  obtain ⟨ls0, A0, c0, e0, w0, l0, m0⟩ := open_dpss hf0
  obtain ⟨rfl, rfl, rfl⟩ : B0 = A0 ∧ n0 = ls0.length ∧ d0 = c0 := by simpa [Value.cells] using e0
  obtain ⟨B1, n1, d1, rfl⟩ := okWide_slice Try.underlying42 (hval 1 42 v1 rfl rfl)
  obtain ⟨f1, hf1⟩ := h1
  obtain ⟨ps1, A1, c1, e1, w1, l1, m1⟩ := open_dparts hf1
  obtain ⟨rfl, rfl, rfl⟩ : B1 = A1 ∧ n1 = ps1.length ∧ d1 = c1 := by simpa [Value.cells] using e1
  clear hA0 hval0
  refine (walk B0 d0 ls0 B1 d1 ps1 W w0 l0 m0 w1 l1 m1).mono fun e W' ⟨he, bel⟩ => ?_
  subst he
  exact ⟨_, rfl, _, _, _, [], _, [], hW', trodAll_mk1 (shut_bool Try.underlying4 _), (trodAll_cons_mk (Below.trod laidOut (by kernel_rfl) (of_decide_eq_true (by kernel_rfl)) k0 bel lt0) (trodAll_cons_mk (Below.trod laidOut (by kernel_rfl) (of_decide_eq_true (by kernel_rfl)) k1 bel lt1) trodAll_mk0)), rfl, bel.frame _, fun h => by cases h⟩

theorem over : Rows.fnExactPastAllRow.holds Try.pinned (OpenSpec.ofChange Rows.fnExactPastAllSpec) :=
  OpenClaim.holds_of_wide 7 Try.f7 rfl rfl rfl rfl rfl rfl rfl ⟨rfl, rfl, rfl, rfl, rfl⟩ rfl rfl rfl rfl rfl (by kernel_rfl) Try.func7 (by kernel_rfl)
    (of_decide_eq_true (by kernel_rfl)) (by unfold Func.isWrapper; first | (rw [if_pos (by decide +kernel)]; kernel_rfl) | (rw [if_neg (by decide +kernel)]; exact ⟨rfl, rfl⟩))
    (fun os started H enc _ => lifted os started H enc)

theorem proved : Rows.FnExactPastAllSaid := over
end Go.Proofs.Ytfpjoncaccbnmaa.fnExactPastAll
