/-
  Proved: for every argument (number, number, slice of numbers), the law FnExactPutAt of this seat's translation returns true (impl.PutAt answers as spec.PutAt does, twice, leaves its arguments alone, and its result owns its memory); no conditions.
-/
import Derived.Test.YtmlkeflnnaabeaaRows
import Derived.Test.YtmlkeflnnaabeaaM1
import Derived.WalkKit
import Derived.ProofKit
import Derived.OpenShut
import Derived.ShutString
import Derived.ChangeOld
import Derived.Below
import Derived.Test.YtmlkeflnnaabeaaM3
namespace Go.Proofs.Ytmlkeflnnaabeaa.fnExactPutAt
open Go.ChangeShapes Go.WideShapes Go.ChangeAt Go.RowKit
open Go.ChangeMaps (open_string shut_string)
open low
set_option linter.unusedVariables false

theorem own : ownKnob Try.prog.godebug = none := by kernel_rfl
set_option maxRecDepth 100000 in
set_option maxHeartbeats 3200000 in
theorem walk (a0 : Int) (a1 : Int) (A2 : Option Addr) (c2 : Nat) (zs2 : List Int) (w : World) (w0 : (Lit.int .i64 a0).wf = true) (w1 : (Lit.int .i64 a1).wf = true) (w2 : RdC w w.heap.size (encInts zs2) (.slice A2 zs2.length c2)) (l2 : zs2.length ≤ maxLen) :
    Calls Try.prog 9 #[.int .i64 a0, .int .i64 a1, .slice A2 zs2.length c2] w fun e w' => e = .returned (.bool true) ∧ Below w.heap.size w w' := by
  have D0 : Below w.heap.size w w := Below.refl _ _
  have R2 := w2
  by_cases big2 : (1048576 : Int) < (zs2.length : Int)
  · go_enter Try.func9, Try.ntmps9
    go_wp2
    go_ret
    exact ⟨rfl, D0⟩
  have S2 : SmI zs2 := by unfold SmI; omega
  go_enter Try.func9, Try.ntmps9
  go_wp2_with fail
  refine (toI _ zs2 _ (R2.past D0) S2).mono ?_
  rintro e u1 ⟨v1, rfl, oT20, b1⟩
  obtain ⟨k1, oT2⟩ := oT20.blocks
  clear oT20
  obtain ⟨A1_, c1_, rfl⟩ := sliceI oT2.read
  have z1 := b1.size
  have D1 := D0.trans (b1.mono D0.size)
  go_wp2_with fail
  refine (specPutAt_d _ a0 a1 zs2 _ oT2.read S2).mono ?_
  rintro e u2 ⟨v2, rfl, oW00, b2⟩
  have oT2 := oT2.past b2
  obtain ⟨k2, oW0⟩ := oW00.blocks
  clear oW00
  have z2 := b2.size
  have D2 := D1.trans (b2.mono D1.size)
  clear oT2
  go_wp2_with fail
  refine (toI _ zs2 _ (R2.past D2) S2).mono ?_
  rintro e u3 ⟨v3, rfl, oX20, b3⟩
  obtain ⟨k3, oX2⟩ := oX20.blocks
  clear oX20
  obtain ⟨A3_, c3_, rfl⟩ := sliceI oX2.read
  have oW0 := oW0.past b3
  have z3 := b3.size
  have D3 := D2.trans (b3.mono D2.size)
  go_wp2_with fail
  refine (implPutAt_d _ a0 a1 zs2 _ oX2.read S2 (rng_int w0)).mono ?_
  rintro e u4 ⟨v4, rfl, oG00, b4⟩
  have oW0 := oW0.past b4
  have oX2 := oX2.past b4
  obtain ⟨k4, oG0⟩ := oG00.blocks
  clear oG00
  have z4 := b4.size
  have D4 := D3.trans (b4.mono D3.size)
  have hs0 : SmP (opAtT a0 a1 zs2 0) := putAt_small S2
  have hagain : ∀ (x2_ : Value) (u : World), RdC u u.heap.size (encInts zs2) x2_ → Calls Try.prog 13 #[.int .i64 a0, .int .i64 a1, x2_] u (ResB (encPs (opAtT a0 a1 zs2 0)) (opAtB a0 a1 zs2 0) u) := fun x2_ u h2_ => implPutAt_d x2_ a0 a1 zs2 u h2_ S2 (rng_int w0)
  have HAG := Lib.hid hagain
  clear hagain
  generalize (opAtT a0 a1 zs2 0) = L0 at *
  generalize (opAtB a0 a1 zs2 0) = L1 at *
  have hc0 := cntP hs0
  generalize hn0 : cntC (encPs L0) = n0 at *
  have HN0 := Lib.hid hn0
  clear hn0
  have nm0 : (((1 : Int) + (n0 : Int)) != ((1 : Int) + (n0 : Int))) = false := by simp
  have nb1 : (L1 != L1) = false := by simp
  obtain ⟨AW0_, cW0_, rfl⟩ := sliceP oW0.read
  obtain ⟨AG0_, cG0_, rfl⟩ := sliceP oG0.read
  go_wp2_with fail
  refine (eqP _ _ L0 _ oG0.read oW0.read hs0).mono ?_
  rintro e u5 ⟨rfl, b5⟩
  have oW0 := oW0.past b5
  have oX2 := oX2.past b5
  have oG0 := oG0.past b5
  have z5 := b5.size
  have D5 := D4.trans (b5.mono D4.size)
  go_wp2_with fail
  refine (toI _ zs2 _ (R2.past D5) S2).mono ?_
  rintro e u6 ⟨v6, rfl, oT90, b6⟩
  obtain ⟨k6, oT9⟩ := oT90.blocks
  clear oT90
  obtain ⟨A6_, c6_, rfl⟩ := sliceI oT9.read
  have oW0 := oW0.past b6
  have oX2 := oX2.past b6
  have oG0 := oG0.past b6
  have z6 := b6.size
  have D6 := D5.trans (b6.mono D5.size)
  go_wp2_with fail
  refine (eqI _ _ zs2 _ oX2.read oT9.read S2).mono ?_
  rintro e u7 ⟨rfl, b7⟩
  have oW0 := oW0.past b7
  have oX2 := oX2.past b7
  have oG0 := oG0.past b7
  have oT9 := oT9.past b7
  have z7 := b7.size
  have D7 := D6.trans (b7.mono D6.size)
  clear oT9
  have cx2 := cntI S2
  go_wp2_with fail
  refine (markI _ zs2 _ (1) _ oX2.ow oX2.nd (by omega) (by omega) S2).mono ?_
  rintro e u8 ⟨rfl, m8, t8⟩
  have oW0 := oW0.apart oX2 t8 (by omega)
  have oG0 := oG0.apart oX2 t8 (by omega)
  have z8 := t8.size
  have D8 := D7.trans (oX2.under t8 (by omega))
  clear oX2 m8
  generalize cntC (encInts zs2) = nx2 at *
  go_wp2_with fail
  refine (eqP _ _ L0 _ oG0.read oW0.read hs0).mono ?_
  rintro e u9 ⟨rfl, b9⟩
  have oW0 := oW0.past b9
  have oG0 := oG0.past b9
  have z9 := b9.size
  have D9 := D8.trans (b9.mono D8.size)
  go_wp2_with fail
  refine (markP _ L0 _ (1) _ oG0.ow oG0.nd (by omega) (by omega) hs0).mono ?_
  rintro e u10 ⟨rfl, m10, t10⟩
  have oW0 := oW0.apart oG0 t10 (by omega)
  have z10 := t10.size
  have D10 := D9.trans (oG0.under t10 (by omega))
  have oG0 := oG0.marked m10 t10
  rw [HN0.out]
  go_wp2_with fail
  refine (heldP _ L0 (1) _ oG0.read (by omega) (by omega) hs0).mono ?_
  rintro e w'_ ⟨rfl, rfl⟩
  rw [HN0.out]
  go_wp2_with fail
  refine (toI _ zs2 _ (R2.past D10) S2).mono ?_
  rintro e u11 ⟨v11, rfl, oT20, b11⟩
  obtain ⟨k11, oT2⟩ := oT20.blocks
  clear oT20
  obtain ⟨A11_, c11_, rfl⟩ := sliceI oT2.read
  have oW0 := oW0.past b11
  have oG0 := oG0.past b11
  have z11 := b11.size
  have D11 := D10.trans (b11.mono D10.size)
  go_wp2_with fail
  refine (HAG.out _ _ oT2.read).mono ?_
  rintro e u12 ⟨v12, rfl, oH00, b12⟩
  have oW0 := oW0.past b12
  have oG0 := oG0.past b12
  have oT2 := oT2.past b12
  obtain ⟨k12, oH0⟩ := oH00.blocks
  clear oH00
  have z12 := b12.size
  have D12 := D11.trans (b12.mono D11.size)
  obtain ⟨AH0_, cH0_, rfl⟩ := sliceP oH0.read
  clear oT2
  go_wp2_with fail
  refine (eqP _ _ L0 _ oH0.read oW0.read hs0).mono ?_
  rintro e u13 ⟨rfl, b13⟩
  have oW0 := oW0.past b13
  have oG0 := oG0.past b13
  have oH0 := oH0.past b13
  have z13 := b13.size
  have D13 := D12.trans (b13.mono D12.size)
  go_wp2_with fail
  refine (heldP _ L0 (1) _ oG0.read (by omega) (by omega) hs0).mono ?_
  rintro e w'_ ⟨rfl, rfl⟩
  rw [HN0.out]
  go_wp2
  go_ret
  exact ⟨rfl, D13⟩

set_option maxRecDepth 100000 in
theorem lifted (os : Os) (started : os.Started) (H : Type) (enc : TypeId × Value → H) :
    ReturnsInHanded {} Try.checked os 9 .any (Rows.fnExactPutAtSpec.pre6 enc Try.prog Try.f9 Rows.fnExactPutAtRow.domain false) (Rows.fnExactPutAtSpec.post enc Try.prog Try.f9 false true false false) := by
  refine returnsInHanded_of_change (C := Try.checked) own started (by kernel_rfl) Try.func9
    (ChangeSpec.witness6 (enc := enc) (C := Try.checked) false ⟨#[], #[.int .i64 0, .int .i64 0, .slice none 0 0], []⟩ 8 (by kernel_rfl) (by kernel_rfl) (by kernel_rfl) (by kernel_rfl)) ?_
  intro W base args ds gs before hval0 hW hcnd _
  have hval : ∀ (j : Nat) t v, Try.f9.params[j]? = some t → args[j]? = some v → Value.okWide Try.prog W .any base t v := hval0
  have hW' := hW
  obtain ⟨p, q, hA0, hV, rfl, hfz, hnd⟩ := hW
  have hA : DataW.TrodAll enc Try.prog W 0 (fun _ => true) true Try.f9.params.toList args.toList ds p := hA0
  rw [Try.params9] at hA hval
  obtain ⟨v0, vs0, x0, xs0, q0, r0, hargs, rfl, rfl, h0, t0⟩ := trodAll_cons hA
  obtain ⟨v1, vs1, x1, xs1, q1, r1, rfl, rfl, rfl, h1, t1⟩ := trodAll_cons t0
  obtain ⟨v2, vs2, x2, xs2, q2, r2, rfl, rfl, rfl, h2, t2⟩ := trodAll_cons t1
  obtain ⟨rfl, rfl, rfl⟩ := trodAll_nil t2
  obtain rfl : args = #[v0, v1, v2] := by cases args; simp_all
  obtain ⟨rfl, rfl⟩ := trodVars_none hV
  have k0 := h0
  have lt0 : ∀ x ∈ q0, x.block < W.heap.size := by obtain ⟨m, hm⟩ := k0; exact DataW.trod_lt m _ _ _ hm
  have k1 := h1
  have lt1 : ∀ x ∈ q1, x.block < W.heap.size := by obtain ⟨m, hm⟩ := k1; exact DataW.trod_lt m _ _ _ hm
  have k2 := h2
  have lt2 : ∀ x ∈ q2, x.block < W.heap.size := by obtain ⟨m, hm⟩ := k2; exact DataW.trod_lt m _ _ _ hm
  obtain ⟨a0, rfl, rfl, rfl, w0⟩ := open_int Try.underlying3 (hval 0 3 v0 rfl rfl) h0
  obtain ⟨a1, rfl, rfl, rfl, w1⟩ := open_int Try.underlying3 (hval 1 3 v1 rfl rfl) h1
  obtain ⟨B2, n2, d2, rfl⟩ := okWide_slice Try.underlying23 (hval 2 23 v2 rfl rfl)
  obtain ⟨f2, hf2⟩ := h2
  obtain ⟨A2, c2, zs2, e2, w2, l2⟩ := open_dints hf2
  obtain ⟨rfl, rfl, rfl⟩ : B2 = A2 ∧ n2 = zs2.length ∧ d2 = c2 := by simpa [Value.cells] using e2
  clear hA0 hval0
  refine (walk a0 a1 B2 d2 zs2 W w0 w1 w2 l2).mono fun e W' ⟨he, bel⟩ => ?_
  subst he
  exact ⟨_, rfl, _, _, _, [], _, [], hW', trodAll_mk1 (shut_bool Try.underlying4 _), (trodAll_cons_mk (Below.trod laidOut (by kernel_rfl) (of_decide_eq_true (by kernel_rfl)) k0 bel lt0) (trodAll_cons_mk (Below.trod laidOut (by kernel_rfl) (of_decide_eq_true (by kernel_rfl)) k1 bel lt1) (trodAll_cons_mk (Below.trod laidOut (by kernel_rfl) (of_decide_eq_true (by kernel_rfl)) k2 bel lt2) trodAll_mk0))), rfl, bel.frame _, fun h => by cases h⟩

theorem over : Rows.fnExactPutAtRow.holds Try.pinned (OpenSpec.ofChange Rows.fnExactPutAtSpec) :=
  OpenClaim.holds_of_wide 9 Try.f9 rfl rfl rfl rfl rfl rfl rfl ⟨rfl, rfl, rfl, rfl, rfl⟩ rfl rfl rfl rfl rfl (by kernel_rfl) Try.func9 (by kernel_rfl)
    (of_decide_eq_true (by kernel_rfl)) (by unfold Func.isWrapper; first | (rw [if_pos (by decide +kernel)]; kernel_rfl) | (rw [if_neg (by decide +kernel)]; exact ⟨rfl, rfl⟩))
    (fun os started H enc _ => lifted os started H enc)

theorem proved : Rows.FnExactPutAtSaid := over
end Go.Proofs.Ytmlkeflnnaabeaa.fnExactPutAt
