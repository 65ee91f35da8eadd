/-
  Proved: for every argument (number, number, number), the law FnExactDropAt of this seat's translation returns true (impl.DropAt answers as spec.DropAt does, twice, leaves its arguments alone, and its result owns its memory); no conditions.
-/
import Derived.Test.YtmlkeflnnaabeaaRows
import Derived.Test.YtmlkeflnnaabeaaM1
import Derived.WalkKit
import Derived.ProofKit
import Derived.OpenShut
import Derived.ShutString
import Derived.ChangeOld
import Derived.Below
import Derived.Test.YtmlkeflnnaabeaaM3
namespace Go.Proofs.Ytmlkeflnnaabeaa.fnExactDropAt
open Go.ChangeShapes Go.WideShapes Go.ChangeAt Go.RowKit
open Go.ChangeMaps (open_string shut_string)
open low
set_option linter.unusedVariables false

theorem own : ownKnob Try.prog.godebug = none := by kernel_rfl
set_option maxRecDepth 100000 in
set_option maxHeartbeats 3200000 in
theorem walk (a0 : Int) (a1 : Int) (a2 : Int) (w : World) (w0 : (Lit.int .i64 a0).wf = true) (w1 : (Lit.int .i64 a1).wf = true) (w2 : (Lit.int .i64 a2).wf = true) :
    Calls Try.prog 10 #[.int .i64 a0, .int .i64 a1, .int .i64 a2] w fun e w' => e = .returned (.bool true) ∧ Below w.heap.size w w' := by
  have D0 : Below w.heap.size w w := Below.refl _ _
  go_enter Try.func10, Try.ntmps10
  go_wp2_with fail
  refine (specDropAt_d a0 a1 a2 _ ).mono ?_
  rintro e u1 ⟨v1, rfl, oW00, b1⟩
  obtain ⟨k1, oW0⟩ := oW00.blocks
  clear oW00
  have z1 := b1.size
  have D1 := D0.trans (b1.mono D0.size)
  go_wp2_with fail
  refine (implDropAt_d a0 a1 a2 _ (rng_int w0)).mono ?_
  rintro e u2 ⟨v2, rfl, oG00, b2⟩
  have oW0 := oW0.past b2
  obtain ⟨k2, oG0⟩ := oG00.blocks
  clear oG00
  have z2 := b2.size
  have D2 := D1.trans (b2.mono D1.size)
  have hs0 : SmP (opAtT a0 a1 [] a2) := dropAt_small 
  have hagain : ∀  (u : World), Calls Try.prog 24 #[.int .i64 a0, .int .i64 a1, .int .i64 a2] u (ResB (encPs (opAtT a0 a1 [] a2)) (opAtB a0 a1 [] a2) u) := fun  u  => implDropAt_d a0 a1 a2 u (rng_int w0)
  have HAG := Lib.hid hagain
  clear hagain
  generalize (opAtT a0 a1 [] a2) = L0 at *
  generalize (opAtB a0 a1 [] a2) = L1 at *
  have hc0 := cntP hs0
  generalize hn0 : cntC (encPs L0) = n0 at *
  have HN0 := Lib.hid hn0
  clear hn0
  have nm0 : (((1 : Int) + (n0 : Int)) != ((1 : Int) + (n0 : Int))) = false := by simp
  have nb1 : (L1 != L1) = false := by simp
  obtain ⟨AW0_, cW0_, rfl⟩ := sliceP oW0.read
  obtain ⟨AG0_, cG0_, rfl⟩ := sliceP oG0.read
  go_wp2_with fail
  refine (eqP _ _ L0 _ oG0.read oW0.read hs0).mono ?_
  rintro e u3 ⟨rfl, b3⟩
  have oW0 := oW0.past b3
  have oG0 := oG0.past b3
  have z3 := b3.size
  have D3 := D2.trans (b3.mono D2.size)
  go_wp2_with fail
  refine (markP _ L0 _ (1) _ oG0.ow oG0.nd (by omega) (by omega) hs0).mono ?_
  rintro e u4 ⟨rfl, m4, t4⟩
  have oW0 := oW0.apart oG0 t4 (by omega)
  have z4 := t4.size
  have D4 := D3.trans (oG0.under t4 (by omega))
  have oG0 := oG0.marked m4 t4
  rw [HN0.out]
  go_wp2_with fail
  refine (heldP _ L0 (1) _ oG0.read (by omega) (by omega) hs0).mono ?_
  rintro e w'_ ⟨rfl, rfl⟩
  rw [HN0.out]
  go_wp2_with fail
  refine (HAG.out _ ).mono ?_
  rintro e u5 ⟨v5, rfl, oH00, b5⟩
  have oW0 := oW0.past b5
  have oG0 := oG0.past b5
  obtain ⟨k5, oH0⟩ := oH00.blocks
  clear oH00
  have z5 := b5.size
  have D5 := D4.trans (b5.mono D4.size)
  obtain ⟨AH0_, cH0_, rfl⟩ := sliceP oH0.read
  go_wp2_with fail
  refine (eqP _ _ L0 _ oH0.read oW0.read hs0).mono ?_
  rintro e u6 ⟨rfl, b6⟩
  have oW0 := oW0.past b6
  have oG0 := oG0.past b6
  have oH0 := oH0.past b6
  have z6 := b6.size
  have D6 := D5.trans (b6.mono D5.size)
  go_wp2_with fail
  refine (heldP _ L0 (1) _ oG0.read (by omega) (by omega) hs0).mono ?_
  rintro e w'_ ⟨rfl, rfl⟩
  rw [HN0.out]
  go_wp2
  go_ret
  exact ⟨rfl, D6⟩

set_option maxRecDepth 100000 in
theorem lifted (os : Os) (started : os.Started) (H : Type) (enc : TypeId × Value → H) :
    ReturnsInHanded {} Try.checked os 10 .any (Rows.fnExactDropAtSpec.pre6 enc Try.prog Try.f10 Rows.fnExactDropAtRow.domain false) (Rows.fnExactDropAtSpec.post enc Try.prog Try.f10 false true false false) := by
  refine returnsInHanded_of_change (C := Try.checked) own started (by kernel_rfl) Try.func10
    (ChangeSpec.witness6 (enc := enc) (C := Try.checked) false ⟨#[], #[.int .i64 0, .int .i64 0, .int .i64 0], []⟩ 8 (by kernel_rfl) (by kernel_rfl) (by kernel_rfl) (by kernel_rfl)) ?_
  intro W base args ds gs before hval0 hW hcnd _
  have hval : ∀ (j : Nat) t v, Try.f10.params[j]? = some t → args[j]? = some v → Value.okWide Try.prog W .any base t v := hval0
  have hW' := hW
  obtain ⟨p, q, hA0, hV, rfl, hfz, hnd⟩ := hW
  have hA : DataW.TrodAll enc Try.prog W 0 (fun _ => true) true Try.f10.params.toList args.toList ds p := hA0
  rw [Try.params10] at hA hval
  obtain ⟨v0, vs0, x0, xs0, q0, r0, hargs, rfl, rfl, h0, t0⟩ := trodAll_cons hA
  obtain ⟨v1, vs1, x1, xs1, q1, r1, rfl, rfl, rfl, h1, t1⟩ := trodAll_cons t0
  obtain ⟨v2, vs2, x2, xs2, q2, r2, rfl, rfl, rfl, h2, t2⟩ := trodAll_cons t1
  obtain ⟨rfl, rfl, rfl⟩ := trodAll_nil t2
  obtain rfl : args = #[v0, v1, v2] := by cases args; simp_all
  obtain ⟨rfl, rfl⟩ := trodVars_none hV
  have k0 := h0
  have lt0 : ∀ x ∈ q0, x.block < W.heap.size := by obtain ⟨m, hm⟩ := k0; exact DataW.trod_lt m _ _ _ hm
  have k1 := h1
  have lt1 : ∀ x ∈ q1, x.block < W.heap.size := by obtain ⟨m, hm⟩ := k1; exact DataW.trod_lt m _ _ _ hm
  have k2 := h2
  have lt2 : ∀ x ∈ q2, x.block < W.heap.size := by obtain ⟨m, hm⟩ := k2; exact DataW.trod_lt m _ _ _ hm
  obtain ⟨a0, rfl, rfl, rfl, w0⟩ := open_int Try.underlying3 (hval 0 3 v0 rfl rfl) h0
  obtain ⟨a1, rfl, rfl, rfl, w1⟩ := open_int Try.underlying3 (hval 1 3 v1 rfl rfl) h1
  obtain ⟨a2, rfl, rfl, rfl, w2⟩ := open_int Try.underlying3 (hval 2 3 v2 rfl rfl) h2
  clear hA0 hval0
  refine (walk a0 a1 a2 W w0 w1 w2).mono fun e W' ⟨he, bel⟩ => ?_
  subst he
  exact ⟨_, rfl, _, _, _, [], _, [], hW', trodAll_mk1 (shut_bool Try.underlying4 _), (trodAll_cons_mk (Below.trod laidOut (by kernel_rfl) (of_decide_eq_true (by kernel_rfl)) k0 bel lt0) (trodAll_cons_mk (Below.trod laidOut (by kernel_rfl) (of_decide_eq_true (by kernel_rfl)) k1 bel lt1) (trodAll_cons_mk (Below.trod laidOut (by kernel_rfl) (of_decide_eq_true (by kernel_rfl)) k2 bel lt2) trodAll_mk0))), rfl, bel.frame _, fun h => by cases h⟩

theorem over : Rows.fnExactDropAtRow.holds Try.pinned (OpenSpec.ofChange Rows.fnExactDropAtSpec) :=
  OpenClaim.holds_of_wide 10 Try.f10 rfl rfl rfl rfl rfl rfl rfl ⟨rfl, rfl, rfl, rfl, rfl⟩ rfl rfl rfl rfl rfl (by kernel_rfl) Try.func10 (by kernel_rfl)
    (of_decide_eq_true (by kernel_rfl)) (by unfold Func.isWrapper; first | (rw [if_pos (by decide +kernel)]; kernel_rfl) | (rw [if_neg (by decide +kernel)]; exact ⟨rfl, rfl⟩))
    (fun os started H enc _ => lifted os started H enc)

theorem proved : Rows.FnExactDropAtSaid := over
end Go.Proofs.Ytmlkeflnnaabeaa.fnExactDropAt
