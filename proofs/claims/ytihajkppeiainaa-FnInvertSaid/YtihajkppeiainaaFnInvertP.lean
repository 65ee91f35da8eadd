/-
  Proved: for every argument (bytes of a draw), the law FnInvert of this seat's translation returns true (an operation followed by its inverse restores the text, and the inverse can be inverted); no conditions.
-/
import Derived.Test.YtihajkppeiainaaRows
import Derived.Test.YtihajkppeiainaaM1
import Derived.WalkKit
import Derived.ProofKit
import Derived.OpenShut
import Derived.ShutString
import Derived.ChangeOld
import Derived.Below
import Derived.Test.YtihajkppeiainaaM4
namespace Go.Proofs.Ytihajkppeiainaa.fnInvert
open Go.ChangeShapes Go.WideShapes Go.ChangeAt Go.RowKit
open Go.ChangeMaps (open_string shut_string)
open low
set_option linter.unusedVariables false

theorem own : ownKnob Try.prog.godebug = none := by kernel_rfl
set_option maxRecDepth 100000 in
set_option maxHeartbeats 6400000 in
theorem walk (A0 : Option Addr) (c0 : Nat) (zs0 : List Int) (w : World) (w0 : Row (Value.int .u8) w w.heap.size A0 zs0) (l0 : zs0.length ≤ maxLen) (b0 : ∀ z ∈ zs0, 0 ≤ z ∧ z < 256) :
    Calls Try.prog 4 #[.slice A0 zs0.length c0] w fun e w' => e = .returned (.bool true) ∧ Below w.heap.size w w' := by
  by_cases hl : zs0.length ≤ 1048576
  · skip
    have hc : Code8 w (.slice A0 zs0.length c0) := ⟨A0, c0, zs0, rfl, hl, w0, b0⟩
    go_enter Try.func4, Try.ntmps4
    go_wp2_with fail
    refine (specMakeOps_d _ w hc).mono ?_
    rintro e w1 ⟨t, a, b, v1, v2, v3, rfl, ht, tl, ha, hb, sa, sb, sa2, sb2, pa, pb, sma, smb, r1, r2, r3, D⟩
    obtain ⟨a1, a2, a3, a4, a5⟩ := apply_ok ha ht sa
    obtain ⟨x1, x2, x3, x4, x5⟩ := invert_eq ha ht sa
    obtain ⟨i1, i2⟩ := invert_ok ha ht sa
    obtain ⟨k1, k2, k3, k4, k5, k6, k7, k8⟩ := compose_ok ha x2 x4.symm
    have hk := compose_apply ha x2 x4.symm ht sa
    obtain ⟨y1, y2, y3, y4, y5⟩ := apply_ok x2 a3 (by omega)
    obtain ⟨z1, z2, z3, z4, z5⟩ := apply_ok k3 ht (by omega)
    obtain ⟨q1, q2, q3, q4, q5⟩ := invert_eq x2 a3 (by omega)
    rw [i1] at hk
    have smt := smI_text ht
    have smp := smI_text a3
    have smx := smP_op x2
    have smk := smP_op k3
    have smq := smI_text y3
    have smu := smI_text z3
    have smy := smP_op q2
    have HF1 := Lib.hid a1
    have HF2 := Lib.hid y1
    have HF3 := Lib.hid z1
    have HI1 := Lib.hid i1
    have HI2 := Lib.hid i2
    have HK1 := Lib.hid k1
    have HK := Lib.hid hk
    clear a1 a2 a3 a4 a5 x1 x3 x4 x5 i1 i2 k1 k2 k4 k5 k6 k7 k8 hk y1 y2 y3 y4 y5 z1 z2 z3 z4 z5 ht ha hb sa sb x2 k3 tl q1 q2 q3 q4 q5 sa2 sb2 pa pb
    obtain ⟨A1, c1, rfl⟩ := sliceI r1
    obtain ⟨A2, c2, rfl⟩ := sliceP r2
    obtain ⟨A3, c3, rfl⟩ := sliceP r3
    clear r3
    go_wp2_with fail
    refine (implApply_d _ _ a t _ r2 r1 sma smt).mono ?_
    rw [HF1.out]
    rintro e w11 ⟨v11, rfl, o11, b11⟩
    obtain ⟨A11, c11, rfl⟩ := sliceI o11.read
    replace D := D.trans (b11.mono D.size)
    replace r1 := r1.past b11
    replace r2 := r2.past b11
    have rp := o11.read
    clear o11 b11
    go_wp2_with fail
    refine (implInvert_d _ _ a t _ r2 r1 sma smt).mono ?_
    rw [HF1.out]
    rintro e w12 ⟨v12, rfl, o12, b12⟩
    obtain ⟨A12, c12, rfl⟩ := sliceP o12.read
    replace D := D.trans (b12.mono D.size)
    replace r1 := r1.past b12
    replace r2 := r2.past b12
    replace rp := rp.past b12
    have rx := o12.read
    clear o12 b12
    go_wp2_with fail
    refine (implApply_d _ _ (invertT a t) (applyT a t) _ rx rp smx smp).mono ?_
    rw [HF2.out]
    rintro e w13 ⟨v13, rfl, o13, b13⟩
    obtain ⟨A13, c13, rfl⟩ := sliceI o13.read
    replace D := D.trans (b13.mono D.size)
    replace r1 := r1.past b13
    replace r2 := r2.past b13
    replace rp := rp.past b13
    replace rx := rx.past b13
    have rq := o13.read
    clear o13 b13
    go_wp2_with fail
    refine (implInvert_d _ _ (invertT a t) (applyT a t) _ rx rp smx smp).mono ?_
    rw [HF2.out]
    rintro e w14 ⟨v14, rfl, o14, b14⟩
    obtain ⟨A14, c14, rfl⟩ := sliceP o14.read
    replace D := D.trans (b14.mono D.size)
    replace r1 := r1.past b14
    replace r2 := r2.past b14
    replace rp := rp.past b14
    replace rx := rx.past b14
    replace rq := rq.past b14
    have ry := o14.read
    clear o14 b14
    go_wp2_with fail
    refine (implCompose_d _ _ a (invertT a t) _ r2 rx sma smx).mono ?_
    rw [HK1.out]
    rintro e w15 ⟨v15, rfl, o15, b15⟩
    obtain ⟨A15, c15, rfl⟩ := sliceP o15.read
    replace D := D.trans (b15.mono D.size)
    replace r1 := r1.past b15
    replace r2 := r2.past b15
    replace rp := rp.past b15
    replace rx := rx.past b15
    replace rq := rq.past b15
    replace ry := ry.past b15
    have rk := o15.read
    clear o15 b15
    go_wp2_with fail
    refine (implApply_d _ _ (composeT a (invertT a t)) t _ rk r1 smk smt).mono ?_
    rw [HF3.out]
    rintro e w16 ⟨v16, rfl, o16, b16⟩
    obtain ⟨A16, c16, rfl⟩ := sliceI o16.read
    replace D := D.trans (b16.mono D.size)
    replace r1 := r1.past b16
    replace r2 := r2.past b16
    replace rp := rp.past b16
    replace rx := rx.past b16
    replace rq := rq.past b16
    replace ry := ry.past b16
    replace rk := rk.past b16
    have ru := o16.read
    clear o16 b16
    go_wp2_with fail
    refine (signsSame_t _ _ _ _ _ rq r1 smq HI1.out).mono ?_
    rintro e w17 ⟨rfl, b17⟩
    replace D := D.trans (b17.mono D.size)
    replace r1 := r1.past b17
    replace r2 := r2.past b17
    replace rp := rp.past b17
    replace rx := rx.past b17
    replace rq := rq.past b17
    replace ry := ry.past b17
    replace rk := rk.past b17
    replace ru := ru.past b17
    clear b17
    go_wp2_with fail
    refine (signsSame_t _ _ _ _ _ ru r1 smu HK.out).mono ?_
    rintro e w18 ⟨rfl, b18⟩
    replace D := D.trans (b18.mono D.size)
    replace r1 := r1.past b18
    replace r2 := r2.past b18
    replace rp := rp.past b18
    replace rx := rx.past b18
    replace rq := rq.past b18
    replace ry := ry.past b18
    replace rk := rk.past b18
    replace ru := ru.past b18
    clear b18
    go_wp2_with fail
    refine (implOpNorm_d _ a _ r2 sma).mono ?_
    rintro e w19 ⟨v19, rfl, o19, b19⟩
    obtain ⟨A19, c19, rfl⟩ := sliceP o19.read
    replace D := D.trans (b19.mono D.size)
    replace r1 := r1.past b19
    replace r2 := r2.past b19
    replace rp := rp.past b19
    replace rx := rx.past b19
    replace rq := rq.past b19
    replace ry := ry.past b19
    replace rk := rk.past b19
    replace ru := ru.past b19
    have rn := o19.read
    clear o19 b19
    go_wp2_with fail
    refine (opSame_t _ _ _ _ _ ry rn smy HI2.out).mono ?_
    rintro e w20 ⟨rfl, b20⟩
    replace D := D.trans (b20.mono D.size)
    replace r1 := r1.past b20
    replace r2 := r2.past b20
    replace rp := rp.past b20
    replace rx := rx.past b20
    replace rq := rq.past b20
    replace ry := ry.past b20
    replace rk := rk.past b20
    replace ru := ru.past b20
    replace rn := rn.past b20
    clear b20
    go_wp2
    go_ret
    exact ⟨rfl, D⟩
  · go_enter Try.func4, Try.ntmps4
    go_wp2
    go_ret
    exact ⟨rfl, Below.refl _ _⟩

set_option maxRecDepth 100000 in
theorem lifted (os : Os) (started : os.Started) (H : Type) (enc : TypeId × Value → H) :
    ReturnsInHanded {} Try.checked os 4 .any (Rows.fnInvertSpec.pre6 enc Try.prog Try.f4 Rows.fnInvertRow.domain false) (Rows.fnInvertSpec.post enc Try.prog Try.f4 false true false false) := by
  refine returnsInHanded_of_change (C := Try.checked) own started (by kernel_rfl) Try.func4
    (ChangeSpec.witness6 (enc := enc) (C := Try.checked) false ⟨#[], #[.slice none 0 0], []⟩ 8 (by kernel_rfl) (by kernel_rfl) (by kernel_rfl) (by kernel_rfl)) ?_
  intro W base args ds gs before hval0 hW hcnd _
  have hval : ∀ (j : Nat) t v, Try.f4.params[j]? = some t → args[j]? = some v → Value.okWide Try.prog W .any base t v := hval0
  have hW' := hW
  obtain ⟨p, q, hA0, hV, rfl, hfz, hnd⟩ := hW
  have hA : DataW.TrodAll enc Try.prog W 0 (fun _ => true) true Try.f4.params.toList args.toList ds p := hA0
  rw [Try.params4] at hA hval
  obtain ⟨v0, vs0, x0, xs0, q0, r0, hargs, rfl, rfl, h0, t0⟩ := trodAll_cons hA
  obtain ⟨rfl, rfl, rfl⟩ := trodAll_nil t0
  obtain rfl : args = #[v0] := by cases args; simp_all
  obtain ⟨rfl, rfl⟩ := trodVars_none hV
  have k0 := h0
  have lt0 : ∀ x ∈ q0, x.block < W.heap.size := by obtain ⟨m, hm⟩ := k0; exact DataW.trod_lt m _ _ _ hm
  obtain ⟨B0, n0, d0, rfl⟩ := okWide_slice Try.underlying22 (hval 0 22 v0 rfl rfl)
  obtain ⟨f0, hf0⟩ := h0
  obtain ⟨A0, c0, zs0, e0, w0, l0, b0⟩ := read_bytes hf0
  obtain ⟨rfl, rfl, rfl⟩ : B0 = A0 ∧ n0 = zs0.length ∧ d0 = c0 := by simpa [Value.cells] using e0
  clear hA0 hval0
  refine (walk B0 d0 zs0 W w0 l0 b0).mono fun e W' ⟨he, bel⟩ => ?_
  subst he
  exact ⟨_, rfl, _, _, _, [], _, [], hW', trodAll_mk1 (shut_bool Try.underlying4 _), (trodAll_cons_mk (Below.trod laidOut (by kernel_rfl) (of_decide_eq_true (by kernel_rfl)) k0 bel lt0) trodAll_mk0), rfl, bel.frame _, fun h => by cases h⟩

theorem over : Rows.fnInvertRow.holds Try.pinned (OpenSpec.ofChange Rows.fnInvertSpec) :=
  OpenClaim.holds_of_wide 4 Try.f4 rfl rfl rfl rfl rfl rfl rfl ⟨rfl, rfl, rfl, rfl, rfl⟩ rfl rfl rfl rfl rfl (by kernel_rfl) Try.func4 (by kernel_rfl)
    (of_decide_eq_true (by kernel_rfl)) (by unfold Func.isWrapper; first | (rw [if_pos (by decide +kernel)]; kernel_rfl) | (rw [if_neg (by decide +kernel)]; exact ⟨rfl, rfl⟩))
    (fun os started H enc _ => lifted os started H enc)

theorem proved : Rows.FnInvertSaid := over
end Go.Proofs.Ytihajkppeiainaa.fnInvert
