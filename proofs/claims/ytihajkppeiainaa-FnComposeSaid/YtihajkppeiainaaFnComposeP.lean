/-
  Proved: for every argument (bytes of a draw), the law FnCompose of this seat's translation returns true (composition is associative and has the effect of applying the operations in order); no conditions.
-/
import Derived.Test.YtihajkppeiainaaRows
import Derived.Test.YtihajkppeiainaaM1
import Derived.WalkKit
import Derived.ProofKit
import Derived.OpenShut
import Derived.ShutString
import Derived.ChangeOld
import Derived.Below
import Derived.Test.YtihajkppeiainaaM4
namespace Go.Proofs.Ytihajkppeiainaa.fnCompose
open Go.ChangeShapes Go.WideShapes Go.ChangeAt Go.RowKit
open Go.ChangeMaps (open_string shut_string)
open low
set_option linter.unusedVariables false

theorem own : ownKnob Try.prog.godebug = none := by kernel_rfl
set_option maxRecDepth 100000 in
set_option maxHeartbeats 6400000 in
theorem walk (A0 : Option Addr) (c0 : Nat) (zs0 : List Int) (w : World) (w0 : Row (Value.int .u8) w w.heap.size A0 zs0) (l0 : zs0.length ≤ maxLen) (b0 : ∀ z ∈ zs0, 0 ≤ z ∧ z < 256) :
    Calls Try.prog 3 #[.slice A0 zs0.length c0] w fun e w' => e = .returned (.bool true) ∧ Below w.heap.size w w' := by
  by_cases hl : zs0.length ≤ 1048576
  · skip
    have hc : Code8 w (.slice A0 zs0.length c0) := ⟨A0, c0, zs0, rfl, hl, w0, b0⟩
    go_enter Try.func3, Try.ntmps3
    go_wp2_with fail
    refine (specMakeList_d _ w hc).mono ?_
    rintro e w1 ⟨t, l, b, v1, v2, v3, rfl, ht, tl, hch, hll, hend, hb, sb, sb2, pb, sml, smb, r1, r2, r3, D⟩
    obtain ⟨m1, m2, m3, m4, m5, m6, m7⟩ := composeAll_ok ht hch
    have smt := smI_text ht
    have smp := smI_text m7
    have sma := smP_op m5
    have HO := Lib.hid m1
    have HA := Lib.hid m2
    have HF := Lib.hid m3
    have HE := Lib.hid m4
    have HX := Lib.hid (And.intro m5 m6)
    have HCH := Lib.hid hch
    clear m1 m2 m3 m4 m5 m6 m7 ht tl hch hll hend hb sb sb2 pb
    obtain ⟨A1, c1, rfl⟩ := sliceI r1
    obtain ⟨A2, c2, rfl⟩ := slicePP r2
    obtain ⟨A3, c3, rfl⟩ := sliceP r3
    clear r3
    go_wp2_with fail
    refine (implComposeAll_d _ l (t.length : Int) _ r2 sml).mono ?_
    rw [HO.out]
    rintro e w11 ⟨v11, rfl, o11, b11⟩
    obtain ⟨A11, c11, rfl⟩ := sliceP o11.read
    replace D := D.trans (b11.mono D.size)
    replace r1 := r1.past b11
    replace r2 := r2.past b11
    have ra := o11.read
    clear o11 b11
    go_wp2_with fail
    refine (implApplyAll_d _ _ l t _ r2 r1 sml smt).mono ?_
    rw [HA.out]
    rintro e w12 ⟨v12, rfl, o12, b12⟩
    obtain ⟨A12, c12, rfl⟩ := sliceI o12.read
    replace D := D.trans (b12.mono D.size)
    replace r1 := r1.past b12
    replace r2 := r2.past b12
    replace ra := ra.past b12
    have rp := o12.read
    clear o12 b12
    go_wp2_with fail
    refine (implApply_d _ _ (composeAllT l (t.length : Int)) t _ ra r1 sma smt).mono ?_
    rw [HF.out]
    rintro e w13 ⟨v13, rfl, o13, b13⟩
    obtain ⟨A13, c13, rfl⟩ := sliceI o13.read
    replace D := D.trans (b13.mono D.size)
    replace r1 := r1.past b13
    replace r2 := r2.past b13
    replace ra := ra.past b13
    replace rp := rp.past b13
    have rq := o13.read
    clear o13 b13
    go_wp2_with fail
    refine (signsSame_t _ _ _ _ _ rp rq smp HE.out).mono ?_
    rintro e w14 ⟨rfl, b14⟩
    replace D := D.trans (b14.mono D.size)
    replace r1 := r1.past b14
    replace r2 := r2.past b14
    replace ra := ra.past b14
    replace rp := rp.past b14
    replace rq := rq.past b14
    clear b14
    go_wp2_with fail
    refine (isNorm_t _ _ _ ra sma HX.out.1 HX.out.2).mono ?_
    rintro e w15 ⟨rfl, b15⟩
    replace D := D.trans (b15.mono D.size)
    replace r1 := r1.past b15
    replace r2 := r2.past b15
    replace ra := ra.past b15
    replace rp := rp.past b15
    replace rq := rq.past b15
    clear b15
    by_cases h3 : l.length < 3
    · go_wp2
      go_ret
      exact ⟨rfl, D⟩
    have n0 : 0 < l.length := by omega
    have n1 : 1 < l.length := by omega
    have n2 : 2 < l.length := by omega
    obtain ⟨ad, l0, B0, d0, rfl, hb0, e0, hc0, rd0⟩ := pss_at r2 n0
    obtain ⟨ad1, l1, B1, d1, ea1, hb1, e1, hc1, rd1⟩ := pss_at r2 n1
    obtain ⟨ad2, l2, B2, d2, ea2, hb2, e2, hc2, rd2⟩ := pss_at r2 n2
    injection ea1 with ea1
    injection ea2 with ea2
    subst ea1
    subst ea2
    rw [show ad.add 0 = ad from rfl] at hc0
    obtain ⟨bk, off, spot⟩ := ad
    obtain rfl : spot = none := World.cell?_spot hc0
    rw [add_at] at hc1 hc2
    obtain ⟨q1, q3, q5, q4, q6⟩ := chain3 HCH.out e0 e1 e2
    obtain ⟨k1, k2, k3, k4, k5, k6, k7, k8⟩ := compose_ok q1 q3 q4
    obtain ⟨j1, j2, j3, j4, j5, j6, j7, j8⟩ := compose_ok q3 q5 q6
    obtain ⟨x1, x2, x3, x4⟩ := compose_ok k3 q5 (by omega)
    obtain ⟨y1, y2, y3, y4⟩ := compose_ok q1 j3 (by omega)
    have has := compose_assoc q1 q3 q5 q4 q6
    have s0 := smP_op q1
    have s1 := smP_op q3
    have s2 := smP_op q5
    have sk := smP_op k3
    have sj := smP_op j3
    have sx := smP_op x3
    have HK1 := Lib.hid k1
    have HJ1 := Lib.hid j1
    have HX1 := Lib.hid x1
    have HY1 := Lib.hid y1
    have HAS := Lib.hid has
    clear e0 e1 e2 q1 q3 q4 q5 q6 k1 k2 k3 k4 k5 k6 k7 k8 j1 j2 j3 j4 j5 j6 j7 j8 x1 x2 x3 x4 y1 y2 y3 y4 has h3
    have R0 := Lib.hid rd0
    have R1 := Lib.hid rd1
    have R2 := Lib.hid rd2
    have m0 : (0 : Int) < (l.length : Int) := by omega
    have m1 : (1 : Int) < (l.length : Int) := by omega
    have m2 : (2 : Int) < (l.length : Int) := by omega
    clear rd0 rd1 rd2
    go_wp2
    go_region_with (go_at_call 14; refine (implCompose_d _ _ l0 l1 _ (by exact R0.out.drewS) (by exact R1.out.drewS) s0 s1).mono ?_; rw [HK1.out]; rintro e w20 ⟨v20, rfl, o20, b20⟩; obtain ⟨A20, c20, rfl⟩ := sliceP o20.read; have O20 := Lib.hid o20; clear o20)
    all_goals
      replace D := D.drew.trans (b20.mono D.size)
      have R0 := Lib.hid (R0.out.drewS.past b20)
      have R1 := Lib.hid (R1.out.drewS.past b20)
      have R2 := Lib.hid (R2.out.drewS.past b20)
      replace hc0 := (b20.cell (p := ⟨bk, off, none⟩) hb0).trans hc0
      replace hc1 := (b20.cell (p := ⟨bk, off + 1, none⟩) hb0).trans hc1
      replace hc2 := (b20.cell (p := ⟨bk, off + 2, none⟩) hb0).trans hc2
      replace hb0 := Nat.lt_of_lt_of_le hb0 b20.size
      clear b20
      go_wp2_with fail
      refine (implCompose_d _ _ (composeT l0 l1) l2 _ O20.out.read R2.out sk s2).mono ?_
      rw [HX1.out]
      rintro e w21 ⟨v21, rfl, o21, b21⟩
      obtain ⟨A21, c21, rfl⟩ := sliceP o21.read
      have O21 := Lib.hid o21.read
      replace D := D.trans (b21.mono D.size)
      have R0 := Lib.hid (R0.out.past b21)
      have R1 := Lib.hid (R1.out.past b21)
      have R2 := Lib.hid (R2.out.past b21)
      replace hc0 := (b21.cell (p := ⟨bk, off, none⟩) hb0).trans hc0
      replace hc1 := (b21.cell (p := ⟨bk, off + 1, none⟩) hb0).trans hc1
      replace hc2 := (b21.cell (p := ⟨bk, off + 2, none⟩) hb0).trans hc2
      replace hb0 := Nat.lt_of_lt_of_le hb0 b21.size
      clear b21 o21
      go_wp2
      go_region_with (go_at_call 14; refine (implCompose_d _ _ l1 l2 _ (by exact R1.out.drewS) (by exact R2.out.drewS) s1 s2).mono ?_; rw [HJ1.out]; rintro e w22 ⟨v22, rfl, o22, b22⟩; obtain ⟨A22, c22, rfl⟩ := sliceP o22.read; have O22 := Lib.hid o22.read; clear o22)
    all_goals
      replace D := D.drew.trans (b22.mono D.size)
      have R0 := Lib.hid (R0.out.drewS.past b22)
      have O21 := Lib.hid (O21.out.drewS.past b22)
      replace hc0 := (b22.cell (p := ⟨bk, off, none⟩) hb0).trans hc0
      clear b22
      go_wp2_with fail
      refine (implCompose_d _ _ l0 (composeT l1 l2) _ R0.out O22.out s0 sj).mono ?_
      rw [HY1.out]
      rintro e w23 ⟨v23, rfl, o23, b23⟩
      obtain ⟨A23, c23, rfl⟩ := sliceP o23.read
      have O23 := Lib.hid o23.read
      replace D := D.trans (b23.mono D.size)
      have O21 := Lib.hid (O21.out.past b23)
      clear b23 o23
      go_wp2_with fail
      refine (opSame_t _ _ _ _ _ O21.out O23.out sx HAS.out).mono ?_
      rintro e w24 ⟨rfl, b24⟩
      replace D := D.trans (b24.mono D.size)
      clear b24
      go_wp2
      go_ret
      exact ⟨rfl, D⟩
  · go_enter Try.func3, Try.ntmps3
    go_wp2
    go_ret
    exact ⟨rfl, Below.refl _ _⟩

set_option maxRecDepth 100000 in
theorem lifted (os : Os) (started : os.Started) (H : Type) (enc : TypeId × Value → H) :
    ReturnsInHanded {} Try.checked os 3 .any (Rows.fnComposeSpec.pre6 enc Try.prog Try.f3 Rows.fnComposeRow.domain false) (Rows.fnComposeSpec.post enc Try.prog Try.f3 false true false false) := by
  refine returnsInHanded_of_change (C := Try.checked) own started (by kernel_rfl) Try.func3
    (ChangeSpec.witness6 (enc := enc) (C := Try.checked) false ⟨#[], #[.slice none 0 0], []⟩ 8 (by kernel_rfl) (by kernel_rfl) (by kernel_rfl) (by kernel_rfl)) ?_
  intro W base args ds gs before hval0 hW hcnd _
  have hval : ∀ (j : Nat) t v, Try.f3.params[j]? = some t → args[j]? = some v → Value.okWide Try.prog W .any base t v := hval0
  have hW' := hW
  obtain ⟨p, q, hA0, hV, rfl, hfz, hnd⟩ := hW
  have hA : DataW.TrodAll enc Try.prog W 0 (fun _ => true) true Try.f3.params.toList args.toList ds p := hA0
  rw [Try.params3] at hA hval
  obtain ⟨v0, vs0, x0, xs0, q0, r0, hargs, rfl, rfl, h0, t0⟩ := trodAll_cons hA
  obtain ⟨rfl, rfl, rfl⟩ := trodAll_nil t0
  obtain rfl : args = #[v0] := by cases args; simp_all
  obtain ⟨rfl, rfl⟩ := trodVars_none hV
  have k0 := h0
  have lt0 : ∀ x ∈ q0, x.block < W.heap.size := by obtain ⟨m, hm⟩ := k0; exact DataW.trod_lt m _ _ _ hm
  obtain ⟨B0, n0, d0, rfl⟩ := okWide_slice Try.underlying22 (hval 0 22 v0 rfl rfl)
  obtain ⟨f0, hf0⟩ := h0
  obtain ⟨A0, c0, zs0, e0, w0, l0, b0⟩ := read_bytes hf0
  obtain ⟨rfl, rfl, rfl⟩ : B0 = A0 ∧ n0 = zs0.length ∧ d0 = c0 := by simpa [Value.cells] using e0
  clear hA0 hval0
  refine (walk B0 d0 zs0 W w0 l0 b0).mono fun e W' ⟨he, bel⟩ => ?_
  subst he
  exact ⟨_, rfl, _, _, _, [], _, [], hW', trodAll_mk1 (shut_bool Try.underlying4 _), (trodAll_cons_mk (Below.trod laidOut (by kernel_rfl) (of_decide_eq_true (by kernel_rfl)) k0 bel lt0) trodAll_mk0), rfl, bel.frame _, fun h => by cases h⟩

theorem over : Rows.fnComposeRow.holds Try.pinned (OpenSpec.ofChange Rows.fnComposeSpec) :=
  OpenClaim.holds_of_wide 3 Try.f3 rfl rfl rfl rfl rfl rfl rfl ⟨rfl, rfl, rfl, rfl, rfl⟩ rfl rfl rfl rfl rfl (by kernel_rfl) Try.func3 (by kernel_rfl)
    (of_decide_eq_true (by kernel_rfl)) (by unfold Func.isWrapper; first | (rw [if_pos (by decide +kernel)]; kernel_rfl) | (rw [if_neg (by decide +kernel)]; exact ⟨rfl, rfl⟩))
    (fun os started H enc _ => lifted os started H enc)

theorem proved : Rows.FnComposeSaid := over
end Go.Proofs.Ytihajkppeiainaa.fnCompose
