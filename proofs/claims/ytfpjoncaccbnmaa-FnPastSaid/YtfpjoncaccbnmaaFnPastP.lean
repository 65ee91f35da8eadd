/-
  Proved: for every argument (bytes of a draw), the law FnPast of this seat's translation returns true (transforming an operation past several ones is consistent with transforming these past it); no conditions.
-/
import Derived.Test.YtfpjoncaccbnmaaRows
import Derived.Test.YtfpjoncaccbnmaaM1
import Derived.WalkKit
import Derived.ProofKit
import Derived.OpenShut
import Derived.ShutString
import Derived.ChangeOld
import Derived.Below
import Derived.Test.YtfpjoncaccbnmaaM4
import Derived.Test.YtfpjoncaccbnmaaM5
namespace Go.Proofs.Ytfpjoncaccbnmaa.fnPast
open Go.ChangeShapes Go.WideShapes Go.ChangeAt Go.RowKit
open Go.ChangeMaps (open_string shut_string)
open low
set_option linter.unusedVariables false

theorem own : ownKnob Try.prog.godebug = none := by kernel_rfl
set_option maxRecDepth 100000 in
set_option maxHeartbeats 6400000 in
theorem walk (A0 : Option Addr) (c0 : Nat) (zs0 : List Int) (w : World) (w0 : Row (Value.int .u8) w w.heap.size A0 zs0) (l0 : zs0.length ≤ maxLen) (b0 : ∀ z ∈ zs0, 0 ≤ z ∧ z < 256) :
    Calls Try.prog 4 #[.slice A0 zs0.length c0] w fun e w' => e = .returned (.bool true) ∧ Below w.heap.size w w' := by
  by_cases hl : zs0.length ≤ 1048576
  · skip
    have hc : Code8 w (.slice A0 zs0.length c0) := ⟨A0, c0, zs0, rfl, hl, w0, b0⟩
    go_enter Try.func4, Try.ntmps4
    go_wp2_with fail
    refine (specMakeList_d _ w hc).mono ?_
    rintro e w1 ⟨t, l, b, v1, v2, v3, rfl, ht, tl, hch, hll, hend, hb, sb, sb2, pb, sml, smb, r1, r2, r3, D⟩
    obtain ⟨m1, m2, m3, m4, m5, m6, m7, m8, m9, m10, m11, m12⟩ := past_ok ht hch hll hb sb sb2
    have smt := smI_text ht
    have smp := smI_text m5
    have smq := smI_text m6
    have smy := smP_op m4
    have smxs := m11
    have smu := smI_text m12
    have HO := Lib.hid m1
    have HA := Lib.hid m2
    have HF := Lib.hid m3
    have HB := Lib.hid m7
    have HA2 := Lib.hid m8
    have HE := Lib.hid m9.symm
    have HL := Lib.hid m10
    clear m1 m2 m3 m4 m5 m6 m7 m8 m9 m10 m11 m12 ht tl hch hll hend hb sb sb2 pb
    obtain ⟨A1, c1, rfl⟩ := sliceI r1
    obtain ⟨A2, c2, rfl⟩ := slicePP r2
    obtain ⟨A3, c3, rfl⟩ := sliceP r3
    go_wp2_with fail
    refine (implPast_d _ _ l b _ r2 r3 sml smb).mono ?_
    rw [HO.out]
    rintro e w11 ⟨v11, rfl, o11, b11⟩
    obtain ⟨A11, c11, rfl⟩ := sliceP o11.read
    replace D := D.trans (b11.mono D.size)
    replace r1 := r1.past b11
    replace r2 := r2.past b11
    replace r3 := r3.past b11
    have ry := o11.read
    clear o11 b11
    go_wp2_with fail
    refine (implPastAll_d _ _ l b _ r2 r3 sml smb).mono ?_
    rw [HO.out]
    rintro e w12 ⟨v12, rfl, o12, b12⟩
    obtain ⟨A12, c12, rfl⟩ := slicePP o12.read
    replace D := D.trans (b12.mono D.size)
    replace r1 := r1.past b12
    replace r2 := r2.past b12
    replace r3 := r3.past b12
    replace ry := ry.past b12
    have rxs := o12.read
    clear o12 b12
    go_wp2_with fail
    refine (implApplyAll_d _ _ l t _ r2 r1 sml smt).mono ?_
    rw [HA.out]
    rintro e w13 ⟨v13, rfl, o13, b13⟩
    obtain ⟨A13, c13, rfl⟩ := sliceI o13.read
    replace D := D.trans (b13.mono D.size)
    replace r1 := r1.past b13
    replace r2 := r2.past b13
    replace r3 := r3.past b13
    replace ry := ry.past b13
    replace rxs := rxs.past b13
    have rp := o13.read
    clear o13 b13
    go_wp2_with fail
    refine (implApply_d _ _ (pastT l b) (applyAllT l t) _ ry rp smy smp).mono ?_
    rw [HF.out]
    rintro e w14 ⟨v14, rfl, o14, b14⟩
    obtain ⟨A14, c14, rfl⟩ := sliceI o14.read
    replace D := D.trans (b14.mono D.size)
    replace r1 := r1.past b14
    replace r2 := r2.past b14
    replace r3 := r3.past b14
    replace ry := ry.past b14
    replace rxs := rxs.past b14
    replace rp := rp.past b14
    have ru := o14.read
    clear o14 b14
    go_wp2_with fail
    refine (implApply_d _ _ b t _ r3 r1 smb smt).mono ?_
    rw [HB.out]
    rintro e w15 ⟨v15, rfl, o15, b15⟩
    obtain ⟨A15, c15, rfl⟩ := sliceI o15.read
    replace D := D.trans (b15.mono D.size)
    replace r1 := r1.past b15
    replace r2 := r2.past b15
    replace r3 := r3.past b15
    replace ry := ry.past b15
    replace rxs := rxs.past b15
    replace rp := rp.past b15
    replace ru := ru.past b15
    have rq := o15.read
    clear o15 b15
    go_wp2_with fail
    refine (implApplyAll_d _ _ (pastAllT l b) (applyT b t) _ rxs rq smxs smq).mono ?_
    rw [HA2.out]
    rintro e w16 ⟨v16, rfl, o16, b16⟩
    obtain ⟨A16, c16, rfl⟩ := sliceI o16.read
    replace D := D.trans (b16.mono D.size)
    replace r1 := r1.past b16
    replace r2 := r2.past b16
    replace r3 := r3.past b16
    replace ry := ry.past b16
    replace rxs := rxs.past b16
    replace rp := rp.past b16
    replace ru := ru.past b16
    replace rq := rq.past b16
    have rv := o16.read
    clear o16 b16
    have hle : ((pastAllT l b).length == l.length) = true := by rw [HL.out]; simp
    have hle2 : (((pastAllT l b).length : Int) == (l.length : Int)) = true := by rw [HL.out]; simp
    go_wp2_with fail
    refine (signsSame_t _ _ _ _ _ ru rv smu HE.out).mono ?_
    rintro e w17 ⟨rfl, b17⟩
    replace D := D.trans (b17.mono D.size)
    replace r1 := r1.past b17
    replace r2 := r2.past b17
    replace r3 := r3.past b17
    replace ry := ry.past b17
    replace rxs := rxs.past b17
    replace rp := rp.past b17
    replace ru := ru.past b17
    replace rq := rq.past b17
    replace rv := rv.past b17
    clear b17
    go_wp2
    go_ret
    exact ⟨rfl, D⟩
  · go_enter Try.func4, Try.ntmps4
    go_wp2
    go_ret
    exact ⟨rfl, Below.refl _ _⟩

set_option maxRecDepth 100000 in
theorem lifted (os : Os) (started : os.Started) (H : Type) (enc : TypeId × Value → H) :
    ReturnsInHanded {} Try.checked os 4 .any (Rows.fnPastSpec.pre6 enc Try.prog Try.f4 Rows.fnPastRow.domain false) (Rows.fnPastSpec.post enc Try.prog Try.f4 false true false false) := by
  refine returnsInHanded_of_change (C := Try.checked) own started (by kernel_rfl) Try.func4
    (ChangeSpec.witness6 (enc := enc) (C := Try.checked) false ⟨#[], #[.slice none 0 0], []⟩ 8 (by kernel_rfl) (by kernel_rfl) (by kernel_rfl) (by kernel_rfl)) ?_
  intro W base args ds gs before hval0 hW hcnd _
  have hval : ∀ (j : Nat) t v, Try.f4.params[j]? = some t → args[j]? = some v → Value.okWide Try.prog W .any base t v := hval0
  have hW' := hW
  obtain ⟨p, q, hA0, hV, rfl, hfz, hnd⟩ := hW
  have hA : DataW.TrodAll enc Try.prog W 0 (fun _ => true) true Try.f4.params.toList args.toList ds p := hA0
  rw [Try.params4] at hA hval
  obtain ⟨v0, vs0, x0, xs0, q0, r0, hargs, rfl, rfl, h0, t0⟩ := trodAll_cons hA
  obtain ⟨rfl, rfl, rfl⟩ := trodAll_nil t0
  obtain rfl : args = #[v0] := by cases args; simp_all
  obtain ⟨rfl, rfl⟩ := trodVars_none hV
  have k0 := h0
  have lt0 : ∀ x ∈ q0, x.block < W.heap.size := by obtain ⟨m, hm⟩ := k0; exact DataW.trod_lt m _ _ _ hm
  obtain ⟨B0, n0, d0, rfl⟩ := okWide_slice Try.underlying22 (hval 0 22 v0 rfl rfl)
  obtain ⟨f0, hf0⟩ := h0
  obtain ⟨A0, c0, zs0, e0, w0, l0, b0⟩ := read_bytes hf0
  obtain ⟨rfl, rfl, rfl⟩ : B0 = A0 ∧ n0 = zs0.length ∧ d0 = c0 := by simpa [Value.cells] using e0
  clear hA0 hval0
  refine (walk B0 d0 zs0 W w0 l0 b0).mono fun e W' ⟨he, bel⟩ => ?_
  subst he
  exact ⟨_, rfl, _, _, _, [], _, [], hW', trodAll_mk1 (shut_bool Try.underlying4 _), (trodAll_cons_mk (Below.trod laidOut (by kernel_rfl) (of_decide_eq_true (by kernel_rfl)) k0 bel lt0) trodAll_mk0), rfl, bel.frame _, fun h => by cases h⟩

theorem over : Rows.fnPastRow.holds Try.pinned (OpenSpec.ofChange Rows.fnPastSpec) :=
  OpenClaim.holds_of_wide 4 Try.f4 rfl rfl rfl rfl rfl rfl rfl ⟨rfl, rfl, rfl, rfl, rfl⟩ rfl rfl rfl rfl rfl (by kernel_rfl) Try.func4 (by kernel_rfl)
    (of_decide_eq_true (by kernel_rfl)) (by unfold Func.isWrapper; first | (rw [if_pos (by decide +kernel)]; kernel_rfl) | (rw [if_neg (by decide +kernel)]; exact ⟨rfl, rfl⟩))
    (fun os started H enc _ => lifted os started H enc)

theorem proved : Rows.FnPastSaid := over
end Go.Proofs.Ytfpjoncaccbnmaa.fnPast
