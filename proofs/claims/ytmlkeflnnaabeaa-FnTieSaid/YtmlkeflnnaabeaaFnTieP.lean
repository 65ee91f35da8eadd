/-
  Proved: for every argument (bytes of a draw), the law FnTie of this seat's translation returns true (if two operations insert at the same position, the characters of the first one come first, and both are present); no conditions.
-/
import Derived.Test.YtmlkeflnnaabeaaRows
import Derived.Test.YtmlkeflnnaabeaaM1
import Derived.WalkKit
import Derived.ProofKit
import Derived.OpenShut
import Derived.ShutString
import Derived.ChangeOld
import Derived.Below
import Derived.Test.YtmlkeflnnaabeaaM3
import Derived.Test.YtmlkeflnnaabeaaM4
import Derived.Test.YtmlkeflnnaabeaaM5
namespace Go.Proofs.Ytmlkeflnnaabeaa.fnTie
open Go.ChangeShapes Go.WideShapes Go.ChangeAt Go.RowKit
open Go.ChangeMaps (open_string shut_string)
open low
set_option linter.unusedVariables false

theorem own : ownKnob Try.prog.godebug = none := by kernel_rfl
set_option maxRecDepth 100000 in
set_option maxHeartbeats 1600000 in
theorem walk (A0 : Option Addr) (c0 : Nat) (zs0 : List Int) (w : World) (w0 : Row (Value.int .u8) w w.heap.size A0 zs0) (l0 : zs0.length ≤ maxLen) (b0 : ∀ z ∈ zs0, 0 ≤ z ∧ z < 256) :
    Calls Try.prog 3 #[.slice A0 zs0.length c0] w fun e w' => e = .returned (.bool true) ∧ Below w.heap.size w w' := by
  by_cases hl : zs0.length ≤ 1048576
  · skip
    have hc : Code8 w (.slice A0 zs0.length c0) := ⟨A0, c0, zs0, rfl, hl, w0, b0⟩
    have D : Below w.heap.size w w := Below.refl _ _
    go_enter Try.func3, Try.ntmps3
    go_wp2_with fail
    refine (specMakeText_d _ 1 _ hc).mono ?_
    rintro e w11 ⟨t, v11, rfl, okt, lt, rt, b11⟩
    obtain ⟨A11, c11, rfl⟩ := sliceI rt
    replace D := D.trans (b11.mono D.size)
    replace hc := hc.past b11
    clear b11
    go_wp2_with fail
    refine (specMakeNum_d _ ((t.length : Int) + 1) _ hc (by omega)).mono ?_
    rintro e w12 ⟨x_, rfl, x0, x1, b12⟩
    obtain ⟨x, rfl⟩ := Int.eq_ofNat_of_zero_le x0
    replace D := D.trans (b12.mono D.size)
    replace rt := rt.past b12
    clear b12 hc
    have hx : x ≤ t.length := by have := x1 (by omega); omega
    obtain ⟨m1, m2, m3, m4, m5, m6, m7, m8⟩ := tie_ok okt lt hx
    obtain ⟨n1, n2, n3, n4⟩ := tie_text hx
    have smt := smI_text okt
    have q1 := opAtT_bulk (t.length : Int) (x : Int) 0 [65, 66]
    have q2 := xformB_bulk (opAtT (t.length : Int) (x : Int) [65, 66] 0) (opAtT (t.length : Int) (x : Int) [90] 0)
    generalize t.take x ++ ([65, 66] ++ ([90] ++ t.drop x)) = u at *
    obtain ⟨a, ha⟩ : ∃ a, opAtT (t.length : Int) (x : Int) [65, 66] 0 = a := ⟨_, rfl⟩
    obtain ⟨b, hb⟩ : ∃ b, opAtT (t.length : Int) (x : Int) [90] 0 = b := ⟨_, rfl⟩
    rw [ha] at m3 m4 m6 m7 m8 q1 q2
    rw [hb] at m3 m5 m6 m7 m8 q2
    obtain ⟨y, hy⟩ : ∃ y, xformB a b = y := ⟨_, rfl⟩
    obtain ⟨z, hz⟩ : ∃ z, xformA a b = z := ⟨_, rfl⟩
    rw [hy] at m6 m7 m8 q2
    have smu : SmPP [a, y] := pss_small m4 m6 (by omega)
    have HB1 := Lib.hid m1
    have HB2 := Lib.hid m2
    have HX := Lib.hid m3
    have HAA := Lib.hid m7
    have HU := Lib.hid m8
    have HA := Lib.hid ha
    have HB := Lib.hid hb
    have HY := Lib.hid hy
    have HZ := Lib.hid hz
    have HL := Lib.hid n1
    have N2 := Lib.hid n2
    have N3 := Lib.hid n3
    have N4 := Lib.hid n4
    clear m1 m2 m3 m7 m8 n1 n2 n3 n4 ha hb hy hz q1 q2 okt x0 x1
    go_wp2_with fail
    have bl12 := alloc_below w12 (.cells #[.int .i64 65, .int .i64 66] 3)
    replace D := D.trans (bl12.mono D.size)
    replace rt := rt.past bl12
    refine (implPutAt_d _ (t.length : Int) (x : Int) [65, 66] _ (rd_ints (c := 2) (row_two w12 65 66 3) (by simp)) (by unfold SmI; simp) (by omega)).mono ?_
    rw [HB1.out, HA.out]
    rintro e w13 ⟨v13, rfl, o13, b13⟩
    obtain ⟨A13, c13, rfl⟩ := sliceP o13.read
    replace D := D.trans (b13.mono D.size)
    replace rt := rt.past b13
    have ra := o13.read
    clear o13 b13 bl12
    go_wp2_with fail
    have bl13 := alloc_below w13 (.cells #[.int .i64 90] 3)
    replace D := D.trans (bl13.mono D.size)
    replace rt := rt.past bl13
    replace ra := ra.past bl13
    refine (implPutAt_d _ (t.length : Int) (x : Int) [90] _ (rd_ints (c := 1) (row_one w13 90 3) (by simp)) (by unfold SmI; simp) (by omega)).mono ?_
    rw [HB2.out, HB.out]
    rintro e w14 ⟨v14, rfl, o14, b14⟩
    obtain ⟨A14, c14, rfl⟩ := sliceP o14.read
    replace D := D.trans (b14.mono D.size)
    replace rt := rt.past b14
    replace ra := ra.past b14
    have rb := o14.read
    clear o14 b14 bl13
    go_wp2_with fail
    refine (implTransform_d _ _ a b _ ra rb m4 m5).mono ?_
    rw [HX.out, HY.out, HZ.out]
    rintro e w15 ⟨x15, y15, kx15, ky15, rfl, ox15, oy15, _, b15⟩
    obtain ⟨Ax15, cx15, rfl⟩ := sliceP ox15.read
    obtain ⟨Ay15, cy15, rfl⟩ := sliceP oy15.read
    replace D := D.trans (b15.mono D.size)
    replace rt := rt.past b15
    replace ra := ra.past b15
    replace rb := rb.past b15
    have rz := ox15.read
    have ry := oy15.read
    clear ox15 oy15 b15
    go_wp2_with fail
    have RA := ra
    have RY := ry
    have bl15 := alloc_below w15 (.cells #[.slice A13 a.length c13, .slice Ay15 y.length cy15] 26)
    replace D := D.trans (bl15.mono D.size)
    replace rt := rt.past bl15
    replace ra := ra.past bl15
    replace rb := rb.past bl15
    replace rz := rz.past bl15
    replace ry := ry.past bl15
    refine (implApplyAll_d _ _ [a, y] t _ (pss_two _ RA RY) rt smu smt).mono ?_
    rw [HAA.out, HU.out]
    rintro e w16 ⟨v16, rfl, o16, b16⟩
    obtain ⟨A16, c16, rfl, hrow, _⟩ := ints_rd o16.read
    replace D := D.trans (b16.mono D.size)
    have hne : ((u.length : Int) != ((t.length : Int) + 3)) = false := by rw [HL.out]; simp
    have hul : t.length + 3 ≤ u.length := by rw [HL.out]; omega
    obtain ⟨ad, rfl, hbk, hcs⟩ := hrow (by omega)
    have q0 := hcs x 65 N2.out
    have q1 := hcs (x + 1) 66 N3.out
    have q2 := hcs (x + 2) 90 N4.out
    have i0 : x < u.length := by omega
    have i1 : x + 1 < u.length := by omega
    have i2 : x + 2 < u.length := by omega
    have i3 : (x : Int) + 1 < (u.length : Int) := by omega
    have i4 : (x : Int) + 2 < (u.length : Int) := by omega
    obtain ⟨z0, hz0⟩ : ∃ z, u[0]? = some z := ⟨u[0], List.getElem?_eq_getElem (by omega)⟩
    have hsp : ad.spot = none := World.cell?_spot (show _ = some (Value.int .i64 z0) from hcs 0 z0 hz0)
    obtain ⟨bk, off, spot⟩ := ad
    simp only at hsp
    subst hsp
    clear hz0
    rw [add_at] at q0 q1 q2
    have e1 : ((x : Int) + 1).toNat = x + 1 := by omega
    have e2 : ((x : Int) + 2).toNat = x + 2 := by omega
    clear hcs hrow rt ra rb ry rz RA RY
    go_wp2
    go_ret
    exact ⟨rfl, D⟩
  · go_enter Try.func3, Try.ntmps3
    go_wp2
    go_ret
    exact ⟨rfl, Below.refl _ _⟩

set_option maxRecDepth 100000 in
theorem lifted (os : Os) (started : os.Started) (H : Type) (enc : TypeId × Value → H) :
    ReturnsInHanded {} Try.checked os 3 .any (Rows.fnTieSpec.pre6 enc Try.prog Try.f3 Rows.fnTieRow.domain false) (Rows.fnTieSpec.post enc Try.prog Try.f3 false true false false) := by
  refine returnsInHanded_of_change (C := Try.checked) own started (by kernel_rfl) Try.func3
    (ChangeSpec.witness6 (enc := enc) (C := Try.checked) false ⟨#[], #[.slice none 0 0], []⟩ 8 (by kernel_rfl) (by kernel_rfl) (by kernel_rfl) (by kernel_rfl)) ?_
  intro W base args ds gs before hval0 hW hcnd _
  have hval : ∀ (j : Nat) t v, Try.f3.params[j]? = some t → args[j]? = some v → Value.okWide Try.prog W .any base t v := hval0
  have hW' := hW
  obtain ⟨p, q, hA0, hV, rfl, hfz, hnd⟩ := hW
  have hA : DataW.TrodAll enc Try.prog W 0 (fun _ => true) true Try.f3.params.toList args.toList ds p := hA0
  rw [Try.params3] at hA hval
  obtain ⟨v0, vs0, x0, xs0, q0, r0, hargs, rfl, rfl, h0, t0⟩ := trodAll_cons hA
  obtain ⟨rfl, rfl, rfl⟩ := trodAll_nil t0
  obtain rfl : args = #[v0] := by cases args; simp_all
  obtain ⟨rfl, rfl⟩ := trodVars_none hV
  have k0 := h0
  have lt0 : ∀ x ∈ q0, x.block < W.heap.size := by obtain ⟨m, hm⟩ := k0; exact DataW.trod_lt m _ _ _ hm
  obtain ⟨B0, n0, d0, rfl⟩ := okWide_slice Try.underlying22 (hval 0 22 v0 rfl rfl)
  obtain ⟨f0, hf0⟩ := h0
  obtain ⟨A0, c0, zs0, e0, w0, l0, b0⟩ := read_bytes hf0
  obtain ⟨rfl, rfl, rfl⟩ : B0 = A0 ∧ n0 = zs0.length ∧ d0 = c0 := by simpa [Value.cells] using e0
  clear hA0 hval0
  refine (walk B0 d0 zs0 W w0 l0 b0).mono fun e W' ⟨he, bel⟩ => ?_
  subst he
  exact ⟨_, rfl, _, _, _, [], _, [], hW', trodAll_mk1 (shut_bool Try.underlying4 _), (trodAll_cons_mk (Below.trod laidOut (by kernel_rfl) (of_decide_eq_true (by kernel_rfl)) k0 bel lt0) trodAll_mk0), rfl, bel.frame _, fun h => by cases h⟩

theorem over : Rows.fnTieRow.holds Try.pinned (OpenSpec.ofChange Rows.fnTieSpec) :=
  OpenClaim.holds_of_wide 3 Try.f3 rfl rfl rfl rfl rfl rfl rfl ⟨rfl, rfl, rfl, rfl, rfl⟩ rfl rfl rfl rfl rfl (by kernel_rfl) Try.func3 (by kernel_rfl)
    (of_decide_eq_true (by kernel_rfl)) (by unfold Func.isWrapper; first | (rw [if_pos (by decide +kernel)]; kernel_rfl) | (rw [if_neg (by decide +kernel)]; exact ⟨rfl, rfl⟩))
    (fun os started H enc _ => lifted os started H enc)

theorem proved : Rows.FnTieSaid := over
end Go.Proofs.Ytmlkeflnnaabeaa.fnTie
