/-
  Proved: for every argument (bytes of a draw), the law FnPlace of this seat's translation returns true (what is inserted at a position is found there, and deleting it restores the text); no conditions.
-/
import Derived.Test.YtmlkeflnnaabeaaRows
import Derived.Test.YtmlkeflnnaabeaaM1
import Derived.WalkKit
import Derived.ProofKit
import Derived.OpenShut
import Derived.ShutString
import Derived.ChangeOld
import Derived.Below
import Derived.Test.YtmlkeflnnaabeaaM3
import Derived.Test.YtmlkeflnnaabeaaM4
import Derived.Test.YtmlkeflnnaabeaaM5
namespace Go.Proofs.Ytmlkeflnnaabeaa.fnPlace
open Go.ChangeShapes Go.WideShapes Go.ChangeAt Go.RowKit
open Go.ChangeMaps (open_string shut_string)
open low
set_option linter.unusedVariables false

theorem own : ownKnob Try.prog.godebug = none := by kernel_rfl
set_option maxRecDepth 100000 in
set_option maxHeartbeats 1600000 in
theorem walk (A0 : Option Addr) (c0 : Nat) (zs0 : List Int) (w : World) (w0 : Row (Value.int .u8) w w.heap.size A0 zs0) (l0 : zs0.length ≤ maxLen) (b0 : ∀ z ∈ zs0, 0 ≤ z ∧ z < 256) :
    Calls Try.prog 5 #[.slice A0 zs0.length c0] w fun e w' => e = .returned (.bool true) ∧ Below w.heap.size w w' := by
  by_cases hl : zs0.length ≤ 1048576
  · skip
    have hc : Code8 w (.slice A0 zs0.length c0) := ⟨A0, c0, zs0, rfl, hl, w0, b0⟩
    have D : Below w.heap.size w w := Below.refl _ _
    go_enter Try.func5, Try.ntmps5
    go_wp2_with fail
    refine (specMakeText_d _ 1 _ hc).mono ?_
    rintro e w11 ⟨t, v11, rfl, okt, lt, rt, b11⟩
    obtain ⟨A11, c11, rfl⟩ := sliceI rt
    replace D := D.trans (b11.mono D.size)
    replace hc := hc.past b11
    clear b11
    go_wp2_with fail
    refine (specMakeText_d _ 2 _ hc).mono ?_
    rintro e w12 ⟨l, v12, rfl, okl, ll, rl, b12⟩
    obtain ⟨A12, c12, rfl⟩ := sliceI rl
    replace D := D.trans (b12.mono D.size)
    replace hc := hc.past b12
    replace rt := rt.past b12
    clear b12
    go_wp2_with fail
    refine (specMakeNum_d _ ((t.length : Int) + 1) _ hc (by omega)).mono ?_
    rintro e w13 ⟨x_, rfl, x0, x1, b13⟩
    obtain ⟨x, rfl⟩ := Int.eq_ofNat_of_zero_le x0
    replace D := D.trans (b13.mono D.size)
    replace rt := rt.past b13
    replace rl := rl.past b13
    clear b13 hc
    have hx : x ≤ t.length := by have := x1 (by omega); omega
    obtain ⟨m1, m2, m3, m4, m5, m6, m7, m8, m9, m10, m11, m12⟩ := place_ok okt okl lt ll hx
    generalize t.take x ++ (l ++ t.drop x) = p at *
    obtain ⟨o, ho⟩ : ∃ o, opAtT (t.length : Int) (x : Int) l 0 = o := ⟨_, rfl⟩
    obtain ⟨d, hd⟩ : ∃ d, opAtT ((t.length : Int) + (l.length : Int)) (x : Int) [] (l.length : Int) = d := ⟨_, rfl⟩
    rw [ho] at m2 m3 m9 m11
    rw [hd] at m7 m8 m10
    have HOO := Lib.hid ho
    have HDD := Lib.hid hd
    clear ho hd
    have smt := smI_text okt
    have sml := smI_text okl
    have smp := smI_text m4
    have HB1 := Lib.hid m1
    have HF1 := Lib.hid m2
    have HP := Lib.hid m3
    have HB2 := Lib.hid m6
    have HF2 := Lib.hid m7
    have HQ := Lib.hid m8
    have HC := Lib.hid m11
    have HW := Lib.hid m12
    have HPL := Lib.hid m5
    have HID := Lib.hid (idle_keep (n := t.length) (by omega))
    clear m1 m2 m3 m4 m5 m6 m7 m8 m11 m12 okt okl x0 x1
    go_wp2_with fail
    refine (implPutAt_d _ (t.length : Int) (x : Int) l _ rl sml (by omega)).mono ?_
    rw [HB1.out, HOO.out]
    rintro e w14 ⟨v14, rfl, o14, b14⟩
    obtain ⟨A14, c14, rfl⟩ := sliceP o14.read
    replace D := D.trans (b14.mono D.size)
    replace rt := rt.past b14
    replace rl := rl.past b14
    have ro := o14.read
    clear o14 b14
    go_wp2_with fail
    refine (implApply_d _ _ o t _ ro rt m9 smt).mono ?_
    rw [HF1.out, HP.out]
    rintro e w15 ⟨v15, rfl, o15, b15⟩
    obtain ⟨A15, c15, rfl⟩ := sliceI o15.read
    replace D := D.trans (b15.mono D.size)
    replace rt := rt.past b15
    replace rl := rl.past b15
    replace ro := ro.past b15
    have rp := o15.read
    clear o15 b15
    go_wp2_with fail
    refine (implDropAt_d ((t.length : Int) + (l.length : Int)) (x : Int) (l.length : Int) _ (by omega)).mono ?_
    rw [HB2.out, HDD.out]
    rintro e w16 ⟨v16, rfl, o16, b16⟩
    obtain ⟨A16, c16, rfl⟩ := sliceP o16.read
    replace D := D.trans (b16.mono D.size)
    replace rt := rt.past b16
    replace rl := rl.past b16
    replace ro := ro.past b16
    replace rp := rp.past b16
    have rd := o16.read
    clear o16 b16
    go_wp2_with fail
    refine (implApply_d _ _ d p _ rd rp m10 smp).mono ?_
    rw [HF2.out, HQ.out]
    rintro e w17 ⟨v17, rfl, o17, b17⟩
    obtain ⟨A17, c17, rfl⟩ := sliceI o17.read
    replace D := D.trans (b17.mono D.size)
    replace rt := rt.past b17
    replace rl := rl.past b17
    replace ro := ro.past b17
    replace rp := rp.past b17
    replace rd := rd.past b17
    have rq := o17.read
    clear o17 b17
    have hne : (((p.length : Nat) : Int) != ((t.length : Int) + (l.length : Int))) = false := by rw [HPL.out]; simp
    have hne2 : (p.length != (t.length + l.length)) = false := by rw [HPL.out]; simp
    go_wp2_with fail
    refine (signsSame_t _ _ _ _ _ rq rt smt rfl).mono ?_
    rintro e w18 ⟨rfl, b18⟩
    replace D := D.trans (b18.mono D.size)
    replace rt := rt.past b18
    replace rl := rl.past b18
    replace ro := ro.past b18
    replace rp := rp.past b18
    replace rd := rd.past b18
    replace rq := rq.past b18
    clear b18
    obtain ⟨A_, c_, eA, hrow, hcap⟩ := ints_rd rp
    obtain ⟨rfl, rfl⟩ : A15 = A_ ∧ c15 = c_ := by injection eA with e1 _ e3; exact ⟨e1, e3⟩
    clear eA rq rd
    have hpl : x + l.length ≤ p.length := by have := HPL.out; omega
    have hq0 : (countK o 3 == 0) = true := by rw [HC.out]; rfl
    cases A15 with
    | none =>
      have hp0 : p.length = 0 := by
        rcases Nat.eq_zero_or_pos p.length with h | h
        · exact h
        · obtain ⟨_, hn, _⟩ := hrow h
          cases hn
      obtain rfl : x = 0 := by omega
      obtain rfl : l = [] := List.eq_nil_of_length_eq_zero (by omega)
      clear hp0 hpl
      go_wp2_with fail
      refine (signsSame_t _ _ [] [] _ intsNil rl sml rfl).mono ?_
      rintro e w19 ⟨rfl, b19⟩
      replace D := D.trans (b19.mono D.size)
      replace ro := ro.past b19
      go_wp2_with fail
      refine (implPartCount_d _ o 3 _ ro m9).mono ?_
      rintro e w20 ⟨rfl, b20⟩
      replace D := D.trans (b20.mono D.size)
      generalize countK o 3 = q at *
      clear b19 b20
      go_wp2_with fail
      refine (implKeeping_any (t.length : Int) _).mono ?_
      rintro e w21 ⟨v21, rfl, p21, b21⟩
      have o21 := (own_parts p21).read
      obtain ⟨A21, c21, rfl⟩ := sliceP o21
      replace D := D.trans (b21.mono D.size)
      clear p21 b21
      go_wp2_with fail
      refine (implIdle_d _ _ _ o21 (keepL_small _)).mono ?_
      rw [HID.out]
      rintro e w22 ⟨rfl, b22⟩
      replace D := D.trans (b22.mono D.size)
      clear b22 o21
      go_wp2
      go_ret
      exact ⟨rfl, D⟩
    | some ad =>
      by_cases hac : x = c15
      · obtain rfl : l = [] := List.eq_nil_of_length_eq_zero (by omega)
        go_wp2_with fail
        refine (signsSame_t _ _ [] [] _ intsNil rl sml rfl).mono ?_
        rintro e w19 ⟨rfl, b19⟩
        replace D := D.trans (b19.mono D.size)
        replace ro := ro.past b19
        go_wp2_with fail
        refine (implPartCount_d _ o 3 _ ro m9).mono ?_
        rintro e w20 ⟨rfl, b20⟩
        replace D := D.trans (b20.mono D.size)
        generalize countK o 3 = q at *
        clear b19 b20
        go_wp2_with fail
        refine (implKeeping_any (t.length : Int) _).mono ?_
        rintro e w21 ⟨v21, rfl, p21, b21⟩
        have o21 := (own_parts p21).read
        obtain ⟨A21, c21, rfl⟩ := sliceP o21
        replace D := D.trans (b21.mono D.size)
        clear p21 b21
        go_wp2_with fail
        refine (implIdle_d _ _ _ o21 (keepL_small _)).mono ?_
        rw [HID.out]
        rintro e w22 ⟨rfl, b22⟩
        replace D := D.trans (b22.mono D.size)
        clear b22 o21
        go_wp2
        go_ret
        exact ⟨rfl, D⟩
      · have i1 : (0 : Int) ≤ (x : Int) := by omega
        have i2 : (x : Int) ≤ (x : Int) + (l.length : Int) := by omega
        have i3 : (x : Int) + (l.length : Int) ≤ (c15 : Int) := by omega
        have hpc := hrow.piece x l.length hpl
        rw [HW.out] at hpc
        have HPC := Lib.hid (rd_ints (c := c15 - x) hpc (by omega))
        clear hpc
        go_wp2_with fail
        refine (signsSame_t _ _ l l _ HPC.out rl sml rfl).mono ?_
        rintro e w19 ⟨rfl, b19⟩
        replace D := D.trans (b19.mono D.size)
        replace ro := ro.past b19
        go_wp2_with fail
        refine (implPartCount_d _ o 3 _ ro m9).mono ?_
        rintro e w20 ⟨rfl, b20⟩
        replace D := D.trans (b20.mono D.size)
        generalize countK o 3 = q at *
        clear b19 b20
        go_wp2_with fail
        refine (implKeeping_any (t.length : Int) _).mono ?_
        rintro e w21 ⟨v21, rfl, p21, b21⟩
        have o21 := (own_parts p21).read
        obtain ⟨A21, c21, rfl⟩ := sliceP o21
        replace D := D.trans (b21.mono D.size)
        clear p21 b21
        go_wp2_with fail
        refine (implIdle_d _ _ _ o21 (keepL_small _)).mono ?_
        rw [HID.out]
        rintro e w22 ⟨rfl, b22⟩
        replace D := D.trans (b22.mono D.size)
        clear b22 o21
        go_wp2
        go_ret
        exact ⟨rfl, D⟩
  · go_enter Try.func5, Try.ntmps5
    go_wp2
    go_ret
    exact ⟨rfl, Below.refl _ _⟩

set_option maxRecDepth 100000 in
theorem lifted (os : Os) (started : os.Started) (H : Type) (enc : TypeId × Value → H) :
    ReturnsInHanded {} Try.checked os 5 .any (Rows.fnPlaceSpec.pre6 enc Try.prog Try.f5 Rows.fnPlaceRow.domain false) (Rows.fnPlaceSpec.post enc Try.prog Try.f5 false true false false) := by
  refine returnsInHanded_of_change (C := Try.checked) own started (by kernel_rfl) Try.func5
    (ChangeSpec.witness6 (enc := enc) (C := Try.checked) false ⟨#[], #[.slice none 0 0], []⟩ 8 (by kernel_rfl) (by kernel_rfl) (by kernel_rfl) (by kernel_rfl)) ?_
  intro W base args ds gs before hval0 hW hcnd _
  have hval : ∀ (j : Nat) t v, Try.f5.params[j]? = some t → args[j]? = some v → Value.okWide Try.prog W .any base t v := hval0
  have hW' := hW
  obtain ⟨p, q, hA0, hV, rfl, hfz, hnd⟩ := hW
  have hA : DataW.TrodAll enc Try.prog W 0 (fun _ => true) true Try.f5.params.toList args.toList ds p := hA0
  rw [Try.params5] at hA hval
  obtain ⟨v0, vs0, x0, xs0, q0, r0, hargs, rfl, rfl, h0, t0⟩ := trodAll_cons hA
  obtain ⟨rfl, rfl, rfl⟩ := trodAll_nil t0
  obtain rfl : args = #[v0] := by cases args; simp_all
  obtain ⟨rfl, rfl⟩ := trodVars_none hV
  have k0 := h0
  have lt0 : ∀ x ∈ q0, x.block < W.heap.size := by obtain ⟨m, hm⟩ := k0; exact DataW.trod_lt m _ _ _ hm
  obtain ⟨B0, n0, d0, rfl⟩ := okWide_slice Try.underlying22 (hval 0 22 v0 rfl rfl)
  obtain ⟨f0, hf0⟩ := h0
  obtain ⟨A0, c0, zs0, e0, w0, l0, b0⟩ := read_bytes hf0
  obtain ⟨rfl, rfl, rfl⟩ : B0 = A0 ∧ n0 = zs0.length ∧ d0 = c0 := by simpa [Value.cells] using e0
  clear hA0 hval0
  refine (walk B0 d0 zs0 W w0 l0 b0).mono fun e W' ⟨he, bel⟩ => ?_
  subst he
  exact ⟨_, rfl, _, _, _, [], _, [], hW', trodAll_mk1 (shut_bool Try.underlying4 _), (trodAll_cons_mk (Below.trod laidOut (by kernel_rfl) (of_decide_eq_true (by kernel_rfl)) k0 bel lt0) trodAll_mk0), rfl, bel.frame _, fun h => by cases h⟩

theorem over : Rows.fnPlaceRow.holds Try.pinned (OpenSpec.ofChange Rows.fnPlaceSpec) :=
  OpenClaim.holds_of_wide 5 Try.f5 rfl rfl rfl rfl rfl rfl rfl ⟨rfl, rfl, rfl, rfl, rfl⟩ rfl rfl rfl rfl rfl (by kernel_rfl) Try.func5 (by kernel_rfl)
    (of_decide_eq_true (by kernel_rfl)) (by unfold Func.isWrapper; first | (rw [if_pos (by decide +kernel)]; kernel_rfl) | (rw [if_neg (by decide +kernel)]; exact ⟨rfl, rfl⟩))
    (fun os started H enc _ => lifted os started H enc)

theorem proved : Rows.FnPlaceSaid := over
end Go.Proofs.Ytmlkeflnnaabeaa.fnPlace
