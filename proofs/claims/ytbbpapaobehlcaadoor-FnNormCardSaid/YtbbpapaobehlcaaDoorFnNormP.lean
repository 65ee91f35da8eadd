/-
  Proved: for every argument (bytes of a draw), the law FnNorm of this seat's translation returns true (the normal form has the same effect, is normal, and is recovered from its string), where the listed variables of the library start as the program's text lays them, and the card that ties them to that text.
-/
import Derived.Test.YtbbpapaobehlcaaDoorCards
import Derived.Test.YtbbpapaobehlcaaDoorTie
import Derived.Test.YtbbpapaobehlcaaDoorM1
import Derived.WalkKit
import Derived.ProofKit
import Derived.OpenShut
import Derived.ShutString
import Derived.ChangeOld
import Derived.Below
import Derived.Deep.DeepHandedRow
import Derived.Lib.LaidTab
import Derived.LaidSub
import Derived.LaidMore
import Derived.MakeChecks
import Derived.Deep.DeepWitnessRowRef
import Derived.Test.YtbbpapaobehlcaaDoorM4
import Derived.Test.YtbbpapaobehlcaaDoorM5
namespace Go.Proofs.YtbbpapaobehlcaaDoor.fnNorm
open Go.ChangeShapes Go.WideShapes Go.ChangeAt Go.RowKit
open Go.ChangeMaps (open_string shut_string)
open low
set_option linter.unusedVariables false

theorem own : ownKnob Tryd.prog.godebug = none := by kernel_rfl
theorem table {W : World} (h : laidMetH Tryd.prog Rows.fnNormRow.laid W) : nt.Tab W := by
  have h1 : laidMetH Tryd.prog [("internal/strconv.uint64pow10", Rows.laid_internal_strconv_uint64pow10)] W := laidMetH.filter (fun x => x.1 == "internal/strconv.uint64pow10") h
  exact nt.tab_of h1
theorem errs {W : World} (h : laidMetH Tryd.prog Rows.fnNormRow.laid W) : nt.Errs W := by
  have h1 : laidMetH Tryd.prog [("strconv.ErrSyntax", Rows.laid_strconv_ErrSyntax)] W := laidMetH.filter (fun x => x.1 == "strconv.ErrSyntax") h
  have h2 : laidMetH Tryd.prog [("strconv.ErrRange", Rows.laid_strconv_ErrRange)] W := laidMetH.filter (fun x => x.1 == "strconv.ErrRange") h
  rw [MakeChecks.laidMetH_plain _ _ _ (by kernel_rfl)] at h1 h2
  exact ⟨nt.err_cell h1 (by kernel_rfl) (by kernel_rfl) Tryd.underlying89, nt.err_cell h2 (by kernel_rfl) (by kernel_rfl) Tryd.underlying89⟩
set_option maxRecDepth 100000 in
set_option maxHeartbeats 6400000 in
theorem walk (A0 : Option Addr) (c0 : Nat) (zs0 : List Int) (w : World) (w0 : Row (Value.int .u8) w w.heap.size A0 zs0) (l0 : zs0.length ≤ maxLen) (b0 : ∀ z ∈ zs0, 0 ≤ z ∧ z < 256) (ht : nt.Tab w) (he : nt.Errs w) :
    Calls Tryd.prog 3 #[.slice A0 zs0.length c0] w fun e w' => e = .returned (.bool true) ∧ Below w.heap.size w w' := by
  have HT := Lib.hid ht
  have HE := Lib.hid he
  clear ht he
  by_cases hl : zs0.length ≤ 1048576
  · skip
    have hc : Code8 w (.slice A0 zs0.length c0) := ⟨A0, c0, zs0, rfl, hl, w0, b0⟩
    go_enter Tryd.func3, Tryd.ntmps3
    go_wp2_with fail
    refine (specMakeOps_d _ w hc).mono ?_
    rintro e w1 ⟨t, a, b, v1, v2, v3, rfl, ht, tl, ha, hb, sa, sb, sa2, sb2, pa, pb, sma, smb, r1, r2, r3, D⟩
    obtain ⟨m1, m2, m3, m4, m5, m6, m7, m8, m9, m10, m11, m12, m13⟩ := norm_law ha ht sa
    have smt := smI_text ht
    have smp := smI_text m4
    have smn := smP_op m5
    have smk := smP_op m8
    have smnn : SmP (normL (normL a)) := by rw [norm_norm]; exact smn
    have HOA := Lib.hid ha
    have HF1 := Lib.hid m1
    have HF2 := Lib.hid m2
    have HAE := Lib.hid m3
    have HN1 := Lib.hid m5
    have HT1 := Lib.hid m6
    have HT2 := Lib.hid m7
    have HZ := Lib.hid (opT_size ha)
    have HC1 := Lib.hid m9
    have HC2 := Lib.hid m10
    have HLP := Lib.hid m11
    have HPU := Lib.hid m12
    have HDR := Lib.hid m13
    have HSA := Lib.hid sa
    have bdP := (sum_bd a).2.1
    have bdD := (sum_bd a).2.2
    have p0 := bdP.1
    have p1 := bdP.2
    have d0 := bdD.1
    have d1 := bdD.2
    have tl2 := okText_len' ht
    have tl3 : (t.length : Int) ≤ 200 := by omega
    have hlen : ((t.length : Int) + sumP a - sumD a == ((applyT a t).length : Int)) = true := by rw [beq_iff_eq, m11]; omega
    clear m1 m2 m3 m4 m5 m6 m7 m8 m9 m10 m11 m12 m13 ht ha hb sb tl sa2 sb2 pa pb sa bdP bdD
    obtain ⟨A1, c1, rfl⟩ := sliceI r1
    obtain ⟨A2, c2, rfl⟩ := sliceP r2
    obtain ⟨A3, c3, rfl⟩ := sliceP r3
    clear r3
    go_wp2_with fail
    refine (implOpNorm_d _ a _ r2 sma).mono ?_
    rintro e w11 ⟨v11, rfl, o11, b11⟩
    obtain ⟨A11, c11, rfl⟩ := sliceP o11.read
    replace D := D.trans (b11.mono D.size)
    replace r1 := r1.past b11
    replace r2 := r2.past b11
    have rn := o11.read
    clear o11 b11
    go_wp2_with fail
    refine (implApply_d _ _ a t _ r2 r1 sma smt).mono ?_
    rw [HF1.out]
    rintro e w12 ⟨v12, rfl, o12, b12⟩
    obtain ⟨A12, c12, rfl⟩ := sliceI o12.read
    replace D := D.trans (b12.mono D.size)
    replace r1 := r1.past b12
    replace r2 := r2.past b12
    replace rn := rn.past b12
    have rp := o12.read
    clear o12 b12
    go_wp2_with fail
    refine (implApply_d _ _ (normL a) t _ rn r1 smn smt).mono ?_
    rw [HF2.out]
    rintro e w13 ⟨v13, rfl, o13, b13⟩
    obtain ⟨A13, c13, rfl⟩ := sliceI o13.read
    replace D := D.trans (b13.mono D.size)
    replace r1 := r1.past b13
    replace r2 := r2.past b13
    replace rn := rn.past b13
    replace rp := rp.past b13
    have rq := o13.read
    clear o13 b13
    go_wp2_with fail
    refine (implOpText_d _ a _ r2 sma (HT.out.past D)).mono ?_
    rintro e w14 ⟨rfl, b14⟩
    replace D := D.trans (b14.mono D.size)
    replace r1 := r1.past b14
    replace r2 := r2.past b14
    replace rn := rn.past b14
    replace rp := rp.past b14
    replace rq := rq.past b14
    clear b14
    go_wp2_with fail
    refine (implTextOp_d (opT a) _ HZ.out (HT.out.past D) (HE.out.past D)).mono ?_
    rw [HT1.out, HT2.out]
    rintro e w15 ⟨v15, rfl, o15, b15⟩
    obtain ⟨A15, c15, rfl⟩ := sliceP o15.read
    replace D := D.trans (b15.mono D.size)
    replace r1 := r1.past b15
    replace r2 := r2.past b15
    replace rn := rn.past b15
    replace rp := rp.past b15
    replace rq := rq.past b15
    have rx := o15.read
    clear o15 b15
    go_wp2_with fail
    refine (implKeeping_d (t.length : Int) _).mono ?_
    rintro e w16 ⟨v16, rfl, o16, b16⟩
    obtain ⟨A16, c16, rfl⟩ := sliceP o16.read
    replace D := D.trans (b16.mono D.size)
    replace r1 := r1.past b16
    replace r2 := r2.past b16
    replace rn := rn.past b16
    replace rp := rp.past b16
    replace rq := rq.past b16
    replace rx := rx.past b16
    have rk := o16.read
    clear o16 b16
    go_wp2_with fail
    refine (implCompose_d _ _ (keepL (t.length : Int)) a _ rk r2 smk sma).mono ?_
    rw [HC1.out, HC2.out]
    rintro e w17 ⟨v17, rfl, o17, b17⟩
    obtain ⟨A17, c17, rfl⟩ := sliceP o17.read
    replace D := D.trans (b17.mono D.size)
    replace r1 := r1.past b17
    replace r2 := r2.past b17
    replace rn := rn.past b17
    replace rp := rp.past b17
    replace rq := rq.past b17
    replace rx := rx.past b17
    replace rk := rk.past b17
    have ry := o17.read
    clear o17 b17
    go_wp2_with fail
    refine (signsSame_t _ _ _ _ _ rp rq smp HAE.out).mono ?_
    rintro e w18 ⟨rfl, b18⟩
    replace D := D.trans (b18.mono D.size)
    replace r1 := r1.past b18
    replace r2 := r2.past b18
    replace rn := rn.past b18
    replace rp := rp.past b18
    replace rq := rq.past b18
    replace rx := rx.past b18
    replace rk := rk.past b18
    replace ry := ry.past b18
    clear b18
    go_wp2_with fail
    refine (isNorm_t _ _ _ rn smn HN1.out norm_norm).mono ?_
    rintro e w19 ⟨rfl, b19⟩
    replace D := D.trans (b19.mono D.size)
    replace r1 := r1.past b19
    replace r2 := r2.past b19
    replace rn := rn.past b19
    replace rp := rp.past b19
    replace rq := rq.past b19
    replace rx := rx.past b19
    replace rk := rk.past b19
    replace ry := ry.past b19
    clear b19
    go_wp2_with fail
    refine (implOpNorm_d _ (normL a) _ rn smn).mono ?_
    rintro e w20 ⟨v20, rfl, o20, b20⟩
    obtain ⟨A20, c20, rfl⟩ := sliceP o20.read
    replace D := D.trans (b20.mono D.size)
    replace r1 := r1.past b20
    replace r2 := r2.past b20
    replace rn := rn.past b20
    replace rp := rp.past b20
    replace rq := rq.past b20
    replace rx := rx.past b20
    replace rk := rk.past b20
    replace ry := ry.past b20
    have rnn := o20.read
    clear o20 b20
    go_wp2_with fail
    refine (opSame_t _ _ _ _ _ rnn rn smnn norm_norm).mono ?_
    rintro e w21 ⟨rfl, b21⟩
    replace D := D.trans (b21.mono D.size)
    replace r1 := r1.past b21
    replace r2 := r2.past b21
    replace rn := rn.past b21
    replace rp := rp.past b21
    replace rq := rq.past b21
    replace rx := rx.past b21
    replace rk := rk.past b21
    replace ry := ry.past b21
    replace rnn := rnn.past b21
    clear b21
    go_wp2_with fail
    refine (opSame_t _ _ _ _ _ rx rn smn rfl).mono ?_
    rintro e w22 ⟨rfl, b22⟩
    replace D := D.trans (b22.mono D.size)
    replace r1 := r1.past b22
    replace r2 := r2.past b22
    replace rn := rn.past b22
    replace rp := rp.past b22
    replace rq := rq.past b22
    replace rx := rx.past b22
    replace rk := rk.past b22
    replace ry := ry.past b22
    replace rnn := rnn.past b22
    clear b22
    go_wp2_with fail
    refine (opSame_t _ _ _ _ _ ry rn smn rfl).mono ?_
    rintro e w23 ⟨rfl, b23⟩
    replace D := D.trans (b23.mono D.size)
    replace r1 := r1.past b23
    replace r2 := r2.past b23
    replace rn := rn.past b23
    replace rp := rp.past b23
    replace rq := rq.past b23
    replace rx := rx.past b23
    replace rk := rk.past b23
    replace ry := ry.past b23
    replace rnn := rnn.past b23
    clear b23
    go_wp2_with fail
    refine (implOpFrom_d _ a _ r2 sma).mono ?_
    rintro e w24 ⟨rfl, b24⟩
    replace D := D.trans (b24.mono D.size)
    replace r1 := r1.past b24
    replace r2 := r2.past b24
    replace rn := rn.past b24
    replace rp := rp.past b24
    replace rq := rq.past b24
    replace rx := rx.past b24
    replace rk := rk.past b24
    replace ry := ry.past b24
    replace rnn := rnn.past b24
    clear b24
    rw [HSA.out]
    go_wp2_with fail
    refine (implOpTo_d _ a _ r2 sma).mono ?_
    rintro e w25 ⟨rfl, b25⟩
    replace D := D.trans (b25.mono D.size)
    replace r1 := r1.past b25
    replace r2 := r2.past b25
    replace rn := rn.past b25
    replace rp := rp.past b25
    replace rq := rq.past b25
    replace rx := rx.past b25
    replace rk := rk.past b25
    replace ry := ry.past b25
    replace rnn := rnn.past b25
    clear b25
    rw [← HLP.out]
    go_wp2_with fail
    refine (opOk_t _ _ _ r2 sma HOA.out).mono ?_
    rintro e w26 ⟨rfl, b26⟩
    replace D := D.trans (b26.mono D.size)
    replace r1 := r1.past b26
    replace r2 := r2.past b26
    replace rn := rn.past b26
    replace rp := rp.past b26
    replace rq := rq.past b26
    replace rx := rx.past b26
    replace rk := rk.past b26
    replace ry := ry.past b26
    replace rnn := rnn.past b26
    clear b26
    go_wp2_with fail
    refine (implPuts_d _ a _ r2 sma).mono ?_
    rintro e w27 ⟨rfl, b27⟩
    replace D := D.trans (b27.mono D.size)
    replace r1 := r1.past b27
    replace r2 := r2.past b27
    replace rn := rn.past b27
    replace rp := rp.past b27
    replace rq := rq.past b27
    replace rx := rx.past b27
    replace rk := rk.past b27
    replace ry := ry.past b27
    replace rnn := rnn.past b27
    clear b27
    rw [HPU.out]
    go_wp2_with fail
    refine (implDrops_d _ a _ r2 sma).mono ?_
    rintro e w28 ⟨rfl, b28⟩
    replace D := D.trans (b28.mono D.size)
    replace r1 := r1.past b28
    replace r2 := r2.past b28
    replace rn := rn.past b28
    replace rp := rp.past b28
    replace rq := rq.past b28
    replace rx := rx.past b28
    replace rk := rk.past b28
    replace ry := ry.past b28
    replace rnn := rnn.past b28
    clear b28
    rw [HDR.out]
    go_wp2
    go_ret
    exact ⟨rfl, D⟩
  · go_enter Tryd.func3, Tryd.ntmps3
    go_wp2
    go_ret
    exact ⟨rfl, Below.refl _ _⟩

set_option maxRecDepth 100000 in
theorem contract (H : Type) (enc : TypeId × Value → H) (W : World) (base : Nat) (args : Array Value) (ds gs : List (DataW H)) (before : List MemPlace)
    (hval0 : ∀ (j : Nat) t v, Tryd.f3.params[j]? = some t → args[j]? = some v → Value.okWide Tryd.prog W .any base t v)
    (hW : DataW.Whole enc Tryd.prog Tryd.f3.params.toList Rows.fnNormSpec.vars false W args.toList ds gs before) (hL : laidMetH Tryd.prog Rows.fnNormRow.laid W) :
    Calls Tryd.prog 3 args W fun e W' => ∃ v, e = .returned v ∧ Rows.fnNormSpec.post enc Tryd.prog Tryd.f3 false true false false W args v W' := by
  have hval : ∀ (j : Nat) t v, Tryd.f3.params[j]? = some t → args[j]? = some v → Value.okWide Tryd.prog W .any base t v := hval0
  have hW' := hW
  obtain ⟨p, q, hA0, hV, rfl, hfz, hnd⟩ := hW
  have hA : DataW.TrodAll enc Tryd.prog W 0 (fun _ => true) true Tryd.f3.params.toList args.toList ds p := hA0
  rw [Tryd.params3] at hA hval
  obtain ⟨v0, vs0, x0, xs0, q0, r0, hargs, rfl, rfl, h0, t0⟩ := trodAll_cons hA
  obtain ⟨rfl, rfl, rfl⟩ := trodAll_nil t0
  obtain rfl : args = #[v0] := by cases args; simp_all
  obtain ⟨rfl, rfl⟩ := trodVars_none hV
  have k0 := h0
  have lt0 : ∀ x ∈ q0, x.block < W.heap.size := by obtain ⟨m, hm⟩ := k0; exact DataW.trod_lt m _ _ _ hm
  obtain ⟨B0, n0, d0, rfl⟩ := okWide_slice Tryd.underlying22 (hval 0 22 v0 rfl rfl)
  obtain ⟨f0, hf0⟩ := h0
  obtain ⟨A0, c0, zs0, e0, w0, l0, b0⟩ := read_bytes hf0
  obtain ⟨rfl, rfl, rfl⟩ : B0 = A0 ∧ n0 = zs0.length ∧ d0 = c0 := by simpa [Value.cells] using e0
  clear hA0 hval0
  refine (walk B0 d0 zs0 W w0 l0 b0 (table hL) (errs hL)).mono fun e W' ⟨he, bel⟩ => ?_
  subst he
  exact ⟨_, rfl, _, _, _, [], _, [], hW', trodAll_mk1 (shut_bool Tryd.underlying4 _), (trodAll_cons_mk (Below.trod laidOut (by kernel_rfl) (of_decide_eq_true (by kernel_rfl)) k0 bel lt0) trodAll_mk0), rfl, bel.frame _, fun h => by cases h⟩

/-- a world for the witness: the heap that the start-up code's own run leaves -/
noncomputable def laidWorld (os : Os) : World := World.doorLaid Tryd.prog 400 os
theorem laid_met (os : Os) : laidMet Tryd.prog Rows.fnNormRow.laid ((laidWorld os).forCall (fun _ _ => 0) ⟨#[], #[.slice none 0 0], []⟩).memory :=
  laidMet_of_run' 8 (by kernel_rfl) (by kernel_rfl)
theorem reads (os : Os) {H : Type} (enc : TypeId × Value → H) : ∃ places, DataW.whole enc Tryd.prog ((laidWorld os).forCall (fun _ _ => 0) ⟨#[], #[.slice none 0 0], []⟩).memory Tryd.f3.params.toList Rows.fnNormSpec.vars false #[Value.slice none 0 0].toList 8 = some ([.nil], [], places) :=
  ⟨[], by kernel_rfl⟩

set_option maxRecDepth 100000 in
theorem lifted (os : Os) (started : os.Started) (H : Type) (enc : TypeId × Value → H) (F : Stop.Interp) :
    ReturnsInHanded {} Tryd.checked os 3 .any ((OpenSpec.ofChange Rows.fnNormSpec).preRow enc Tryd.prog Tryd.f3 Rows.fnNormRow.domain false Rows.fnNormRow.laid) (((OpenSpec.ofChange Rows.fnNormSpec).at F).post enc Tryd.prog Tryd.f3 false true false false) := by
  obtain ⟨places, hx⟩ := reads os enc
  refine returnsInHanded_of_row (C := Tryd.checked) (s := OpenSpec.ofChange Rows.fnNormSpec) own started (by kernel_rfl) Tryd.func3
    (witness_row_atRef (enc := enc) (C := Tryd.checked) false (laidWorld os) #[.slice none 0 0] rfl (by kernel_rfl) (by kernel_rfl) (by kernel_rfl)
      (OpenSpec.preRow_of_cond 8 hx (by kernel_rfl) (fun k hk => by cases hk) (by kernel_rfl) (laid_met os))) ?_
  intro W base args ds gs before hval hW _ _ _ hL _ _
  exact contract H enc W base args ds gs before hval hW hL

theorem said : Rows.FnNormSaid :=
  OpenClaim.holds_of_cond 3 Tryd.f3 rfl rfl rfl rfl rfl rfl rfl ⟨rfl, rfl, rfl, rfl, rfl⟩ rfl rfl rfl rfl rfl (by kernel_rfl) Tryd.func3 (by kernel_rfl)
    (of_decide_eq_true (by kernel_rfl)) (by unfold Func.isWrapper; first | (rw [if_pos (by decide +kernel)]; kernel_rfl) | (rw [if_neg (by decide +kernel)]; exact ⟨rfl, rfl⟩))
    (fun os started H enc _ F => by rw [OpenClaim.pre_eq_preRow]; exact lifted os started H enc F)

theorem plain (f : FuncId) (fn : Func) (hf : Tryd.pinned.checked.prog.funcNamed "loop.example/g00797/laws.FnNorm" = some f) (hfn : Tryd.pinned.checked.prog.funcs[f]? = some fn) :
    true = Tryd.pinned.checked.prog.looks [] ∧ ∀ (j : Nat) t, fn.params[j]? = some t → Tryd.pinned.checked.prog.wantsStandIn t = false := by
  obtain rfl : f = 3 := Option.some.inj ((show Tryd.prog.funcNamed "loop.example/g00797/laws.FnNorm" = some 3 by kernel_rfl).symm.trans hf) |>.symm
  obtain rfl : fn = Tryd.f3 := (Option.some.inj (Tryd.func3.symm.trans hfn)).symm
  refine ⟨by kernel_rfl, fun j t ht => ?_⟩
  have hall : (Tryd.f3.params.toList.all fun t => !Tryd.prog.wantsStandIn t) = true := by kernel_rfl
  have hm := List.all_eq_true.1 hall t (by rw [Array.mem_toList_iff]; exact Array.mem_of_getElem? ht)
  have hm' : (!Tryd.prog.wantsStandIn t) = true := hm
  exact show Tryd.prog.wantsStandIn t = false by
    cases hq : Tryd.prog.wantsStandIn t
    · rfl
    · rw [hq] at hm'
      cases hm'

theorem card : Rows.FnNormCardSaid :=
  Claim7.holds_tied_plain_at .later [] _ _ _ _ said (fun _ h => by cases h) (by kernel_rfl) (fun _ h => by cases h) fnNorm_row_tie rfl ⟨rfl, rfl⟩ (by kernel_rfl) rfl plain (by kernel_rfl)
end Go.Proofs.YtbbpapaobehlcaaDoor.fnNorm
