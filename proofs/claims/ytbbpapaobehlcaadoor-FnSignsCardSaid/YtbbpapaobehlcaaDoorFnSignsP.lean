/-
  Proved: for every argument (bytes of a draw), the law FnSigns of this seat's translation returns true (characters are recovered from their UTF-8 encoding and from their numbers), where the listed variables of the library start as the program's text lays them, and the card that ties them to that text.
-/
import Derived.Test.YtbbpapaobehlcaaDoorCards
import Derived.Test.YtbbpapaobehlcaaDoorTie
import Derived.Test.YtbbpapaobehlcaaDoorM1
import Derived.WalkKit
import Derived.ProofKit
import Derived.OpenShut
import Derived.ShutString
import Derived.ChangeOld
import Derived.Below
import Derived.Deep.DeepHandedRow
import Derived.Lib.LaidTab
import Derived.LaidSub
import Derived.LaidMore
import Derived.MakeChecks
import Derived.Deep.DeepWitnessRowRef
import Derived.Test.YtbbpapaobehlcaaDoorM5
import Derived.Test.YtbbpapaobehlcaaDoorM4
namespace Go.Proofs.YtbbpapaobehlcaaDoor.fnSigns
open Go.ChangeShapes Go.WideShapes Go.ChangeAt Go.RowKit
open Go.ChangeMaps (open_string shut_string)
open low
set_option linter.unusedVariables false

theorem own : ownKnob Tryd.prog.godebug = none := by kernel_rfl
theorem table {W : World} (h : laidMetH Tryd.prog Rows.fnSignsRow.laid W) : nt.Tab W := by
  have h1 : laidMetH Tryd.prog [("internal/strconv.uint64pow10", Rows.laid_internal_strconv_uint64pow10)] W := laidMetH.filter (fun x => x.1 == "internal/strconv.uint64pow10") h
  exact nt.tab_of h1
theorem errs {W : World} (h : laidMetH Tryd.prog Rows.fnSignsRow.laid W) : nt.Errs W := by
  have h1 : laidMetH Tryd.prog [("strconv.ErrSyntax", Rows.laid_strconv_ErrSyntax)] W := laidMetH.filter (fun x => x.1 == "strconv.ErrSyntax") h
  have h2 : laidMetH Tryd.prog [("strconv.ErrRange", Rows.laid_strconv_ErrRange)] W := laidMetH.filter (fun x => x.1 == "strconv.ErrRange") h
  rw [MakeChecks.laidMetH_plain _ _ _ (by kernel_rfl)] at h1 h2
  exact ⟨nt.err_cell h1 (by kernel_rfl) (by kernel_rfl) Tryd.underlying89, nt.err_cell h2 (by kernel_rfl) (by kernel_rfl) Tryd.underlying89⟩
set_option maxRecDepth 100000 in
set_option maxHeartbeats 1600000 in
theorem walk (A0 : Option Addr) (c0 : Nat) (zs0 : List Int) (w : World) (w0 : Row (Value.int .u8) w w.heap.size A0 zs0) (l0 : zs0.length ≤ maxLen) (b0 : ∀ z ∈ zs0, 0 ≤ z ∧ z < 256) (ht : nt.Tab w) (he : nt.Errs w) :
    Calls Tryd.prog 4 #[.slice A0 zs0.length c0] w fun e w' => e = .returned (.bool true) ∧ Below w.heap.size w w' := by
  have HT := Lib.hid ht
  have HE := Lib.hid he
  clear ht he
  by_cases hl : zs0.length ≤ 1048576
  · have hc : Code8 w (.slice A0 zs0.length c0) := ⟨A0, c0, zs0, rfl, hl, w0, b0⟩
    have HC := Lib.hid hc
    go_enter Tryd.func4, Tryd.ntmps4
    go_wp2_with fail
    refine (specMakeText_d _ 3 w hc).mono ?_
    rintro e w1 ⟨t, v1, rfl, ht, _, r1, D⟩
    obtain ⟨ha, hl2⟩ := okText_allB ht
    have smt := smI_text ht
    have HA := Lib.hid ha
    have HTX := Lib.hid ht
    obtain ⟨A1, c1, rfl⟩ := sliceI r1
    clear hc ht ha
    go_wp2_with fail
    refine (implBytes_d _ t _ r1 smt).mono ?_
    rintro e w2 ⟨rfl, b2⟩
    have r1 := r1.past b2
    have D := D.trans (b2.mono D.size)
    go_wp2_with fail
    refine (implSigns_t (t := t) _ HA.out hl2).mono ?_
    rintro e w3 ⟨v3, rfl, o3, b3⟩
    obtain ⟨A3, c3, rfl⟩ := sliceI o3.read
    have r3 := o3.read
    have r1 := r1.past b3
    have D := D.trans (b3.mono D.size)
    clear o3
    go_wp2_with fail
    refine (implSignText_d _ t _ r1 smt (HT.out.past D)).mono ?_
    rintro e w4 ⟨rfl, b4⟩
    have r1 := r1.past b4
    have r3 := r3.past b4
    have D := D.trans (b4.mono D.size)
    have HS := Lib.hid (ts_t (textSign_of HA.out))
    go_wp2_with fail
    refine (implTextSign_d (signT t) _ (signT_size HA.out hl2) (HT.out.past D) (HE.out.past D)).mono ?_
    rw [HS.out.1, HS.out.2]
    rintro e w5 ⟨v5, rfl, o5, b5⟩
    obtain ⟨A5, c5, rfl⟩ := sliceI o5.read
    have r5 := o5.read
    have r1 := r1.past b5
    have r3 := r3.past b5
    have D := D.trans (b5.mono D.size)
    clear o5
    go_wp2_with fail
    refine (specMakeNum_d _ 1000000 _ (HC.out.past D) (by omega)).mono ?_
    rintro e w6 ⟨n, rfl, n0, n1, b6⟩
    have n2 : n < 1000000 := n1 (by omega)
    clear n1
    have r1 := r1.past b6
    have r3 := r3.past b6
    have r5 := r5.past b6
    have D := D.trans (b6.mono D.size)
    have HN := Lib.hid (num_numT (n := n) n0 (by omega))
    go_wp2_with fail
    refine (nt.implNumText_any n _ (HT.out.past D) (by omega)).mono ?_
    rintro e w7 ⟨rfl, b7⟩
    have r1 := r1.past b7
    have r3 := r3.past b7
    have r5 := r5.past b7
    have D := D.trans (b7.mono D.size)
    go_wp2_with fail
    refine (nt.implTextNum_any (nt.numT n) _ HN.out.2.2 (HT.out.past D) (HE.out.past D)).mono ?_
    rintro e w8 ⟨⟨h8, _⟩, b8⟩
    obtain rfl := h8 HN.out.1
    rw [HN.out.2.1]
    clear h8
    have r1 := r1.past b8
    have r3 := r3.past b8
    have r5 := r5.past b8
    have D := D.trans (b8.mono D.size)
    go_wp2_with fail
    refine (signsSame_t _ _ _ _ _ r3 r1 smt rfl).mono ?_
    rintro e w9 ⟨rfl, b9⟩
    have r1 := r1.past b9
    have r5 := r5.past b9
    have D := D.trans (b9.mono D.size)
    go_wp2_with fail
    refine (signsSame_t _ _ _ _ _ r5 r1 smt rfl).mono ?_
    rintro e w10 ⟨rfl, b10⟩
    have r1 := r1.past b10
    have D := D.trans (b10.mono D.size)
    go_wp2_with fail
    refine (implSignsOk_t _ t _ r1 smt HA.out).mono ?_
    rintro e w11 ⟨rfl, b11⟩
    have r1 := r1.past b11
    have D := D.trans (b11.mono D.size)
    go_wp2_with fail
    refine (implTextOk_d _ t _ r1 smt).mono ?_
    rw [HTX.out]
    rintro e w12 ⟨rfl, b12⟩
    have r1 := r1.past b12
    have D := D.trans (b12.mono D.size)
    go_wp2_with fail
    refine (implShow_d _ t _ r1 smt).mono ?_
    rintro e w13 ⟨rfl, b13⟩
    have r1 := r1.past b13
    have D := D.trans (b13.mono D.size)
    go_wp2_with fail
    refine (implBytes_d _ t _ r1 smt).mono ?_
    rintro e w14 ⟨rfl, b14⟩
    have D := D.trans (b14.mono D.size)
    have hz : ((showT t).size == (bytesOf t).size) = true := by rw [show_size HA.out]; simp
    have hz2 : (((showT t).size : Int) == ((bytesOf t).size : Int)) = true := by rw [show_size HA.out]; simp
    go_wp2
    go_ret
    exact ⟨rfl, D⟩
  · go_enter Tryd.func4, Tryd.ntmps4
    go_wp2
    go_ret
    exact ⟨rfl, Below.refl _ _⟩

set_option maxRecDepth 100000 in
theorem contract (H : Type) (enc : TypeId × Value → H) (W : World) (base : Nat) (args : Array Value) (ds gs : List (DataW H)) (before : List MemPlace)
    (hval0 : ∀ (j : Nat) t v, Tryd.f4.params[j]? = some t → args[j]? = some v → Value.okWide Tryd.prog W .any base t v)
    (hW : DataW.Whole enc Tryd.prog Tryd.f4.params.toList Rows.fnSignsSpec.vars false W args.toList ds gs before) (hL : laidMetH Tryd.prog Rows.fnSignsRow.laid W) :
    Calls Tryd.prog 4 args W fun e W' => ∃ v, e = .returned v ∧ Rows.fnSignsSpec.post enc Tryd.prog Tryd.f4 false true false false W args v W' := by
  have hval : ∀ (j : Nat) t v, Tryd.f4.params[j]? = some t → args[j]? = some v → Value.okWide Tryd.prog W .any base t v := hval0
  have hW' := hW
  obtain ⟨p, q, hA0, hV, rfl, hfz, hnd⟩ := hW
  have hA : DataW.TrodAll enc Tryd.prog W 0 (fun _ => true) true Tryd.f4.params.toList args.toList ds p := hA0
  rw [Tryd.params4] at hA hval
  obtain ⟨v0, vs0, x0, xs0, q0, r0, hargs, rfl, rfl, h0, t0⟩ := trodAll_cons hA
  obtain ⟨rfl, rfl, rfl⟩ := trodAll_nil t0
  obtain rfl : args = #[v0] := by cases args; simp_all
  obtain ⟨rfl, rfl⟩ := trodVars_none hV
  have k0 := h0
  have lt0 : ∀ x ∈ q0, x.block < W.heap.size := by obtain ⟨m, hm⟩ := k0; exact DataW.trod_lt m _ _ _ hm
  obtain ⟨B0, n0, d0, rfl⟩ := okWide_slice Tryd.underlying22 (hval 0 22 v0 rfl rfl)
  obtain ⟨f0, hf0⟩ := h0
  obtain ⟨A0, c0, zs0, e0, w0, l0, b0⟩ := read_bytes hf0
  obtain ⟨rfl, rfl, rfl⟩ : B0 = A0 ∧ n0 = zs0.length ∧ d0 = c0 := by simpa [Value.cells] using e0
  clear hA0 hval0
  refine (walk B0 d0 zs0 W w0 l0 b0 (table hL) (errs hL)).mono fun e W' ⟨he, bel⟩ => ?_
  subst he
  exact ⟨_, rfl, _, _, _, [], _, [], hW', trodAll_mk1 (shut_bool Tryd.underlying4 _), (trodAll_cons_mk (Below.trod laidOut (by kernel_rfl) (of_decide_eq_true (by kernel_rfl)) k0 bel lt0) trodAll_mk0), rfl, bel.frame _, fun h => by cases h⟩

/-- a world for the witness: the heap that the start-up code's own run leaves -/
noncomputable def laidWorld (os : Os) : World := World.doorLaid Tryd.prog 400 os
theorem laid_met (os : Os) : laidMet Tryd.prog Rows.fnSignsRow.laid ((laidWorld os).forCall (fun _ _ => 0) ⟨#[], #[.slice none 0 0], []⟩).memory :=
  laidMet_of_run' 8 (by kernel_rfl) (by kernel_rfl)
theorem reads (os : Os) {H : Type} (enc : TypeId × Value → H) : ∃ places, DataW.whole enc Tryd.prog ((laidWorld os).forCall (fun _ _ => 0) ⟨#[], #[.slice none 0 0], []⟩).memory Tryd.f4.params.toList Rows.fnSignsSpec.vars false #[Value.slice none 0 0].toList 8 = some ([.nil], [], places) :=
  ⟨[], by kernel_rfl⟩

set_option maxRecDepth 100000 in
theorem lifted (os : Os) (started : os.Started) (H : Type) (enc : TypeId × Value → H) (F : Stop.Interp) :
    ReturnsInHanded {} Tryd.checked os 4 .any ((OpenSpec.ofChange Rows.fnSignsSpec).preRow enc Tryd.prog Tryd.f4 Rows.fnSignsRow.domain false Rows.fnSignsRow.laid) (((OpenSpec.ofChange Rows.fnSignsSpec).at F).post enc Tryd.prog Tryd.f4 false true false false) := by
  obtain ⟨places, hx⟩ := reads os enc
  refine returnsInHanded_of_row (C := Tryd.checked) (s := OpenSpec.ofChange Rows.fnSignsSpec) own started (by kernel_rfl) Tryd.func4
    (witness_row_atRef (enc := enc) (C := Tryd.checked) false (laidWorld os) #[.slice none 0 0] rfl (by kernel_rfl) (by kernel_rfl) (by kernel_rfl)
      (OpenSpec.preRow_of_cond 8 hx (by kernel_rfl) (fun k hk => by cases hk) (by kernel_rfl) (laid_met os))) ?_
  intro W base args ds gs before hval hW _ _ _ hL _ _
  exact contract H enc W base args ds gs before hval hW hL

theorem said : Rows.FnSignsSaid :=
  OpenClaim.holds_of_cond 4 Tryd.f4 rfl rfl rfl rfl rfl rfl rfl ⟨rfl, rfl, rfl, rfl, rfl⟩ rfl rfl rfl rfl rfl (by kernel_rfl) Tryd.func4 (by kernel_rfl)
    (of_decide_eq_true (by kernel_rfl)) (by unfold Func.isWrapper; first | (rw [if_pos (by decide +kernel)]; kernel_rfl) | (rw [if_neg (by decide +kernel)]; exact ⟨rfl, rfl⟩))
    (fun os started H enc _ F => by rw [OpenClaim.pre_eq_preRow]; exact lifted os started H enc F)

theorem plain (f : FuncId) (fn : Func) (hf : Tryd.pinned.checked.prog.funcNamed "loop.example/g00797/laws.FnSigns" = some f) (hfn : Tryd.pinned.checked.prog.funcs[f]? = some fn) :
    true = Tryd.pinned.checked.prog.looks [] ∧ ∀ (j : Nat) t, fn.params[j]? = some t → Tryd.pinned.checked.prog.wantsStandIn t = false := by
  obtain rfl : f = 4 := Option.some.inj ((show Tryd.prog.funcNamed "loop.example/g00797/laws.FnSigns" = some 4 by kernel_rfl).symm.trans hf) |>.symm
  obtain rfl : fn = Tryd.f4 := (Option.some.inj (Tryd.func4.symm.trans hfn)).symm
  refine ⟨by kernel_rfl, fun j t ht => ?_⟩
  have hall : (Tryd.f4.params.toList.all fun t => !Tryd.prog.wantsStandIn t) = true := by kernel_rfl
  have hm := List.all_eq_true.1 hall t (by rw [Array.mem_toList_iff]; exact Array.mem_of_getElem? ht)
  have hm' : (!Tryd.prog.wantsStandIn t) = true := hm
  exact show Tryd.prog.wantsStandIn t = false by
    cases hq : Tryd.prog.wantsStandIn t
    · rfl
    · rw [hq] at hm'
      cases hm'

theorem card : Rows.FnSignsCardSaid :=
  Claim7.holds_tied_plain_at .later [] _ _ _ _ said (fun _ h => by cases h) (by kernel_rfl) (fun _ h => by cases h) fnSigns_row_tie rfl ⟨rfl, rfl⟩ (by kernel_rfl) rfl plain (by kernel_rfl)
end Go.Proofs.YtbbpapaobehlcaaDoor.fnSigns
