/-
  Proved: for every argument (slice of numbers), the law FnExactSignText of this seat's translation returns true (impl.SignText answers as spec.SignText does, leaves its arguments alone); where the listed variables of the library start as the program's text lays them, and the card that ties them to that text.
-/
import Derived.Test.YtbbpapaobehlcaaDoorCards
import Derived.Test.YtbbpapaobehlcaaDoorTie
import Derived.Test.YtbbpapaobehlcaaDoorM1
import Derived.WalkKit
import Derived.ProofKit
import Derived.OpenShut
import Derived.ShutString
import Derived.ChangeOld
import Derived.Below
import Derived.Deep.DeepHandedRow
import Derived.Lib.LaidTab
import Derived.LaidSub
import Derived.LaidMore
import Derived.MakeChecks
import Derived.Deep.DeepWitnessRowRef
import Derived.Test.YtbbpapaobehlcaaDoorM3
import Derived.Test.YtbbpapaobehlcaaDoorM4
namespace Go.Proofs.YtbbpapaobehlcaaDoor.fnExactSignText
open Go.ChangeShapes Go.WideShapes Go.ChangeAt Go.RowKit
open Go.ChangeMaps (open_string shut_string)
open low
set_option linter.unusedVariables false

theorem own : ownKnob Tryd.prog.godebug = none := by kernel_rfl
theorem table {W : World} (h : laidMetH Tryd.prog Rows.fnExactSignTextRow.laid W) : nt.Tab W := by
  have h1 : laidMetH Tryd.prog [("internal/strconv.uint64pow10", Rows.laid_internal_strconv_uint64pow10)] W := laidMetH.filter (fun x => x.1 == "internal/strconv.uint64pow10") h
  exact nt.tab_of h1
set_option maxRecDepth 100000 in
set_option maxHeartbeats 3200000 in
theorem walk (A0 : Option Addr) (c0 : Nat) (zs0 : List Int) (w : World) (w0 : RdC w w.heap.size (encInts zs0) (.slice A0 zs0.length c0)) (l0 : zs0.length ≤ maxLen) (ht : nt.Tab w) :
    Calls Tryd.prog 5 #[.slice A0 zs0.length c0] w fun e w' => e = .returned (.bool true) ∧ Below w.heap.size w w' := by
  have HT := Lib.hid ht
  clear ht
  have D0 : Below w.heap.size w w := Below.refl _ _
  have R0 := w0
  by_cases big0 : (1048576 : Int) < (zs0.length : Int)
  · go_enter Tryd.func5, Tryd.ntmps5
    go_wp2
    go_ret
    exact ⟨rfl, D0⟩
  have S0 : SmI zs0 := by unfold SmI; omega
  go_enter Tryd.func5, Tryd.ntmps5
  go_wp2_with fail
  refine (toI _ zs0 _ (R0.past D0) S0).mono ?_
  rintro e u1 ⟨v1, rfl, oT00, b1⟩
  obtain ⟨k1, oT0⟩ := oT00.blocks
  clear oT00
  obtain ⟨A1_, c1_, rfl⟩ := sliceI oT0.read
  have z1 := b1.size
  have D1 := D0.trans (b1.mono D0.size)
  go_wp2_with fail
  refine (specSignText_d _ zs0 _ oT0.read S0).mono ?_
  rintro e u2 ⟨rfl, b2⟩
  have oT0 := oT0.past b2
  have z2 := b2.size
  have D2 := D1.trans (b2.mono D1.size)
  clear oT0
  go_wp2_with fail
  refine (toI _ zs0 _ (R0.past D2) S0).mono ?_
  rintro e u3 ⟨v3, rfl, oX00, b3⟩
  obtain ⟨k3, oX0⟩ := oX00.blocks
  clear oX00
  obtain ⟨A3_, c3_, rfl⟩ := sliceI oX0.read
  have z3 := b3.size
  have D3 := D2.trans (b3.mono D2.size)
  go_wp2_with fail
  refine (implSignText_d _ zs0 _ oX0.read S0 (HT.out.past D3)).mono ?_
  rintro e u4 ⟨rfl, b4⟩
  have oX0 := oX0.past b4
  have z4 := b4.size
  have D4 := D3.trans (b4.mono D3.size)
  have hagain : ∀ (x0_ : Value) (u : World), RdC u u.heap.size (encInts zs0) x0_ → nt.Tab u → Calls Tryd.prog 28 #[x0_] u (Strs (signT zs0) u) := fun x0_ u h0_ htab => implSignText_d x0_ zs0 u h0_ S0 htab
  have HAG := Lib.hid hagain
  clear hagain
  generalize (signT zs0) = L0 at *
  have nb0 : ((L0 : ByteArray).toList == L0.toList) = true := by simp
  go_wp2_with fail
  refine (toI _ zs0 _ (R0.past D4) S0).mono ?_
  rintro e u5 ⟨v5, rfl, oT90, b5⟩
  obtain ⟨k5, oT9⟩ := oT90.blocks
  clear oT90
  obtain ⟨A5_, c5_, rfl⟩ := sliceI oT9.read
  have oX0 := oX0.past b5
  have z5 := b5.size
  have D5 := D4.trans (b5.mono D4.size)
  go_wp2_with fail
  refine (eqI _ _ zs0 _ oX0.read oT9.read S0).mono ?_
  rintro e u6 ⟨rfl, b6⟩
  have oX0 := oX0.past b6
  have oT9 := oT9.past b6
  have z6 := b6.size
  have D6 := D5.trans (b6.mono D5.size)
  clear oT9
  go_wp2
  go_ret
  exact ⟨rfl, D6⟩

set_option maxRecDepth 100000 in
theorem contract (H : Type) (enc : TypeId × Value → H) (W : World) (base : Nat) (args : Array Value) (ds gs : List (DataW H)) (before : List MemPlace)
    (hval0 : ∀ (j : Nat) t v, Tryd.f5.params[j]? = some t → args[j]? = some v → Value.okWide Tryd.prog W .any base t v)
    (hW : DataW.Whole enc Tryd.prog Tryd.f5.params.toList Rows.fnExactSignTextSpec.vars false W args.toList ds gs before) (hL : laidMetH Tryd.prog Rows.fnExactSignTextRow.laid W) :
    Calls Tryd.prog 5 args W fun e W' => ∃ v, e = .returned v ∧ Rows.fnExactSignTextSpec.post enc Tryd.prog Tryd.f5 false true false false W args v W' := by
  have hval : ∀ (j : Nat) t v, Tryd.f5.params[j]? = some t → args[j]? = some v → Value.okWide Tryd.prog W .any base t v := hval0
  have hW' := hW
  obtain ⟨p, q, hA0, hV, rfl, hfz, hnd⟩ := hW
  have hA : DataW.TrodAll enc Tryd.prog W 0 (fun _ => true) true Tryd.f5.params.toList args.toList ds p := hA0
  rw [Tryd.params5] at hA hval
  obtain ⟨v0, vs0, x0, xs0, q0, r0, hargs, rfl, rfl, h0, t0⟩ := trodAll_cons hA
  obtain ⟨rfl, rfl, rfl⟩ := trodAll_nil t0
  obtain rfl : args = #[v0] := by cases args; simp_all
  obtain ⟨rfl, rfl⟩ := trodVars_none hV
  have k0 := h0
  have lt0 : ∀ x ∈ q0, x.block < W.heap.size := by obtain ⟨m, hm⟩ := k0; exact DataW.trod_lt m _ _ _ hm
  obtain ⟨B0, n0, d0, rfl⟩ := okWide_slice Tryd.underlying23 (hval 0 23 v0 rfl rfl)
  obtain ⟨f0, hf0⟩ := h0
  obtain ⟨A0, c0, zs0, e0, w0, l0⟩ := open_dints hf0
  obtain ⟨rfl, rfl, rfl⟩ : B0 = A0 ∧ n0 = zs0.length ∧ d0 = c0 := by simpa [Value.cells] using e0
  clear hA0 hval0
  refine (walk B0 d0 zs0 W w0 l0 (table hL)).mono fun e W' ⟨he, bel⟩ => ?_
  subst he
  exact ⟨_, rfl, _, _, _, [], _, [], hW', trodAll_mk1 (shut_bool Tryd.underlying4 _), (trodAll_cons_mk (Below.trod laidOut (by kernel_rfl) (of_decide_eq_true (by kernel_rfl)) k0 bel lt0) trodAll_mk0), rfl, bel.frame _, fun h => by cases h⟩

/-- a world for the witness: the heap that the start-up code's own run leaves -/
noncomputable def laidWorld (os : Os) : World := World.doorLaid Tryd.prog 400 os
theorem laid_met (os : Os) : laidMet Tryd.prog Rows.fnExactSignTextRow.laid ((laidWorld os).forCall (fun _ _ => 0) ⟨#[], #[.slice none 0 0], []⟩).memory :=
  laidMet_of_run' 8 (by kernel_rfl) (by kernel_rfl)
theorem reads (os : Os) {H : Type} (enc : TypeId × Value → H) : ∃ places, DataW.whole enc Tryd.prog ((laidWorld os).forCall (fun _ _ => 0) ⟨#[], #[.slice none 0 0], []⟩).memory Tryd.f5.params.toList Rows.fnExactSignTextSpec.vars false #[Value.slice none 0 0].toList 8 = some ([.nil], [], places) :=
  ⟨[], by kernel_rfl⟩

set_option maxRecDepth 100000 in
theorem lifted (os : Os) (started : os.Started) (H : Type) (enc : TypeId × Value → H) (F : Stop.Interp) :
    ReturnsInHanded {} Tryd.checked os 5 .any ((OpenSpec.ofChange Rows.fnExactSignTextSpec).preRow enc Tryd.prog Tryd.f5 Rows.fnExactSignTextRow.domain false Rows.fnExactSignTextRow.laid) (((OpenSpec.ofChange Rows.fnExactSignTextSpec).at F).post enc Tryd.prog Tryd.f5 false true false false) := by
  obtain ⟨places, hx⟩ := reads os enc
  refine returnsInHanded_of_row (C := Tryd.checked) (s := OpenSpec.ofChange Rows.fnExactSignTextSpec) own started (by kernel_rfl) Tryd.func5
    (witness_row_atRef (enc := enc) (C := Tryd.checked) false (laidWorld os) #[.slice none 0 0] rfl (by kernel_rfl) (by kernel_rfl) (by kernel_rfl)
      (OpenSpec.preRow_of_cond 8 hx (by kernel_rfl) (fun k hk => by cases hk) (by kernel_rfl) (laid_met os))) ?_
  intro W base args ds gs before hval hW _ _ _ hL _ _
  exact contract H enc W base args ds gs before hval hW hL

theorem said : Rows.FnExactSignTextSaid :=
  OpenClaim.holds_of_cond 5 Tryd.f5 rfl rfl rfl rfl rfl rfl rfl ⟨rfl, rfl, rfl, rfl, rfl⟩ rfl rfl rfl rfl rfl (by kernel_rfl) Tryd.func5 (by kernel_rfl)
    (of_decide_eq_true (by kernel_rfl)) (by unfold Func.isWrapper; first | (rw [if_pos (by decide +kernel)]; kernel_rfl) | (rw [if_neg (by decide +kernel)]; exact ⟨rfl, rfl⟩))
    (fun os started H enc _ F => by rw [OpenClaim.pre_eq_preRow]; exact lifted os started H enc F)

theorem plain (f : FuncId) (fn : Func) (hf : Tryd.pinned.checked.prog.funcNamed "loop.example/g00797/laws.FnExactSignText" = some f) (hfn : Tryd.pinned.checked.prog.funcs[f]? = some fn) :
    true = Tryd.pinned.checked.prog.looks [] ∧ ∀ (j : Nat) t, fn.params[j]? = some t → Tryd.pinned.checked.prog.wantsStandIn t = false := by
  obtain rfl : f = 5 := Option.some.inj ((show Tryd.prog.funcNamed "loop.example/g00797/laws.FnExactSignText" = some 5 by kernel_rfl).symm.trans hf) |>.symm
  obtain rfl : fn = Tryd.f5 := (Option.some.inj (Tryd.func5.symm.trans hfn)).symm
  refine ⟨by kernel_rfl, fun j t ht => ?_⟩
  have hall : (Tryd.f5.params.toList.all fun t => !Tryd.prog.wantsStandIn t) = true := by kernel_rfl
  have hm := List.all_eq_true.1 hall t (by rw [Array.mem_toList_iff]; exact Array.mem_of_getElem? ht)
  have hm' : (!Tryd.prog.wantsStandIn t) = true := hm
  exact show Tryd.prog.wantsStandIn t = false by
    cases hq : Tryd.prog.wantsStandIn t
    · rfl
    · rw [hq] at hm'
      cases hm'

theorem card : Rows.FnExactSignTextCardSaid :=
  Claim7.holds_tied_plain_at .later [] _ _ _ _ said (fun _ h => by cases h) (by kernel_rfl) (fun _ h => by cases h) fnExactSignText_row_tie rfl ⟨rfl, rfl⟩ (by kernel_rfl) rfl plain (by kernel_rfl)
end Go.Proofs.YtbbpapaobehlcaaDoor.fnExactSignText
