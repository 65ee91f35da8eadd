/-
  Proved: for every argument (string), the law FnExactTextOp of this seat's translation returns true (impl.TextOp answers as spec.TextOp does, twice, leaves its arguments alone, and its result owns its memory); where the listed variables of the library start as the program's text lays them, and the card that ties them to that text.
-/
import Derived.Test.YtbbpapaobehlcaaDoorCards
import Derived.Test.YtbbpapaobehlcaaDoorTie
import Derived.Test.YtbbpapaobehlcaaDoorM1
import Derived.WalkKit
import Derived.ProofKit
import Derived.OpenShut
import Derived.ShutString
import Derived.ChangeOld
import Derived.Below
import Derived.Deep.DeepHandedRow
import Derived.Lib.LaidTab
import Derived.LaidSub
import Derived.LaidMore
import Derived.MakeChecks
import Derived.Deep.DeepWitnessRowRef
import Derived.Test.YtbbpapaobehlcaaDoorM3
import Derived.Test.YtbbpapaobehlcaaDoorM4
namespace Go.Proofs.YtbbpapaobehlcaaDoor.fnExactTextOp
open Go.ChangeShapes Go.WideShapes Go.ChangeAt Go.RowKit
open Go.ChangeMaps (open_string shut_string)
open low
set_option linter.unusedVariables false

theorem own : ownKnob Tryd.prog.godebug = none := by kernel_rfl
theorem table {W : World} (h : laidMetH Tryd.prog Rows.fnExactTextOpRow.laid W) : nt.Tab W := by
  have h1 : laidMetH Tryd.prog [("internal/strconv.uint64pow10", Rows.laid_internal_strconv_uint64pow10)] W := laidMetH.filter (fun x => x.1 == "internal/strconv.uint64pow10") h
  exact nt.tab_of h1
theorem errs {W : World} (h : laidMetH Tryd.prog Rows.fnExactTextOpRow.laid W) : nt.Errs W := by
  have h1 : laidMetH Tryd.prog [("strconv.ErrSyntax", Rows.laid_strconv_ErrSyntax)] W := laidMetH.filter (fun x => x.1 == "strconv.ErrSyntax") h
  have h2 : laidMetH Tryd.prog [("strconv.ErrRange", Rows.laid_strconv_ErrRange)] W := laidMetH.filter (fun x => x.1 == "strconv.ErrRange") h
  rw [MakeChecks.laidMetH_plain _ _ _ (by kernel_rfl)] at h1 h2
  exact ⟨nt.err_cell h1 (by kernel_rfl) (by kernel_rfl) Tryd.underlying89, nt.err_cell h2 (by kernel_rfl) (by kernel_rfl) Tryd.underlying89⟩
set_option maxRecDepth 100000 in
set_option maxHeartbeats 3200000 in
theorem walk (a0 : ByteArray) (w : World) (w0 : a0.size ≤ maxLen) (ht : nt.Tab w) (he : nt.Errs w) :
    Calls Tryd.prog 8 #[.string a0] w fun e w' => e = .returned (.bool true) ∧ Below w.heap.size w w' := by
  have HT := Lib.hid ht
  clear ht
  have HE := Lib.hid he
  clear he
  have D0 : Below w.heap.size w w := Below.refl _ _
  by_cases big0 : (1048576 : Int) < (a0.size : Int)
  · go_enter Tryd.func8, Tryd.ntmps8
    go_wp2
    go_ret
    exact ⟨rfl, D0⟩
  have S0 : a0.size ≤ 1048576 := by omega
  go_enter Tryd.func8, Tryd.ntmps8
  go_wp2_with fail
  refine (specTextOp_d a0 _ S0).mono ?_
  rintro e u1 ⟨v1, rfl, oW00, b1⟩
  obtain ⟨k1, oW0⟩ := oW00.blocks
  clear oW00
  have z1 := b1.size
  have D1 := D0.trans (b1.mono D0.size)
  go_wp2_with fail
  refine (implTextOp_d a0 _ S0 (HT.out.past D1) (HE.out.past D1)).mono ?_
  rintro e u2 ⟨v2, rfl, oG00, b2⟩
  have oW0 := oW0.past b2
  obtain ⟨k2, oG0⟩ := oG00.blocks
  clear oG00
  have z2 := b2.size
  have D2 := D1.trans (b2.mono D1.size)
  have hs0 : SmP (toL a0) := textOp_small S0
  have hagain : ∀  (u : World), nt.Tab u → nt.Errs u → Calls Tryd.prog 12 #[.string a0] u (ResB (encPs (toL a0)) (toB a0) u) := fun  u  htab herrs => implTextOp_d  a0 u  S0 htab herrs
  have HAG := Lib.hid hagain
  clear hagain
  generalize (toL a0) = L0 at *
  generalize (toB a0) = L1 at *
  have hc0 := cntP hs0
  generalize hn0 : cntC (encPs L0) = n0 at *
  have HN0 := Lib.hid hn0
  clear hn0
  have nm0 : (((1 : Int) + (n0 : Int)) != ((1 : Int) + (n0 : Int))) = false := by simp
  have nb1 : (L1 != L1) = false := by simp
  obtain ⟨AW0_, cW0_, rfl⟩ := sliceP oW0.read
  obtain ⟨AG0_, cG0_, rfl⟩ := sliceP oG0.read
  go_wp2_with fail
  refine (eqP _ _ L0 _ oG0.read oW0.read hs0).mono ?_
  rintro e u3 ⟨rfl, b3⟩
  have oW0 := oW0.past b3
  have oG0 := oG0.past b3
  have z3 := b3.size
  have D3 := D2.trans (b3.mono D2.size)
  go_wp2_with fail
  refine (markP _ L0 _ (1) _ oG0.ow oG0.nd (by omega) (by omega) hs0).mono ?_
  rintro e u4 ⟨rfl, m4, t4⟩
  have oW0 := oW0.apart oG0 t4 (by omega)
  have z4 := t4.size
  have D4 := D3.trans (oG0.under t4 (by omega))
  have oG0 := oG0.marked m4 t4
  rw [HN0.out]
  go_wp2_with fail
  refine (heldP _ L0 (1) _ oG0.read (by omega) (by omega) hs0).mono ?_
  rintro e w'_ ⟨rfl, rfl⟩
  rw [HN0.out]
  go_wp2_with fail
  refine (HAG.out _ (HT.out.past D4) (HE.out.past D4)).mono ?_
  rintro e u5 ⟨v5, rfl, oH00, b5⟩
  have oW0 := oW0.past b5
  have oG0 := oG0.past b5
  obtain ⟨k5, oH0⟩ := oH00.blocks
  clear oH00
  have z5 := b5.size
  have D5 := D4.trans (b5.mono D4.size)
  obtain ⟨AH0_, cH0_, rfl⟩ := sliceP oH0.read
  go_wp2_with fail
  refine (eqP _ _ L0 _ oH0.read oW0.read hs0).mono ?_
  rintro e u6 ⟨rfl, b6⟩
  have oW0 := oW0.past b6
  have oG0 := oG0.past b6
  have oH0 := oH0.past b6
  have z6 := b6.size
  have D6 := D5.trans (b6.mono D5.size)
  go_wp2_with fail
  refine (heldP _ L0 (1) _ oG0.read (by omega) (by omega) hs0).mono ?_
  rintro e w'_ ⟨rfl, rfl⟩
  rw [HN0.out]
  go_wp2
  go_ret
  exact ⟨rfl, D6⟩

set_option maxRecDepth 100000 in
theorem contract (H : Type) (enc : TypeId × Value → H) (W : World) (base : Nat) (args : Array Value) (ds gs : List (DataW H)) (before : List MemPlace)
    (hval0 : ∀ (j : Nat) t v, Tryd.f8.params[j]? = some t → args[j]? = some v → Value.okWide Tryd.prog W .any base t v)
    (hW : DataW.Whole enc Tryd.prog Tryd.f8.params.toList Rows.fnExactTextOpSpec.vars false W args.toList ds gs before) (hL : laidMetH Tryd.prog Rows.fnExactTextOpRow.laid W) :
    Calls Tryd.prog 8 args W fun e W' => ∃ v, e = .returned v ∧ Rows.fnExactTextOpSpec.post enc Tryd.prog Tryd.f8 false true false false W args v W' := by
  have hval : ∀ (j : Nat) t v, Tryd.f8.params[j]? = some t → args[j]? = some v → Value.okWide Tryd.prog W .any base t v := hval0
  have hW' := hW
  obtain ⟨p, q, hA0, hV, rfl, hfz, hnd⟩ := hW
  have hA : DataW.TrodAll enc Tryd.prog W 0 (fun _ => true) true Tryd.f8.params.toList args.toList ds p := hA0
  rw [Tryd.params8] at hA hval
  obtain ⟨v0, vs0, x0, xs0, q0, r0, hargs, rfl, rfl, h0, t0⟩ := trodAll_cons hA
  obtain ⟨rfl, rfl, rfl⟩ := trodAll_nil t0
  obtain rfl : args = #[v0] := by cases args; simp_all
  obtain ⟨rfl, rfl⟩ := trodVars_none hV
  have k0 := h0
  have lt0 : ∀ x ∈ q0, x.block < W.heap.size := by obtain ⟨m, hm⟩ := k0; exact DataW.trod_lt m _ _ _ hm
  obtain ⟨a0, rfl, rfl, rfl, w0⟩ := open_string Tryd.underlying9 (hval 0 9 v0 rfl rfl) h0
  clear hA0 hval0
  refine (walk a0 W w0 (table hL) (errs hL)).mono fun e W' ⟨he, bel⟩ => ?_
  subst he
  exact ⟨_, rfl, _, _, _, [], _, [], hW', trodAll_mk1 (shut_bool Tryd.underlying4 _), (trodAll_cons_mk (Below.trod laidOut (by kernel_rfl) (of_decide_eq_true (by kernel_rfl)) k0 bel lt0) trodAll_mk0), rfl, bel.frame _, fun h => by cases h⟩

/-- a world for the witness: the heap that the start-up code's own run leaves -/
noncomputable def laidWorld (os : Os) : World := World.doorLaid Tryd.prog 400 os
theorem laid_met (os : Os) : laidMet Tryd.prog Rows.fnExactTextOpRow.laid ((laidWorld os).forCall (fun _ _ => 0) ⟨#[], #[.string ByteArray.empty], []⟩).memory :=
  laidMet_of_run' 8 (by kernel_rfl) (by kernel_rfl)
theorem reads (os : Os) {H : Type} (enc : TypeId × Value → H) : ∃ places, DataW.whole enc Tryd.prog ((laidWorld os).forCall (fun _ _ => 0) ⟨#[], #[.string ByteArray.empty], []⟩).memory Tryd.f8.params.toList Rows.fnExactTextOpSpec.vars false #[Value.string ByteArray.empty].toList 8 = some ([.lit (.string [])], [], places) :=
  ⟨[], by kernel_rfl⟩

set_option maxRecDepth 100000 in
theorem lifted (os : Os) (started : os.Started) (H : Type) (enc : TypeId × Value → H) (F : Stop.Interp) :
    ReturnsInHanded {} Tryd.checked os 8 .any ((OpenSpec.ofChange Rows.fnExactTextOpSpec).preRow enc Tryd.prog Tryd.f8 Rows.fnExactTextOpRow.domain false Rows.fnExactTextOpRow.laid) (((OpenSpec.ofChange Rows.fnExactTextOpSpec).at F).post enc Tryd.prog Tryd.f8 false true false false) := by
  obtain ⟨places, hx⟩ := reads os enc
  refine returnsInHanded_of_row (C := Tryd.checked) (s := OpenSpec.ofChange Rows.fnExactTextOpSpec) own started (by kernel_rfl) Tryd.func8
    (witness_row_atRef (enc := enc) (C := Tryd.checked) false (laidWorld os) #[.string ByteArray.empty] rfl (by kernel_rfl) (by kernel_rfl) (by kernel_rfl)
      (OpenSpec.preRow_of_cond 8 hx (by kernel_rfl) (fun k hk => by cases hk) (by kernel_rfl) (laid_met os))) ?_
  intro W base args ds gs before hval hW _ _ _ hL _ _
  exact contract H enc W base args ds gs before hval hW hL

theorem said : Rows.FnExactTextOpSaid :=
  OpenClaim.holds_of_cond 8 Tryd.f8 rfl rfl rfl rfl rfl rfl rfl ⟨rfl, rfl, rfl, rfl, rfl⟩ rfl rfl rfl rfl rfl (by kernel_rfl) Tryd.func8 (by kernel_rfl)
    (of_decide_eq_true (by kernel_rfl)) (by unfold Func.isWrapper; first | (rw [if_pos (by decide +kernel)]; kernel_rfl) | (rw [if_neg (by decide +kernel)]; exact ⟨rfl, rfl⟩))
    (fun os started H enc _ F => by rw [OpenClaim.pre_eq_preRow]; exact lifted os started H enc F)

theorem plain (f : FuncId) (fn : Func) (hf : Tryd.pinned.checked.prog.funcNamed "loop.example/g00797/laws.FnExactTextOp" = some f) (hfn : Tryd.pinned.checked.prog.funcs[f]? = some fn) :
    true = Tryd.pinned.checked.prog.looks [] ∧ ∀ (j : Nat) t, fn.params[j]? = some t → Tryd.pinned.checked.prog.wantsStandIn t = false := by
  obtain rfl : f = 8 := Option.some.inj ((show Tryd.prog.funcNamed "loop.example/g00797/laws.FnExactTextOp" = some 8 by kernel_rfl).symm.trans hf) |>.symm
  obtain rfl : fn = Tryd.f8 := (Option.some.inj (Tryd.func8.symm.trans hfn)).symm
  refine ⟨by kernel_rfl, fun j t ht => ?_⟩
  have hall : (Tryd.f8.params.toList.all fun t => !Tryd.prog.wantsStandIn t) = true := by kernel_rfl
  have hm := List.all_eq_true.1 hall t (by rw [Array.mem_toList_iff]; exact Array.mem_of_getElem? ht)
  have hm' : (!Tryd.prog.wantsStandIn t) = true := hm
  exact show Tryd.prog.wantsStandIn t = false by
    cases hq : Tryd.prog.wantsStandIn t
    · rfl
    · rw [hq] at hm'
      cases hm'

theorem card : Rows.FnExactTextOpCardSaid :=
  Claim7.holds_tied_plain_at .later [] _ _ _ _ said (fun _ h => by cases h) (by kernel_rfl) (fun _ h => by cases h) fnExactTextOp_row_tie rfl ⟨rfl, rfl⟩ (by kernel_rfl) rfl plain (by kernel_rfl)
end Go.Proofs.YtbbpapaobehlcaaDoor.fnExactTextOp
