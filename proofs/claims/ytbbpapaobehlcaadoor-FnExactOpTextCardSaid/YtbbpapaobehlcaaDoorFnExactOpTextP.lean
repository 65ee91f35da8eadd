/-
  Proved: for every argument (slice of parts), the law FnExactOpText of this seat's translation returns true (impl.OpText answers as spec.OpText does, leaves its arguments alone); where the listed variables of the library start as the program's text lays them, and the card that ties them to that text.
-/
import Derived.Test.YtbbpapaobehlcaaDoorCards
import Derived.Test.YtbbpapaobehlcaaDoorTie
import Derived.Test.YtbbpapaobehlcaaDoorM1
import Derived.WalkKit
import Derived.ProofKit
import Derived.OpenShut
import Derived.ShutString
import Derived.ChangeOld
import Derived.Below
import Derived.Deep.DeepHandedRow
import Derived.Lib.LaidTab
import Derived.LaidSub
import Derived.LaidMore
import Derived.MakeChecks
import Derived.Deep.DeepWitnessRowRef
import Derived.Test.YtbbpapaobehlcaaDoorM3
import Derived.Test.YtbbpapaobehlcaaDoorM4
namespace Go.Proofs.YtbbpapaobehlcaaDoor.fnExactOpText
open Go.ChangeShapes Go.WideShapes Go.ChangeAt Go.RowKit
open Go.ChangeMaps (open_string shut_string)
open low
set_option linter.unusedVariables false

theorem own : ownKnob Tryd.prog.godebug = none := by kernel_rfl
theorem table {W : World} (h : laidMetH Tryd.prog Rows.fnExactOpTextRow.laid W) : nt.Tab W := by
  have h1 : laidMetH Tryd.prog [("internal/strconv.uint64pow10", Rows.laid_internal_strconv_uint64pow10)] W := laidMetH.filter (fun x => x.1 == "internal/strconv.uint64pow10") h
  exact nt.tab_of h1
set_option maxRecDepth 100000 in
set_option maxHeartbeats 3200000 in
theorem walk (A0 : Option Addr) (c0 : Nat) (ps0 : List Pt) (w : World) (w0 : RdC w w.heap.size (encPs ps0) (.slice A0 ps0.length c0)) (l0 : ps0.length ≤ maxLen) (m0 : ∀ p ∈ ps0, p.signs.length ≤ maxLen) (ht : nt.Tab w) :
    Calls Tryd.prog 7 #[.slice A0 ps0.length c0] w fun e w' => e = .returned (.bool true) ∧ Below w.heap.size w w' := by
  have HT := Lib.hid ht
  clear ht
  have D0 : Below w.heap.size w w := Below.refl _ _
  have R0 := w0
  go_enter Tryd.func7, Tryd.ntmps7
  go_wp2_with fail
  refine (szP _ ps0 1048576 _ (R0.past D0) (by omega) (by omega) ⟨l0, m0⟩).mono ?_
  rintro e u1 ⟨r1, rfl, hr1, b1⟩
  rcases hr1 with rfl | ⟨p1, q1⟩
  · go_wp2
    go_ret
    exact ⟨rfl, D0.trans (b1.mono D0.size)⟩
  have S0 : SmP ps0 := ⟨by omega, by omega⟩
  have t1 : r1 ≤ 1048576 := by omega
  clear q1
  have z1 := b1.size
  have D1 := D0.trans (b1.mono D0.size)
  go_wp2_with fail
  refine (toP _ ps0 _ (R0.past D1) S0).mono ?_
  rintro e u2 ⟨v2, rfl, oT00, b2⟩
  obtain ⟨k2, oT0⟩ := oT00.blocks
  clear oT00
  obtain ⟨A2_, c2_, rfl⟩ := sliceP oT0.read
  have z2 := b2.size
  have D2 := D1.trans (b2.mono D1.size)
  go_wp2_with fail
  refine (specOpText_d _ ps0 _ oT0.read S0).mono ?_
  rintro e u3 ⟨rfl, b3⟩
  have oT0 := oT0.past b3
  have z3 := b3.size
  have D3 := D2.trans (b3.mono D2.size)
  clear oT0
  go_wp2_with fail
  refine (toP _ ps0 _ (R0.past D3) S0).mono ?_
  rintro e u4 ⟨v4, rfl, oX00, b4⟩
  obtain ⟨k4, oX0⟩ := oX00.blocks
  clear oX00
  obtain ⟨A4_, c4_, rfl⟩ := sliceP oX0.read
  have z4 := b4.size
  have D4 := D3.trans (b4.mono D3.size)
  go_wp2_with fail
  refine (implOpText_d _ ps0 _ oX0.read S0 (HT.out.past D4)).mono ?_
  rintro e u5 ⟨rfl, b5⟩
  have oX0 := oX0.past b5
  have z5 := b5.size
  have D5 := D4.trans (b5.mono D4.size)
  have hagain : ∀ (x0_ : Value) (u : World), RdC u u.heap.size (encPs ps0) x0_ → nt.Tab u → Calls Tryd.prog 13 #[x0_] u (Strs (opT ps0) u) := fun x0_ u h0_ htab => implOpText_d x0_ ps0 u h0_ S0 htab
  have HAG := Lib.hid hagain
  clear hagain
  generalize (opT ps0) = L0 at *
  have nb0 : ((L0 : ByteArray).toList == L0.toList) = true := by simp
  go_wp2_with fail
  refine (toP _ ps0 _ (R0.past D5) S0).mono ?_
  rintro e u6 ⟨v6, rfl, oT90, b6⟩
  obtain ⟨k6, oT9⟩ := oT90.blocks
  clear oT90
  obtain ⟨A6_, c6_, rfl⟩ := sliceP oT9.read
  have oX0 := oX0.past b6
  have z6 := b6.size
  have D6 := D5.trans (b6.mono D5.size)
  go_wp2_with fail
  refine (eqP _ _ ps0 _ oX0.read oT9.read S0).mono ?_
  rintro e u7 ⟨rfl, b7⟩
  have oX0 := oX0.past b7
  have oT9 := oT9.past b7
  have z7 := b7.size
  have D7 := D6.trans (b7.mono D6.size)
  clear oT9
  go_wp2
  go_ret
  exact ⟨rfl, D7⟩

set_option maxRecDepth 100000 in
theorem contract (H : Type) (enc : TypeId × Value → H) (W : World) (base : Nat) (args : Array Value) (ds gs : List (DataW H)) (before : List MemPlace)
    (hval0 : ∀ (j : Nat) t v, Tryd.f7.params[j]? = some t → args[j]? = some v → Value.okWide Tryd.prog W .any base t v)
    (hW : DataW.Whole enc Tryd.prog Tryd.f7.params.toList Rows.fnExactOpTextSpec.vars false W args.toList ds gs before) (hL : laidMetH Tryd.prog Rows.fnExactOpTextRow.laid W) :
    Calls Tryd.prog 7 args W fun e W' => ∃ v, e = .returned v ∧ Rows.fnExactOpTextSpec.post enc Tryd.prog Tryd.f7 false true false false W args v W' := by
  have hval : ∀ (j : Nat) t v, Tryd.f7.params[j]? = some t → args[j]? = some v → Value.okWide Tryd.prog W .any base t v := hval0
  have hW' := hW
  obtain ⟨p, q, hA0, hV, rfl, hfz, hnd⟩ := hW
  have hA : DataW.TrodAll enc Tryd.prog W 0 (fun _ => true) true Tryd.f7.params.toList args.toList ds p := hA0
  rw [Tryd.params7] at hA hval
  obtain ⟨v0, vs0, x0, xs0, q0, r0, hargs, rfl, rfl, h0, t0⟩ := trodAll_cons hA
  obtain ⟨rfl, rfl, rfl⟩ := trodAll_nil t0
  obtain rfl : args = #[v0] := by cases args; simp_all
  obtain ⟨rfl, rfl⟩ := trodVars_none hV
  have k0 := h0
  have lt0 : ∀ x ∈ q0, x.block < W.heap.size := by obtain ⟨m, hm⟩ := k0; exact DataW.trod_lt m _ _ _ hm
  obtain ⟨B0, n0, d0, rfl⟩ := okWide_slice Tryd.underlying51 (hval 0 51 v0 rfl rfl)
  obtain ⟨f0, hf0⟩ := h0
  obtain ⟨ps0, A0, c0, e0, w0, l0, m0⟩ := open_dparts hf0
  obtain ⟨rfl, rfl, rfl⟩ : B0 = A0 ∧ n0 = ps0.length ∧ d0 = c0 := by simpa [Value.cells] using e0
  clear hA0 hval0
  refine (walk B0 d0 ps0 W w0 l0 m0 (table hL)).mono fun e W' ⟨he, bel⟩ => ?_
  subst he
  exact ⟨_, rfl, _, _, _, [], _, [], hW', trodAll_mk1 (shut_bool Tryd.underlying4 _), (trodAll_cons_mk (Below.trod laidOut (by kernel_rfl) (of_decide_eq_true (by kernel_rfl)) k0 bel lt0) trodAll_mk0), rfl, bel.frame _, fun h => by cases h⟩

/-- a world for the witness: the heap that the start-up code's own run leaves -/
noncomputable def laidWorld (os : Os) : World := World.doorLaid Tryd.prog 400 os
theorem laid_met (os : Os) : laidMet Tryd.prog Rows.fnExactOpTextRow.laid ((laidWorld os).forCall (fun _ _ => 0) ⟨#[], #[.slice none 0 0], []⟩).memory :=
  laidMet_of_run' 8 (by kernel_rfl) (by kernel_rfl)
theorem reads (os : Os) {H : Type} (enc : TypeId × Value → H) : ∃ places, DataW.whole enc Tryd.prog ((laidWorld os).forCall (fun _ _ => 0) ⟨#[], #[.slice none 0 0], []⟩).memory Tryd.f7.params.toList Rows.fnExactOpTextSpec.vars false #[Value.slice none 0 0].toList 8 = some ([.nil], [], places) :=
  ⟨[], by kernel_rfl⟩

set_option maxRecDepth 100000 in
theorem lifted (os : Os) (started : os.Started) (H : Type) (enc : TypeId × Value → H) (F : Stop.Interp) :
    ReturnsInHanded {} Tryd.checked os 7 .any ((OpenSpec.ofChange Rows.fnExactOpTextSpec).preRow enc Tryd.prog Tryd.f7 Rows.fnExactOpTextRow.domain false Rows.fnExactOpTextRow.laid) (((OpenSpec.ofChange Rows.fnExactOpTextSpec).at F).post enc Tryd.prog Tryd.f7 false true false false) := by
  obtain ⟨places, hx⟩ := reads os enc
  refine returnsInHanded_of_row (C := Tryd.checked) (s := OpenSpec.ofChange Rows.fnExactOpTextSpec) own started (by kernel_rfl) Tryd.func7
    (witness_row_atRef (enc := enc) (C := Tryd.checked) false (laidWorld os) #[.slice none 0 0] rfl (by kernel_rfl) (by kernel_rfl) (by kernel_rfl)
      (OpenSpec.preRow_of_cond 8 hx (by kernel_rfl) (fun k hk => by cases hk) (by kernel_rfl) (laid_met os))) ?_
  intro W base args ds gs before hval hW _ _ _ hL _ _
  exact contract H enc W base args ds gs before hval hW hL

theorem said : Rows.FnExactOpTextSaid :=
  OpenClaim.holds_of_cond 7 Tryd.f7 rfl rfl rfl rfl rfl rfl rfl ⟨rfl, rfl, rfl, rfl, rfl⟩ rfl rfl rfl rfl rfl (by kernel_rfl) Tryd.func7 (by kernel_rfl)
    (of_decide_eq_true (by kernel_rfl)) (by unfold Func.isWrapper; first | (rw [if_pos (by decide +kernel)]; kernel_rfl) | (rw [if_neg (by decide +kernel)]; exact ⟨rfl, rfl⟩))
    (fun os started H enc _ F => by rw [OpenClaim.pre_eq_preRow]; exact lifted os started H enc F)

theorem plain (f : FuncId) (fn : Func) (hf : Tryd.pinned.checked.prog.funcNamed "loop.example/g00797/laws.FnExactOpText" = some f) (hfn : Tryd.pinned.checked.prog.funcs[f]? = some fn) :
    true = Tryd.pinned.checked.prog.looks [] ∧ ∀ (j : Nat) t, fn.params[j]? = some t → Tryd.pinned.checked.prog.wantsStandIn t = false := by
  obtain rfl : f = 7 := Option.some.inj ((show Tryd.prog.funcNamed "loop.example/g00797/laws.FnExactOpText" = some 7 by kernel_rfl).symm.trans hf) |>.symm
  obtain rfl : fn = Tryd.f7 := (Option.some.inj (Tryd.func7.symm.trans hfn)).symm
  refine ⟨by kernel_rfl, fun j t ht => ?_⟩
  have hall : (Tryd.f7.params.toList.all fun t => !Tryd.prog.wantsStandIn t) = true := by kernel_rfl
  have hm := List.all_eq_true.1 hall t (by rw [Array.mem_toList_iff]; exact Array.mem_of_getElem? ht)
  have hm' : (!Tryd.prog.wantsStandIn t) = true := hm
  exact show Tryd.prog.wantsStandIn t = false by
    cases hq : Tryd.prog.wantsStandIn t
    · rfl
    · rw [hq] at hm'
      cases hm'

theorem card : Rows.FnExactOpTextCardSaid :=
  Claim7.holds_tied_plain_at .later [] _ _ _ _ said (fun _ h => by cases h) (by kernel_rfl) (fun _ h => by cases h) fnExactOpText_row_tie rfl ⟨rfl, rfl⟩ (by kernel_rfl) rfl plain (by kernel_rfl)
end Go.Proofs.YtbbpapaobehlcaaDoor.fnExactOpText
