/-
  Proved: for every argument (slice of numbers), the law FnExactShow of this seat's translation returns true (impl.Show answers as spec.Show does, leaves its arguments alone); no conditions.
-/
import Derived.Test.YtoiaoeccfedfiaaRows
import Derived.Test.YtoiaoeccfedfiaaM1
import Derived.WalkKit
import Derived.ProofKit
import Derived.OpenShut
import Derived.ShutString
import Derived.ChangeOld
import Derived.Below
namespace Go.Proofs.Ytoiaoeccfedfiaa.fnExactShow
open Go.ChangeShapes Go.WideShapes Go.ChangeAt Go.RowKit
open Go.ChangeMaps (open_string shut_string)
open low
set_option linter.unusedVariables false

theorem own : ownKnob Try.prog.godebug = none := by kernel_rfl
set_option maxRecDepth 100000 in
set_option maxHeartbeats 3200000 in
theorem walk (A0 : Option Addr) (c0 : Nat) (zs0 : List Int) (w : World) (w0 : RdC w w.heap.size (encInts zs0) (.slice A0 zs0.length c0)) (l0 : zs0.length ≤ maxLen) :
    Calls Try.prog 3 #[.slice A0 zs0.length c0] w fun e w' => e = .returned (.bool true) ∧ Below w.heap.size w w' := by
  have D0 : Below w.heap.size w w := Below.refl _ _
  have R0 := w0
  by_cases big0 : (1048576 : Int) < (zs0.length : Int)
  · go_enter Try.func3, Try.ntmps3
    go_wp2
    go_ret
    exact ⟨rfl, D0⟩
  have S0 : SmI zs0 := by unfold SmI; omega
  go_enter Try.func3, Try.ntmps3
  go_wp2_with fail
  refine (toI _ zs0 _ (R0.past D0) S0).mono ?_
  rintro e u1 ⟨v1, rfl, oT00, b1⟩
  obtain ⟨k1, oT0⟩ := oT00.blocks
  clear oT00
  obtain ⟨A1_, c1_, rfl⟩ := sliceI oT0.read
  have z1 := b1.size
  have D1 := D0.trans (b1.mono D0.size)
  go_wp2_with fail
  refine (specShow_d _ zs0 _ oT0.read S0).mono ?_
  rintro e u2 ⟨rfl, b2⟩
  have oT0 := oT0.past b2
  have z2 := b2.size
  have D2 := D1.trans (b2.mono D1.size)
  clear oT0
  go_wp2_with fail
  refine (toI _ zs0 _ (R0.past D2) S0).mono ?_
  rintro e u3 ⟨v3, rfl, oX00, b3⟩
  obtain ⟨k3, oX0⟩ := oX00.blocks
  clear oX00
  obtain ⟨A3_, c3_, rfl⟩ := sliceI oX0.read
  have z3 := b3.size
  have D3 := D2.trans (b3.mono D2.size)
  go_wp2_with fail
  refine (implShow_d _ zs0 _ oX0.read S0 ).mono ?_
  rintro e u4 ⟨rfl, b4⟩
  have oX0 := oX0.past b4
  have z4 := b4.size
  have D4 := D3.trans (b4.mono D3.size)
  have hagain : ∀ (x0_ : Value) (u : World), RdC u u.heap.size (encInts zs0) x0_ → Calls Try.prog 6 #[x0_] u (Strs (showT zs0) u) := fun x0_ u h0_  => implShow_d x0_ zs0 u h0_ S0 
  have HAG := Lib.hid hagain
  clear hagain
  generalize (showT zs0) = L0 at *
  have nb0 : ((L0 : ByteArray).toList == L0.toList) = true := by simp
  go_wp2_with fail
  refine (toI _ zs0 _ (R0.past D4) S0).mono ?_
  rintro e u5 ⟨v5, rfl, oT90, b5⟩
  obtain ⟨k5, oT9⟩ := oT90.blocks
  clear oT90
  obtain ⟨A5_, c5_, rfl⟩ := sliceI oT9.read
  have oX0 := oX0.past b5
  have z5 := b5.size
  have D5 := D4.trans (b5.mono D4.size)
  go_wp2_with fail
  refine (eqI _ _ zs0 _ oX0.read oT9.read S0).mono ?_
  rintro e u6 ⟨rfl, b6⟩
  have oX0 := oX0.past b6
  have oT9 := oT9.past b6
  have z6 := b6.size
  have D6 := D5.trans (b6.mono D5.size)
  clear oT9
  go_wp2
  go_ret
  exact ⟨rfl, D6⟩

set_option maxRecDepth 100000 in
theorem lifted (os : Os) (started : os.Started) (H : Type) (enc : TypeId × Value → H) :
    ReturnsInHanded {} Try.checked os 3 .any (Rows.fnExactShowSpec.pre6 enc Try.prog Try.f3 Rows.fnExactShowRow.domain false) (Rows.fnExactShowSpec.post enc Try.prog Try.f3 false true false false) := by
  refine returnsInHanded_of_change (C := Try.checked) own started (by kernel_rfl) Try.func3
    (ChangeSpec.witness6 (enc := enc) (C := Try.checked) false ⟨#[], #[.slice none 0 0], []⟩ 8 (by kernel_rfl) (by kernel_rfl) (by kernel_rfl) (by kernel_rfl)) ?_
  intro W base args ds gs before hval0 hW hcnd _
  have hval : ∀ (j : Nat) t v, Try.f3.params[j]? = some t → args[j]? = some v → Value.okWide Try.prog W .any base t v := hval0
  have hW' := hW
  obtain ⟨p, q, hA0, hV, rfl, hfz, hnd⟩ := hW
  have hA : DataW.TrodAll enc Try.prog W 0 (fun _ => true) true Try.f3.params.toList args.toList ds p := hA0
  rw [Try.params3] at hA hval
  obtain ⟨v0, vs0, x0, xs0, q0, r0, hargs, rfl, rfl, h0, t0⟩ := trodAll_cons hA
  obtain ⟨rfl, rfl, rfl⟩ := trodAll_nil t0
  obtain rfl : args = #[v0] := by cases args; simp_all
  obtain ⟨rfl, rfl⟩ := trodVars_none hV
  have k0 := h0
  have lt0 : ∀ x ∈ q0, x.block < W.heap.size := by obtain ⟨m, hm⟩ := k0; exact DataW.trod_lt m _ _ _ hm
  obtain ⟨B0, n0, d0, rfl⟩ := okWide_slice Try.underlying22 (hval 0 22 v0 rfl rfl)
  obtain ⟨f0, hf0⟩ := h0
  obtain ⟨A0, c0, zs0, e0, w0, l0⟩ := open_dints hf0
  obtain ⟨rfl, rfl, rfl⟩ : B0 = A0 ∧ n0 = zs0.length ∧ d0 = c0 := by simpa [Value.cells] using e0
  clear hA0 hval0
  refine (walk B0 d0 zs0 W w0 l0).mono fun e W' ⟨he, bel⟩ => ?_
  subst he
  exact ⟨_, rfl, _, _, _, [], _, [], hW', trodAll_mk1 (shut_bool Try.underlying4 _), (trodAll_cons_mk (Below.trod laidOut (by kernel_rfl) (of_decide_eq_true (by kernel_rfl)) k0 bel lt0) trodAll_mk0), rfl, bel.frame _, fun h => by cases h⟩

theorem over : Rows.fnExactShowRow.holds Try.pinned (OpenSpec.ofChange Rows.fnExactShowSpec) :=
  OpenClaim.holds_of_wide 3 Try.f3 rfl rfl rfl rfl rfl rfl rfl ⟨rfl, rfl, rfl, rfl, rfl⟩ rfl rfl rfl rfl rfl (by kernel_rfl) Try.func3 (by kernel_rfl)
    (of_decide_eq_true (by kernel_rfl)) (by unfold Func.isWrapper; first | (rw [if_pos (by decide +kernel)]; kernel_rfl) | (rw [if_neg (by decide +kernel)]; exact ⟨rfl, rfl⟩))
    (fun os started H enc _ => lifted os started H enc)

theorem proved : Rows.FnExactShowSaid := over
end Go.Proofs.Ytoiaoeccfedfiaa.fnExactShow
