/-
  Proved: for every argument (slice of parts, number, bool), the law FnExactShift of this seat's translation returns true (impl.Shift answers as spec.Shift does, leaves its arguments alone); no conditions.
-/
import Derived.Test.YtmlkeflnnaabeaaRows
import Derived.Test.YtmlkeflnnaabeaaM1
import Derived.WalkKit
import Derived.ProofKit
import Derived.OpenShut
import Derived.ShutString
import Derived.ChangeOld
import Derived.Below
import Derived.Test.YtmlkeflnnaabeaaM3
namespace Go.Proofs.Ytmlkeflnnaabeaa.fnExactShift
open Go.ChangeShapes Go.WideShapes Go.ChangeAt Go.RowKit
open Go.ChangeMaps (open_string shut_string)
open low
set_option linter.unusedVariables false

theorem own : ownKnob Try.prog.godebug = none := by kernel_rfl
set_option maxRecDepth 100000 in
set_option maxHeartbeats 3200000 in
theorem walk (A0 : Option Addr) (c0 : Nat) (ps0 : List Pt) (a1 : Int) (a2 : Bool) (w : World) (w0 : RdC w w.heap.size (encPs ps0) (.slice A0 ps0.length c0)) (l0 : ps0.length ≤ maxLen) (m0 : ∀ p ∈ ps0, p.signs.length ≤ maxLen) (w1 : (Lit.int .i64 a1).wf = true)  :
    Calls Try.prog 6 #[.slice A0 ps0.length c0, .int .i64 a1, .bool a2] w fun e w' => e = .returned (.bool true) ∧ Below w.heap.size w w' := by
  have D0 : Below w.heap.size w w := Below.refl _ _
  have R0 := w0
  go_enter Try.func6, Try.ntmps6
  go_wp2_with fail
  refine (szP _ ps0 1048576 _ (R0.past D0) (by omega) (by omega) ⟨l0, m0⟩).mono ?_
  rintro e u1 ⟨r1, rfl, hr1, b1⟩
  rcases hr1 with rfl | ⟨p1, q1⟩
  · go_wp2
    go_ret
    exact ⟨rfl, D0.trans (b1.mono D0.size)⟩
  have S0 : SmP ps0 := ⟨by omega, by omega⟩
  have t1 : r1 ≤ 1048576 := by omega
  clear q1
  have z1 := b1.size
  have D1 := D0.trans (b1.mono D0.size)
  go_wp2_with fail
  refine (toP _ ps0 _ (R0.past D1) S0).mono ?_
  rintro e u2 ⟨v2, rfl, oT00, b2⟩
  obtain ⟨k2, oT0⟩ := oT00.blocks
  clear oT00
  obtain ⟨A2_, c2_, rfl⟩ := sliceP oT0.read
  have z2 := b2.size
  have D2 := D1.trans (b2.mono D1.size)
  go_wp2_with fail
  refine (specShift_d _ ps0 a1 a2 _ oT0.read S0).mono ?_
  rintro e u3 ⟨rfl, b3⟩
  have oT0 := oT0.past b3
  have z3 := b3.size
  have D3 := D2.trans (b3.mono D2.size)
  clear oT0
  go_wp2_with fail
  refine (toP _ ps0 _ (R0.past D3) S0).mono ?_
  rintro e u4 ⟨v4, rfl, oX00, b4⟩
  obtain ⟨k4, oX0⟩ := oX00.blocks
  clear oX00
  obtain ⟨A4_, c4_, rfl⟩ := sliceP oX0.read
  have z4 := b4.size
  have D4 := D3.trans (b4.mono D3.size)
  go_wp2_with fail
  refine (implShift_d _ ps0 a1 a2 _ oX0.read S0).mono ?_
  rintro e u5 ⟨rfl, b5⟩
  have oX0 := oX0.past b5
  have z5 := b5.size
  have D5 := D4.trans (b5.mono D4.size)
  have hagain : ∀ (x0_ : Value) (u : World), RdC u u.heap.size (encPs ps0) x0_ → Calls Try.prog 17 #[x0_, .int .i64 a1, .bool a2] u (NumB (shiftT ps0 a1 a2) (shiftB ps0 a1) u) := fun x0_ u h0_ => implShift_d x0_ ps0 a1 a2 u h0_ S0
  have HAG := Lib.hid hagain
  clear hagain
  generalize (shiftT ps0 a1 a2) = L0 at *
  generalize (shiftB ps0 a1) = L1 at *
  have nb0 : ((L0 : Int) != L0) = false := by simp
  have nb1 : (L1 != L1) = false := by simp
  go_wp2_with fail
  refine (toP _ ps0 _ (R0.past D5) S0).mono ?_
  rintro e u6 ⟨v6, rfl, oT90, b6⟩
  obtain ⟨k6, oT9⟩ := oT90.blocks
  clear oT90
  obtain ⟨A6_, c6_, rfl⟩ := sliceP oT9.read
  have oX0 := oX0.past b6
  have z6 := b6.size
  have D6 := D5.trans (b6.mono D5.size)
  go_wp2_with fail
  refine (eqP _ _ ps0 _ oX0.read oT9.read S0).mono ?_
  rintro e u7 ⟨rfl, b7⟩
  have oX0 := oX0.past b7
  have oT9 := oT9.past b7
  have z7 := b7.size
  have D7 := D6.trans (b7.mono D6.size)
  clear oT9
  go_wp2
  go_ret
  exact ⟨rfl, D7⟩

set_option maxRecDepth 100000 in
theorem lifted (os : Os) (started : os.Started) (H : Type) (enc : TypeId × Value → H) :
    ReturnsInHanded {} Try.checked os 6 .any (Rows.fnExactShiftSpec.pre6 enc Try.prog Try.f6 Rows.fnExactShiftRow.domain false) (Rows.fnExactShiftSpec.post enc Try.prog Try.f6 false true false false) := by
  refine returnsInHanded_of_change (C := Try.checked) own started (by kernel_rfl) Try.func6
    (ChangeSpec.witness6 (enc := enc) (C := Try.checked) false ⟨#[], #[.slice none 0 0, .int .i64 0, .bool false], []⟩ 8 (by kernel_rfl) (by kernel_rfl) (by kernel_rfl) (by kernel_rfl)) ?_
  intro W base args ds gs before hval0 hW hcnd _
  have hval : ∀ (j : Nat) t v, Try.f6.params[j]? = some t → args[j]? = some v → Value.okWide Try.prog W .any base t v := hval0
  have hW' := hW
  obtain ⟨p, q, hA0, hV, rfl, hfz, hnd⟩ := hW
  have hA : DataW.TrodAll enc Try.prog W 0 (fun _ => true) true Try.f6.params.toList args.toList ds p := hA0
  rw [Try.params6] at hA hval
  obtain ⟨v0, vs0, x0, xs0, q0, r0, hargs, rfl, rfl, h0, t0⟩ := trodAll_cons hA
  obtain ⟨v1, vs1, x1, xs1, q1, r1, rfl, rfl, rfl, h1, t1⟩ := trodAll_cons t0
  obtain ⟨v2, vs2, x2, xs2, q2, r2, rfl, rfl, rfl, h2, t2⟩ := trodAll_cons t1
  obtain ⟨rfl, rfl, rfl⟩ := trodAll_nil t2
  obtain rfl : args = #[v0, v1, v2] := by cases args; simp_all
  obtain ⟨rfl, rfl⟩ := trodVars_none hV
  have k0 := h0
  have lt0 : ∀ x ∈ q0, x.block < W.heap.size := by obtain ⟨m, hm⟩ := k0; exact DataW.trod_lt m _ _ _ hm
  have k1 := h1
  have lt1 : ∀ x ∈ q1, x.block < W.heap.size := by obtain ⟨m, hm⟩ := k1; exact DataW.trod_lt m _ _ _ hm
  have k2 := h2
  have lt2 : ∀ x ∈ q2, x.block < W.heap.size := by obtain ⟨m, hm⟩ := k2; exact DataW.trod_lt m _ _ _ hm
  obtain ⟨B0, n0, d0, rfl⟩ := okWide_slice Try.underlying48 (hval 0 48 v0 rfl rfl)
  obtain ⟨f0, hf0⟩ := h0
  obtain ⟨ps0, A0, c0, e0, w0, l0, m0⟩ := open_dparts hf0
  obtain ⟨rfl, rfl, rfl⟩ : B0 = A0 ∧ n0 = ps0.length ∧ d0 = c0 := by simpa [Value.cells] using e0
  obtain ⟨a1, rfl, rfl, rfl, w1⟩ := open_int Try.underlying3 (hval 1 3 v1 rfl rfl) h1
  obtain ⟨a2, rfl, rfl, rfl⟩ := open_bool Try.underlying4 (hval 2 4 v2 rfl rfl) h2
  clear hA0 hval0
  refine (walk B0 d0 ps0 a1 a2 W w0 l0 m0 w1 ).mono fun e W' ⟨he, bel⟩ => ?_
  subst he
  exact ⟨_, rfl, _, _, _, [], _, [], hW', trodAll_mk1 (shut_bool Try.underlying4 _), (trodAll_cons_mk (Below.trod laidOut (by kernel_rfl) (of_decide_eq_true (by kernel_rfl)) k0 bel lt0) (trodAll_cons_mk (Below.trod laidOut (by kernel_rfl) (of_decide_eq_true (by kernel_rfl)) k1 bel lt1) (trodAll_cons_mk (Below.trod laidOut (by kernel_rfl) (of_decide_eq_true (by kernel_rfl)) k2 bel lt2) trodAll_mk0))), rfl, bel.frame _, fun h => by cases h⟩

theorem over : Rows.fnExactShiftRow.holds Try.pinned (OpenSpec.ofChange Rows.fnExactShiftSpec) :=
  OpenClaim.holds_of_wide 6 Try.f6 rfl rfl rfl rfl rfl rfl rfl ⟨rfl, rfl, rfl, rfl, rfl⟩ rfl rfl rfl rfl rfl (by kernel_rfl) Try.func6 (by kernel_rfl)
    (of_decide_eq_true (by kernel_rfl)) (by unfold Func.isWrapper; first | (rw [if_pos (by decide +kernel)]; kernel_rfl) | (rw [if_neg (by decide +kernel)]; exact ⟨rfl, rfl⟩))
    (fun os started H enc _ => lifted os started H enc)

theorem proved : Rows.FnExactShiftSaid := over
end Go.Proofs.Ytmlkeflnnaabeaa.fnExactShift
