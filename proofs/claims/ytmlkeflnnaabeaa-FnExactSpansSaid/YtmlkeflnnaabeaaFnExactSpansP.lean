/-
  Proved: for every argument (slice of parts), the law FnExactSpans of this seat's translation returns true (impl.Spans answers as spec.Spans does, twice, leaves its arguments alone, and its result owns its memory); no conditions.
-/
import Derived.Test.YtmlkeflnnaabeaaRows
import Derived.Test.YtmlkeflnnaabeaaM1
import Derived.WalkKit
import Derived.ProofKit
import Derived.OpenShut
import Derived.ShutString
import Derived.ChangeOld
import Derived.Below
import Derived.Test.YtmlkeflnnaabeaaM3
namespace Go.Proofs.Ytmlkeflnnaabeaa.fnExactSpans
open Go.ChangeShapes Go.WideShapes Go.ChangeAt Go.RowKit
open Go.ChangeMaps (open_string shut_string)
open low
set_option linter.unusedVariables false

theorem own : ownKnob Try.prog.godebug = none := by kernel_rfl
set_option maxRecDepth 100000 in
set_option maxHeartbeats 3200000 in
theorem walk (A0 : Option Addr) (c0 : Nat) (ps0 : List Pt) (w : World) (w0 : RdC w w.heap.size (encPs ps0) (.slice A0 ps0.length c0)) (l0 : ps0.length ≤ maxLen) (m0 : ∀ p ∈ ps0, p.signs.length ≤ maxLen) :
    Calls Try.prog 8 #[.slice A0 ps0.length c0] w fun e w' => e = .returned (.bool true) ∧ Below w.heap.size w w' := by
  have D0 : Below w.heap.size w w := Below.refl _ _
  have R0 := w0
  go_enter Try.func8, Try.ntmps8
  go_wp2_with fail
  refine (szP _ ps0 1048576 _ (R0.past D0) (by omega) (by omega) ⟨l0, m0⟩).mono ?_
  rintro e u1 ⟨r1, rfl, hr1, b1⟩
  rcases hr1 with rfl | ⟨p1, q1⟩
  · go_wp2
    go_ret
    exact ⟨rfl, D0.trans (b1.mono D0.size)⟩
  have S0 : SmP ps0 := ⟨by omega, by omega⟩
  have t1 : r1 ≤ 1048576 := by omega
  clear q1
  have z1 := b1.size
  have D1 := D0.trans (b1.mono D0.size)
  go_wp2_with fail
  refine (toP _ ps0 _ (R0.past D1) S0).mono ?_
  rintro e u2 ⟨v2, rfl, oT00, b2⟩
  obtain ⟨k2, oT0⟩ := oT00.blocks
  clear oT00
  obtain ⟨A2_, c2_, rfl⟩ := sliceP oT0.read
  have z2 := b2.size
  have D2 := D1.trans (b2.mono D1.size)
  go_wp2_with fail
  refine (specSpans_d _ ps0 _ oT0.read S0).mono ?_
  rintro e u3 ⟨v3, rfl, oW00, b3⟩
  have oT0 := oT0.past b3
  obtain ⟨k3, oW0⟩ := oW00.blocks
  clear oW00
  have z3 := b3.size
  have D3 := D2.trans (b3.mono D2.size)
  clear oT0
  go_wp2_with fail
  refine (toP _ ps0 _ (R0.past D3) S0).mono ?_
  rintro e u4 ⟨v4, rfl, oX00, b4⟩
  obtain ⟨k4, oX0⟩ := oX00.blocks
  clear oX00
  obtain ⟨A4_, c4_, rfl⟩ := sliceP oX0.read
  have oW0 := oW0.past b4
  have z4 := b4.size
  have D4 := D3.trans (b4.mono D3.size)
  go_wp2_with fail
  refine (implSpans_d _ ps0 _ oX0.read S0).mono ?_
  rintro e u5 ⟨v5, rfl, oG00, b5⟩
  have oW0 := oW0.past b5
  have oX0 := oX0.past b5
  obtain ⟨k5, oG0⟩ := oG00.blocks
  clear oG00
  have z5 := b5.size
  have D5 := D4.trans (b5.mono D4.size)
  have hs0 : SmI (spansT ps0) := spans_small S0
  have hagain : ∀ (x0_ : Value) (u : World), RdC u u.heap.size (encPs ps0) x0_ → Calls Try.prog 21 #[x0_] u (OwnPost (encInts (spansT ps0)) u) := fun x0_ u h0_ => implSpans_d x0_ ps0 u h0_ S0
  have HAG := Lib.hid hagain
  clear hagain
  generalize (spansT ps0) = L0 at *
  have hc0 := cntI hs0
  generalize hn0 : cntC (encInts L0) = n0 at *
  have HN0 := Lib.hid hn0
  clear hn0
  have nm0 : (((1 : Int) + (n0 : Int)) != ((1 : Int) + (n0 : Int))) = false := by simp
  obtain ⟨AW0_, cW0_, rfl⟩ := sliceI oW0.read
  obtain ⟨AG0_, cG0_, rfl⟩ := sliceI oG0.read
  go_wp2_with fail
  refine (eqI _ _ L0 _ oG0.read oW0.read hs0).mono ?_
  rintro e u6 ⟨rfl, b6⟩
  have oW0 := oW0.past b6
  have oX0 := oX0.past b6
  have oG0 := oG0.past b6
  have z6 := b6.size
  have D6 := D5.trans (b6.mono D5.size)
  go_wp2_with fail
  refine (toP _ ps0 _ (R0.past D6) S0).mono ?_
  rintro e u7 ⟨v7, rfl, oT90, b7⟩
  obtain ⟨k7, oT9⟩ := oT90.blocks
  clear oT90
  obtain ⟨A7_, c7_, rfl⟩ := sliceP oT9.read
  have oW0 := oW0.past b7
  have oX0 := oX0.past b7
  have oG0 := oG0.past b7
  have z7 := b7.size
  have D7 := D6.trans (b7.mono D6.size)
  go_wp2_with fail
  refine (eqP _ _ ps0 _ oX0.read oT9.read S0).mono ?_
  rintro e u8 ⟨rfl, b8⟩
  have oW0 := oW0.past b8
  have oX0 := oX0.past b8
  have oG0 := oG0.past b8
  have oT9 := oT9.past b8
  have z8 := b8.size
  have D8 := D7.trans (b8.mono D7.size)
  clear oT9
  have cx0 := cntP S0
  go_wp2_with fail
  refine (markP _ ps0 _ (1) _ oX0.ow oX0.nd (by omega) (by omega) S0).mono ?_
  rintro e u9 ⟨rfl, m9, t9⟩
  have oW0 := oW0.apart oX0 t9 (by omega)
  have oG0 := oG0.apart oX0 t9 (by omega)
  have z9 := t9.size
  have D9 := D8.trans (oX0.under t9 (by omega))
  clear oX0 m9
  generalize cntC (encPs ps0) = nx0 at *
  go_wp2_with fail
  refine (eqI _ _ L0 _ oG0.read oW0.read hs0).mono ?_
  rintro e u10 ⟨rfl, b10⟩
  have oW0 := oW0.past b10
  have oG0 := oG0.past b10
  have z10 := b10.size
  have D10 := D9.trans (b10.mono D9.size)
  go_wp2_with fail
  refine (markI _ L0 _ (1) _ oG0.ow oG0.nd (by omega) (by omega) hs0).mono ?_
  rintro e u11 ⟨rfl, m11, t11⟩
  have oW0 := oW0.apart oG0 t11 (by omega)
  have z11 := t11.size
  have D11 := D10.trans (oG0.under t11 (by omega))
  have oG0 := oG0.marked m11 t11
  rw [HN0.out]
  go_wp2_with fail
  refine (heldI _ L0 (1) _ oG0.read (by omega) (by omega) hs0).mono ?_
  rintro e w'_ ⟨rfl, rfl⟩
  rw [HN0.out]
  go_wp2_with fail
  refine (toP _ ps0 _ (R0.past D11) S0).mono ?_
  rintro e u12 ⟨v12, rfl, oT00, b12⟩
  obtain ⟨k12, oT0⟩ := oT00.blocks
  clear oT00
  obtain ⟨A12_, c12_, rfl⟩ := sliceP oT0.read
  have oW0 := oW0.past b12
  have oG0 := oG0.past b12
  have z12 := b12.size
  have D12 := D11.trans (b12.mono D11.size)
  go_wp2_with fail
  refine (HAG.out _ _ oT0.read).mono ?_
  rintro e u13 ⟨v13, rfl, oH00, b13⟩
  have oW0 := oW0.past b13
  have oG0 := oG0.past b13
  have oT0 := oT0.past b13
  obtain ⟨k13, oH0⟩ := oH00.blocks
  clear oH00
  have z13 := b13.size
  have D13 := D12.trans (b13.mono D12.size)
  obtain ⟨AH0_, cH0_, rfl⟩ := sliceI oH0.read
  clear oT0
  go_wp2_with fail
  refine (eqI _ _ L0 _ oH0.read oW0.read hs0).mono ?_
  rintro e u14 ⟨rfl, b14⟩
  have oW0 := oW0.past b14
  have oG0 := oG0.past b14
  have oH0 := oH0.past b14
  have z14 := b14.size
  have D14 := D13.trans (b14.mono D13.size)
  go_wp2_with fail
  refine (heldI _ L0 (1) _ oG0.read (by omega) (by omega) hs0).mono ?_
  rintro e w'_ ⟨rfl, rfl⟩
  rw [HN0.out]
  go_wp2
  go_ret
  exact ⟨rfl, D14⟩

set_option maxRecDepth 100000 in
theorem lifted (os : Os) (started : os.Started) (H : Type) (enc : TypeId × Value → H) :
    ReturnsInHanded {} Try.checked os 8 .any (Rows.fnExactSpansSpec.pre6 enc Try.prog Try.f8 Rows.fnExactSpansRow.domain false) (Rows.fnExactSpansSpec.post enc Try.prog Try.f8 false true false false) := by
  refine returnsInHanded_of_change (C := Try.checked) own started (by kernel_rfl) Try.func8
    (ChangeSpec.witness6 (enc := enc) (C := Try.checked) false ⟨#[], #[.slice none 0 0], []⟩ 8 (by kernel_rfl) (by kernel_rfl) (by kernel_rfl) (by kernel_rfl)) ?_
  intro W base args ds gs before hval0 hW hcnd _
  have hval : ∀ (j : Nat) t v, Try.f8.params[j]? = some t → args[j]? = some v → Value.okWide Try.prog W .any base t v := hval0
  have hW' := hW
  obtain ⟨p, q, hA0, hV, rfl, hfz, hnd⟩ := hW
  have hA : DataW.TrodAll enc Try.prog W 0 (fun _ => true) true Try.f8.params.toList args.toList ds p := hA0
  rw [Try.params8] at hA hval
  obtain ⟨v0, vs0, x0, xs0, q0, r0, hargs, rfl, rfl, h0, t0⟩ := trodAll_cons hA
  obtain ⟨rfl, rfl, rfl⟩ := trodAll_nil t0
  obtain rfl : args = #[v0] := by cases args; simp_all
  obtain ⟨rfl, rfl⟩ := trodVars_none hV
  have k0 := h0
  have lt0 : ∀ x ∈ q0, x.block < W.heap.size := by obtain ⟨m, hm⟩ := k0; exact DataW.trod_lt m _ _ _ hm
  obtain ⟨B0, n0, d0, rfl⟩ := okWide_slice Try.underlying48 (hval 0 48 v0 rfl rfl)
  obtain ⟨f0, hf0⟩ := h0
  obtain ⟨ps0, A0, c0, e0, w0, l0, m0⟩ := open_dparts hf0
  obtain ⟨rfl, rfl, rfl⟩ : B0 = A0 ∧ n0 = ps0.length ∧ d0 = c0 := by simpa [Value.cells] using e0
  clear hA0 hval0
  refine (walk B0 d0 ps0 W w0 l0 m0).mono fun e W' ⟨he, bel⟩ => ?_
  subst he
  exact ⟨_, rfl, _, _, _, [], _, [], hW', trodAll_mk1 (shut_bool Try.underlying4 _), (trodAll_cons_mk (Below.trod laidOut (by kernel_rfl) (of_decide_eq_true (by kernel_rfl)) k0 bel lt0) trodAll_mk0), rfl, bel.frame _, fun h => by cases h⟩

theorem over : Rows.fnExactSpansRow.holds Try.pinned (OpenSpec.ofChange Rows.fnExactSpansSpec) :=
  OpenClaim.holds_of_wide 8 Try.f8 rfl rfl rfl rfl rfl rfl rfl ⟨rfl, rfl, rfl, rfl, rfl⟩ rfl rfl rfl rfl rfl (by kernel_rfl) Try.func8 (by kernel_rfl)
    (of_decide_eq_true (by kernel_rfl)) (by unfold Func.isWrapper; first | (rw [if_pos (by decide +kernel)]; kernel_rfl) | (rw [if_neg (by decide +kernel)]; exact ⟨rfl, rfl⟩))
    (fun os started H enc _ => lifted os started H enc)

theorem proved : Rows.FnExactSpansSaid := over
end Go.Proofs.Ytmlkeflnnaabeaa.fnExactSpans
