/-
  Proved: for every two slices of parts, the law FnExactOpSame of this seat's translation returns true (impl.OpSame answers as spec.OpSame does and leaves its arguments alone); no conditions.
-/
import Derived.Test.YteokiohfebklmaaRows
import Derived.Test.YteokiohfebklmaaOpenPart
import Derived.WalkKit
import Derived.ProofKit
import Derived.OpenShut
import Derived.ShutString
import Derived.ChangeOld
import Derived.Below
import Derived.Test.YteokiohfebklmaaOpSame
import Derived.Test.YteokiohfebklmaaImplOpSame
namespace Go.Proofs.Yteokiohfebklmaa.fnExactOpSame
open Go.ChangeShapes Go.WideShapes Go.ChangeAt Go.RowKit
open Go.ChangeMaps (open_string shut_string)
open low
set_option linter.unusedVariables false

theorem own : ownKnob Try.prog.godebug = none := by kernel_rfl
theorem small {ps : List Pt} (h : signsIn ps ≤ 1048576) : ∀ p ∈ ps, p.signs.length ≤ 1048576 := fun p hp => by
  obtain ⟨i, hi⟩ := List.getElem?_of_mem hp
  exact Nat.le_trans (signsIn_at hi) h
theorem small4 {ps : List Pt} (h : signsIn ps ≤ 1048576) : ∀ p ∈ ps, p.signs.length ≤ 4294967296 := fun p hp => Nat.le_trans (small h p hp) (by omega)
set_option maxRecDepth 100000 in
set_option maxHeartbeats 3200000 in
theorem walk (A0 : Option Addr) (c0 : Nat) (ps0 : List Pt) (A1 : Option Addr) (c1 : Nat) (ps1 : List Pt) (w : World) (w0 : PRow w w.heap.size A0 ps0) (l0 : ps0.length ≤ maxLen) (m0 : ∀ p ∈ ps0, p.signs.length ≤ maxLen) (w1 : PRow w w.heap.size A1 ps1) (l1 : ps1.length ≤ maxLen) (m1 : ∀ p ∈ ps1, p.signs.length ≤ maxLen) :
    Calls Try.prog 8 #[.slice A0 ps0.length c0, .slice A1 ps1.length c1] w fun e w' => e = .returned (.bool true) ∧ Below w.heap.size w w' := by
  unfold maxLen at l0 m0 l1 m1
  have M1 := Lib.hid m1
  clear m1
  go_enter Try.func8, Try.ntmps8
  go_wp2_with fail
  refine (szPartS_any A0 c0 ps0 1048576 _ w0 (by omega) (by omega) (by omega) (fun p hp => by have := m0 p hp; omega)).mono ?_
  rintro e ua ⟨r, rfl, hr, ba⟩
  clear m0
  rcases hr with rfl | ⟨hr0, hr1⟩
  · go_wp2
    go_ret
    exact ⟨rfl, ba⟩
  have hl : ps0.length ≤ 1048576 := by omega
  have hs : signsIn ps0 ≤ 1048576 := by omega
  have hrb : r ≤ 1048576 := by omega
  clear hr1
  go_wp2_with fail
  refine (szPartS_any A1 c1 ps1 r _ (w1.past ba) hr0 hrb (by omega) (fun p hp => by have := M1.out p hp; omega)).mono ?_
  rintro e ub ⟨r', rfl, hr, bb⟩
  have b0 := ba.trans (bb.mono ba.size)
  rcases hr with rfl | ⟨hr0', hr1'⟩
  · go_wp2
    go_ret
    exact ⟨rfl, b0⟩
  have hl' : ps1.length ≤ 1048576 := by omega
  have hs' : signsIn ps1 ≤ 1048576 := by omega
  clear hr1' M1
  go_wp2_with fail
  refine (toPartS_any A0 c0 ps0 _ (w0.past b0) hl (small hs)).mono ?_
  rintro e u1 ⟨v1, rfl, p1, b1⟩
  obtain ⟨B1, d1, rfl, q1⟩ := p1.slice
  have e1 := b0.trans (b1.mono b0.size)
  go_wp2_with fail
  refine (toPartS_any A1 c1 ps1 _ (w1.past e1) hl' (small hs')).mono ?_
  rintro e u2 ⟨v2, rfl, p2, b2⟩
  obtain ⟨B2, d2, rfl, q2⟩ := p2.slice
  have e2 := e1.trans (b2.mono e1.size)
  go_wp2_with fail
  refine (specOpSame_any B1 B2 d1 d2 ps0 ps1 _ (q1.past b2) q2 (by omega) (by omega) (small4 hs) (small4 hs')).mono ?_
  rintro e u3 ⟨rfl, b3⟩
  have e3 := e2.trans (b3.mono e2.size)
  go_wp2_with fail
  refine (toPartS_any A0 c0 ps0 _ (w0.past e3) hl (small hs)).mono ?_
  rintro e u4 ⟨v4, rfl, p4, b4⟩
  obtain ⟨B4, d4, rfl, q4⟩ := p4.slice
  have e4 := e3.trans (b4.mono e3.size)
  go_wp2_with fail
  refine (toPartS_any A1 c1 ps1 _ (w1.past e4) hl' (small hs')).mono ?_
  rintro e u5 ⟨v5, rfl, p5, b5⟩
  obtain ⟨B5, d5, rfl, q5⟩ := p5.slice
  have e5 := e4.trans (b5.mono e4.size)
  go_wp2_with fail
  refine (implOpSame_any B4 B5 d4 d5 ps0 ps1 _ (q4.past b5) q5 (by omega) (by omega) (small4 hs) (small4 hs')).mono ?_
  rintro e u6 ⟨rfl, b6⟩
  have e6 := e5.trans (b6.mono e5.size)
  generalize samePs ps0 ps1 = res
  go_wp2_with fail
  refine (toPartS_any A0 c0 ps0 _ (w0.past e6) hl (small hs)).mono ?_
  rintro e u7 ⟨v7, rfl, p7, b7⟩
  obtain ⟨B7, d7, rfl, q7⟩ := p7.slice
  have e7 := e6.trans (b7.mono e6.size)
  have hsame := samePs_self ps0
  go_wp2_with fail
  refine (eqPartS_any B4 B7 d4 d7 ps0 ps0 _ (((q4.past b5).past b6).past b7) q7 (by omega) (by omega) (small4 hs) (small4 hs)).mono ?_
  rintro e u8 ⟨rfl, b8⟩
  have e8 := e7.trans (b8.mono e7.size)
  go_wp2_with fail
  refine (toPartS_any A1 c1 ps1 _ (w1.past e8) hl' (small hs')).mono ?_
  rintro e u9 ⟨v9, rfl, p9, b9⟩
  obtain ⟨B9, d9, rfl, q9⟩ := p9.slice
  have e9 := e8.trans (b9.mono e8.size)
  have hsame' := samePs_self ps1
  go_wp2_with fail
  refine (eqPartS_any B5 B9 d5 d9 ps1 ps1 _ ((((q5.past b6).past b7).past b8).past b9) q9 (by omega) (by omega) (small4 hs') (small4 hs')).mono ?_
  rintro e u10 ⟨rfl, b10⟩
  go_wp2
  go_ret
  exact ⟨rfl, e9.trans (b10.mono e9.size)⟩

set_option maxRecDepth 100000 in
theorem lifted (os : Os) (started : os.Started) (H : Type) (enc : TypeId × Value → H) :
    ReturnsInHanded {} Try.checked os 8 .any (Rows.fnExactOpSameSpec.pre6 enc Try.prog Try.f8 Rows.fnExactOpSameRow.domain false) (Rows.fnExactOpSameSpec.post enc Try.prog Try.f8 false true false false) := by
  refine returnsInHanded_of_change (C := Try.checked) own started (by kernel_rfl) Try.func8
    (ChangeSpec.witness6 (enc := enc) (C := Try.checked) false ⟨#[], #[.slice none 0 0, .slice none 0 0], []⟩ 8 (by kernel_rfl) (by kernel_rfl) (by kernel_rfl) (by kernel_rfl)) ?_
  intro W base args ds gs before hval0 hW hcnd _
  have hval : ∀ (j : Nat) t v, Try.f8.params[j]? = some t → args[j]? = some v → Value.okWide Try.prog W .any base t v := hval0
  have hW' := hW
  obtain ⟨p, q, hA0, hV, rfl, hfz, hnd⟩ := hW
  have hA : DataW.TrodAll enc Try.prog W 0 (fun _ => true) true Try.f8.params.toList args.toList ds p := hA0
  rw [Try.params8] at hA hval
  obtain ⟨v0, vs0, x0, xs0, q0, r0, hargs, rfl, rfl, h0, t0⟩ := trodAll_cons hA
  obtain ⟨v1, vs1, x1, xs1, q1, r1, rfl, rfl, rfl, h1, t1⟩ := trodAll_cons t0
  obtain ⟨rfl, rfl, rfl⟩ := trodAll_nil t1
  obtain rfl : args = #[v0, v1] := by cases args; simp_all
  obtain ⟨rfl, rfl⟩ := trodVars_none hV
  have k0 := h0
  have lt0 : ∀ x ∈ q0, x.block < W.heap.size := by obtain ⟨m, hm⟩ := k0; exact DataW.trod_lt m _ _ _ hm
  have k1 := h1
  have lt1 : ∀ x ∈ q1, x.block < W.heap.size := by obtain ⟨m, hm⟩ := k1; exact DataW.trod_lt m _ _ _ hm
  obtain ⟨B0, n0, d0, rfl⟩ := okWide_slice Try.underlying31 (hval 0 31 v0 rfl rfl)
  obtain ⟨f0, hf0⟩ := h0
  obtain ⟨ps0, A0, c0, e0, w0, l0, m0⟩ := read_parts hf0
  obtain ⟨rfl, rfl, rfl⟩ : B0 = A0 ∧ n0 = ps0.length ∧ d0 = c0 := by simpa [Value.cells] using e0
  obtain ⟨B1, n1, d1, rfl⟩ := okWide_slice Try.underlying31 (hval 1 31 v1 rfl rfl)
  obtain ⟨f1, hf1⟩ := h1
  obtain ⟨ps1, A1, c1, e1, w1, l1, m1⟩ := read_parts hf1
  obtain ⟨rfl, rfl, rfl⟩ : B1 = A1 ∧ n1 = ps1.length ∧ d1 = c1 := by simpa [Value.cells] using e1
  clear hA0 hval0
  refine (walk B0 d0 ps0 B1 d1 ps1 W w0 l0 m0 w1 l1 m1).mono fun e W' ⟨he, bel⟩ => ?_
  subst he
  exact ⟨_, rfl, _, _, _, [], _, [], hW', trodAll_mk1 (shut_bool Try.underlying4 _), (trodAll_cons_mk (Below.trod laidOut (by kernel_rfl) (of_decide_eq_true (by kernel_rfl)) k0 bel lt0) (trodAll_cons_mk (Below.trod laidOut (by kernel_rfl) (of_decide_eq_true (by kernel_rfl)) k1 bel lt1) trodAll_mk0)), rfl, bel.frame _, fun h => by cases h⟩

theorem over : Rows.fnExactOpSameRow.holds Try.pinned (OpenSpec.ofChange Rows.fnExactOpSameSpec) :=
  OpenClaim.holds_of_wide 8 Try.f8 rfl rfl rfl rfl rfl rfl rfl ⟨rfl, rfl, rfl, rfl, rfl⟩ rfl rfl rfl rfl rfl (by kernel_rfl) Try.func8 (by kernel_rfl)
    (of_decide_eq_true (by kernel_rfl)) (by unfold Func.isWrapper; first | (rw [if_pos (by decide +kernel)]; kernel_rfl) | (rw [if_neg (by decide +kernel)]; exact ⟨rfl, rfl⟩))
    (fun os started H enc _ => lifted os started H enc)

theorem proved : Rows.FnExactOpSameSaid := over
end Go.Proofs.Yteokiohfebklmaa.fnExactOpSame
