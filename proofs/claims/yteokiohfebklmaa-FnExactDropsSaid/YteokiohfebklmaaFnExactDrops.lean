/-
  Proved: for every slice of parts, the law FnExactDrops of this seat's translation returns true (impl.Drops answers as spec.Drops does and leaves its argument alone); no conditions.
-/
import Derived.Test.YteokiohfebklmaaRows
import Derived.Test.YteokiohfebklmaaOpenPart
import Derived.WalkKit
import Derived.ProofKit
import Derived.OpenShut
import Derived.ShutString
import Derived.ChangeOld
import Derived.Below
import Derived.Test.YteokiohfebklmaaImplOp
namespace Go.Proofs.Yteokiohfebklmaa.fnExactDrops
open Go.ChangeShapes Go.WideShapes Go.ChangeAt Go.RowKit
open Go.ChangeMaps (open_string shut_string)
open low
set_option linter.unusedVariables false

theorem own : ownKnob Try.prog.godebug = none := by kernel_rfl
set_option maxRecDepth 100000 in
set_option maxHeartbeats 1600000 in
theorem walk (A0 : Option Addr) (c0 : Nat) (ps0 : List Pt) (w : World) (w0 : PRow w w.heap.size A0 ps0) (l0 : ps0.length ≤ maxLen) (m0 : ∀ p ∈ ps0, p.signs.length ≤ maxLen) :
    Calls Try.prog 12 #[.slice A0 ps0.length c0] w fun e w' => e = .returned (.bool true) ∧ Below w.heap.size w w' := by
  unfold maxLen at l0 m0
  go_enter Try.func12, Try.ntmps12
  go_wp2_with fail
  refine (szPartS_any A0 c0 ps0 1048576 _ w0 (by omega) (by omega) (by omega) (fun p hp => by have := m0 p hp; omega)).mono ?_
  rintro e u0 ⟨r, rfl, hr, b0⟩
  rcases hr with rfl | ⟨hr0, hr1⟩
  · go_wp2
    go_ret
    exact ⟨rfl, b0⟩
  · have hl : ps0.length ≤ 1048576 := by omega
    have hsum : signsIn ps0 ≤ 1048576 := by omega
    have hls : ∀ p ∈ ps0, p.signs.length ≤ 1048576 := fun p hp => by
      obtain ⟨i, hi⟩ := List.getElem?_of_mem hp
      exact Nat.le_trans (signsIn_at hi) hsum
    have hls4 : ∀ p ∈ ps0, p.signs.length ≤ 4294967296 := fun p hp => Nat.le_trans (hls p hp) (by omega)
    have HL := Lib.hid hls
    have HL4 := Lib.hid hls4
    clear hls hls4 m0 hr1
    go_wp2_with fail
    refine (toPartS_any A0 c0 ps0 _ (w0.past b0) hl HL.out).mono ?_
    rintro e u1 ⟨v1, rfl, p1, b1⟩
    obtain ⟨A1, c1, rfl, q1⟩ := p1.slice
    have d1 := b0.trans (b1.mono b0.size)
    go_wp2_with fail
    refine (specDrops_any A1 c1 ps0 _ q1 (by omega) HL4.out).mono ?_
    rintro e u2 ⟨rfl, b2⟩
    have d2 := d1.trans (b2.mono d1.size)
    go_wp2_with fail
    refine (toPartS_any A0 c0 ps0 _ (w0.past d2) hl HL.out).mono ?_
    rintro e u3 ⟨v3, rfl, p3, b3⟩
    obtain ⟨A3, c3, rfl, q3⟩ := p3.slice
    have d3 := d2.trans (b3.mono d2.size)
    go_wp2_with fail
    refine (implDrops_any A3 c3 ps0 _ q3 (by omega) HL4.out).mono ?_
    rintro e u4 ⟨rfl, b4⟩
    have d4 := d3.trans (b4.mono d3.size)
    generalize dropsN ps0 = res
    go_wp2_with fail
    refine (toPartS_any A0 c0 ps0 _ (w0.past d4) hl HL.out).mono ?_
    rintro e u5 ⟨v5, rfl, p5, b5⟩
    obtain ⟨A5, c5, rfl, q5⟩ := p5.slice
    have d5 := d4.trans (b5.mono d4.size)
    have hsame := samePs_self ps0
    go_wp2_with fail
    refine (eqPartS_any A3 A5 c3 c5 ps0 ps0 _ ((q3.past b4).past b5) q5 (by omega) (by omega) HL4.out HL4.out).mono ?_
    rintro e u6 ⟨rfl, b6⟩
    go_wp2
    go_ret
    exact ⟨rfl, d5.trans (b6.mono d5.size)⟩

set_option maxRecDepth 100000 in
theorem lifted (os : Os) (started : os.Started) (H : Type) (enc : TypeId × Value → H) :
    ReturnsInHanded {} Try.checked os 12 .any (Rows.fnExactDropsSpec.pre6 enc Try.prog Try.f12 Rows.fnExactDropsRow.domain false) (Rows.fnExactDropsSpec.post enc Try.prog Try.f12 false true false false) := by
  refine returnsInHanded_of_change (C := Try.checked) own started (by kernel_rfl) Try.func12
    (ChangeSpec.witness6 (enc := enc) (C := Try.checked) false ⟨#[], #[.slice none 0 0], []⟩ 8 (by kernel_rfl) (by kernel_rfl) (by kernel_rfl) (by kernel_rfl)) ?_
  intro W base args ds gs before hval0 hW hcnd _
  have hval : ∀ (j : Nat) t v, Try.f12.params[j]? = some t → args[j]? = some v → Value.okWide Try.prog W .any base t v := hval0
  have hW' := hW
  obtain ⟨p, q, hA0, hV, rfl, hfz, hnd⟩ := hW
  have hA : DataW.TrodAll enc Try.prog W 0 (fun _ => true) true Try.f12.params.toList args.toList ds p := hA0
  rw [Try.params12] at hA hval
  obtain ⟨v0, vs0, x0, xs0, q0, r0, hargs, rfl, rfl, h0, t0⟩ := trodAll_cons hA
  obtain ⟨rfl, rfl, rfl⟩ := trodAll_nil t0
  obtain rfl : args = #[v0] := by cases args; simp_all
  obtain ⟨rfl, rfl⟩ := trodVars_none hV
  have k0 := h0
  have lt0 : ∀ x ∈ q0, x.block < W.heap.size := by obtain ⟨m, hm⟩ := k0; exact DataW.trod_lt m _ _ _ hm
  obtain ⟨B0, n0, d0, rfl⟩ := okWide_slice Try.underlying31 (hval 0 31 v0 rfl rfl)
  obtain ⟨f0, hf0⟩ := h0
  obtain ⟨ps0, A0, c0, e0, w0, l0, m0⟩ := read_parts hf0
  obtain ⟨rfl, rfl, rfl⟩ : B0 = A0 ∧ n0 = ps0.length ∧ d0 = c0 := by simpa [Value.cells] using e0
  clear hA0 hval0
  refine (walk B0 d0 ps0 W w0 l0 m0).mono fun e W' ⟨he, bel⟩ => ?_
  subst he
  exact ⟨_, rfl, _, _, _, [], _, [], hW', trodAll_mk1 (shut_bool Try.underlying4 _), (trodAll_cons_mk (Below.trod laidOut (by kernel_rfl) (of_decide_eq_true (by kernel_rfl)) k0 bel lt0) trodAll_mk0), rfl, bel.frame _, fun h => by cases h⟩

theorem over : Rows.fnExactDropsRow.holds Try.pinned (OpenSpec.ofChange Rows.fnExactDropsSpec) :=
  OpenClaim.holds_of_wide 12 Try.f12 rfl rfl rfl rfl rfl rfl rfl ⟨rfl, rfl, rfl, rfl, rfl⟩ rfl rfl rfl rfl rfl (by kernel_rfl) Try.func12 (by kernel_rfl)
    (of_decide_eq_true (by kernel_rfl)) (by unfold Func.isWrapper; first | (rw [if_pos (by decide +kernel)]; kernel_rfl) | (rw [if_neg (by decide +kernel)]; exact ⟨rfl, rfl⟩))
    (fun os started H enc _ => lifted os started H enc)

theorem proved : Rows.FnExactDropsSaid := over
end Go.Proofs.Yteokiohfebklmaa.fnExactDrops
