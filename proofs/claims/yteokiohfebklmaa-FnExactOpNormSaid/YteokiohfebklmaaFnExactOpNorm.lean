/-
  Proved: for every slice of parts, the law FnExactOpNorm of this seat's translation returns true (impl.OpNorm answers as spec.OpNorm does, twice, leaves its argument alone, and its result owns its memory); no conditions.
-/
import Derived.Test.YteokiohfebklmaaRows
import Derived.Test.YteokiohfebklmaaOpenPart
import Derived.WalkKit
import Derived.ProofKit
import Derived.OpenShut
import Derived.ShutString
import Derived.ChangeOld
import Derived.Below
import Derived.Test.YteokiohfebklmaaSpecNorm
import Derived.Test.YteokiohfebklmaaImplNorm
import Derived.Test.YteokiohfebklmaaPKeep
namespace Go.Proofs.Yteokiohfebklmaa.fnExactOpNorm
open Go.ChangeShapes Go.WideShapes Go.ChangeAt Go.RowKit
open Go.ChangeMaps (open_string shut_string)
open low
set_option linter.unusedVariables false

theorem own : ownKnob Try.prog.godebug = none := by kernel_rfl
set_option maxRecDepth 100000 in
set_option maxHeartbeats 3200000 in
theorem walk (A0 : Option Addr) (c0 : Nat) (ps0 : List Pt) (w : World) (w0 : PRow w w.heap.size A0 ps0) (l0 : ps0.length ≤ maxLen) (m0 : ∀ p ∈ ps0, p.signs.length ≤ maxLen) :
    Calls Try.prog 7 #[.slice A0 ps0.length c0] w fun e w' => e = .returned (.bool true) ∧ Below w.heap.size w w' := by
  unfold maxLen at l0 m0
  go_enter Try.func7, Try.ntmps7
  go_wp2_with fail
  refine (szPartS_any A0 c0 ps0 1048576 _ w0 (by omega) (by omega) (by omega) (fun p hp => by have := m0 p hp; omega)).mono ?_
  rintro e u0 ⟨r, rfl, hr, b0⟩
  rcases hr with rfl | ⟨hr0, hr1⟩
  · go_wp2
    go_ret
    exact ⟨rfl, b0⟩
  have hl : ps0.length ≤ 1048576 := by omega
  have hsum : signsIn ps0 ≤ 1048576 := by omega
  have hls : ∀ p ∈ ps0, p.signs.length ≤ 1048576 := fun p hp => by
    obtain ⟨i, hi⟩ := List.getElem?_of_mem hp
    exact Nat.le_trans (signsIn_at hi) hsum
  have hls4 : ∀ p ∈ ps0, p.signs.length ≤ 4294967296 := fun p hp => Nat.le_trans (hls p hp) (by omega)
  have HL := Lib.hid hls
  have HL4 := Lib.hid hls4
  clear hls hls4 m0 hr1
  have hagain : ∀ (A : Option Addr) (c : Nat) (u : World), PRow u u.heap.size A ps0 → Calls Try.prog 28 #[.slice A ps0.length c] u (PsPost (normL ps0) u) := fun A c u h => implOpNorm_any A c ps0 u h (by omega) HL4.out hsum
  have HAG := Lib.hid hagain
  clear hagain
  obtain ⟨n1, n2⟩ := normL_fit hsum
  go_wp2_with fail
  refine (toPartS_any A0 c0 ps0 _ (w0.past b0) hl HL.out).mono ?_
  rintro e u1 ⟨v1, rfl, p1, b1⟩
  obtain ⟨A1, c1, rfl, q1⟩ := p1.slice
  have d1 := b0.trans (b1.mono b0.size)
  go_wp2_with fail
  refine (specOpNorm_any A1 c1 ps0 _ q1 (by omega) HL4.out hsum).mono ?_
  rintro e u2 ⟨v2, rfl, p2, b2⟩
  have d2 := d1.trans (b2.mono d1.size)
  clear p1 q1
  go_wp2_with fail
  refine (toPartS_any A0 c0 ps0 _ (w0.past d2) hl HL.out).mono ?_
  rintro e u3 ⟨v3, rfl, p3, b3⟩
  obtain ⟨A3, c3, rfl, q3⟩ := p3.slice
  have d3 := d2.trans (b3.mono d2.size)
  have p2 := p2.past b3
  go_wp2_with fail
  refine (HAG.out A3 c3 _ q3).mono ?_
  rintro e u4 ⟨v4, rfl, p4, b4⟩
  have d4 := d3.trans (b4.mono d3.size)
  have p2 := p2.past b4
  have p3 := p3.past b4
  generalize normL ps0 = N at *
  have hlN : ∀ p ∈ N, p.signs.length ≤ 4294967296 := fun p hp => by
    obtain ⟨i, hi⟩ := List.getElem?_of_mem hp
    have := signsIn_at hi
    omega
  have HLN := Lib.hid hlN
  clear hlN
  obtain ⟨B2, c2, rfl, _⟩ := p2.slice
  obtain ⟨B4, c4, rfl, _⟩ := p4.slice
  have hsame := samePs_self N
  have hsame' := samePs_self ps0
  have z12 := b2.size
  have z23 := b3.size
  have z34 := b4.size
  have z01 := d1.size
  go_wp2_with fail
  refine (eqPartS_any B4 B2 c4 c2 N N _ p4.prow p2.prow (by omega) (by omega) HLN.out HLN.out).mono ?_
  rintro e u5 ⟨rfl, b5⟩
  have d5 := d4.trans (b5.mono d4.size)
  have p2 := p2.past b5
  have p3 := p3.past b5
  have p4 := p4.past b5
  go_wp2_with fail
  refine (toPartS_any A0 c0 ps0 _ (w0.past d5) hl HL.out).mono ?_
  rintro e u6 ⟨v6, rfl, p6, b6⟩
  obtain ⟨A6, c6, rfl, q6⟩ := p6.slice
  have d6 := d5.trans (b6.mono d5.size)
  have p2 := p2.past b6
  have p3 := p3.past b6
  have p4 := p4.past b6
  go_wp2_with fail
  refine (eqPartS_any A3 A6 c3 c6 ps0 ps0 _ p3.prow q6 (by omega) (by omega) HL4.out HL4.out).mono ?_
  rintro e u7 ⟨rfl, b7⟩
  have d7 := d6.trans (b7.mono d6.size)
  have p2 := p2.past b7
  have p3 := p3.past b7
  have p4 := p4.past b7
  clear p6 q6
  go_wp2_with fail
  refine (markPartS_any _ _ _ ps0 1 _ p3 (by omega) (by omega) (by omega) (by omega)).mono ?_
  rintro e u8 ⟨rfl, qs3, _, _, t8⟩
  have d8 := d7.trans (t8.below (B := w.heap.size) (fun b hb => by have := hb.1; omega))
  have p2 := p2.apart t8 (fun b h1 h2 h3 => by have := h3.1; omega)
  have p4 := p4.apart t8 (fun b h1 h2 h3 => by have := h3.2; omega)
  have K0 := kat_nonneg (k := 1) (by omega) ps0 ps0.length
  generalize kat 1 ps0 ps0.length = K at *
  clear p3
  go_wp2_with fail
  refine (eqPartS_any B4 B2 c4 c2 N N _ p4.prow p2.prow (by omega) (by omega) HLN.out HLN.out).mono ?_
  rintro e u9 ⟨rfl, b9⟩
  have d9 := d8.trans (b9.mono d8.size)
  have p2 := p2.past b9
  have p4 := p4.past b9
  go_wp2_with fail
  refine (markPartS_any _ _ _ N 1 _ p4 (by omega) (by omega) (by omega) (by omega)).mono ?_
  rintro e u10 ⟨rfl, qs, hm, p10, t10⟩
  have d10 := d9.trans (t10.below (B := w.heap.size) (fun b hb => by have := hb.1; omega))
  have p2 := p2.apart t10 (fun b h1 h2 h3 => by have := h3.1; omega)
  have r10 := p10.marked hm
  have M0 := kat_nonneg (k := 1) (by omega) N N.length
  have HH : ∀ w, PRow w w.heap.size B4 qs → Calls Try.prog 30 #[.slice B4 N.length c4, .int .i64 1] w fun e w' => e = .returned (.int .i64 (kat 1 N N.length)) ∧ w = w' := fun w hr => heldPartS_any B4 c4 N qs 1 w hm hr (by omega) (by omega) (by omega) (by omega)
  have HH := Lib.hid HH
  generalize kat 1 N N.length = M at *
  clear p4 p10
  go_wp2_with fail
  refine (HH.out _ r10).mono ?_
  rintro e w' ⟨rfl, rfl⟩
  go_wp2_with fail
  refine (toPartS_any A0 c0 ps0 _ (w0.past d10) hl HL.out).mono ?_
  rintro e u11 ⟨v11, rfl, p11, b11⟩
  obtain ⟨A11, c11, rfl, q11⟩ := p11.slice
  have d11 := d10.trans (b11.mono d10.size)
  have p2 := p2.past b11
  have r10 := r10.past b11
  go_wp2_with fail
  refine (HAG.out A11 c11 _ q11).mono ?_
  rintro e u12 ⟨v12, rfl, p12, b12⟩
  obtain ⟨B12, c12, rfl, q12⟩ := p12.slice
  have d12 := d11.trans (b12.mono d11.size)
  have p2 := p2.past b12
  have r10 := r10.past b12
  go_wp2_with fail
  refine (eqPartS_any B12 B2 c12 c2 N N _ q12 p2.prow (by omega) (by omega) HLN.out HLN.out).mono ?_
  rintro e u13 ⟨rfl, b13⟩
  have d13 := d12.trans (b13.mono d12.size)
  have r10 := r10.past b13
  go_wp2_with fail
  refine (HH.out _ r10).mono ?_
  rintro e w' ⟨rfl, rfl⟩
  go_wp2
  go_ret
  exact ⟨rfl, d13⟩

set_option maxRecDepth 100000 in
theorem lifted (os : Os) (started : os.Started) (H : Type) (enc : TypeId × Value → H) :
    ReturnsInHanded {} Try.checked os 7 .any (Rows.fnExactOpNormSpec.pre6 enc Try.prog Try.f7 Rows.fnExactOpNormRow.domain false) (Rows.fnExactOpNormSpec.post enc Try.prog Try.f7 false true false false) := by
  refine returnsInHanded_of_change (C := Try.checked) own started (by kernel_rfl) Try.func7
    (ChangeSpec.witness6 (enc := enc) (C := Try.checked) false ⟨#[], #[.slice none 0 0], []⟩ 8 (by kernel_rfl) (by kernel_rfl) (by kernel_rfl) (by kernel_rfl)) ?_
  intro W base args ds gs before hval0 hW hcnd _
  have hval : ∀ (j : Nat) t v, Try.f7.params[j]? = some t → args[j]? = some v → Value.okWide Try.prog W .any base t v := hval0
  have hW' := hW
  obtain ⟨p, q, hA0, hV, rfl, hfz, hnd⟩ := hW
  have hA : DataW.TrodAll enc Try.prog W 0 (fun _ => true) true Try.f7.params.toList args.toList ds p := hA0
  rw [Try.params7] at hA hval
  obtain ⟨v0, vs0, x0, xs0, q0, r0, hargs, rfl, rfl, h0, t0⟩ := trodAll_cons hA
  obtain ⟨rfl, rfl, rfl⟩ := trodAll_nil t0
  obtain rfl : args = #[v0] := by cases args; simp_all
  obtain ⟨rfl, rfl⟩ := trodVars_none hV
  have k0 := h0
  have lt0 : ∀ x ∈ q0, x.block < W.heap.size := by obtain ⟨m, hm⟩ := k0; exact DataW.trod_lt m _ _ _ hm
  obtain ⟨B0, n0, d0, rfl⟩ := okWide_slice Try.underlying31 (hval 0 31 v0 rfl rfl)
  obtain ⟨f0, hf0⟩ := h0
  obtain ⟨ps0, A0, c0, e0, w0, l0, m0⟩ := read_parts hf0
  obtain ⟨rfl, rfl, rfl⟩ : B0 = A0 ∧ n0 = ps0.length ∧ d0 = c0 := by simpa [Value.cells] using e0
  clear hA0 hval0
  refine (walk B0 d0 ps0 W w0 l0 m0).mono fun e W' ⟨he, bel⟩ => ?_
  subst he
  exact ⟨_, rfl, _, _, _, [], _, [], hW', trodAll_mk1 (shut_bool Try.underlying4 _), (trodAll_cons_mk (Below.trod laidOut (by kernel_rfl) (of_decide_eq_true (by kernel_rfl)) k0 bel lt0) trodAll_mk0), rfl, bel.frame _, fun h => by cases h⟩

theorem over : Rows.fnExactOpNormRow.holds Try.pinned (OpenSpec.ofChange Rows.fnExactOpNormSpec) :=
  OpenClaim.holds_of_wide 7 Try.f7 rfl rfl rfl rfl rfl rfl rfl ⟨rfl, rfl, rfl, rfl, rfl⟩ rfl rfl rfl rfl rfl (by kernel_rfl) Try.func7 (by kernel_rfl)
    (of_decide_eq_true (by kernel_rfl)) (by unfold Func.isWrapper; first | (rw [if_pos (by decide +kernel)]; kernel_rfl) | (rw [if_neg (by decide +kernel)]; exact ⟨rfl, rfl⟩))
    (fun os started H enc _ => lifted os started H enc)

theorem proved : Rows.FnExactOpNormSaid := over
end Go.Proofs.Yteokiohfebklmaa.fnExactOpNorm
