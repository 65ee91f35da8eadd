/-
  Proved: for every number, the law FnExactKeeping of this seat's translation returns true (impl.Keeping answers as spec.Keeping does, twice, and its result owns its memory); no conditions.
-/
import Derived.Test.YteokiohfebklmaaRows
import Derived.Test.YteokiohfebklmaaOpenPart
import Derived.WalkKit
import Derived.ProofKit
import Derived.OpenShut
import Derived.ShutString
import Derived.ChangeOld
import Derived.Below
import Derived.Test.YteokiohfebklmaaKeeping
import Derived.Test.YteokiohfebklmaaImplNorm
namespace Go.Proofs.Yteokiohfebklmaa.fnExactKeeping
open Go.ChangeShapes Go.WideShapes Go.ChangeAt Go.RowKit
open Go.ChangeMaps (open_string shut_string)
open low
set_option linter.unusedVariables false

theorem own : ownKnob Try.prog.godebug = none := by kernel_rfl
set_option maxRecDepth 100000 in
set_option maxHeartbeats 3200000 in
theorem walk (a0 : Int) (w : World) (w0 : (Lit.int .i64 a0).wf = true) :
    Calls Try.prog 10 #[.int .i64 a0] w fun e w' => e = .returned (.bool true) ∧ Below w.heap.size w w' := by
  have hagain : ∀ u, Calls Try.prog 36 #[.int .i64 a0] u (PsPost (keepL a0) u) := fun u => implKeeping_any a0 u
  have HAG := Lib.hid hagain
  clear hagain
  have hn := keepL_len a0
  have hs := keepL_signs a0
  go_enter Try.func10, Try.ntmps10
  go_wp2_with fail
  refine (specKeeping_any a0 _).mono ?_
  rintro e u1 ⟨v1, rfl, p1, b1⟩
  go_wp2_with fail
  refine (HAG.out _).mono ?_
  rintro e u2 ⟨v2, rfl, p2, b2⟩
  generalize keepL a0 = L at *
  have hls : ∀ p ∈ L, p.signs.length ≤ 4294967296 := fun p hp => by
    obtain ⟨i, hi⟩ := List.getElem?_of_mem hp
    have := signsIn_at hi
    omega
  obtain ⟨B1, d1, rfl, q1⟩ := p1.slice
  obtain ⟨B2, d2, rfl, q2⟩ := p2.slice
  have e2 := b1.trans (b2.mono b1.size)
  have hsame := samePs_self L
  go_wp2_with fail
  refine (eqPartS_any B2 B1 d2 d1 L L _ q2 (q1.past b2) (by omega) (by omega) hls hls).mono ?_
  rintro e u3 ⟨rfl, b3⟩
  have e3 := e2.trans (b3.mono e2.size)
  go_wp2_with fail
  refine (markPartS_any _ _ _ L 1 _ (p2.past b3) (by omega) (by omega) (by omega) (by omega)).mono ?_
  rintro e u4 ⟨rfl, qs, hm, p4, t4⟩
  have b4 : Below u1.heap.size u3 u4 := t4.below (fun b hb => hb.1)
  have e4 := e3.trans (b4.mono b1.size)
  have r4 := p4.marked hm
  have q14 : PRow u4 u1.heap.size B1 L := ((q1.below b2).below (b3.mono b2.size)).below b4
  have z4 : u1.heap.size ≤ u4.heap.size := by rw [t4.size]; exact Nat.le_trans b2.size b3.size
  have K0 := kat_nonneg (k := 1) (by omega) L L.length
  have HH : ∀ w, PRow w w.heap.size B2 qs → Calls Try.prog 30 #[.slice B2 L.length d2, .int .i64 1] w fun e w' => e = .returned (.int .i64 (kat 1 L L.length)) ∧ w = w' := fun w hr => heldPartS_any B2 d2 L qs 1 w hm hr (by omega) (by omega) (by omega) (by omega)
  have HH := Lib.hid HH
  generalize kat 1 L L.length = K at *
  go_wp2_with fail
  refine (HH.out _ r4).mono ?_
  rintro e w' ⟨rfl, rfl⟩
  go_wp2_with fail
  refine (HAG.out _).mono ?_
  rintro e u5 ⟨v5, rfl, p5, b5⟩
  obtain ⟨B5, d5, rfl, q5⟩ := p5.slice
  have e5 := e4.trans (b5.mono e4.size)
  go_wp2_with fail
  refine (eqPartS_any B5 B1 d5 d1 L L _ q5 ((q14.more z4).past b5) (by omega) (by omega) hls hls).mono ?_
  rintro e u6 ⟨rfl, b6⟩
  have e6 := e5.trans (b6.mono e5.size)
  go_wp2_with fail
  refine (HH.out _ ((r4.past b5).past b6)).mono ?_
  rintro e w' ⟨rfl, rfl⟩
  go_wp2
  go_ret
  exact ⟨rfl, e6⟩

set_option maxRecDepth 100000 in
theorem lifted (os : Os) (started : os.Started) (H : Type) (enc : TypeId × Value → H) :
    ReturnsInHanded {} Try.checked os 10 .any (Rows.fnExactKeepingSpec.pre6 enc Try.prog Try.f10 Rows.fnExactKeepingRow.domain false) (Rows.fnExactKeepingSpec.post enc Try.prog Try.f10 false true false false) := by
  refine returnsInHanded_of_change (C := Try.checked) own started (by kernel_rfl) Try.func10
    (ChangeSpec.witness6 (enc := enc) (C := Try.checked) false ⟨#[], #[.int .i64 0], []⟩ 8 (by kernel_rfl) (by kernel_rfl) (by kernel_rfl) (by kernel_rfl)) ?_
  intro W base args ds gs before hval0 hW hcnd _
  have hval : ∀ (j : Nat) t v, Try.f10.params[j]? = some t → args[j]? = some v → Value.okWide Try.prog W .any base t v := hval0
  have hW' := hW
  obtain ⟨p, q, hA0, hV, rfl, hfz, hnd⟩ := hW
  have hA : DataW.TrodAll enc Try.prog W 0 (fun _ => true) true Try.f10.params.toList args.toList ds p := hA0
  rw [Try.params10] at hA hval
  obtain ⟨v0, vs0, x0, xs0, q0, r0, hargs, rfl, rfl, h0, t0⟩ := trodAll_cons hA
  obtain ⟨rfl, rfl, rfl⟩ := trodAll_nil t0
  obtain rfl : args = #[v0] := by cases args; simp_all
  obtain ⟨rfl, rfl⟩ := trodVars_none hV
  have k0 := h0
  have lt0 : ∀ x ∈ q0, x.block < W.heap.size := by obtain ⟨m, hm⟩ := k0; exact DataW.trod_lt m _ _ _ hm
  obtain ⟨a0, rfl, rfl, rfl, w0⟩ := open_int Try.underlying3 (hval 0 3 v0 rfl rfl) h0
  clear hA0 hval0
  refine (walk a0 W w0).mono fun e W' ⟨he, bel⟩ => ?_
  subst he
  exact ⟨_, rfl, _, _, _, [], _, [], hW', trodAll_mk1 (shut_bool Try.underlying4 _), (trodAll_cons_mk (Below.trod laidOut (by kernel_rfl) (of_decide_eq_true (by kernel_rfl)) k0 bel lt0) trodAll_mk0), rfl, bel.frame _, fun h => by cases h⟩

theorem over : Rows.fnExactKeepingRow.holds Try.pinned (OpenSpec.ofChange Rows.fnExactKeepingSpec) :=
  OpenClaim.holds_of_wide 10 Try.f10 rfl rfl rfl rfl rfl rfl rfl ⟨rfl, rfl, rfl, rfl, rfl⟩ rfl rfl rfl rfl rfl (by kernel_rfl) Try.func10 (by kernel_rfl)
    (of_decide_eq_true (by kernel_rfl)) (by unfold Func.isWrapper; first | (rw [if_pos (by decide +kernel)]; kernel_rfl) | (rw [if_neg (by decide +kernel)]; exact ⟨rfl, rfl⟩))
    (fun os started H enc _ => lifted os started H enc)

theorem proved : Rows.FnExactKeepingSaid := over
end Go.Proofs.Yteokiohfebklmaa.fnExactKeeping
