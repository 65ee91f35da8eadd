/-
  Proved: for every string, the law FnExactLines of this seat's translation returns true (impl.Lines answers as spec.Lines does, twice, and its result owns its memory); no conditions.
-/
import Derived.Test.YtkcediipkkpofaaRows
import Derived.WalkKit
import Derived.ProofKit
import Derived.OpenShut
import Derived.ShutString
import Derived.Below
import Derived.ChangeOld
import Derived.Test.YtkcediipkkpofaaCutLines
namespace Go.Proofs.Ytkcediipkkpofaa.fnExactLines
open Go.ChangeShapes Go.WideShapes Go.ChangeAt Go.RowKit
open Go.ChangeMaps (open_string shut_string)
set_option linter.unusedVariables false      -- a walk need not use every 'w<i>' (that an integer argument fits its kind)

open low
theorem own : ownKnob Try.prog.godebug = none := by kernel_rfl

/-! ### STEP 1: THE WALK: the Go text returns true. 'Grown w w'': the world has at most new blocks (Derived/RowKit3.lean). Part the cases AHEAD of 'go_enter' where a test parts the walk; take each callee by a contract of your own. -/
theorem says_below {b : Bool} {w w' : World} {e : Ending} (h : Says b w e w') : e = .returned (.bool b) ∧ Below w.heap.size w w' := by
  obtain ⟨h1, n, rfl⟩ := h
  exact ⟨h1, ⟨rfl, rfl, rfl, Nat.le_refl _, fun _ _ => rfl⟩⟩
set_option maxRecDepth 100000 in
set_option maxHeartbeats 1600000 in
theorem walk (a0 : ByteArray) (w0 : a0.size ≤ maxLen) (w : World) :
    Calls Try.prog 10 #[.string a0] w fun e w' => e = .returned (.bool true) ∧ Below w.heap.size w w' := by
  by_cases hbig : (1048576 : Int) < (a0.size : Int)
  · go_enter Try.func10, Try.ntmps10
    go_wp2
    go_ret
    exact ⟨rfl, Below.refl _ _⟩
  · have hsm : a0.size ≤ 1048576 := by omega
    have hlen := lines_len a0 hsm
    go_enter Try.func10, Try.ntmps10
    go_wp2_with fail
    refine (specLines_any a0 _ hsm).mono ?_
    rintro e u1 ⟨v1, rfl, hb1, b1⟩
    go_wp2_with fail
    refine (implLines_any a0 _ hsm).mono ?_
    rintro e u2 ⟨v2, rfl, hb2, b2⟩
    have hagain : ∀ u, Calls Try.prog 32 #[.string a0] u (StrsPost (linesOf a0) u) := fun u => implLines_any a0 u hsm
    have HAG := Lib.hid hagain
    clear hagain
    generalize linesOf a0 = zs at *
    obtain ⟨A1, c1, rfl, r1⟩ := hb1.slice
    obtain ⟨A2, c2, rfl, r2⟩ := hb2.slice
    have d2 := b1.trans (b2.mono b1.size)
    go_wp2_with fail
    refine (eqStringS_self _ _ _ _ zs _ r2 (r1.past b2) (by omega)).mono ?_
    intro e u3 h3
    obtain ⟨rfl, b3⟩ := says_below h3
    have d3 := d2.trans (b3.mono d2.size)
    have hb3 := hb2.past b3
    go_wp2_with fail
    refine (markStringS_any _ _ zs 1 _ hb3 (by omega) (by omega) (by omega)).mono ?_
    rintro e u4 ⟨rfl, hb4, b4⟩
    have r4 : Row Value.string u4 u4.heap.size A2 (marksB 1 zs.length) := by
      obtain ⟨A, c, e, r⟩ := hb4.slice
      injection e with e1 e2 e3
      rw [e1]
      exact r
    have r14 : Row Value.string u4 u1.heap.size A1 zs := (r1.below (b2.trans (b3.mono b2.size))).below b4
    have d4 := d3.trans (b4.mono b1.size)
    go_wp2_with fail
    refine (heldStringS_any _ _ zs.length 1 _ r4 (by omega) (by omega) (by omega)).mono ?_
    rintro e u4' ⟨rfl, b4'⟩
    have d4' := d4.trans (b4'.mono d4.size)
    go_wp2_with fail
    refine (HAG.out _).mono ?_
    rintro e u5 ⟨v5, rfl, hb5, b5⟩
    obtain ⟨A5, c5, rfl, r5⟩ := hb5.slice
    have d5 := d4'.trans (b5.mono d4'.size)
    have hu14 : u1.heap.size ≤ u4.heap.size := hb4.2
    go_wp2_with fail
    refine (eqStringS_self _ _ _ _ zs _ r5 (((r14.more hu14).past b4').past b5) (by omega)).mono ?_
    intro e u6 h6
    obtain ⟨rfl, b6⟩ := says_below h6
    have d6 := d5.trans (b6.mono d5.size)
    go_wp2_with fail
    refine (heldStringS_any _ _ zs.length 1 _ (((r4.past b4').past b5).past b6) (by omega) (by omega) (by omega)).mono ?_
    rintro e u7 ⟨rfl, b7⟩
    go_wp2
    go_ret
    exact ⟨rfl, d6.trans (b7.mono d6.size)⟩

/-! ### THE ROW's STEP: WRITTEN OUT: LEAVE IT -/
set_option maxRecDepth 100000 in
theorem lifted (os : Os) (started : os.Started) (H : Type) (enc : TypeId × Value → H) :
    ReturnsInHanded {} Try.checked os 10 .any (Rows.fnExactLinesSpec.pre6 enc Try.prog Try.f10 Rows.fnExactLinesRow.domain false) (Rows.fnExactLinesSpec.post enc Try.prog Try.f10 false true false false) := by
  refine returnsInHanded_of_change (C := Try.checked) own started (by kernel_rfl) Try.func10
    (ChangeSpec.witness6 (enc := enc) (C := Try.checked) false ⟨#[], #[.string ByteArray.empty], []⟩ 8 (by kernel_rfl) (by kernel_rfl) (by kernel_rfl) (by kernel_rfl)) ?_
  intro W base args ds gs before hval0 hW hcnd _
  have hval : ∀ (j : Nat) t v, Try.f10.params[j]? = some t → args[j]? = some v → Value.okWide Try.prog W .any base t v := hval0
  have hW' := hW
  obtain ⟨p, q, hA0, hV, rfl, hfz, hnd⟩ := hW
  have hA : DataW.TrodAll enc Try.prog W 0 (fun _ => true) true Try.f10.params.toList args.toList ds p := hA0
  rw [Try.params10] at hA hval
  obtain ⟨v0, vs0, d0, ds0, p0, q0, hargs, rfl, rfl, h0, r0⟩ := trodAll_cons hA
  obtain ⟨rfl, rfl, rfl⟩ := trodAll_nil r0
  obtain rfl : args = #[v0] := by cases args; simp_all
  obtain ⟨rfl, rfl⟩ := trodVars_none hV
  obtain ⟨a0, rfl, rfl, rfl, w0⟩ := open_string Try.underlying9 (hval 0 9 v0 rfl rfl) h0
  clear hA0 hval0
  simp only [List.append_nil] at hW'
  refine (walk a0 w0 W).mono fun e W' ⟨he, bel⟩ => ?_
  subst he
  exact ⟨_, rfl, _, _, _, [], [], [], hW', (trodAll_cons_mk (shut_bool Try.underlying4 _) trodAll_mk0), (trodAll_cons_mk (shut_string Try.underlying9 w0) trodAll_mk0), rfl, bel.frame _, fun h => by cases h⟩

theorem over : Rows.fnExactLinesRow.holds Try.pinned (OpenSpec.ofChange Rows.fnExactLinesSpec) :=
  OpenClaim.holds_of_wide 10 Try.f10 rfl rfl rfl rfl rfl rfl rfl ⟨rfl, rfl, rfl, rfl, rfl⟩ rfl rfl rfl rfl rfl (by kernel_rfl) Try.func10 (by kernel_rfl)
    (of_decide_eq_true (by kernel_rfl)) (by unfold Func.isWrapper; first | (rw [if_pos (by decide +kernel)]; kernel_rfl) | (rw [if_neg (by decide +kernel)]; exact ⟨rfl, rfl⟩))
    (fun os started H enc _ => lifted os started H enc)

/-- THE STATEMENT -/
theorem proved : Rows.FnExactLinesSaid :=
  over
end Go.Proofs.Ytkcediipkkpofaa.fnExactLines
