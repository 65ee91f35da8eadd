/-
  Proved: for every argument (hub), the law FnExactHubOk of this seat's translation returns true (impl.HubOk answers as spec.HubOk does, leaves its arguments alone); no conditions.
-/
import Derived.Test.YtninppjomdhnmaaGreatRows
import Derived.Test.YtninppjomdhnmaaGreatM1
import Derived.WalkKit
import Derived.ProofKit
import Derived.OpenShut
import Derived.ShutString
import Derived.ChangeOld
import Derived.Below
import Derived.Test.YtninppjomdhnmaaGreatM5
import Derived.Test.YtninppjomdhnmaaGreatM6
namespace Go.Proofs.YtninppjomdhnmaaGreat.fnExactHubOk
open Go.ChangeShapes Go.WideShapes Go.ChangeAt Go.RowKit
open Go.ChangeMaps (open_string shut_string)
open low
set_option linter.unusedVariables false

theorem own : ownKnob Tryz.prog.godebug = none := by kernel_rfl
set_option maxRecDepth 100000 in
set_option maxHeartbeats 1600000 in
theorem walk (x0 : Hu) (y0 : Value) (w : World) (w0 : RdC w w.heap.size (datHu x0) y0) (l0 : LimHu x0) :
    Calls Tryz.prog 4 #[y0] w fun e w' => e = .returned (.bool true) ∧ Below w.heap.size w w' := by
  have D0 : Below w.heap.size w w := Below.refl _ _
  have R0 := w0
  obtain ⟨AA0_1, cA0_1, AA0_2, cA0_2, rfl, _, _⟩ := aggHu w0
  have bxA0 := Bx.new w #[.bool x0.shut, .slice AA0_1 x0.docs.length cA0_1, .slice AA0_2 x0.subs.length cA0_2, .int .i64 x0.last] 41
  have DE := alloc_below w (.cells #[.bool x0.shut, .slice AA0_1 x0.docs.length cA0_1, .slice AA0_2 x0.subs.length cA0_2, .int .i64 x0.last] 41)
  have zE : (w.alloc (.cells #[.bool x0.shut, .slice AA0_1 x0.docs.length cA0_1, .slice AA0_2 x0.subs.length cA0_2, .int .i64 x0.last] 41)).heap.size = w.heap.size + 1 := World.size_alloc _ _
  go_enter Tryz.func4, Tryz.ntmps4
  go_wp2_with fail
  generalize (w.alloc (.cells #[.bool x0.shut, .slice AA0_1 x0.docs.length cA0_1, .slice AA0_2 x0.subs.length cA0_2, .int .i64 x0.last] 41)) = wE at bxA0 DE zE ⊢
  refine (szHu _ x0 1048576 _ (R0.past DE) (by omega) (by omega) l0).mono ?_
  rintro e u1 ⟨r1, rfl, hr1, b1⟩
  rcases hr1 with rfl | ⟨p1, q1⟩
  · go_wp2
    go_ret
    exact ⟨rfl, DE.trans (b1.mono DE.size)⟩
  have S0 : SmHu x0 := by unfold SmHu; omega
  have t1 : r1 ≤ 1048576 := by omega
  clear q1
  have bxA0 := bxA0.past b1
  have z1 := b1.size
  have D1 := DE.trans (b1.mono DE.size)
  have ybxA00 : _ = (some (.bool x0.shut) : Option Value) := bxA0.cell (j := 0) rfl
  have ybxA01 : _ = (some (.slice AA0_1 x0.docs.length cA0_1) : Option Value) := bxA0.cell (j := 1) rfl
  have ybxA02 : _ = (some (.slice AA0_2 x0.subs.length cA0_2) : Option Value) := bxA0.cell (j := 2) rfl
  have ybxA03 : _ = (some (.int .i64 x0.last) : Option Value) := bxA0.cell (j := 3) rfl
  go_wp2_with fail
  clear ybxA00 ybxA01 ybxA02 ybxA03
  refine (toHu _ x0 _ (R0.past D1) S0).mono ?_
  rintro e u2 ⟨v2, rfl, oT00, b2⟩
  obtain ⟨k2, oT0⟩ := oT00.blocks
  clear oT00
  obtain ⟨A2_1, c2_1, A2_2, c2_2, rfl, _, _⟩ := aggHu oT0.read
  have bxA0 := bxA0.past b2
  have z2 := b2.size
  have D2 := D1.trans (b2.mono D1.size)
  go_wp2_with fail
  refine (specHubOk_d _ x0 _ oT0.read S0).mono ?_
  rintro e u3 ⟨rfl, b3⟩
  have oT0 := oT0.past b3
  have bxA0 := bxA0.past b3
  have z3 := b3.size
  have D3 := D2.trans (b3.mono D2.size)
  generalize hL0 : (hubB x0) = L0 at *
  have HL0 := Lib.hid hL0
  clear hL0
  have nb0 : (L0 != L0) = false := by simp
  clear oT0
  have ybxA00 : _ = (some (.bool x0.shut) : Option Value) := bxA0.cell (j := 0) rfl
  have ybxA01 : _ = (some (.slice AA0_1 x0.docs.length cA0_1) : Option Value) := bxA0.cell (j := 1) rfl
  have ybxA02 : _ = (some (.slice AA0_2 x0.subs.length cA0_2) : Option Value) := bxA0.cell (j := 2) rfl
  have ybxA03 : _ = (some (.int .i64 x0.last) : Option Value) := bxA0.cell (j := 3) rfl
  go_wp2_with fail
  clear ybxA00 ybxA01 ybxA02 ybxA03
  refine (toHu _ x0 _ (R0.past D3) S0).mono ?_
  rintro e u4 ⟨v4, rfl, oX00, b4⟩
  obtain ⟨k4, oX0⟩ := oX00.blocks
  clear oX00
  obtain ⟨A4_1, c4_1, A4_2, c4_2, rfl, _, _⟩ := aggHu oX0.read
  have bxA0 := bxA0.past b4
  have z4 := b4.size
  have D4 := D3.trans (b4.mono D3.size)
  have bxA0P := bxA0
  have bxA0L := bxA0.lt
  have ba4 := alloc_below u4 (.cells #[.bool x0.shut, .slice A4_1 x0.docs.length c4_1, .slice A4_2 x0.subs.length c4_2, .int .i64 x0.last] 47)
  have oX0 := oX0.past ba4
  have bxA0 := bxA0.past ba4
  have bxX0 := Bx.new u4 #[.bool x0.shut, .slice A4_1 x0.docs.length c4_1, .slice A4_2 x0.subs.length c4_2, .int .i64 x0.last] 47
  have zu4 : (u4.alloc (.cells #[.bool x0.shut, .slice A4_1 x0.docs.length c4_1, .slice A4_2 x0.subs.length c4_2, .int .i64 x0.last] 47)).heap.size = u4.heap.size + 1 := World.size_alloc _ _
  have Da4 := D4.trans (ba4.mono D4.size)
  clear ba4
  go_wp2_with fail
  generalize u4.alloc (.cells #[.bool x0.shut, .slice A4_1 x0.docs.length c4_1, .slice A4_2 x0.subs.length c4_2, .int .i64 x0.last] 47) = v4_ at oX0 bxA0 bxX0 zu4 Da4 ⊢
  clear bxA0P bxA0L
  refine (implHubOk_d _ x0 _ oX0.read S0).mono ?_
  rw [HL0.out]
  rintro e u5 ⟨rfl, b5⟩
  have oX0 := oX0.past b5
  have bxA0 := bxA0.past b5
  have bxX0 := bxX0.past b5
  have z5 := b5.size
  have D5 := Da4.trans (b5.mono Da4.size)
  have lbxX0 := bxX0.lt
  have ybxX00 : u5.cell? ⟨u4.heap.size, 0, none⟩ = some (.bool x0.shut) := bxX0.cell (j := 0) rfl
  have ybxX01 : u5.cell? ⟨u4.heap.size, 1, none⟩ = some (.slice A4_1 x0.docs.length c4_1) := bxX0.cell (j := 1) rfl
  have ybxX02 : u5.cell? ⟨u4.heap.size, 2, none⟩ = some (.slice A4_2 x0.subs.length c4_2) := bxX0.cell (j := 2) rfl
  have ybxX03 : u5.cell? ⟨u4.heap.size, 3, none⟩ = some (.int .i64 x0.last) := bxX0.cell (j := 3) rfl
  have lbxA0 := bxA0.lt
  have ybxA00 : u5.cell? ⟨w.heap.size, 0, none⟩ = some (.bool x0.shut) := bxA0.cell (j := 0) rfl
  have ybxA01 : u5.cell? ⟨w.heap.size, 1, none⟩ = some (.slice AA0_1 x0.docs.length cA0_1) := bxA0.cell (j := 1) rfl
  have ybxA02 : u5.cell? ⟨w.heap.size, 2, none⟩ = some (.slice AA0_2 x0.subs.length cA0_2) := bxA0.cell (j := 2) rfl
  have ybxA03 : u5.cell? ⟨w.heap.size, 3, none⟩ = some (.int .i64 x0.last) := bxA0.cell (j := 3) rfl
  have SX := Lib.hid (show ∀ (W W1 : World), (W.cell? ⟨u4.heap.size, 0, none⟩ = some (.bool x0.shut) ∧ W.cell? ⟨u4.heap.size, 1, none⟩ = some (.slice A4_1 x0.docs.length c4_1) ∧ W.cell? ⟨u4.heap.size, 2, none⟩ = some (.slice A4_2 x0.subs.length c4_2) ∧ W.cell? ⟨u4.heap.size, 3, none⟩ = some (.int .i64 x0.last) ∧ W.cell? ⟨w.heap.size, 0, none⟩ = some (.bool x0.shut) ∧ W.cell? ⟨w.heap.size, 1, none⟩ = some (.slice AA0_1 x0.docs.length cA0_1) ∧ W.cell? ⟨w.heap.size, 2, none⟩ = some (.slice AA0_2 x0.subs.length cA0_2) ∧ W.cell? ⟨w.heap.size, 3, none⟩ = some (.int .i64 x0.last) ∧ KS u5 W) → Below W.heap.size W W1 → (W1.cell? ⟨u4.heap.size, 0, none⟩ = some (.bool x0.shut) ∧ W1.cell? ⟨u4.heap.size, 1, none⟩ = some (.slice A4_1 x0.docs.length c4_1) ∧ W1.cell? ⟨u4.heap.size, 2, none⟩ = some (.slice A4_2 x0.subs.length c4_2) ∧ W1.cell? ⟨u4.heap.size, 3, none⟩ = some (.int .i64 x0.last) ∧ W1.cell? ⟨w.heap.size, 0, none⟩ = some (.bool x0.shut) ∧ W1.cell? ⟨w.heap.size, 1, none⟩ = some (.slice AA0_1 x0.docs.length cA0_1) ∧ W1.cell? ⟨w.heap.size, 2, none⟩ = some (.slice AA0_2 x0.subs.length cA0_2) ∧ W1.cell? ⟨w.heap.size, 3, none⟩ = some (.int .i64 x0.last) ∧ KS u5 W1) from fun W W1 h hb => by have hk := h.2.2.2.2.2.2.2.2; have hkk : KS u5 W1 := hk.trans (hb.mono hk.size); exact ⟨(hkk.cell (p := ⟨u4.heap.size, 0, none⟩) lbxX0).trans ybxX00, (hkk.cell (p := ⟨u4.heap.size, 1, none⟩) lbxX0).trans ybxX01, (hkk.cell (p := ⟨u4.heap.size, 2, none⟩) lbxX0).trans ybxX02, (hkk.cell (p := ⟨u4.heap.size, 3, none⟩) lbxX0).trans ybxX03, (hkk.cell (p := ⟨w.heap.size, 0, none⟩) lbxA0).trans ybxA00, (hkk.cell (p := ⟨w.heap.size, 1, none⟩) lbxA0).trans ybxA01, (hkk.cell (p := ⟨w.heap.size, 2, none⟩) lbxA0).trans ybxA02, (hkk.cell (p := ⟨w.heap.size, 3, none⟩) lbxA0).trans ybxA03, hkk⟩)
  have RX := Lib.hid (show ∀ (W : World), (W.cell? ⟨u4.heap.size, 0, none⟩ = some (.bool x0.shut) ∧ W.cell? ⟨u4.heap.size, 1, none⟩ = some (.slice A4_1 x0.docs.length c4_1) ∧ W.cell? ⟨u4.heap.size, 2, none⟩ = some (.slice A4_2 x0.subs.length c4_2) ∧ W.cell? ⟨u4.heap.size, 3, none⟩ = some (.int .i64 x0.last) ∧ W.cell? ⟨w.heap.size, 0, none⟩ = some (.bool x0.shut) ∧ W.cell? ⟨w.heap.size, 1, none⟩ = some (.slice AA0_1 x0.docs.length cA0_1) ∧ W.cell? ⟨w.heap.size, 2, none⟩ = some (.slice AA0_2 x0.subs.length cA0_2) ∧ W.cell? ⟨w.heap.size, 3, none⟩ = some (.int .i64 x0.last) ∧ KS u5 W) → RdC W W.heap.size (datHu x0) (.agg #[.bool x0.shut, .slice A4_1 x0.docs.length c4_1, .slice A4_2 x0.subs.length c4_2, .int .i64 x0.last]) from fun W h => by have hk : Below u5.heap.size u5 W := h.2.2.2.2.2.2.2.2; exact (oX0.past hk).read)
  have RA := Lib.hid (show ∀ (W : World), (W.cell? ⟨u4.heap.size, 0, none⟩ = some (.bool x0.shut) ∧ W.cell? ⟨u4.heap.size, 1, none⟩ = some (.slice A4_1 x0.docs.length c4_1) ∧ W.cell? ⟨u4.heap.size, 2, none⟩ = some (.slice A4_2 x0.subs.length c4_2) ∧ W.cell? ⟨u4.heap.size, 3, none⟩ = some (.int .i64 x0.last) ∧ W.cell? ⟨w.heap.size, 0, none⟩ = some (.bool x0.shut) ∧ W.cell? ⟨w.heap.size, 1, none⟩ = some (.slice AA0_1 x0.docs.length cA0_1) ∧ W.cell? ⟨w.heap.size, 2, none⟩ = some (.slice AA0_2 x0.subs.length cA0_2) ∧ W.cell? ⟨w.heap.size, 3, none⟩ = some (.int .i64 x0.last) ∧ KS u5 W) → RdC W W.heap.size (datHu x0) (.agg #[.bool x0.shut, .slice AA0_1 x0.docs.length cA0_1, .slice AA0_2 x0.subs.length cA0_2, .int .i64 x0.last]) from fun W h => by have hk : Below u5.heap.size u5 W := h.2.2.2.2.2.2.2.2; exact R0.past (D5.trans (hk.mono D5.size)))
  have hS0 : u5.drew.cell? ⟨u4.heap.size, 0, none⟩ = some (.bool x0.shut) ∧ u5.drew.cell? ⟨u4.heap.size, 1, none⟩ = some (.slice A4_1 x0.docs.length c4_1) ∧ u5.drew.cell? ⟨u4.heap.size, 2, none⟩ = some (.slice A4_2 x0.subs.length c4_2) ∧ u5.drew.cell? ⟨u4.heap.size, 3, none⟩ = some (.int .i64 x0.last) ∧ u5.drew.cell? ⟨w.heap.size, 0, none⟩ = some (.bool x0.shut) ∧ u5.drew.cell? ⟨w.heap.size, 1, none⟩ = some (.slice AA0_1 x0.docs.length cA0_1) ∧ u5.drew.cell? ⟨w.heap.size, 2, none⟩ = some (.slice AA0_2 x0.subs.length cA0_2) ∧ u5.drew.cell? ⟨w.heap.size, 3, none⟩ = some (.int .i64 x0.last) ∧ KS u5 u5.drew := ⟨ybxX00, ybxX01, ybxX02, ybxX03, ybxA00, ybxA01, ybxA02, ybxA03, KS.start _⟩
  clear ybxX00 ybxX01 ybxX02 ybxX03 ybxA00 ybxA01 ybxA02 ybxA03
  go_wp2
  go_region_held3 (fun W => W.cell? ⟨u4.heap.size, 0, none⟩ = some (.bool x0.shut) ∧ W.cell? ⟨u4.heap.size, 1, none⟩ = some (.slice A4_1 x0.docs.length c4_1) ∧ W.cell? ⟨u4.heap.size, 2, none⟩ = some (.slice A4_2 x0.subs.length c4_2) ∧ W.cell? ⟨u4.heap.size, 3, none⟩ = some (.int .i64 x0.last) ∧ W.cell? ⟨w.heap.size, 0, none⟩ = some (.bool x0.shut) ∧ W.cell? ⟨w.heap.size, 1, none⟩ = some (.slice AA0_1 x0.docs.length cA0_1) ∧ W.cell? ⟨w.heap.size, 2, none⟩ = some (.slice AA0_2 x0.subs.length cA0_2) ∧ W.cell? ⟨w.heap.size, 3, none⟩ = some (.int .i64 x0.last) ∧ KS u5 W)
    (first | assumption | exact hS0 | (exact SX.out _ _ (by assumption) b6) | (exact SX.out _ _ (by assumption) b7))
    (first | (go_at_call 14; refine (toHu _ x0 _ (by exact RA.out _ (by assumption)) S0).mono ?_; rintro e u6 ⟨v6, rfl, o6, b6⟩; obtain ⟨A6_1, c6_1, A6_2, c6_2, rfl, _, _⟩ := aggHu o6.read) | (go_at_call 16; refine (eqHu _ _ x0 _ (by exact RX.out _ (by assumption)) (by exact o6.read) S0).mono ?_; rintro e u7 ⟨rfl, b7⟩))
  rename_i hS2
  have HK7 : Below u5.heap.size u5 u7 := hS2.2.2.2.2.2.2.2.2
  clear hS2 hS0 SX RX RA
  clear lbxX0 lbxA0
  have oX0 := oX0.past HK7
  have bxA0 := bxA0.past HK7
  have bxX0 := bxX0.past HK7
  have z7 := HK7.size
  have D7 := D5.trans (HK7.mono D5.size)
  clear o6 b6 b7
  go_wp2
  go_ret
  exact ⟨rfl, D7⟩

set_option maxRecDepth 100000 in
theorem lifted (os : Os) (started : os.Started) (H : Type) (enc : TypeId × Value → H) :
    ReturnsInHanded {} Tryz.checked os 4 .any (Rows.fnExactHubOkSpec.pre6 enc Tryz.prog Tryz.f4 Rows.fnExactHubOkRow.domain false) (Rows.fnExactHubOkSpec.post enc Tryz.prog Tryz.f4 false true false false) := by
  refine returnsInHanded_of_change (C := Tryz.checked) own started (by kernel_rfl) Tryz.func4
    (ChangeSpec.witness6 (enc := enc) (C := Tryz.checked) false ⟨#[], #[.agg #[.bool false, .slice none 0 0, .slice none 0 0, .int .i64 0]], []⟩ 8 (by kernel_rfl) (by kernel_rfl) (by kernel_rfl) (by kernel_rfl)) ?_
  intro W base args ds gs before hval0 hW hcnd _
  have hval : ∀ (j : Nat) t v, Tryz.f4.params[j]? = some t → args[j]? = some v → Value.okWide Tryz.prog W .any base t v := hval0
  have hW' := hW
  obtain ⟨p, q, hA0, hV, rfl, hfz, hnd⟩ := hW
  have hA : DataW.TrodAll enc Tryz.prog W 0 (fun _ => true) true Tryz.f4.params.toList args.toList ds p := hA0
  rw [Tryz.params4] at hA hval
  obtain ⟨v0, vs0, x0, xs0, q0, r0, hargs, rfl, rfl, h0, t0⟩ := trodAll_cons hA
  obtain ⟨rfl, rfl, rfl⟩ := trodAll_nil t0
  obtain rfl : args = #[v0] := by cases args; simp_all
  obtain ⟨rfl, rfl⟩ := trodVars_none hV
  have k0 := h0
  have lt0 : ∀ x ∈ q0, x.block < W.heap.size := by obtain ⟨m, hm⟩ := k0; exact DataW.trod_lt m _ _ _ hm
  obtain ⟨cs0, rfl, hsz0⟩ := okWide_struct Tryz.underlying41 (hval 0 41 v0 rfl rfl)
  obtain ⟨f0, hf0⟩ := h0
  obtain ⟨x0, A0_1, c0_1, A0_2, c0_2, e0, r0_1, r0_2, l0⟩ := open_dHu hf0
  obtain rfl : cs0 = #[.bool x0.shut, .slice A0_1 x0.docs.length c0_1, .slice A0_2 x0.subs.length c0_2, .int .i64 x0.last] := by cases cs0; simpa [Value.cells] using e0
  clear hA0 hval0
  refine (walk x0 _ W (rdHu x0 r0_1 r0_2) l0).mono fun e W' ⟨he, bel⟩ => ?_
  subst he
  exact ⟨_, rfl, _, _, _, [], _, [], hW', trodAll_mk1 (shut_bool Tryz.underlying4 _), (trodAll_cons_mk (Below.trod laidOut (by kernel_rfl) (of_decide_eq_true (by kernel_rfl)) k0 bel lt0) trodAll_mk0), rfl, bel.frame _, fun h => by cases h⟩

theorem over : Rows.fnExactHubOkRow.holds Tryz.pinned (OpenSpec.ofChange Rows.fnExactHubOkSpec) :=
  OpenClaim.holds_of_wide 4 Tryz.f4 rfl rfl rfl rfl rfl rfl rfl ⟨rfl, rfl, rfl, rfl, rfl⟩ rfl rfl rfl rfl rfl (by kernel_rfl) Tryz.func4 (by kernel_rfl)
    (of_decide_eq_true (by kernel_rfl)) (by unfold Func.isWrapper; first | (rw [if_pos (by decide +kernel)]; kernel_rfl) | (rw [if_neg (by decide +kernel)]; exact ⟨rfl, rfl⟩))
    (fun os started H enc _ => lifted os started H enc)

theorem proved : Rows.FnExactHubOkSaid := over
end Go.Proofs.YtninppjomdhnmaaGreat.fnExactHubOk
