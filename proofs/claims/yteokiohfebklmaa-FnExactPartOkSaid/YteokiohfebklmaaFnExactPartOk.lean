/-
  Proved: for every part, the law FnExactPartOk of this seat's translation returns true (impl.PartOk answers as spec.PartOk does and leaves its argument alone); no conditions.
-/
import Derived.Test.YteokiohfebklmaaRows
import Derived.Test.YteokiohfebklmaaOpenPart
import Derived.WalkKit
import Derived.ProofKit
import Derived.OpenShut
import Derived.ShutString
import Derived.ChangeOld
import Derived.Below
import Derived.Test.YteokiohfebklmaaImplOp
namespace Go.Proofs.Yteokiohfebklmaa.fnExactPartOk
open Go.ChangeShapes Go.WideShapes Go.ChangeAt Go.RowKit
open Go.ChangeMaps (open_string shut_string)
open low
set_option linter.unusedVariables false

theorem own : ownKnob Try.prog.godebug = none := by kernel_rfl
/-- block b holds these three cells -/
def Box3 (w : World) (b : Nat) (x y z : Value) : Prop := w.cell? ⟨b, 0, none⟩ = some x ∧ w.cell? ⟨b, 1, none⟩ = some y ∧ w.cell? ⟨b, 2, none⟩ = some z
theorem Box3.past {w w' : World} {b B : Nat} {x y z : Value} (h : Box3 w b x y z) (hb : Below B w w') (hB : b < B) : Box3 w' b x y z := ⟨(hb.cell (p := ⟨b, 0, none⟩) hB).trans h.1, (hb.cell (p := ⟨b, 1, none⟩) hB).trans h.2.1, (hb.cell (p := ⟨b, 2, none⟩) hB).trans h.2.2⟩
theorem copied_row {p : Pt} {g : Nat} {w : World} {base : Nat} (h : w.ownsRow base 3 1 (.slice (some ⟨g, 0, none⟩) p.signs.length p.signs.length) p.signs.length (p.signs.map (Value.int .i64))) : Row (Value.int .i64) w w.heap.size (some ⟨g, 0, none⟩) p.signs := Row.of_own h
theorem box_new (w : World) (a b c : Value) (t : TypeId) : Box3 (w.alloc (.cells #[a, b, c] t)) w.heap.size a b c := ⟨cell_of_row _ _ 0 _ _ _ (heap_alloc_new w _), cell_of_row _ _ 1 _ _ _ (heap_alloc_new w _), cell_of_row _ _ 2 _ _ _ (heap_alloc_new w _)⟩
set_option maxRecDepth 100000 in
set_option maxHeartbeats 1600000 in
theorem walk (p0 : Pt) (A0 : Option Addr) (c0 : Nat) (w : World) (w0 : Row (Value.int .i64) w w.heap.size A0 p0.signs) (l0 : p0.signs.length ≤ maxLen) :
    Calls Try.prog 3 #[.agg #[.int .i64 p0.kind, .int .i64 p0.n, .slice A0 p0.signs.length c0]] w fun e w' => e = .returned (.bool true) ∧ Below w.heap.size w w' := by
  unfold maxLen at l0
  go_enter Try.func3, Try.ntmps3
  go_wp2_with fail
  have b00 := alloc_below w (.cells #[.int .i64 p0.kind, .int .i64 p0.n, .slice A0 p0.signs.length c0] 24)
  have x00 := box_new w (.int .i64 p0.kind) (.int .i64 p0.n) (.slice A0 p0.signs.length c0) 24
  have hz00 : (w.alloc (.cells #[.int .i64 p0.kind, .int .i64 p0.n, .slice A0 p0.signs.length c0] 24)).heap.size = w.heap.size + 1 := Array.size_push ..
  refine (szPart_any p0.kind p0.n A0 p0.signs.length c0 1048576 _ (by omega) (by omega) (by omega)).mono ?_
  rintro e u0 ⟨r, rfl, hr, b0'⟩
  have b0 := b00.trans (b0'.mono b00.size)
  have x0 := x00.past b0' (by omega)
  have hz0 : w.heap.size < u0.heap.size := by have := b0'.size; omega
  clear x00 b00 b0' hz00
  rcases hr with rfl | ⟨hr0, hr1⟩
  · go_wp2
    go_ret
    exact ⟨rfl, b0⟩
  · have hl : p0.signs.length ≤ 1048576 := by omega
    clear hr1
    obtain ⟨x01, x02, x03⟩ := x0
    go_wp2_with fail
    refine (toPart_any p0 A0 c0 u0 (w0.past b0) (by omega)).mono ?_
    rintro e u1 ⟨g1, rfl, _, _, o1, b1⟩
    have d1 := b0.trans (b1.mono b0.size)
    go_wp2_with fail
    refine (specPartOk_any p0 (some ⟨g1, 0, none⟩) p0.signs.length u1 (copied_row o1) (by omega)).mono ?_
    rintro e u2 ⟨rfl, b2⟩
    have d2 := d1.trans (b2.mono d1.size)
    have x2 : Box3 u2 w.heap.size (.int .i64 p0.kind) (.int .i64 p0.n) (.slice A0 p0.signs.length c0) := (Box3.past ⟨x01, x02, x03⟩ b1 hz0).past b2 (Nat.lt_of_lt_of_le hz0 b1.size)
    obtain ⟨x21, x22, x23⟩ := x2
    go_wp2_with fail
    refine (toPart_any p0 A0 c0 u2 (w0.past d2) (by omega)).mono ?_
    rintro e u3 ⟨g3, rfl, _, hg3, o3, b3⟩
    have d3 := d2.trans (b3.mono d2.size)
    have hz2 : w.heap.size < u2.heap.size := Nat.lt_of_lt_of_le hz0 (Nat.le_trans b1.size b2.size)
    have x3 : Box3 u3 w.heap.size (.int .i64 p0.kind) (.int .i64 p0.n) (.slice A0 p0.signs.length c0) := Box3.past ⟨x21, x22, x23⟩ b3 hz2
    have hz3 : w.heap.size < u3.heap.size := Nat.lt_of_lt_of_le hz2 b3.size
    have b3a := alloc_below u3 (.cells #[.int .i64 p0.kind, .int .i64 p0.n, .slice (some ⟨g3, 0, none⟩) p0.signs.length p0.signs.length] 27)
    have y3 := box_new u3 (.int .i64 p0.kind) (.int .i64 p0.n) (.slice (some ⟨g3, 0, none⟩) p0.signs.length p0.signs.length) 27
    have hza : (u3.alloc (.cells #[.int .i64 p0.kind, .int .i64 p0.n, .slice (some ⟨g3, 0, none⟩) p0.signs.length p0.signs.length] 27)).heap.size = u3.heap.size + 1 := Array.size_push ..
    go_wp2_with fail
    refine (implPartOk_any p0 (some ⟨g3, 0, none⟩) p0.signs.length _ ((copied_row o3).past b3a) (by omega)).mono ?_
    rintro e u4 ⟨rfl, b4⟩
    have d4 := (d3.trans (b3a.mono d3.size)).trans (b4.mono (Nat.le_trans d3.size b3a.size))
    have x4 : Box3 u4 w.heap.size (.int .i64 p0.kind) (.int .i64 p0.n) (.slice A0 p0.signs.length c0) := (x3.past b3a hz3).past b4 (by omega)
    have y4 := y3.past b4 (by omega)
    have hz4 : w.heap.size < u4.heap.size := by have := b4.size; omega
    have hy4 : u3.heap.size < u4.heap.size := by have := b4.size; omega
    have r4 := ((copied_row o3).past b3a).past b4
    have HZA := Lib.hid hza
    clear hza x3 y3 b3a
    obtain ⟨x41, x42, x43⟩ := x4
    obtain ⟨y41, y42, y43⟩ := y4
    generalize okPt p0 = res
    have hsame := samePt_self p0
    go_wp2
    go_region_with (first | (go_at_call 15; refine (toPart_any p0 A0 c0 _ (by exact w0.past d4.drew) (by omega)).mono ?_; rintro e u5 ⟨g5, rfl, _, hg5, o5, b5⟩; obtain ⟨y51, y52, y53⟩ := Box3.past (w := u4.drew) ⟨y41, y42, y43⟩ b5 hy4) | (go_at_call 17; refine (eqPart_any p0 p0 (some ⟨g3, 0, none⟩) (some ⟨g5, 0, none⟩) _ _ _ (by exact Row.past (w := u4.drew) r4 b5) (by exact copied_row o5) (by omega) (by omega)).mono ?_; rintro e u6 ⟨rfl, b6⟩))
    all_goals
      go_wp2
      go_ret
      exact ⟨rfl, (d4.drew.trans (b5.mono d4.size)).trans (b6.mono (Nat.le_trans d4.size b5.size))⟩

set_option maxRecDepth 100000 in
theorem lifted (os : Os) (started : os.Started) (H : Type) (enc : TypeId × Value → H) :
    ReturnsInHanded {} Try.checked os 3 .any (Rows.fnExactPartOkSpec.pre6 enc Try.prog Try.f3 Rows.fnExactPartOkRow.domain false) (Rows.fnExactPartOkSpec.post enc Try.prog Try.f3 false true false false) := by
  refine returnsInHanded_of_change (C := Try.checked) own started (by kernel_rfl) Try.func3
    (ChangeSpec.witness6 (enc := enc) (C := Try.checked) false ⟨#[], #[.agg #[.int .i64 0, .int .i64 0, .slice none 0 0]], []⟩ 8 (by kernel_rfl) (by kernel_rfl) (by kernel_rfl) (by kernel_rfl)) ?_
  intro W base args ds gs before hval0 hW hcnd _
  have hval : ∀ (j : Nat) t v, Try.f3.params[j]? = some t → args[j]? = some v → Value.okWide Try.prog W .any base t v := hval0
  have hW' := hW
  obtain ⟨p, q, hA0, hV, rfl, hfz, hnd⟩ := hW
  have hA : DataW.TrodAll enc Try.prog W 0 (fun _ => true) true Try.f3.params.toList args.toList ds p := hA0
  rw [Try.params3] at hA hval
  obtain ⟨v0, vs0, x0, xs0, q0, r0, hargs, rfl, rfl, h0, t0⟩ := trodAll_cons hA
  obtain ⟨rfl, rfl, rfl⟩ := trodAll_nil t0
  obtain rfl : args = #[v0] := by cases args; simp_all
  obtain ⟨rfl, rfl⟩ := trodVars_none hV
  have k0 := h0
  have lt0 : ∀ x ∈ q0, x.block < W.heap.size := by obtain ⟨m, hm⟩ := k0; exact DataW.trod_lt m _ _ _ hm
  obtain ⟨cs0, rfl, hsz0⟩ := okWide_struct Try.underlying24 (hval 0 24 v0 rfl rfl)
  obtain ⟨f0, hf0⟩ := h0
  obtain ⟨p0, A0, c0, e0, w0, l0⟩ := read_part hf0
  obtain rfl : cs0 = #[.int .i64 p0.kind, .int .i64 p0.n, .slice A0 p0.signs.length c0] := by cases cs0; simpa [Value.cells] using e0
  clear hA0 hval0
  refine (walk p0 A0 c0 W w0 l0).mono fun e W' ⟨he, bel⟩ => ?_
  subst he
  exact ⟨_, rfl, _, _, _, [], _, [], hW', trodAll_mk1 (shut_bool Try.underlying4 _), (trodAll_cons_mk (Below.trod laidOut (by kernel_rfl) (of_decide_eq_true (by kernel_rfl)) k0 bel lt0) trodAll_mk0), rfl, bel.frame _, fun h => by cases h⟩

theorem over : Rows.fnExactPartOkRow.holds Try.pinned (OpenSpec.ofChange Rows.fnExactPartOkSpec) :=
  OpenClaim.holds_of_wide 3 Try.f3 rfl rfl rfl rfl rfl rfl rfl ⟨rfl, rfl, rfl, rfl, rfl⟩ rfl rfl rfl rfl rfl (by kernel_rfl) Try.func3 (by kernel_rfl)
    (of_decide_eq_true (by kernel_rfl)) (by unfold Func.isWrapper; first | (rw [if_pos (by decide +kernel)]; kernel_rfl) | (rw [if_neg (by decide +kernel)]; exact ⟨rfl, rfl⟩))
    (fun os started H enc _ => lifted os started H enc)

theorem proved : Rows.FnExactPartOkSaid := over
end Go.Proofs.Yteokiohfebklmaa.fnExactPartOk
