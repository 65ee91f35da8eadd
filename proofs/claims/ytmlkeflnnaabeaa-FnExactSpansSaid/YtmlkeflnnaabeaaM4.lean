/-
  Texts that the proofs over this seat rest on, one behind the other (4 of 5).
-/
import Derived.Test.YtmlkeflnnaabeaaM3
import Derived.Test.YtmlkeflnnaabeaaM2
import Derived.StillTailTactics
import Derived.RangeFuncNested
import Derived.RangeFuncBound
import Derived.OrdersHeld
import Derived.OrdersIn
import Derived.TacticsIn
import Derived.RangeFuncLeaves
import Derived.OwnWalkIn
import Derived.TacticsInMore
import Derived.LoopNIn
import Derived.LoopIn
import Derived.Deep.RegionHeld3

/-
  The specification's draws: an operation (spec.l02Draw).
-/
namespace Go.Proofs.Ytmlkeflnnaabeaa.low
open Go.RowKit
set_option linter.unusedVariables false

theorem nil_ow (w : World) : OwC w (encInts []) (.slice none 0 0) [] := ⟨[], [], World.ownsRow_nil _ _ _ _, ⟨rfl, rfl⟩, rfl⟩
theorem sumOf_nonneg {L : List Pt} (h : okPs L = true) : 0 ≤ sumOf keepOf L ∧ 0 ≤ sumOf dropOf L ∧ 0 ≤ sumOf putOf L := by
  have a1 := sumOf_take (f := keepOf) (ps := L) (fun q hq => (ok_bd (okPs_mem' h hq)).1.1) 0
  have a2 := sumOf_take (f := dropOf) (ps := L) (fun q hq => (ok_bd (okPs_mem' h hq)).2.2.1) 0
  have a3 := sumOf_take (f := putOf) (ps := L) (fun q hq => (ok_bd (okPs_mem' h hq)).2.1.1) 0
  simp [sumOf] at a1 a2 a3
  exact ⟨a1, a2, a3⟩
noncomputable def drBody : Code := (((Try.f50.body.map loopsOf).getD []).headD .skip)
def slen : Value → Nat
  | .slice _ n _ => n
  | _ => 0
/-- the state of the loop -/
structure DS (B g : Nat) (w0 : World) (n : Nat) (o : Value) (left room : Nat) (L : List Pt) (b : List Nat) (w : World) : Prop where
  ow : OwB w0.heap.size w.heap.size w (encPs L) o b
  ok : okPs L = true
  sum : sumOf keepOf L + sumOf dropOf L + (left : Int) = (n : Int)
  puts : sumOf putOf L + (room : Int) = 12
  dc : DC B g w
  fr : Fr (fun q => q = g) w0 w
  bl : Below B w0 w
  lt : g < w0.heap.size
theorem sumOf_add (f : Pt → Int) (L : List Pt) (p : Pt) : sumOf f (L ++ [p]) = sumOf f L + f p := by simp [sumOf]
section
variable {B g n : Nat} {w0 w w' : World} {o : Value} {left room : Nat} {L : List Pt} {b : List Nat}
theorem DS.draw (h : DS B g w0 n o left room L b w) (dc : DC B g w') (fr : Fr (fun q => q = g) w w') (bl : Below B w w') : DS B g w0 n o left room L b w' :=
  ⟨(h.ow.fr fr h.lt).upto fr.size (Nat.le_refl _), h.ok, h.sum, h.puts, dc, h.fr.trans fr, h.bl.trans bl, h.lt⟩
theorem DS.past (h : DS B g w0 n o left room L b w) (hb : Below w.heap.size w w') : DS B g w0 n o left room L b w' :=
  h.draw (h.dc.past hb) (Fr.below hb) (hb.mono (by have := h.dc.lt; have := h.dc.low; omega))
theorem DS.app {p : Pt} {o' : Value} {b' : List Nat} {O' : Nat → Prop} {left' room' : Nat} (h : DS B g w0 n o left room L b w) (ow : OwB w0.heap.size w'.heap.size w' (encPs (L ++ [p])) o' b') (hg : Grew (fun q => q ∈ b) O' w w') (bl : Below w0.heap.size w w') (hp : okPt p = true) (h1 : keepOf p + dropOf p + (left' : Int) = (left : Int)) (h2 : putOf p + (room' : Int) = (room : Int)) : DS B g w0 n o' left' room' (L ++ [p]) b' w' := by
  have hlt := h.lt
  have hB := h.dc.low
  have q1 := h.sum
  have q2 := h.puts
  have bB := bl.mono (show B ≤ w0.heap.size by omega)
  exact ⟨ow, by have := h.ok; unfold okPs at *; rw [List.all_append, this]; simp [hp], by rw [sumOf_add, sumOf_add]; omega, by rw [sumOf_add]; omega, h.dc.grew hg bB (fun hq => by have := (h.ow.rng g hq).1; omega), h.fr.old hg (fun q hq => (h.ow.rng q hq).1), h.bl.trans bB, h.lt⟩
end
theorem okPt_keep {n : Int} (h0 : 0 ≤ n) (h : n ≤ 200) : okPt ⟨1, n, []⟩ = true := by simp [okPt]; omega
theorem okPt_drop {n : Int} (h0 : 0 ≤ n) (h : n ≤ 200) : okPt ⟨3, n, []⟩ = true := by simp [okPt]; omega
theorem okPt_put {t : List Int} (h : t.length ≤ 200) (ha : allB t = true) : okPt ⟨2, 0, t⟩ = true := by simp [okPt, ha]; omega
def DrR (B g : Nat) (w0 : World) (n : Nat) (o l r : Value) (w : World) : Prop := ∃ left room L b, DS B g w0 n o left room L b w ∧ L.length ≤ 40 ∧ l = .int .i64 (left : Int) ∧ r = .int .i64 (room : Int)
def DrX (B g : Nat) (w0 : World) (n : Nat) (o : Value) (w : World) : Prop := ∃ room L b, DS B g w0 n o 0 room L b w ∧ L.length ≤ 42
set_option maxRecDepth 1000000 in
def DrI (B g : Nat) (w0 : World) (n : Nat) (c1 c2 c3 c4 c11 c12 c74 : Value) (a : Act) (w : World) : Prop := ∃ u5 u6 u7 u8 u9 u10 u13 u14 u15 u16 u17 u18 u19 u20 u21 u22 u23 u24 u25 u26 u27 u28 u29 u30 u31 u32 u33 u34 u35 u36 u37 u38 u39 u40 u41 u42 u43 u44 u45 u46 u47 u48 u49 u50 u51 u52 u53 u54 u55 u56 u57 u58 u59 u60 u61 u62 u63 u64 u65 u66 u67 u68 u69 u70 u71 u72 u73 : Value, DrR B g w0 n u5 u6 u7 w ∧ a = ⟨#[.pointer (some ⟨g, 0, none⟩), c1, c2, c3, c4, u5, u6, u7, u8, u9, u10, c11, c12, u13, u14, u15, u16, u17, u18, u19, u20, u21, u22, u23, u24, u25, u26, u27, u28, u29, u30, u31, u32, u33, u34, u35, u36, u37, u38, u39, u40, u41, u42, u43, u44, u45, u46, u47, u48, u49, u50, u51, u52, u53, u54, u55, u56, u57, u58, u59, u60, u61, u62, u63, u64, u65, u66, u67, u68, u69, u70, u71, u72, u73, c74], []⟩
set_option maxRecDepth 1000000 in
def DrE (B g : Nat) (w0 : World) (n : Nat) (c1 c2 c3 c4 c11 c12 c74 : Value) (a : Act) (w : World) : Prop := ∃ u5 u6 u7 u8 u9 u10 u13 u14 u15 u16 u17 u18 u19 u20 u21 u22 u23 u24 u25 u26 u27 u28 u29 u30 u31 u32 u33 u34 u35 u36 u37 u38 u39 u40 u41 u42 u43 u44 u45 u46 u47 u48 u49 u50 u51 u52 u53 u54 u55 u56 u57 u58 u59 u60 u61 u62 u63 u64 u65 u66 u67 u68 u69 u70 u71 u72 u73 : Value, DrX B g w0 n u5 w ∧ a = ⟨#[.pointer (some ⟨g, 0, none⟩), c1, c2, c3, c4, u5, u6, u7, u8, u9, u10, c11, c12, u13, u14, u15, u16, u17, u18, u19, u20, u21, u22, u23, u24, u25, u26, u27, u28, u29, u30, u31, u32, u33, u34, u35, u36, u37, u38, u39, u40, u41, u42, u43, u44, u45, u46, u47, u48, u49, u50, u51, u52, u53, u54, u55, u56, u57, u58, u59, u60, u61, u62, u63, u64, u65, u66, u67, u68, u69, u70, u71, u72, u73, c74], []⟩
set_option maxRecDepth 1000000 in
set_option maxHeartbeats 6400000 in
theorem drP (B g : Nat) (w0 wr : World) (n : Nat) (hn : n ≤ 150) (A : Option Addr) (c left room : Nat) (L : List Pt) (b : List Nat) (c1 c2 c3 c4 c11 c12 c74 u8 u9 u10 u13 u14 u15 u16 u17 u18 u19 u20 u21 u22 u23 u24 u25 u26 u27 u28 u29 u30 u31 u32 u33 u34 u35 u36 u37 u38 u39 u40 u41 u42 u43 u44 u45 u46 u47 u48 u49 u50 u51 u52 u53 u54 u55 u56 u57 u58 u59 u60 u61 u62 u63 u64 u65 u66 u67 u68 u69 u70 u71 u72 u73 : Value) (Q0 : Exit → Act → World → Prop) (hs : DS B g w0 n (.slice A L.length c) left room L b wr) (hL : L.length ≤ 40) (hl0 : 0 < left) (hexit : ∀ a w, DrE B g w0 n c1 c2 c3 c4 c11 c12 c74 a w → Q0 (.exit 0) a w) :
    Code.wp Try.prog drBody (Exit.then (fun a' w'' => DrI B g w0 n c1 c2 c3 c4 c11 c12 c74 a' w'' ∧ 41 - slen (a'.tmps.getD 5 undef) < 41 - L.length) Q0) ⟨#[.pointer (some ⟨g, 0, none⟩), c1, c2, c3, c4, .slice A L.length c, .int .i64 (left : Int), .int .i64 (room : Int), u8, u9, u10, c11, c12, u13, u14, u15, u16, u17, u18, u19, u20, u21, u22, u23, u24, u25, u26, u27, u28, u29, u30, u31, u32, u33, u34, u35, u36, u37, u38, u39, u40, u41, u42, u43, u44, u45, u46, u47, u48, u49, u50, u51, u52, u53, u54, u55, u56, u57, u58, u59, u60, u61, u62, u63, u64, u65, u66, u67, u68, u69, u70, u71, u72, u73, c74], []⟩ wr := by
  have hb1 : (left : Int) ≤ n := by have := hs.sum; have q1 := sumOf_nonneg hs.ok; omega
  have hb2 : (room : Int) ≤ 12 := by have := hs.puts; have q1 := sumOf_nonneg hs.ok; omega
  have HS := Lib.hid hs
  clear hs
  conv => arg 2; whnf
  go_wp2_with fail
  refine (specBelow_d B g 4 _ HS.out.dc (by omega)).mono ?_
  rintro e w1 ⟨x1, rfl, ⟨xa1, xb1, _⟩, dc1, fr1, bl1⟩
  replace HS := Lib.hid (HS.out.draw dc1 fr1 bl1)
  clear dc1 fr1 bl1
  have xb1 := xb1 (by omega)
  by_cases hx0 : x1 = 0
  · subst hx0
    go_wp2_with fail
    refine (specSigns_d B g 3 _ HS.out.dc (by omega)).mono ?_
    rintro e w2 ⟨t2, v2, s2, rfl, tl2, ta2, to2, dc2, fr2, bl2⟩
    have HOLD := HS.out.ow
    have HSZ := HS.out.fr.size
    replace HS := Lib.hid (HS.out.draw dc2 fr2 bl2)
    have HT2 := Lib.hid to2
    have HTA2 := Lib.hid ta2
    obtain ⟨At2, ct2, rfl⟩ := sliceI to2.read
    have HSR2 := Lib.hid (show ∀ q ∈ b, q ∉ s2 from fun q hq hq' => by have q1 := (HOLD.rng q hq).2; have q2 := (to2.rng q hq').1; omega)
    clear HOLD to2 ta2
    clear dc2 fr2 bl2
    by_cases hr : t2.length ≤ room
    · have hr2 : ¬ room < t2.length := by omega
      by_cases hm : L.length + 1 ≤ 40
      · have hm2 : ¬ 40 < L.length + 1 := by omega
        have bA3 := alloc_below w2 (.cells #[.int .i64 2, .int .i64 0, .slice At2 t2.length ct2] 80)
        have HN3 := Lib.hid (heap_alloc_new w2 (.cells #[.int .i64 2, .int .i64 0, .slice At2 t2.length ct2] 80))
        replace HS := Lib.hid (HS.out.past bA3)
        have HU3 := Lib.hid ((HT2.out.past bA3).ow)
        have hll3 : (L).length ≤ 2000000 := (by omega)
        go_wp2_with (at_builtin; refine wpList_append_part rfl (.tmp 45) (.tmp 48) rfl w0.heap.size _ (.slice A L.length c) (L) b HS.out.ow rfl hll3 w2.heap.size _ ⟨2, 0, t2⟩ (.slice At2 t2.length ct2) s2 rfl HN3.out HU3.out HT2.out.nd HSR2.out (fun q hq => by have q1 := (HT2.out.rng q hq).1; omega) ?_; intro Ap3 cp3 w3 b3 o3 in3 g3 bl3)
        replace HS := Lib.hid (HS.out.app (left' := left) (room' := (room - t2.length)) o3 g3 bl3 (okPt_put (by omega) HTA2.out) (by simp [keepOf, dropOf]) (by simp [putOf]; omega))
        clear o3 in3 g3 bl3 bA3 HN3 HU3 hll3
        refine ⟨?_, by simp [slen]; omega⟩
        unfold DrI
        iterate 67 apply Exists.intro
        refine ⟨⟨_, _, _, _, HS.out, ?_, ?_, ?_⟩, rfl⟩
        · simp; omega
        · first | rfl | (congr 1; omega)
        · first | rfl | (congr 1; omega)
      · have hm2 : 40 < L.length + 1 := by omega
        have bA4 := alloc_below w2 (.cells #[.int .i64 2, .int .i64 0, .slice At2 t2.length ct2] 80)
        have HN4 := Lib.hid (heap_alloc_new w2 (.cells #[.int .i64 2, .int .i64 0, .slice At2 t2.length ct2] 80))
        replace HS := Lib.hid (HS.out.past bA4)
        have HU4 := Lib.hid ((HT2.out.past bA4).ow)
        have hll4 : (L).length ≤ 2000000 := (by omega)
        go_wp2_with (first | (at_builtin; refine wpList_append_part rfl (.tmp 45) (.tmp 48) rfl w0.heap.size _ (.slice A L.length c) (L) b HS.out.ow rfl hll4 w2.heap.size _ ⟨2, 0, t2⟩ (.slice At2 t2.length ct2) s2 rfl HN4.out HU4.out HT2.out.nd HSR2.out (fun q hq => by have q1 := (HT2.out.rng q hq).1; omega) ?_; intro Ap4 cp4 w4 b4 o4 in4 g4 bl4; replace HS := Lib.hid (HS.out.app (left' := left) (room' := (room - t2.length)) o4 g4 bl4 (okPt_put (by omega) HTA2.out) (by simp [keepOf, dropOf]) (by simp [putOf]; omega)); clear o4 in4 g4 bl4 bA4 HN4 HU4 hll4; have bA5 := alloc_below w4 (.cells #[.int .i64 1, .int .i64 (left : Int), .slice none 0 0] 80); have HN5 := Lib.hid (heap_alloc_new w4 (.cells #[.int .i64 1, .int .i64 (left : Int), .slice none 0 0] 80)); replace HS := Lib.hid (HS.out.past bA5); have HU5 := Lib.hid (nil_ow (w4.alloc (.cells #[.int .i64 1, .int .i64 (left : Int), .slice none 0 0] 80))); have hll5 : (L ++ [(⟨2, 0, t2⟩ : Pt)]).length ≤ 2000000 := (by rw [List.length_append]; show L.length + 1 ≤ 2000000; omega)) | (at_builtin; refine wpList_append_part rfl (.tmp 69) (.tmp 72) rfl w0.heap.size _ (.slice Ap4 (L.length + 1) cp4) (L ++ [(⟨2, 0, t2⟩ : Pt)]) b4 HS.out.ow rfl hll5 w4.heap.size _ ⟨1, (left : Int), []⟩ (.slice none 0 0) [] rfl HN5.out HU5.out (by simp) (by simp) (by simp) ?_; intro Ap5 cp5 w5 b5 o5 in5 g5 bl5))
        replace HS := Lib.hid (HS.out.app (left' := 0) (room' := (room - t2.length)) o5 g5 bl5 (okPt_keep (by omega) (by omega)) (by first | (simp [keepOf, dropOf]; done) | (simp [keepOf, dropOf]; omega)) (by simp [putOf]))
        clear o5 in5 g5 bl5 bA5 HN5 HU5 hll5
        have HSx := HS.out
        rw [List.length_append] at HSx
        have HR : DrX B g w0 n _ _ := ⟨_, _, _, HSx, by simp; omega⟩
        unfold DrE
        iterate 67 apply Exists.intro
        exact ⟨HR, rfl⟩
    · have hr2 : room < t2.length := by omega
      by_cases hm : L.length + 1 ≤ 40
      · have hm2 : ¬ 40 < L.length + 1 := by omega
        have bA6 := alloc_below w2 (.cells #[.int .i64 2, .int .i64 0, .slice none 0 0] 80)
        have HN6 := Lib.hid (heap_alloc_new w2 (.cells #[.int .i64 2, .int .i64 0, .slice none 0 0] 80))
        replace HS := Lib.hid (HS.out.past bA6)
        have HU6 := Lib.hid (nil_ow (w2.alloc (.cells #[.int .i64 2, .int .i64 0, .slice none 0 0] 80)))
        have hll6 : (L).length ≤ 2000000 := (by omega)
        go_wp2_with (at_builtin; refine wpList_append_part rfl (.tmp 45) (.tmp 48) rfl w0.heap.size _ (.slice A L.length c) (L) b HS.out.ow rfl hll6 w2.heap.size _ ⟨2, 0, []⟩ (.slice none 0 0) [] rfl HN6.out HU6.out (by simp) (by simp) (by simp) ?_; intro Ap6 cp6 w6 b6 o6 in6 g6 bl6)
        replace HS := Lib.hid (HS.out.app (left' := left) (room' := room) o6 g6 bl6 (okPt_put (by simp) rfl) (by simp [keepOf, dropOf]) (by simp [putOf]))
        clear o6 in6 g6 bl6 bA6 HN6 HU6 hll6
        refine ⟨?_, by simp [slen]; omega⟩
        unfold DrI
        iterate 67 apply Exists.intro
        refine ⟨⟨_, _, _, _, HS.out, ?_, ?_, ?_⟩, rfl⟩
        · simp; omega
        · first | rfl | (congr 1; omega)
        · first | rfl | (congr 1; omega)
      · have hm2 : 40 < L.length + 1 := by omega
        have bA7 := alloc_below w2 (.cells #[.int .i64 2, .int .i64 0, .slice none 0 0] 80)
        have HN7 := Lib.hid (heap_alloc_new w2 (.cells #[.int .i64 2, .int .i64 0, .slice none 0 0] 80))
        replace HS := Lib.hid (HS.out.past bA7)
        have HU7 := Lib.hid (nil_ow (w2.alloc (.cells #[.int .i64 2, .int .i64 0, .slice none 0 0] 80)))
        have hll7 : (L).length ≤ 2000000 := (by omega)
        go_wp2_with (first | (at_builtin; refine wpList_append_part rfl (.tmp 45) (.tmp 48) rfl w0.heap.size _ (.slice A L.length c) (L) b HS.out.ow rfl hll7 w2.heap.size _ ⟨2, 0, []⟩ (.slice none 0 0) [] rfl HN7.out HU7.out (by simp) (by simp) (by simp) ?_; intro Ap7 cp7 w7 b7 o7 in7 g7 bl7; replace HS := Lib.hid (HS.out.app (left' := left) (room' := room) o7 g7 bl7 (okPt_put (by simp) rfl) (by simp [keepOf, dropOf]) (by simp [putOf])); clear o7 in7 g7 bl7 bA7 HN7 HU7 hll7; have bA8 := alloc_below w7 (.cells #[.int .i64 1, .int .i64 (left : Int), .slice none 0 0] 80); have HN8 := Lib.hid (heap_alloc_new w7 (.cells #[.int .i64 1, .int .i64 (left : Int), .slice none 0 0] 80)); replace HS := Lib.hid (HS.out.past bA8); have HU8 := Lib.hid (nil_ow (w7.alloc (.cells #[.int .i64 1, .int .i64 (left : Int), .slice none 0 0] 80))); have hll8 : (L ++ [(⟨2, 0, []⟩ : Pt)]).length ≤ 2000000 := (by rw [List.length_append]; show L.length + 1 ≤ 2000000; omega)) | (at_builtin; refine wpList_append_part rfl (.tmp 69) (.tmp 72) rfl w0.heap.size _ (.slice Ap7 (L.length + 1) cp7) (L ++ [(⟨2, 0, []⟩ : Pt)]) b7 HS.out.ow rfl hll8 w7.heap.size _ ⟨1, (left : Int), []⟩ (.slice none 0 0) [] rfl HN8.out HU8.out (by simp) (by simp) (by simp) ?_; intro Ap8 cp8 w8 b8 o8 in8 g8 bl8))
        replace HS := Lib.hid (HS.out.app (left' := 0) (room' := room) o8 g8 bl8 (okPt_keep (by omega) (by omega)) (by first | (simp [keepOf, dropOf]; done) | (simp [keepOf, dropOf]; omega)) (by simp [putOf]))
        clear o8 in8 g8 bl8 bA8 HN8 HU8 hll8
        have HSx := HS.out
        rw [List.length_append] at HSx
        have HR : DrX B g w0 n _ _ := ⟨_, _, _, HSx, by simp; omega⟩
        unfold DrE
        iterate 67 apply Exists.intro
        exact ⟨HR, rfl⟩
  · have hx0b : (x1 == 0) = false := by simp [hx0]
    by_cases hx1 : x1 = 1
    · subst hx1
      clear hx0 hx0b
      go_wp2_with fail
      refine (specBelow_d B g ((left : Int) + 1) _ HS.out.dc (by omega)).mono ?_
      rintro e w9 ⟨m9, rfl, ⟨ma9, mb9, _⟩, dc9, fr9, bl9⟩
      replace HS := Lib.hid (HS.out.draw dc9 fr9 bl9)
      clear dc9 fr9 bl9
      have mb9 := mb9 (by omega)
      obtain ⟨d, rfl⟩ := Int.eq_ofNat_of_zero_le ma9
      by_cases h4 : d ≤ 4
      · have h4b : ¬ 4 < d := by omega
        by_cases hm : L.length + 1 ≤ 40
        · have hm2 : ¬ 40 < L.length + 1 := by omega
          have bA10 := alloc_below w9 (.cells #[.int .i64 3, .int .i64 (d : Int), .slice none 0 0] 80)
          have HN10 := Lib.hid (heap_alloc_new w9 (.cells #[.int .i64 3, .int .i64 (d : Int), .slice none 0 0] 80))
          replace HS := Lib.hid (HS.out.past bA10)
          have HU10 := Lib.hid (nil_ow (w9.alloc (.cells #[.int .i64 3, .int .i64 (d : Int), .slice none 0 0] 80)))
          have hll10 : (L).length ≤ 2000000 := (by omega)
          go_wp2_with (at_builtin; refine wpList_append_part rfl (.tmp 61) (.tmp 64) rfl w0.heap.size _ (.slice A L.length c) (L) b HS.out.ow rfl hll10 w9.heap.size _ ⟨3, (d : Int), []⟩ (.slice none 0 0) [] rfl HN10.out HU10.out (by simp) (by simp) (by simp) ?_; intro Ap10 cp10 w10 b10 o10 in10 g10 bl10)
          replace HS := Lib.hid (HS.out.app (left' := (left - d)) (room' := room) o10 g10 bl10 (okPt_drop (by omega) (by omega)) (by simp [keepOf, dropOf]; omega) (by simp [putOf]))
          clear o10 in10 g10 bl10 bA10 HN10 HU10 hll10
          refine ⟨?_, by simp [slen]; omega⟩
          unfold DrI
          iterate 67 apply Exists.intro
          refine ⟨⟨_, _, _, _, HS.out, ?_, ?_, ?_⟩, rfl⟩
          · simp; omega
          · first | rfl | (congr 1; omega)
          · first | rfl | (congr 1; omega)
        · have hm2 : 40 < L.length + 1 := by omega
          have bA11 := alloc_below w9 (.cells #[.int .i64 3, .int .i64 (d : Int), .slice none 0 0] 80)
          have HN11 := Lib.hid (heap_alloc_new w9 (.cells #[.int .i64 3, .int .i64 (d : Int), .slice none 0 0] 80))
          replace HS := Lib.hid (HS.out.past bA11)
          have HU11 := Lib.hid (nil_ow (w9.alloc (.cells #[.int .i64 3, .int .i64 (d : Int), .slice none 0 0] 80)))
          have hll11 : (L).length ≤ 2000000 := (by omega)
          go_wp2_with (first | (at_builtin; refine wpList_append_part rfl (.tmp 61) (.tmp 64) rfl w0.heap.size _ (.slice A L.length c) (L) b HS.out.ow rfl hll11 w9.heap.size _ ⟨3, (d : Int), []⟩ (.slice none 0 0) [] rfl HN11.out HU11.out (by simp) (by simp) (by simp) ?_; intro Ap11 cp11 w11 b11 o11 in11 g11 bl11; replace HS := Lib.hid (HS.out.app (left' := (left - d)) (room' := room) o11 g11 bl11 (okPt_drop (by omega) (by omega)) (by simp [keepOf, dropOf]; omega) (by simp [putOf])); clear o11 in11 g11 bl11 bA11 HN11 HU11 hll11; have bA12 := alloc_below w11 (.cells #[.int .i64 1, .int .i64 ((left : Int) - (d : Int)), .slice none 0 0] 80); have HN12 := Lib.hid (heap_alloc_new w11 (.cells #[.int .i64 1, .int .i64 ((left : Int) - (d : Int)), .slice none 0 0] 80)); replace HS := Lib.hid (HS.out.past bA12); have HU12 := Lib.hid (nil_ow (w11.alloc (.cells #[.int .i64 1, .int .i64 ((left : Int) - (d : Int)), .slice none 0 0] 80))); have hll12 : (L ++ [(⟨3, (d : Int), []⟩ : Pt)]).length ≤ 2000000 := (by rw [List.length_append]; show L.length + 1 ≤ 2000000; omega)) | (at_builtin; refine wpList_append_part rfl (.tmp 69) (.tmp 72) rfl w0.heap.size _ (.slice Ap11 (L.length + 1) cp11) (L ++ [(⟨3, (d : Int), []⟩ : Pt)]) b11 HS.out.ow rfl hll12 w11.heap.size _ ⟨1, ((left : Int) - (d : Int)), []⟩ (.slice none 0 0) [] rfl HN12.out HU12.out (by simp) (by simp) (by simp) ?_; intro Ap12 cp12 w12 b12 o12 in12 g12 bl12))
          replace HS := Lib.hid (HS.out.app (left' := 0) (room' := room) o12 g12 bl12 (okPt_keep (by omega) (by omega)) (by first | (simp [keepOf, dropOf]; done) | (simp [keepOf, dropOf]; omega)) (by simp [putOf]))
          clear o12 in12 g12 bl12 bA12 HN12 HU12 hll12
          have HSx := HS.out
          rw [List.length_append] at HSx
          have HR : DrX B g w0 n _ _ := ⟨_, _, _, HSx, by simp; omega⟩
          unfold DrE
          iterate 67 apply Exists.intro
          exact ⟨HR, rfl⟩
      · have h4b : 4 < d := by omega
        by_cases hm : L.length + 1 ≤ 40
        · have hm2 : ¬ 40 < L.length + 1 := by omega
          have bA13 := alloc_below w9 (.cells #[.int .i64 3, .int .i64 4, .slice none 0 0] 80)
          have HN13 := Lib.hid (heap_alloc_new w9 (.cells #[.int .i64 3, .int .i64 4, .slice none 0 0] 80))
          replace HS := Lib.hid (HS.out.past bA13)
          have HU13 := Lib.hid (nil_ow (w9.alloc (.cells #[.int .i64 3, .int .i64 4, .slice none 0 0] 80)))
          have hll13 : (L).length ≤ 2000000 := (by omega)
          go_wp2_with (at_builtin; refine wpList_append_part rfl (.tmp 61) (.tmp 64) rfl w0.heap.size _ (.slice A L.length c) (L) b HS.out.ow rfl hll13 w9.heap.size _ ⟨3, 4, []⟩ (.slice none 0 0) [] rfl HN13.out HU13.out (by simp) (by simp) (by simp) ?_; intro Ap13 cp13 w13 b13 o13 in13 g13 bl13)
          replace HS := Lib.hid (HS.out.app (left' := (left - 4)) (room' := room) o13 g13 bl13 (okPt_drop (by omega) (by omega)) (by simp [keepOf, dropOf]; omega) (by simp [putOf]))
          clear o13 in13 g13 bl13 bA13 HN13 HU13 hll13
          refine ⟨?_, by simp [slen]; omega⟩
          unfold DrI
          iterate 67 apply Exists.intro
          refine ⟨⟨_, _, _, _, HS.out, ?_, ?_, ?_⟩, rfl⟩
          · simp; omega
          · first | rfl | (congr 1; omega)
          · first | rfl | (congr 1; omega)
        · have hm2 : 40 < L.length + 1 := by omega
          have bA14 := alloc_below w9 (.cells #[.int .i64 3, .int .i64 4, .slice none 0 0] 80)
          have HN14 := Lib.hid (heap_alloc_new w9 (.cells #[.int .i64 3, .int .i64 4, .slice none 0 0] 80))
          replace HS := Lib.hid (HS.out.past bA14)
          have HU14 := Lib.hid (nil_ow (w9.alloc (.cells #[.int .i64 3, .int .i64 4, .slice none 0 0] 80)))
          have hll14 : (L).length ≤ 2000000 := (by omega)
          go_wp2_with (first | (at_builtin; refine wpList_append_part rfl (.tmp 61) (.tmp 64) rfl w0.heap.size _ (.slice A L.length c) (L) b HS.out.ow rfl hll14 w9.heap.size _ ⟨3, 4, []⟩ (.slice none 0 0) [] rfl HN14.out HU14.out (by simp) (by simp) (by simp) ?_; intro Ap14 cp14 w14 b14 o14 in14 g14 bl14; replace HS := Lib.hid (HS.out.app (left' := (left - 4)) (room' := room) o14 g14 bl14 (okPt_drop (by omega) (by omega)) (by simp [keepOf, dropOf]; omega) (by simp [putOf])); clear o14 in14 g14 bl14 bA14 HN14 HU14 hll14; have bA15 := alloc_below w14 (.cells #[.int .i64 1, .int .i64 ((left : Int) - 4), .slice none 0 0] 80); have HN15 := Lib.hid (heap_alloc_new w14 (.cells #[.int .i64 1, .int .i64 ((left : Int) - 4), .slice none 0 0] 80)); replace HS := Lib.hid (HS.out.past bA15); have HU15 := Lib.hid (nil_ow (w14.alloc (.cells #[.int .i64 1, .int .i64 ((left : Int) - 4), .slice none 0 0] 80))); have hll15 : (L ++ [(⟨3, 4, []⟩ : Pt)]).length ≤ 2000000 := (by rw [List.length_append]; show L.length + 1 ≤ 2000000; omega)) | (at_builtin; refine wpList_append_part rfl (.tmp 69) (.tmp 72) rfl w0.heap.size _ (.slice Ap14 (L.length + 1) cp14) (L ++ [(⟨3, 4, []⟩ : Pt)]) b14 HS.out.ow rfl hll15 w14.heap.size _ ⟨1, ((left : Int) - 4), []⟩ (.slice none 0 0) [] rfl HN15.out HU15.out (by simp) (by simp) (by simp) ?_; intro Ap15 cp15 w15 b15 o15 in15 g15 bl15))
          replace HS := Lib.hid (HS.out.app (left' := 0) (room' := room) o15 g15 bl15 (okPt_keep (by omega) (by omega)) (by first | (simp [keepOf, dropOf]; done) | (simp [keepOf, dropOf]; omega)) (by simp [putOf]))
          clear o15 in15 g15 bl15 bA15 HN15 HU15 hll15
          have HSx := HS.out
          rw [List.length_append] at HSx
          have HR : DrX B g w0 n _ _ := ⟨_, _, _, HSx, by simp; omega⟩
          unfold DrE
          iterate 67 apply Exists.intro
          exact ⟨HR, rfl⟩
    · have hx1b : (x1 == 1) = false := by simp [hx1]
      clear hx0 hx1
      go_wp2_with fail
      refine (specBelow_d B g ((left : Int) + 1) _ HS.out.dc (by omega)).mono ?_
      rintro e w16 ⟨m16, rfl, ⟨ma16, mb16, _⟩, dc16, fr16, bl16⟩
      replace HS := Lib.hid (HS.out.draw dc16 fr16 bl16)
      clear dc16 fr16 bl16
      have mb16 := mb16 (by omega)
      obtain ⟨d, rfl⟩ := Int.eq_ofNat_of_zero_le ma16
      by_cases hm : L.length + 1 ≤ 40
      · have hm2 : ¬ 40 < L.length + 1 := by omega
        have bA17 := alloc_below w16 (.cells #[.int .i64 1, .int .i64 (d : Int), .slice none 0 0] 80)
        have HN17 := Lib.hid (heap_alloc_new w16 (.cells #[.int .i64 1, .int .i64 (d : Int), .slice none 0 0] 80))
        replace HS := Lib.hid (HS.out.past bA17)
        have HU17 := Lib.hid (nil_ow (w16.alloc (.cells #[.int .i64 1, .int .i64 (d : Int), .slice none 0 0] 80)))
        have hll17 : (L).length ≤ 2000000 := (by omega)
        go_wp2_with (at_builtin; refine wpList_append_part rfl (.tmp 28) (.tmp 31) rfl w0.heap.size _ (.slice A L.length c) (L) b HS.out.ow rfl hll17 w16.heap.size _ ⟨1, (d : Int), []⟩ (.slice none 0 0) [] rfl HN17.out HU17.out (by simp) (by simp) (by simp) ?_; intro Ap17 cp17 w17 b17 o17 in17 g17 bl17)
        replace HS := Lib.hid (HS.out.app (left' := (left - d)) (room' := room) o17 g17 bl17 (okPt_keep (by omega) (by omega)) (by simp [keepOf, dropOf]; omega) (by simp [putOf]))
        clear o17 in17 g17 bl17 bA17 HN17 HU17 hll17
        refine ⟨?_, by simp [slen]; omega⟩
        unfold DrI
        iterate 67 apply Exists.intro
        refine ⟨⟨_, _, _, _, HS.out, ?_, ?_, ?_⟩, rfl⟩
        · simp; omega
        · first | rfl | (congr 1; omega)
        · first | rfl | (congr 1; omega)
      · have hm2 : 40 < L.length + 1 := by omega
        have bA18 := alloc_below w16 (.cells #[.int .i64 1, .int .i64 (d : Int), .slice none 0 0] 80)
        have HN18 := Lib.hid (heap_alloc_new w16 (.cells #[.int .i64 1, .int .i64 (d : Int), .slice none 0 0] 80))
        replace HS := Lib.hid (HS.out.past bA18)
        have HU18 := Lib.hid (nil_ow (w16.alloc (.cells #[.int .i64 1, .int .i64 (d : Int), .slice none 0 0] 80)))
        have hll18 : (L).length ≤ 2000000 := (by omega)
        go_wp2_with (first | (at_builtin; refine wpList_append_part rfl (.tmp 28) (.tmp 31) rfl w0.heap.size _ (.slice A L.length c) (L) b HS.out.ow rfl hll18 w16.heap.size _ ⟨1, (d : Int), []⟩ (.slice none 0 0) [] rfl HN18.out HU18.out (by simp) (by simp) (by simp) ?_; intro Ap18 cp18 w18 b18 o18 in18 g18 bl18; replace HS := Lib.hid (HS.out.app (left' := (left - d)) (room' := room) o18 g18 bl18 (okPt_keep (by omega) (by omega)) (by simp [keepOf, dropOf]; omega) (by simp [putOf])); clear o18 in18 g18 bl18 bA18 HN18 HU18 hll18; have bA19 := alloc_below w18 (.cells #[.int .i64 1, .int .i64 ((left : Int) - (d : Int)), .slice none 0 0] 80); have HN19 := Lib.hid (heap_alloc_new w18 (.cells #[.int .i64 1, .int .i64 ((left : Int) - (d : Int)), .slice none 0 0] 80)); replace HS := Lib.hid (HS.out.past bA19); have HU19 := Lib.hid (nil_ow (w18.alloc (.cells #[.int .i64 1, .int .i64 ((left : Int) - (d : Int)), .slice none 0 0] 80))); have hll19 : (L ++ [(⟨1, (d : Int), []⟩ : Pt)]).length ≤ 2000000 := (by rw [List.length_append]; show L.length + 1 ≤ 2000000; omega)) | (at_builtin; refine wpList_append_part rfl (.tmp 69) (.tmp 72) rfl w0.heap.size _ (.slice Ap18 (L.length + 1) cp18) (L ++ [(⟨1, (d : Int), []⟩ : Pt)]) b18 HS.out.ow rfl hll19 w18.heap.size _ ⟨1, ((left : Int) - (d : Int)), []⟩ (.slice none 0 0) [] rfl HN19.out HU19.out (by simp) (by simp) (by simp) ?_; intro Ap19 cp19 w19 b19 o19 in19 g19 bl19))
        replace HS := Lib.hid (HS.out.app (left' := 0) (room' := room) o19 g19 bl19 (okPt_keep (by omega) (by omega)) (by first | (simp [keepOf, dropOf]; done) | (simp [keepOf, dropOf]; omega)) (by simp [putOf]))
        clear o19 in19 g19 bl19 bA19 HN19 HU19 hll19
        have HSx := HS.out
        rw [List.length_append] at HSx
        have HR : DrX B g w0 n _ _ := ⟨_, _, _, HSx, by simp; omega⟩
        unfold DrE
        iterate 67 apply Exists.intro
        exact ⟨HR, rfl⟩
set_option maxRecDepth 1000000 in
set_option maxHeartbeats 6400000 in
theorem drZ (B g : Nat) (w0 wr : World) (n : Nat) (hn : n ≤ 150) (A : Option Addr) (c left room : Nat) (L : List Pt) (b : List Nat) (c1 c2 c3 c4 c11 c12 c74 u8 u9 u10 u13 u14 u15 u16 u17 u18 u19 u20 u21 u22 u23 u24 u25 u26 u27 u28 u29 u30 u31 u32 u33 u34 u35 u36 u37 u38 u39 u40 u41 u42 u43 u44 u45 u46 u47 u48 u49 u50 u51 u52 u53 u54 u55 u56 u57 u58 u59 u60 u61 u62 u63 u64 u65 u66 u67 u68 u69 u70 u71 u72 u73 : Value) (Q0 : Exit → Act → World → Prop) (hs : DS B g w0 n (.slice A L.length c) left room L b wr) (hL : L.length ≤ 40) (hl0 : ¬ 0 < left) (hexit : ∀ a w, DrE B g w0 n c1 c2 c3 c4 c11 c12 c74 a w → Q0 (.exit 0) a w) :
    Code.wp Try.prog drBody (Exit.then (fun a' w'' => DrI B g w0 n c1 c2 c3 c4 c11 c12 c74 a' w'' ∧ 41 - slen (a'.tmps.getD 5 undef) < 41 - L.length) Q0) ⟨#[.pointer (some ⟨g, 0, none⟩), c1, c2, c3, c4, .slice A L.length c, .int .i64 (left : Int), .int .i64 (room : Int), u8, u9, u10, c11, c12, u13, u14, u15, u16, u17, u18, u19, u20, u21, u22, u23, u24, u25, u26, u27, u28, u29, u30, u31, u32, u33, u34, u35, u36, u37, u38, u39, u40, u41, u42, u43, u44, u45, u46, u47, u48, u49, u50, u51, u52, u53, u54, u55, u56, u57, u58, u59, u60, u61, u62, u63, u64, u65, u66, u67, u68, u69, u70, u71, u72, u73, c74], []⟩ wr := by
  have hb1 : (left : Int) ≤ n := by have := hs.sum; have q1 := sumOf_nonneg hs.ok; omega
  have hb2 : (room : Int) ≤ 12 := by have := hs.puts; have q1 := sumOf_nonneg hs.ok; omega
  have HS := Lib.hid hs
  clear hs
  conv => arg 2; whnf
  go_wp2_with fail
  refine (specOnce_d B g 3 _ HS.out.dc (by omega)).mono ?_
  rintro e w1 ⟨q1, rfl, dc1, fr1, bl1⟩
  replace HS := Lib.hid (HS.out.draw dc1 fr1 bl1)
  clear dc1 fr1 bl1
  cases q1
  · go_wp2
    have e0 : left = 0 := by omega
    have HS0 := HS.out
    rw [e0] at HS0
    have HR : DrX B g w0 n _ _ := ⟨_, _, _, HS0, by omega⟩
    unfold DrE
    iterate 67 apply Exists.intro
    exact ⟨HR, rfl⟩
  go_wp2_with fail
  refine (specBelow_d B g 4 _ HS.out.dc (by omega)).mono ?_
  rintro e w2 ⟨x2, rfl, ⟨xa2, xb2, _⟩, dc2, fr2, bl2⟩
  replace HS := Lib.hid (HS.out.draw dc2 fr2 bl2)
  clear dc2 fr2 bl2
  have xb2 := xb2 (by omega)
  by_cases hx0 : x2 = 0
  · subst hx0
    go_wp2_with fail
    refine (specSigns_d B g 3 _ HS.out.dc (by omega)).mono ?_
    rintro e w3 ⟨t3, v3, s3, rfl, tl3, ta3, to3, dc3, fr3, bl3⟩
    have HOLD := HS.out.ow
    have HSZ := HS.out.fr.size
    replace HS := Lib.hid (HS.out.draw dc3 fr3 bl3)
    have HT3 := Lib.hid to3
    have HTA3 := Lib.hid ta3
    obtain ⟨At3, ct3, rfl⟩ := sliceI to3.read
    have HSR3 := Lib.hid (show ∀ q ∈ b, q ∉ s3 from fun q hq hq' => by have q1 := (HOLD.rng q hq).2; have q2 := (to3.rng q hq').1; omega)
    clear HOLD to3 ta3
    clear dc3 fr3 bl3
    by_cases hr : t3.length ≤ room
    · have hr2 : ¬ room < t3.length := by omega
      by_cases hm : L.length + 1 ≤ 40
      · have hm2 : ¬ 40 < L.length + 1 := by omega
        have bA4 := alloc_below w3 (.cells #[.int .i64 2, .int .i64 0, .slice At3 t3.length ct3] 80)
        have HN4 := Lib.hid (heap_alloc_new w3 (.cells #[.int .i64 2, .int .i64 0, .slice At3 t3.length ct3] 80))
        replace HS := Lib.hid (HS.out.past bA4)
        have HU4 := Lib.hid ((HT3.out.past bA4).ow)
        have hll4 : (L).length ≤ 2000000 := (by omega)
        go_wp2_with (at_builtin; refine wpList_append_part rfl (.tmp 45) (.tmp 48) rfl w0.heap.size _ (.slice A L.length c) (L) b HS.out.ow rfl hll4 w3.heap.size _ ⟨2, 0, t3⟩ (.slice At3 t3.length ct3) s3 rfl HN4.out HU4.out HT3.out.nd HSR3.out (fun q hq => by have q1 := (HT3.out.rng q hq).1; omega) ?_; intro Ap4 cp4 w4 b4 o4 in4 g4 bl4)
        replace HS := Lib.hid (HS.out.app (left' := left) (room' := (room - t3.length)) o4 g4 bl4 (okPt_put (by omega) HTA3.out) (by simp [keepOf, dropOf]) (by simp [putOf]; omega))
        clear o4 in4 g4 bl4 bA4 HN4 HU4 hll4
        refine ⟨?_, by simp [slen]; omega⟩
        unfold DrI
        iterate 67 apply Exists.intro
        refine ⟨⟨_, _, _, _, HS.out, ?_, ?_, ?_⟩, rfl⟩
        · simp; omega
        · first | rfl | (congr 1; omega)
        · first | rfl | (congr 1; omega)
      · have hm2 : 40 < L.length + 1 := by omega
        have bA5 := alloc_below w3 (.cells #[.int .i64 2, .int .i64 0, .slice At3 t3.length ct3] 80)
        have HN5 := Lib.hid (heap_alloc_new w3 (.cells #[.int .i64 2, .int .i64 0, .slice At3 t3.length ct3] 80))
        replace HS := Lib.hid (HS.out.past bA5)
        have HU5 := Lib.hid ((HT3.out.past bA5).ow)
        have hll5 : (L).length ≤ 2000000 := (by omega)
        go_wp2_with (first | (at_builtin; refine wpList_append_part rfl (.tmp 45) (.tmp 48) rfl w0.heap.size _ (.slice A L.length c) (L) b HS.out.ow rfl hll5 w3.heap.size _ ⟨2, 0, t3⟩ (.slice At3 t3.length ct3) s3 rfl HN5.out HU5.out HT3.out.nd HSR3.out (fun q hq => by have q1 := (HT3.out.rng q hq).1; omega) ?_; intro Ap5 cp5 w5 b5 o5 in5 g5 bl5; replace HS := Lib.hid (HS.out.app (left' := left) (room' := (room - t3.length)) o5 g5 bl5 (okPt_put (by omega) HTA3.out) (by simp [keepOf, dropOf]) (by simp [putOf]; omega)); clear o5 in5 g5 bl5 bA5 HN5 HU5 hll5; have bA6 := alloc_below w5 (.cells #[.int .i64 1, .int .i64 (left : Int), .slice none 0 0] 80); have HN6 := Lib.hid (heap_alloc_new w5 (.cells #[.int .i64 1, .int .i64 (left : Int), .slice none 0 0] 80)); replace HS := Lib.hid (HS.out.past bA6); have HU6 := Lib.hid (nil_ow (w5.alloc (.cells #[.int .i64 1, .int .i64 (left : Int), .slice none 0 0] 80))); have hll6 : (L ++ [(⟨2, 0, t3⟩ : Pt)]).length ≤ 2000000 := (by rw [List.length_append]; show L.length + 1 ≤ 2000000; omega)) | (at_builtin; refine wpList_append_part rfl (.tmp 69) (.tmp 72) rfl w0.heap.size _ (.slice Ap5 (L.length + 1) cp5) (L ++ [(⟨2, 0, t3⟩ : Pt)]) b5 HS.out.ow rfl hll6 w5.heap.size _ ⟨1, (left : Int), []⟩ (.slice none 0 0) [] rfl HN6.out HU6.out (by simp) (by simp) (by simp) ?_; intro Ap6 cp6 w6 b6 o6 in6 g6 bl6))
        replace HS := Lib.hid (HS.out.app (left' := 0) (room' := (room - t3.length)) o6 g6 bl6 (okPt_keep (by omega) (by omega)) (by first | (simp [keepOf, dropOf]; done) | (simp [keepOf, dropOf]; omega)) (by simp [putOf]))
        clear o6 in6 g6 bl6 bA6 HN6 HU6 hll6
        have HSx := HS.out
        rw [List.length_append] at HSx
        have HR : DrX B g w0 n _ _ := ⟨_, _, _, HSx, by simp; omega⟩
        unfold DrE
        iterate 67 apply Exists.intro
        exact ⟨HR, rfl⟩
    · have hr2 : room < t3.length := by omega
      by_cases hm : L.length + 1 ≤ 40
      · have hm2 : ¬ 40 < L.length + 1 := by omega
        have bA7 := alloc_below w3 (.cells #[.int .i64 2, .int .i64 0, .slice none 0 0] 80)
        have HN7 := Lib.hid (heap_alloc_new w3 (.cells #[.int .i64 2, .int .i64 0, .slice none 0 0] 80))
        replace HS := Lib.hid (HS.out.past bA7)
        have HU7 := Lib.hid (nil_ow (w3.alloc (.cells #[.int .i64 2, .int .i64 0, .slice none 0 0] 80)))
        have hll7 : (L).length ≤ 2000000 := (by omega)
        go_wp2_with (at_builtin; refine wpList_append_part rfl (.tmp 45) (.tmp 48) rfl w0.heap.size _ (.slice A L.length c) (L) b HS.out.ow rfl hll7 w3.heap.size _ ⟨2, 0, []⟩ (.slice none 0 0) [] rfl HN7.out HU7.out (by simp) (by simp) (by simp) ?_; intro Ap7 cp7 w7 b7 o7 in7 g7 bl7)
        replace HS := Lib.hid (HS.out.app (left' := left) (room' := room) o7 g7 bl7 (okPt_put (by simp) rfl) (by simp [keepOf, dropOf]) (by simp [putOf]))
        clear o7 in7 g7 bl7 bA7 HN7 HU7 hll7
        refine ⟨?_, by simp [slen]; omega⟩
        unfold DrI
        iterate 67 apply Exists.intro
        refine ⟨⟨_, _, _, _, HS.out, ?_, ?_, ?_⟩, rfl⟩
        · simp; omega
        · first | rfl | (congr 1; omega)
        · first | rfl | (congr 1; omega)
      · have hm2 : 40 < L.length + 1 := by omega
        have bA8 := alloc_below w3 (.cells #[.int .i64 2, .int .i64 0, .slice none 0 0] 80)
        have HN8 := Lib.hid (heap_alloc_new w3 (.cells #[.int .i64 2, .int .i64 0, .slice none 0 0] 80))
        replace HS := Lib.hid (HS.out.past bA8)
        have HU8 := Lib.hid (nil_ow (w3.alloc (.cells #[.int .i64 2, .int .i64 0, .slice none 0 0] 80)))
        have hll8 : (L).length ≤ 2000000 := (by omega)
        go_wp2_with (first | (at_builtin; refine wpList_append_part rfl (.tmp 45) (.tmp 48) rfl w0.heap.size _ (.slice A L.length c) (L) b HS.out.ow rfl hll8 w3.heap.size _ ⟨2, 0, []⟩ (.slice none 0 0) [] rfl HN8.out HU8.out (by simp) (by simp) (by simp) ?_; intro Ap8 cp8 w8 b8 o8 in8 g8 bl8; replace HS := Lib.hid (HS.out.app (left' := left) (room' := room) o8 g8 bl8 (okPt_put (by simp) rfl) (by simp [keepOf, dropOf]) (by simp [putOf])); clear o8 in8 g8 bl8 bA8 HN8 HU8 hll8; have bA9 := alloc_below w8 (.cells #[.int .i64 1, .int .i64 (left : Int), .slice none 0 0] 80); have HN9 := Lib.hid (heap_alloc_new w8 (.cells #[.int .i64 1, .int .i64 (left : Int), .slice none 0 0] 80)); replace HS := Lib.hid (HS.out.past bA9); have HU9 := Lib.hid (nil_ow (w8.alloc (.cells #[.int .i64 1, .int .i64 (left : Int), .slice none 0 0] 80))); have hll9 : (L ++ [(⟨2, 0, []⟩ : Pt)]).length ≤ 2000000 := (by rw [List.length_append]; show L.length + 1 ≤ 2000000; omega)) | (at_builtin; refine wpList_append_part rfl (.tmp 69) (.tmp 72) rfl w0.heap.size _ (.slice Ap8 (L.length + 1) cp8) (L ++ [(⟨2, 0, []⟩ : Pt)]) b8 HS.out.ow rfl hll9 w8.heap.size _ ⟨1, (left : Int), []⟩ (.slice none 0 0) [] rfl HN9.out HU9.out (by simp) (by simp) (by simp) ?_; intro Ap9 cp9 w9 b9 o9 in9 g9 bl9))
        replace HS := Lib.hid (HS.out.app (left' := 0) (room' := room) o9 g9 bl9 (okPt_keep (by omega) (by omega)) (by first | (simp [keepOf, dropOf]; done) | (simp [keepOf, dropOf]; omega)) (by simp [putOf]))
        clear o9 in9 g9 bl9 bA9 HN9 HU9 hll9
        have HSx := HS.out
        rw [List.length_append] at HSx
        have HR : DrX B g w0 n _ _ := ⟨_, _, _, HSx, by simp; omega⟩
        unfold DrE
        iterate 67 apply Exists.intro
        exact ⟨HR, rfl⟩
  · have hx0b : (x2 == 0) = false := by simp [hx0]
    by_cases hx1 : x2 = 1
    · subst hx1
      clear hx0 hx0b
      go_wp2_with fail
      refine (specBelow_d B g ((left : Int) + 1) _ HS.out.dc (by omega)).mono ?_
      rintro e w10 ⟨m10, rfl, ⟨ma10, mb10, _⟩, dc10, fr10, bl10⟩
      replace HS := Lib.hid (HS.out.draw dc10 fr10 bl10)
      clear dc10 fr10 bl10
      have mb10 := mb10 (by omega)
      obtain ⟨d, rfl⟩ := Int.eq_ofNat_of_zero_le ma10
      by_cases h4 : d ≤ 4
      · have h4b : ¬ 4 < d := by omega
        by_cases hm : L.length + 1 ≤ 40
        · have hm2 : ¬ 40 < L.length + 1 := by omega
          have bA11 := alloc_below w10 (.cells #[.int .i64 3, .int .i64 (d : Int), .slice none 0 0] 80)
          have HN11 := Lib.hid (heap_alloc_new w10 (.cells #[.int .i64 3, .int .i64 (d : Int), .slice none 0 0] 80))
          replace HS := Lib.hid (HS.out.past bA11)
          have HU11 := Lib.hid (nil_ow (w10.alloc (.cells #[.int .i64 3, .int .i64 (d : Int), .slice none 0 0] 80)))
          have hll11 : (L).length ≤ 2000000 := (by omega)
          go_wp2_with (at_builtin; refine wpList_append_part rfl (.tmp 61) (.tmp 64) rfl w0.heap.size _ (.slice A L.length c) (L) b HS.out.ow rfl hll11 w10.heap.size _ ⟨3, (d : Int), []⟩ (.slice none 0 0) [] rfl HN11.out HU11.out (by simp) (by simp) (by simp) ?_; intro Ap11 cp11 w11 b11 o11 in11 g11 bl11)
          replace HS := Lib.hid (HS.out.app (left' := (left - d)) (room' := room) o11 g11 bl11 (okPt_drop (by omega) (by omega)) (by simp [keepOf, dropOf]; omega) (by simp [putOf]))
          clear o11 in11 g11 bl11 bA11 HN11 HU11 hll11
          refine ⟨?_, by simp [slen]; omega⟩
          unfold DrI
          iterate 67 apply Exists.intro
          refine ⟨⟨_, _, _, _, HS.out, ?_, ?_, ?_⟩, rfl⟩
          · simp; omega
          · first | rfl | (congr 1; omega)
          · first | rfl | (congr 1; omega)
        · have hm2 : 40 < L.length + 1 := by omega
          have bA12 := alloc_below w10 (.cells #[.int .i64 3, .int .i64 (d : Int), .slice none 0 0] 80)
          have HN12 := Lib.hid (heap_alloc_new w10 (.cells #[.int .i64 3, .int .i64 (d : Int), .slice none 0 0] 80))
          replace HS := Lib.hid (HS.out.past bA12)
          have HU12 := Lib.hid (nil_ow (w10.alloc (.cells #[.int .i64 3, .int .i64 (d : Int), .slice none 0 0] 80)))
          have hll12 : (L).length ≤ 2000000 := (by omega)
          go_wp2_with (first | (at_builtin; refine wpList_append_part rfl (.tmp 61) (.tmp 64) rfl w0.heap.size _ (.slice A L.length c) (L) b HS.out.ow rfl hll12 w10.heap.size _ ⟨3, (d : Int), []⟩ (.slice none 0 0) [] rfl HN12.out HU12.out (by simp) (by simp) (by simp) ?_; intro Ap12 cp12 w12 b12 o12 in12 g12 bl12; replace HS := Lib.hid (HS.out.app (left' := (left - d)) (room' := room) o12 g12 bl12 (okPt_drop (by omega) (by omega)) (by simp [keepOf, dropOf]; omega) (by simp [putOf])); clear o12 in12 g12 bl12 bA12 HN12 HU12 hll12; have bA13 := alloc_below w12 (.cells #[.int .i64 1, .int .i64 ((left : Int) - (d : Int)), .slice none 0 0] 80); have HN13 := Lib.hid (heap_alloc_new w12 (.cells #[.int .i64 1, .int .i64 ((left : Int) - (d : Int)), .slice none 0 0] 80)); replace HS := Lib.hid (HS.out.past bA13); have HU13 := Lib.hid (nil_ow (w12.alloc (.cells #[.int .i64 1, .int .i64 ((left : Int) - (d : Int)), .slice none 0 0] 80))); have hll13 : (L ++ [(⟨3, (d : Int), []⟩ : Pt)]).length ≤ 2000000 := (by rw [List.length_append]; show L.length + 1 ≤ 2000000; omega)) | (at_builtin; refine wpList_append_part rfl (.tmp 69) (.tmp 72) rfl w0.heap.size _ (.slice Ap12 (L.length + 1) cp12) (L ++ [(⟨3, (d : Int), []⟩ : Pt)]) b12 HS.out.ow rfl hll13 w12.heap.size _ ⟨1, ((left : Int) - (d : Int)), []⟩ (.slice none 0 0) [] rfl HN13.out HU13.out (by simp) (by simp) (by simp) ?_; intro Ap13 cp13 w13 b13 o13 in13 g13 bl13))
          replace HS := Lib.hid (HS.out.app (left' := 0) (room' := room) o13 g13 bl13 (okPt_keep (by omega) (by omega)) (by first | (simp [keepOf, dropOf]; done) | (simp [keepOf, dropOf]; omega)) (by simp [putOf]))
          clear o13 in13 g13 bl13 bA13 HN13 HU13 hll13
          have HSx := HS.out
          rw [List.length_append] at HSx
          have HR : DrX B g w0 n _ _ := ⟨_, _, _, HSx, by simp; omega⟩
          unfold DrE
          iterate 67 apply Exists.intro
          exact ⟨HR, rfl⟩
      · exfalso
        omega
    · have hx1b : (x2 == 1) = false := by simp [hx1]
      clear hx0 hx1
      go_wp2_with fail
      refine (specBelow_d B g ((left : Int) + 1) _ HS.out.dc (by omega)).mono ?_
      rintro e w14 ⟨m14, rfl, ⟨ma14, mb14, _⟩, dc14, fr14, bl14⟩
      replace HS := Lib.hid (HS.out.draw dc14 fr14 bl14)
      clear dc14 fr14 bl14
      have mb14 := mb14 (by omega)
      obtain ⟨d, rfl⟩ := Int.eq_ofNat_of_zero_le ma14
      by_cases hm : L.length + 1 ≤ 40
      · have hm2 : ¬ 40 < L.length + 1 := by omega
        have bA15 := alloc_below w14 (.cells #[.int .i64 1, .int .i64 (d : Int), .slice none 0 0] 80)
        have HN15 := Lib.hid (heap_alloc_new w14 (.cells #[.int .i64 1, .int .i64 (d : Int), .slice none 0 0] 80))
        replace HS := Lib.hid (HS.out.past bA15)
        have HU15 := Lib.hid (nil_ow (w14.alloc (.cells #[.int .i64 1, .int .i64 (d : Int), .slice none 0 0] 80)))
        have hll15 : (L).length ≤ 2000000 := (by omega)
        go_wp2_with (at_builtin; refine wpList_append_part rfl (.tmp 28) (.tmp 31) rfl w0.heap.size _ (.slice A L.length c) (L) b HS.out.ow rfl hll15 w14.heap.size _ ⟨1, (d : Int), []⟩ (.slice none 0 0) [] rfl HN15.out HU15.out (by simp) (by simp) (by simp) ?_; intro Ap15 cp15 w15 b15 o15 in15 g15 bl15)
        replace HS := Lib.hid (HS.out.app (left' := (left - d)) (room' := room) o15 g15 bl15 (okPt_keep (by omega) (by omega)) (by simp [keepOf, dropOf]; omega) (by simp [putOf]))
        clear o15 in15 g15 bl15 bA15 HN15 HU15 hll15
        refine ⟨?_, by simp [slen]; omega⟩
        unfold DrI
        iterate 67 apply Exists.intro
        refine ⟨⟨_, _, _, _, HS.out, ?_, ?_, ?_⟩, rfl⟩
        · simp; omega
        · first | rfl | (congr 1; omega)
        · first | rfl | (congr 1; omega)
      · have hm2 : 40 < L.length + 1 := by omega
        have bA16 := alloc_below w14 (.cells #[.int .i64 1, .int .i64 (d : Int), .slice none 0 0] 80)
        have HN16 := Lib.hid (heap_alloc_new w14 (.cells #[.int .i64 1, .int .i64 (d : Int), .slice none 0 0] 80))
        replace HS := Lib.hid (HS.out.past bA16)
        have HU16 := Lib.hid (nil_ow (w14.alloc (.cells #[.int .i64 1, .int .i64 (d : Int), .slice none 0 0] 80)))
        have hll16 : (L).length ≤ 2000000 := (by omega)
        go_wp2_with (first | (at_builtin; refine wpList_append_part rfl (.tmp 28) (.tmp 31) rfl w0.heap.size _ (.slice A L.length c) (L) b HS.out.ow rfl hll16 w14.heap.size _ ⟨1, (d : Int), []⟩ (.slice none 0 0) [] rfl HN16.out HU16.out (by simp) (by simp) (by simp) ?_; intro Ap16 cp16 w16 b16 o16 in16 g16 bl16; replace HS := Lib.hid (HS.out.app (left' := (left - d)) (room' := room) o16 g16 bl16 (okPt_keep (by omega) (by omega)) (by simp [keepOf, dropOf]; omega) (by simp [putOf])); clear o16 in16 g16 bl16 bA16 HN16 HU16 hll16; have bA17 := alloc_below w16 (.cells #[.int .i64 1, .int .i64 ((left : Int) - (d : Int)), .slice none 0 0] 80); have HN17 := Lib.hid (heap_alloc_new w16 (.cells #[.int .i64 1, .int .i64 ((left : Int) - (d : Int)), .slice none 0 0] 80)); replace HS := Lib.hid (HS.out.past bA17); have HU17 := Lib.hid (nil_ow (w16.alloc (.cells #[.int .i64 1, .int .i64 ((left : Int) - (d : Int)), .slice none 0 0] 80))); have hll17 : (L ++ [(⟨1, (d : Int), []⟩ : Pt)]).length ≤ 2000000 := (by rw [List.length_append]; show L.length + 1 ≤ 2000000; omega)) | (at_builtin; refine wpList_append_part rfl (.tmp 69) (.tmp 72) rfl w0.heap.size _ (.slice Ap16 (L.length + 1) cp16) (L ++ [(⟨1, (d : Int), []⟩ : Pt)]) b16 HS.out.ow rfl hll17 w16.heap.size _ ⟨1, ((left : Int) - (d : Int)), []⟩ (.slice none 0 0) [] rfl HN17.out HU17.out (by simp) (by simp) (by simp) ?_; intro Ap17 cp17 w17 b17 o17 in17 g17 bl17))
        replace HS := Lib.hid (HS.out.app (left' := 0) (room' := room) o17 g17 bl17 (okPt_keep (by omega) (by omega)) (by first | (simp [keepOf, dropOf]; done) | (simp [keepOf, dropOf]; omega)) (by simp [putOf]))
        clear o17 in17 g17 bl17 bA17 HN17 HU17 hll17
        have HSx := HS.out
        rw [List.length_append] at HSx
        have HR : DrX B g w0 n _ _ := ⟨_, _, _, HSx, by simp; omega⟩
        unfold DrE
        iterate 67 apply Exists.intro
        exact ⟨HR, rfl⟩
set_option maxRecDepth 1000000 in
set_option maxHeartbeats 1600000 in
theorem drRound (B g : Nat) (w0 : World) (n : Nat) (hn : n ≤ 150) (c1 c2 c3 c4 c11 c12 c74 : Value) (Q0 : Exit → Act → World → Prop) (hexit : ∀ a w, DrE B g w0 n c1 c2 c3 c4 c11 c12 c74 a w → Q0 (.exit 0) a w) (a : Act) (w : World) (hI : DrI B g w0 n c1 c2 c3 c4 c11 c12 c74 a w) :
    Code.wp Try.prog drBody (Exit.then (fun a' w'' => DrI B g w0 n c1 c2 c3 c4 c11 c12 c74 a' w'' ∧ 41 - slen (a'.tmps.getD 5 undef) < 41 - slen (a.tmps.getD 5 undef)) Q0) a w := by
  unfold DrI at hI
  obtain ⟨u5, hI⟩ := hI
  obtain ⟨u6, hI⟩ := hI
  obtain ⟨u7, hI⟩ := hI
  obtain ⟨u8, hI⟩ := hI
  obtain ⟨u9, hI⟩ := hI
  obtain ⟨u10, hI⟩ := hI
  obtain ⟨u13, hI⟩ := hI
  obtain ⟨u14, hI⟩ := hI
  obtain ⟨u15, hI⟩ := hI
  obtain ⟨u16, hI⟩ := hI
  obtain ⟨u17, hI⟩ := hI
  obtain ⟨u18, hI⟩ := hI
  obtain ⟨u19, hI⟩ := hI
  obtain ⟨u20, hI⟩ := hI
  obtain ⟨u21, hI⟩ := hI
  obtain ⟨u22, hI⟩ := hI
  obtain ⟨u23, hI⟩ := hI
  obtain ⟨u24, hI⟩ := hI
  obtain ⟨u25, hI⟩ := hI
  obtain ⟨u26, hI⟩ := hI
  obtain ⟨u27, hI⟩ := hI
  obtain ⟨u28, hI⟩ := hI
  obtain ⟨u29, hI⟩ := hI
  obtain ⟨u30, hI⟩ := hI
  obtain ⟨u31, hI⟩ := hI
  obtain ⟨u32, hI⟩ := hI
  obtain ⟨u33, hI⟩ := hI
  obtain ⟨u34, hI⟩ := hI
  obtain ⟨u35, hI⟩ := hI
  obtain ⟨u36, hI⟩ := hI
  obtain ⟨u37, hI⟩ := hI
  obtain ⟨u38, hI⟩ := hI
  obtain ⟨u39, hI⟩ := hI
  obtain ⟨u40, hI⟩ := hI
  obtain ⟨u41, hI⟩ := hI
  obtain ⟨u42, hI⟩ := hI
  obtain ⟨u43, hI⟩ := hI
  obtain ⟨u44, hI⟩ := hI
  obtain ⟨u45, hI⟩ := hI
  obtain ⟨u46, hI⟩ := hI
  obtain ⟨u47, hI⟩ := hI
  obtain ⟨u48, hI⟩ := hI
  obtain ⟨u49, hI⟩ := hI
  obtain ⟨u50, hI⟩ := hI
  obtain ⟨u51, hI⟩ := hI
  obtain ⟨u52, hI⟩ := hI
  obtain ⟨u53, hI⟩ := hI
  obtain ⟨u54, hI⟩ := hI
  obtain ⟨u55, hI⟩ := hI
  obtain ⟨u56, hI⟩ := hI
  obtain ⟨u57, hI⟩ := hI
  obtain ⟨u58, hI⟩ := hI
  obtain ⟨u59, hI⟩ := hI
  obtain ⟨u60, hI⟩ := hI
  obtain ⟨u61, hI⟩ := hI
  obtain ⟨u62, hI⟩ := hI
  obtain ⟨u63, hI⟩ := hI
  obtain ⟨u64, hI⟩ := hI
  obtain ⟨u65, hI⟩ := hI
  obtain ⟨u66, hI⟩ := hI
  obtain ⟨u67, hI⟩ := hI
  obtain ⟨u68, hI⟩ := hI
  obtain ⟨u69, hI⟩ := hI
  obtain ⟨u70, hI⟩ := hI
  obtain ⟨u71, hI⟩ := hI
  obtain ⟨u72, hI⟩ := hI
  obtain ⟨u73, hI⟩ := hI
  obtain ⟨⟨left, room, L, b, hs, hL, rfl, rfl⟩, rfl⟩ := hI
  obtain ⟨A, c, rfl⟩ := sliceP hs.ow.read
  by_cases hl : 0 < left
  · exact drP B g w0 w n hn A c left room L b c1 c2 c3 c4 c11 c12 c74 u8 u9 u10 u13 u14 u15 u16 u17 u18 u19 u20 u21 u22 u23 u24 u25 u26 u27 u28 u29 u30 u31 u32 u33 u34 u35 u36 u37 u38 u39 u40 u41 u42 u43 u44 u45 u46 u47 u48 u49 u50 u51 u52 u53 u54 u55 u56 u57 u58 u59 u60 u61 u62 u63 u64 u65 u66 u67 u68 u69 u70 u71 u72 u73 Q0 hs hL hl hexit
  · exact drZ B g w0 w n hn A c left room L b c1 c2 c3 c4 c11 c12 c74 u8 u9 u10 u13 u14 u15 u16 u17 u18 u19 u20 u21 u22 u23 u24 u25 u26 u27 u28 u29 u30 u31 u32 u33 u34 u35 u36 u37 u38 u39 u40 u41 u42 u43 u44 u45 u46 u47 u48 u49 u50 u51 u52 u53 u54 u55 u56 u57 u58 u59 u60 u61 u62 u63 u64 u65 u66 u67 u68 u69 u70 u71 u72 u73 Q0 hs hL hl hexit
set_option maxRecDepth 1000000 in
set_option maxHeartbeats 1600000 in
theorem drLoop (B g : Nat) (w0 : World) (n : Nat) (hn : n ≤ 150) (c1 c2 c3 c4 c11 c12 c74 u5 u6 u7 u8 u9 u10 u13 u14 u15 u16 u17 u18 u19 u20 u21 u22 u23 u24 u25 u26 u27 u28 u29 u30 u31 u32 u33 u34 u35 u36 u37 u38 u39 u40 u41 u42 u43 u44 u45 u46 u47 u48 u49 u50 u51 u52 u53 u54 u55 u56 u57 u58 u59 u60 u61 u62 u63 u64 u65 u66 u67 u68 u69 u70 u71 u72 u73 : Value) (Q0 : Exit → Act → World → Prop) (w : World) (hR : DrR B g w0 n u5 u6 u7 w) (hexit : ∀ a w, DrE B g w0 n c1 c2 c3 c4 c11 c12 c74 a w → Q0 (.exit 0) a w) :
    Code.wp Try.prog (Code.loop drBody) Q0 ⟨#[.pointer (some ⟨g, 0, none⟩), c1, c2, c3, c4, u5, u6, u7, u8, u9, u10, c11, c12, u13, u14, u15, u16, u17, u18, u19, u20, u21, u22, u23, u24, u25, u26, u27, u28, u29, u30, u31, u32, u33, u34, u35, u36, u37, u38, u39, u40, u41, u42, u43, u44, u45, u46, u47, u48, u49, u50, u51, u52, u53, u54, u55, u56, u57, u58, u59, u60, u61, u62, u63, u64, u65, u66, u67, u68, u69, u70, u71, u72, u73, c74], []⟩ w := by
  refine wp_loop (DrI B g w0 n c1 c2 c3 c4 c11 c12 c74) (fun a _ => 41 - slen (a.tmps.getD 5 undef)) ?_ (fun a w'' hI => drRound B g w0 n hn c1 c2 c3 c4 c11 c12 c74 Q0 hexit a w'' hI)
  unfold DrI
  iterate 67 apply Exists.intro
  exact ⟨hR, rfl⟩
/-- behind a draw of an operation on n characters -/
def OpP (n B g : Nat) (w : World) (e : Ending) (w' : World) : Prop := ∃ L v b, e = .returned v ∧ okOp L = true ∧ sumK L + sumD L = (n : Int) ∧ sumK L + sumP L ≤ (n : Int) + 12 ∧ sumP L ≤ 12 ∧ SmP L ∧ OwB w.heap.size w'.heap.size w' (encPs L) v b ∧ DC B g w' ∧ Fr (fun q => q = g) w w' ∧ Below B w w'
theorem drawn_ok {L : List Pt} {n room : Nat} (hok : okPs L = true) (hs : sumOf keepOf L + sumOf dropOf L + ((0 : Nat) : Int) = (n : Int)) (hp : sumOf putOf L + (room : Int) = 12) (hl : L.length ≤ 42) (hn : n ≤ 150) : okOp L = true ∧ sumK L + sumD L = (n : Int) ∧ sumK L + sumP L ≤ (n : Int) + 12 ∧ sumP L ≤ 12 ∧ SmP L := by
  have hpb : partsB L = true := by unfold partsB; rw [hok]; simp; omega
  obtain ⟨t1, t2, t3⟩ := sum_t hpb
  obtain ⟨q1, q2, q3⟩ := sumOf_nonneg hok
  have h1 : sumK L + sumD L = (n : Int) := by rw [t1, t3]; omega
  have h2 : sumK L + sumP L ≤ (n : Int) + 12 := by rw [t1, t2]; omega
  refine ⟨?_, h1, h2, by rw [t2]; omega, by omega, ?_⟩
  · unfold okOp
    rw [hpb, decide_eq_true (show sumK L + sumD L ≤ 200 by omega), decide_eq_true (show sumK L + sumP L ≤ 200 by omega)]
    rfl
  · have := signsIn_le (okPs_sz hok)
    omega
set_option maxRecDepth 1000000 in
set_option maxHeartbeats 3200000 in
theorem specDraw_d (B g n : Nat) (w : World) (h : DC B g w) (hn : n ≤ 150) : Calls Try.prog 50 #[.pointer (some ⟨g, 0, none⟩), .int .i64 (n : Int)] w (OpP n B g w) := by
  have hgl := h.lt
  have hBg := h.low
  go_enter Try.func50, Try.ntmps50
  go_wp2
  have bA := alloc_below w (.cells #[] 80)
  have hib : OwB w.heap.size (w.alloc (.cells #[] 80)).heap.size (w.alloc (.cells #[] 80)) (encPs []) (.slice (some ⟨w.heap.size, 0, none⟩) 0 0) [w.heap.size] :=
    ⟨⟨[], [], ⟨rfl, .inr ⟨w.heap.size, 0, #[], rfl, Nat.zero_le _, heap_alloc_new w _, Nat.le_refl _, by unfold maxLen; omega, rfl, rfl⟩⟩, ⟨rfl, rfl⟩, rfl⟩, by simp, fun x hx => by obtain rfl : x = w.heap.size := (by simpa using hx); exact ⟨Nat.le_refl _, lt_of_some (heap_alloc_new w _)⟩, Nat.le_refl _, bA.size⟩
  have hs : DS B g w n (.slice (some ⟨w.heap.size, 0, none⟩) 0 0) n 12 [] [w.heap.size] (w.alloc (.cells #[] 80)) := ⟨hib, rfl, by simp [sumOf], by simp [sumOf], h.past bA, Fr.below bA, bA.mono (by omega), hgl⟩
  have HS := Lib.hid hs
  clear hs hib bA
  refine drLoop B g w n hn _ _ _ _ _ _ _ _ _ _ _ _ _ _ _ _ _ _ _ _ _ _ _ _ _ _ _ _ _ _ _ _ _ _ _ _ _ _ _ _ _ _ _ _ _ _ _ _ _ _ _ _ _ _ _ _ _ _ _ _ _ _ _ _ _ _ _ _ _ _ _ _ _ _ _ _ ⟨n, 12, [], _, HS.out, by simp, rfl, rfl⟩ ?_
  intro act w8 hI
  clear HS
  unfold DrE at hI
  obtain ⟨u5, hI⟩ := hI
  obtain ⟨u6, hI⟩ := hI
  obtain ⟨u7, hI⟩ := hI
  obtain ⟨u8, hI⟩ := hI
  obtain ⟨u9, hI⟩ := hI
  obtain ⟨u10, hI⟩ := hI
  obtain ⟨u13, hI⟩ := hI
  obtain ⟨u14, hI⟩ := hI
  obtain ⟨u15, hI⟩ := hI
  obtain ⟨u16, hI⟩ := hI
  obtain ⟨u17, hI⟩ := hI
  obtain ⟨u18, hI⟩ := hI
  obtain ⟨u19, hI⟩ := hI
  obtain ⟨u20, hI⟩ := hI
  obtain ⟨u21, hI⟩ := hI
  obtain ⟨u22, hI⟩ := hI
  obtain ⟨u23, hI⟩ := hI
  obtain ⟨u24, hI⟩ := hI
  obtain ⟨u25, hI⟩ := hI
  obtain ⟨u26, hI⟩ := hI
  obtain ⟨u27, hI⟩ := hI
  obtain ⟨u28, hI⟩ := hI
  obtain ⟨u29, hI⟩ := hI
  obtain ⟨u30, hI⟩ := hI
  obtain ⟨u31, hI⟩ := hI
  obtain ⟨u32, hI⟩ := hI
  obtain ⟨u33, hI⟩ := hI
  obtain ⟨u34, hI⟩ := hI
  obtain ⟨u35, hI⟩ := hI
  obtain ⟨u36, hI⟩ := hI
  obtain ⟨u37, hI⟩ := hI
  obtain ⟨u38, hI⟩ := hI
  obtain ⟨u39, hI⟩ := hI
  obtain ⟨u40, hI⟩ := hI
  obtain ⟨u41, hI⟩ := hI
  obtain ⟨u42, hI⟩ := hI
  obtain ⟨u43, hI⟩ := hI
  obtain ⟨u44, hI⟩ := hI
  obtain ⟨u45, hI⟩ := hI
  obtain ⟨u46, hI⟩ := hI
  obtain ⟨u47, hI⟩ := hI
  obtain ⟨u48, hI⟩ := hI
  obtain ⟨u49, hI⟩ := hI
  obtain ⟨u50, hI⟩ := hI
  obtain ⟨u51, hI⟩ := hI
  obtain ⟨u52, hI⟩ := hI
  obtain ⟨u53, hI⟩ := hI
  obtain ⟨u54, hI⟩ := hI
  obtain ⟨u55, hI⟩ := hI
  obtain ⟨u56, hI⟩ := hI
  obtain ⟨u57, hI⟩ := hI
  obtain ⟨u58, hI⟩ := hI
  obtain ⟨u59, hI⟩ := hI
  obtain ⟨u60, hI⟩ := hI
  obtain ⟨u61, hI⟩ := hI
  obtain ⟨u62, hI⟩ := hI
  obtain ⟨u63, hI⟩ := hI
  obtain ⟨u64, hI⟩ := hI
  obtain ⟨u65, hI⟩ := hI
  obtain ⟨u66, hI⟩ := hI
  obtain ⟨u67, hI⟩ := hI
  obtain ⟨u68, hI⟩ := hI
  obtain ⟨u69, hI⟩ := hI
  obtain ⟨u70, hI⟩ := hI
  obtain ⟨u71, hI⟩ := hI
  obtain ⟨u72, hI⟩ := hI
  obtain ⟨u73, hI⟩ := hI
  obtain ⟨⟨room, L, b, hs, hL⟩, rfl⟩ := hI
  obtain ⟨A, c, rfl⟩ := sliceP hs.ow.read
  have HS := Lib.hid hs
  clear hs
  go_wp2
  go_ret
  obtain ⟨k1, k2, k3, k3b, k4⟩ := drawn_ok HS.out.ok HS.out.sum HS.out.puts hL hn
  exact ⟨L, _, b, rfl, k1, k2, k3, k3b, k4, HS.out.ow, HS.out.dc, HS.out.fr, HS.out.bl⟩

end Go.Proofs.Ytmlkeflnnaabeaa.low


/-
  The specification's draws: the cursor made (spec.l01New), a text and two operations (spec.MakeOps), a text and a list of operations (spec.MakeList).
-/
namespace Go.Proofs.Ytmlkeflnnaabeaa.low
open Go.RowKit
set_option linter.unusedVariables false

def NewP (w : World) (e : Ending) (w' : World) : Prop := e = .returned (.pointer (some ⟨w.heap.size, 0, none⟩)) ∧ DC w.heap.size w.heap.size w' ∧ Below w.heap.size w w'
/-- the bytes of a draw -/
def Code8 (w : World) (v : Value) : Prop := ∃ A c zs, v = .slice A zs.length c ∧ zs.length ≤ 1048576 ∧ Row (Value.int .u8) w w.heap.size A zs ∧ ∀ z ∈ zs, 0 ≤ z ∧ z < 256
set_option maxRecDepth 100000 in
set_option maxHeartbeats 1600000 in
theorem specNew_d (v : Value) (w : World) (h : Code8 w v) : Calls Try.prog 42 #[v] w (NewP w) := by
  obtain ⟨A, c, zs, rfl, hl, hr, hz⟩ := h
  go_enter Try.func42, Try.ntmps42
  go_wp2
  go_loop [3, 4] (fun x i => ∃ (k : Nat) (h : Int), k ≤ zs.length ∧ i = .int .i64 k ∧ x = .int .i64 h) (fun _ i => zs.length - (intOf i).toNat)
  case atStart => exact ⟨0, _, Nat.zero_le _, rfl, rfl⟩
  case round =>
    obtain ⟨k, h, hk, rfl, rfl⟩ := hrel
    have fin : NewP w (.returned (.pointer (some ⟨w.heap.size, 0, none⟩))) (w.alloc (.cells #[.slice A zs.length c, .int .i64 0, .int .i64 h] 62)) :=
      ⟨rfl, ⟨A, c, zs, 0, h, heap_alloc_new w _, hl, hr.keep (fun p hp => (alloc_below w _).cell hp), hz, Nat.le_refl _⟩, alloc_below w _⟩
    have FIN := Lib.hid fin
    clear fin
    by_cases hlt : k < zs.length
    · by_cases h4 : k < 4000
      · obtain ⟨ad, z, rfl, hb, hzk, hc⟩ := hr.at_ hlt
        have hzz := hz z (List.mem_of_getElem? hzk)
        clear hzk
        go_wp2
        go_round
        case rel => exact ⟨k + 1, _, by omega, by go_num, rfl⟩
        case measure => simp [intOf]; omega
      · go_wp2
        go_ret
        exact FIN.out
    · go_wp2
      go_ret
      exact FIN.out

/-- behind MakeOps -/
def MOps (w : World) (e : Ending) (w' : World) : Prop := ∃ t a b v1 v2 v3, e = .returned (.tuple #[v1, v2, v3]) ∧ okText t = true ∧ t.length ≤ 10 ∧ okOp a = true ∧ okOp b = true ∧ sumK a + sumD a = (t.length : Int) ∧ sumK b + sumD b = (t.length : Int) ∧ sumK a + sumP a ≤ 30 ∧ sumK b + sumP b ≤ 30 ∧ sumP a ≤ 12 ∧ sumP b ≤ 12 ∧ SmP a ∧ SmP b ∧
  RdC w' w'.heap.size (encInts t) v1 ∧ RdC w' w'.heap.size (encPs a) v2 ∧ RdC w' w'.heap.size (encPs b) v3 ∧ Below w.heap.size w w'
theorem okText_of {t : List Int} (h : allB t = true) (hl : t.length ≤ 200) : okText t = true := by unfold okText; rw [h, decide_eq_true hl]; rfl
theorem read_fr {lo hi g : Nat} {w w' : World} {d : Dat} {v : Value} {b : List Nat} (h : OwB lo hi w d v b) (hf : Fr (fun q => q = g) w w') (hg : g < lo) : RdC w' w'.heap.size d v := (h.fr hf hg).read
set_option maxHeartbeats 1600000 in
theorem specMakeOps_d (v : Value) (w : World) (h : Code8 w v) : Calls Try.prog 16 #[v] w (MOps w) := by
  obtain ⟨A0, c0, zs0, rfl, _⟩ : ∃ A c zs, v = .slice A (List.length (α := Int) zs) c ∧ True := by obtain ⟨A, c, zs, e, _⟩ := h; exact ⟨A, c, zs, e, trivial⟩
  go_enter Try.func16, Try.ntmps16
  go_wp2_with fail
  refine (specNew_d _ w h).mono ?_
  rintro e w1 ⟨rfl, dc, b1⟩
  have hB := b1.size
  generalize hBB : w.heap.size = B at *
  go_wp2_with fail
  refine (specSigns_d B B 10 _ dc (by omega)).mono ?_
  rintro e w2 ⟨t, vt, kt, rfl, tl, ta, ot, dc2, fr2, bl2⟩
  obtain ⟨At, ct, rfl⟩ := sliceI ot.read
  have hg1 := dc.lt
  have HT := Lib.hid ot
  have HTA := Lib.hid ta
  have hl2 := dc2.lt
  clear ot ta
  go_wp2_with fail
  refine (specDraw_d B B t.length _ dc2 (by omega)).mono ?_
  rintro e w3 ⟨a, va, ka, rfl, oa, sa1, sa2, sa3, sma, owa, dc3, fr3, bl3⟩
  obtain ⟨Aa, ca, rfl⟩ := sliceP owa.read
  have HWA := Lib.hid owa
  have HA := Lib.hid (And.intro oa (And.intro sa1 (And.intro sa2 sa3)))
  have hl3 := dc3.lt
  clear owa oa sa1
  go_wp2_with fail
  refine (specDraw_d B B t.length _ dc3 (by omega)).mono ?_
  rintro e w4 ⟨b, vb, kb, rfl, ob, sb1, sb2, sb3, smb, owb, dc4, fr4, bl4⟩
  obtain ⟨Ab, cb, rfl⟩ := sliceP owb.read
  have HWB := Lib.hid owb
  have HB := Lib.hid (And.intro ob (And.intro sb1 (And.intro sb2 sb3)))
  clear owb ob sb1
  go_wp2
  go_ret3
  exact ⟨t, a, b, _, _, _, rfl, okText_of HTA.out (by omega), by omega, HA.out.1, HB.out.1, HA.out.2.1, HB.out.2.1, by have := HA.out.2.2.1; omega, by have := HB.out.2.2.1; omega, HA.out.2.2.2, HB.out.2.2.2, sma, smb, read_fr HT.out (fr3.trans fr4) hg1, read_fr HWA.out fr4 hl2, HWB.out.read, by rw [hBB]; exact ((b1.trans bl2).trans bl3).trans bl4⟩

/-- operations one behind the other, on n characters first -/
def chain : Int → List (List Pt) → Prop
  | _, [] => True
  | n, o :: l => okOp o = true ∧ sumK o + sumD o = n ∧ sumP o ≤ 12 ∧ chain (sumK o + sumP o) l
def endN (n : Int) (l : List (List Pt)) : Int := l.foldl (fun _ o => sumK o + sumP o) n
theorem endN_snoc (n : Int) (l : List (List Pt)) (o : List Pt) : endN n (l ++ [o]) = sumK o + sumP o := by simp [endN]
theorem chain_snoc : ∀ (n : Int) (l : List (List Pt)) (o : List Pt), chain n l → okOp o = true → sumK o + sumD o = endN n l → sumP o ≤ 12 → chain n (l ++ [o])
  | n, [], o, _, h1, h2, h3 => ⟨h1, h2, h3, trivial⟩
  | n, p :: l, o, h, h1, h2, h3 => ⟨h.1, h.2.1, h.2.2.1, chain_snoc _ l o h.2.2.2 h1 h2 h3⟩
/-- behind MakeList -/
def MList (w : World) (e : Ending) (w' : World) : Prop := ∃ t l b v1 v2 v3, e = .returned (.tuple #[v1, v2, v3]) ∧ okText t = true ∧ t.length ≤ 8 ∧ chain (t.length : Int) l ∧ l.length ≤ 4 ∧ endN (t.length : Int) l ≤ 60 ∧ okOp b = true ∧ sumK b + sumD b = (t.length : Int) ∧ sumK b + sumP b ≤ 20 ∧ sumP b ≤ 12 ∧ SmPP l ∧ SmP b ∧
  RdC w' w'.heap.size (encInts t) v1 ∧ RdC w' w'.heap.size (encPss l) v2 ∧ RdC w' w'.heap.size (encPs b) v3 ∧ Below w.heap.size w w'
theorem bulk_app (l : List (List Pt)) (o : List Pt) : bulk (l ++ [o]) = bulk l + (o.length + signsIn o) := by simp [bulk]
/-- the state of MakeList's loop -/
structure ML (B g : Nat) (w0 : World) (n : Nat) (o : Value) (l : List (List Pt)) (b : List Nat) (w : World) : Prop where
  ow : OwB w0.heap.size w.heap.size w (encPss l) o b
  ch : chain (n : Int) l
  le : 0 ≤ endN (n : Int) l ∧ endN (n : Int) l ≤ (n : Int) + 12 * l.length
  bk : bulk l ≤ 130000 * l.length
  dc : DC B g w
  fr : Fr (fun q => q = g) w0 w
  bl : Below B w0 w
  lt : g < w0.heap.size
theorem op_bulk {o : List Pt} (h : okOp o = true) : o.length + signsIn o ≤ 130000 := by
  obtain ⟨_, h1, h2⟩ := okOp_units h
  have := signsIn_le h1
  omega
theorem op_nonneg {o : List Pt} (h : okOp o = true) : 0 ≤ sumK o + sumP o := by
  obtain ⟨t1, t2, _⟩ := sum_t (okOp_partsB h)
  have hok := (okOp_of h).1
  obtain ⟨q1, q2, q3⟩ := sumOf_nonneg hok
  rw [t1, t2]
  omega
end Go.Proofs.Ytmlkeflnnaabeaa.low


/-
  The specification's draws: a number below n (spec.MakeNum), a text (spec.MakeText).
-/
namespace Go.Proofs.Ytmlkeflnnaabeaa.low
open Go.RowKit
set_option linter.unusedVariables false

/-- the cursor with another sum -/
theorem DC.sum {B g : Nat} {w : World} (h : DC B g w) : ∃ x : Int, w.cell? ⟨g, 2, none⟩ = some (.int .i64 x) ∧ w.frozen? ⟨g, 2, none⟩ = false ∧ ∀ y : Int, DC B g (w.setCell ⟨g, 2, none⟩ (.int .i64 y)) ∧ Below B w (w.setCell ⟨g, 2, none⟩ (.int .i64 y)) := by
  obtain ⟨A, c, zs, i, x, h1, h2, h3, h4, h5⟩ := h
  refine ⟨x, cell_of_row _ _ 2 _ _ _ h1, by simp [World.frozen?, h1], fun y => ⟨⟨A, c, zs, i, y, set2_row (n := 0) h1, h2, h3.keep (fun p hp => ?_), h4, h5⟩, (Below.refl B w).setCell (p := ⟨g, 2, none⟩) h5 _⟩⟩
  exact World.cell?_of_block (heap_setCell_other _ _ _ _ (fun e => by have e' : p.block = g := e; omega))
theorem Code8.past {w w' : World} {v : Value} (h : Code8 w v) (hb : Below w.heap.size w w') : Code8 w' v := by
  obtain ⟨A, c, zs, h1, h2, h3, h4⟩ := h
  exact ⟨A, c, zs, h1, h2, h3.past hb, h4⟩
def MNum (n : Int) (w : World) (e : Ending) (w' : World) : Prop := ∃ x, e = .returned (.int .i64 x) ∧ 0 ≤ x ∧ (0 < n → x < n) ∧ Below w.heap.size w w'
def MText (w : World) (e : Ending) (w' : World) : Prop := ∃ t v, e = .returned v ∧ okText t = true ∧ t.length ≤ 12 ∧ RdC w' w'.heap.size (encInts t) v ∧ Below w.heap.size w w'
set_option maxRecDepth 100000 in
set_option maxHeartbeats 1600000 in
theorem specMakeNum_d (v : Value) (n : Int) (w : World) (h : Code8 w v) (hn : n ≤ 2147483648) : Calls Try.prog 12 #[v, .int .i64 n] w (MNum n w) := by
  obtain ⟨A0, c0, zs0, rfl, _⟩ : ∃ A c zs, v = .slice A (List.length (α := Int) zs) c ∧ True := by obtain ⟨A, c, zs, e, _⟩ := h; exact ⟨A, c, zs, e, trivial⟩
  go_enter Try.func12, Try.ntmps12
  go_wp2_with fail
  refine (specNew_d _ w h).mono ?_
  rintro e w1 ⟨rfl, dc, b1⟩
  obtain ⟨x, k1, k2, k3⟩ := dc.sum
  have K3 := Lib.hid k3
  clear k3 dc
  go_wp2_with fail
  refine (specBelow_d _ _ n _ (K3.out _).1 hn).mono ?_
  rintro e w2 ⟨y, rfl, ⟨h1, h2, _⟩, _, _, bl⟩
  have B2 := Lib.hid bl
  have B3 := Lib.hid (K3.out (wrap64 (x + 777))).2
  clear bl k1 k2 K3
  go_wp2
  go_ret
  exact ⟨y, rfl, h1, h2, (b1.trans B3.out).trans B2.out⟩
set_option maxRecDepth 100000 in
set_option maxHeartbeats 1600000 in
theorem specMakeText_d (v : Value) (n : Int) (w : World) (h : Code8 w v) : Calls Try.prog 11 #[v, .int .i64 n] w (MText w) := by
  obtain ⟨A0, c0, zs0, rfl, _⟩ : ∃ A c zs, v = .slice A (List.length (α := Int) zs) c ∧ True := by obtain ⟨A, c, zs, e, _⟩ := h; exact ⟨A, c, zs, e, trivial⟩
  go_enter Try.func11, Try.ntmps11
  go_wp2_with fail
  refine (specNew_d _ w h).mono ?_
  rintro e w1 ⟨rfl, dc, b1⟩
  obtain ⟨x, k1, k2, k3⟩ := dc.sum
  have K3 := Lib.hid k3
  clear k3 dc
  go_wp2_with fail
  refine (specSigns_d _ _ 12 _ (K3.out _).1 (by omega)).mono ?_
  rintro e w2 ⟨t, vt, kt, rfl, tl, ta, ot, _, _, bl⟩
  obtain ⟨At, ct, rfl⟩ := sliceI ot.read
  have B2 := Lib.hid bl
  have B3 := Lib.hid (K3.out (wrap64 (x + n))).2
  have OT := Lib.hid ot.read
  have HTA := Lib.hid ta
  clear bl k1 k2 K3 ot ta
  go_wp2
  go_ret
  exact ⟨t, _, rfl, okText_of HTA.out (by omega), tl, OT.out, (b1.trans B3.out).trans B2.out⟩
end Go.Proofs.Ytmlkeflnnaabeaa.low


/-
  Operations one behind the other: composing them all, leading one past them all.
-/
namespace Go.Proofs.Ytmlkeflnnaabeaa.low
open Go.RowKit
set_option linter.unusedVariables false

theorem okOp_nil : okOp [] = true := by decide
theorem keepL_ok {n : Nat} (h : n ≤ 200) : okOp (keepL (n : Int)) = true ∧ normL (keepL (n : Int)) = keepL (n : Int) ∧ units (keepL (n : Int)) = List.replicate n .k ∧ sumK (keepL (n : Int)) + sumD (keepL (n : Int)) = (n : Int) ∧ sumK (keepL (n : Int)) + sumP (keepL (n : Int)) = (n : Int) := by
  have hu : units (keepL (n : Int)) = List.replicate n .k := by
    unfold keepL
    split
    · simp [units, unitsP]
    · obtain rfl : n = 0 := by omega
      rfl
  have hok : okOp (keepL (n : Int)) = true := by
    unfold keepL
    split
    · refine of_okOp ?_ (by simp) (by simp [sumOf, keepOf, dropOf]; omega) (by simp [sumOf, keepOf, putOf]; omega)
      simp [okPs, okPt]
      omega
    · exact okOp_nil
  obtain ⟨u1, u2, _⟩ := op_units hok
  rw [hu, (src_rk n).1] at u1
  rw [hu, (src_rk n).2] at u2
  refine ⟨hok, ?_, hu, u1.symm, u2.symm⟩
  refine norm_normal ?_ hok
  unfold keepL
  split
  · refine ⟨fun p hp => ?_, trivial⟩
    simp at hp
    subst hp
    exact .inl ⟨rfl, by simp; omega, rfl⟩
  · exact ⟨fun p hp => by simp at hp, trivial⟩
theorem applyU_keep : ∀ (n : Nat) (t : List Int), n = t.length → applyU (List.replicate n .k) t = t := fun n t h => by
  have := applyU_ks n [] t
  rw [List.append_nil] at this
  rw [this, h]
  simp [applyU]
/-- composing goes through, and has the effect of the operations in order -/
theorem chain_co : ∀ (l : List (List Pt)) (cur : List Pt) (n : Int) (t u : List Int), okOp cur = true → normL cur = cur → sumK cur + sumD cur = (t.length : Int) → okText t = true → applyT cur t = u → chain (sumK cur + sumP cur) l →
    ∃ c u', l.foldl stepCo (some cur) = some c ∧ l.foldl stepAll (some u) = some u' ∧ okOp c = true ∧ normL c = c ∧ sumK c + sumD c = (t.length : Int) ∧ applyT c t = u' ∧ okText u' = true ∧ fitsB c t = true
  | [], cur, n, t, u, ho, hn, hs, ht, hu, _ => by
    obtain ⟨a1, _, a3, _⟩ := apply_ok ho ht hs
    exact ⟨cur, u, rfl, rfl, ho, hn, hs, hu, by rw [← hu]; exact a3, a1⟩
  | o :: l, cur, n, t, u, ho, hn, hs, ht, hu, hc => by
    obtain ⟨c1, c2, _, c3⟩ := hc
    obtain ⟨k1, k2, k3, k4, k5, k6, k7, k8⟩ := compose_ok ho c1 c2.symm
    obtain ⟨a1, a2, a3, a4, a5⟩ := apply_ok ho ht hs
    have hf := (apply_ok c1 a3 (by omega)).1
    have ha := compose_apply ho c1 c2.symm ht hs
    have s1 : stepCo (some cur) o = some (composeT cur o) := by simp [stepCo, k1]
    have s2 : stepAll (some u) o = some (applyT o u) := by rw [← hu]; simp [stepAll, hf]
    rw [List.foldl_cons, List.foldl_cons, s1, s2]
    exact chain_co l (composeT cur o) n t (applyT o u) k3 k4 (by omega) ht (by rw [ha, hu]) (by rw [k7]; exact c3)
theorem composeAll_ok {l : List (List Pt)} {t : List Int} (ht : okText t = true) (hc : chain (t.length : Int) l) : composeAllB l (t.length : Int) = true ∧ applyAllB l t = true ∧ fitsB (composeAllT l (t.length : Int)) t = true ∧ applyAllT l t = applyT (composeAllT l (t.length : Int)) t ∧ okOp (composeAllT l (t.length : Int)) = true ∧ normL (composeAllT l (t.length : Int)) = composeAllT l (t.length : Int) ∧ okText (applyAllT l t) = true := by
  have htl := okText_len' ht
  obtain ⟨p1, p2, p3, p4, p5⟩ := keepL_ok htl
  have hap : applyT (keepL (t.length : Int)) t = t := by
    rw [(apply_ok p1 ht p4).2.1, p3, applyU_keep _ _ rfl]
  obtain ⟨c, u, f1, f2, h1, h2, h3, h4, h5, h6⟩ := chain_co l (keepL (t.length : Int)) 0 t t p1 p2 p4 ht hap (by rw [p5]; exact hc)
  have e1 : composeAllB l (t.length : Int) = true := by
    unfold composeAllB foldCo
    rw [f1, inB_t (by omega)]
    rfl
  have e2 : composeAllT l (t.length : Int) = c := by
    unfold composeAllT
    rw [if_pos e1]
    unfold foldCo
    rw [f1]
    rfl
  have e3 : applyAllB l t = true := by
    unfold applyAllB foldAll
    rw [f2, ht]
    rfl
  have e4 : applyAllT l t = u := by
    unfold applyAllT
    rw [if_pos e3]
    unfold foldAll
    rw [f2]
    rfl
  rw [e2, e4]
  exact ⟨e1, e3, h6, h4.symm, h1, h2, h5⟩
theorem chain3 {n : Int} {l : List (List Pt)} {a b c : List Pt} (h : chain n l) (ha : l[0]? = some a) (hb : l[1]? = some b) (hc : l[2]? = some c) : okOp a = true ∧ okOp b = true ∧ okOp c = true ∧ sumK a + sumP a = sumK b + sumD b ∧ sumK b + sumP b = sumK c + sumD c := by
  match l, h, ha, hb, hc with
  | x :: y :: z :: r, h, ha, hb, hc =>
    simp at ha hb hc
    subst ha
    subst hb
    subst hc
    obtain ⟨q1, q2, _, q3, q4, _, q5, q6, _⟩ := h
    exact ⟨q1, q3, q5, q4.symm, q6.symm⟩
end Go.Proofs.Ytmlkeflnnaabeaa.low


/-
  Positions: what the laws on PutAt, DropAt and two insertions at one place want of lists.
-/
namespace Go.Proofs.Ytmlkeflnnaabeaa.low
open Go.RowKit
set_option linter.unusedVariables false

theorem countK_zero {o : List Pt} (ht : ∀ p ∈ o, tidy p) (hu : U.d ∉ units o) : countK o 3 = 0 := by
  unfold countK
  have : o.filter (fun p => p.kind == 3) = [] := by
    rw [List.filter_eq_nil_iff]
    intro p hp hk
    have hk' : p.kind = 3 := by simpa using hk
    apply hu
    unfold units
    rw [List.mem_flatMap]
    refine ⟨p, hp, ?_⟩
    have h := ht p hp
    unfold tidy at h
    have e : unitsP p = List.replicate p.n.toNat .d := by simp [unitsP, hk']
    rw [e, List.mem_replicate]
    exact ⟨by omega, rfl⟩
  rw [this]
  rfl
theorem opAtU_good {n x m : Nat} {l : List Int} (hl : allB l = true) : goodU (opAtU n x l m) := by
  intro z hz
  unfold opAtU at hz
  simp only [List.mem_append, List.mem_replicate, List.mem_map] at hz
  rcases hz with ⟨_, h⟩ | ⟨y, hy, h⟩ | ⟨_, h⟩ | ⟨_, h⟩
  · cases h
  · injection h with h
    subst h
    exact List.all_eq_true.1 hl y hy
  · cases h
  · cases h
/-- an insertion or a deletion at a place, on texts of moderate length -/
theorem opAt_ok {n x m : Nat} {l : List Int} (hn : n ≤ 100) (hx : x + m ≤ n) (hl : l.length ≤ 100) (hg : allB l = true) : opAtB (n : Int) (x : Int) l (m : Int) = true ∧ opAtT (n : Int) (x : Int) l (m : Int) = made (opAtU n x l m) ∧ okOp (made (opAtU n x l m)) = true ∧ normal (made (opAtU n x l m)) ∧ sumK (made (opAtU n x l m)) + sumD (made (opAtU n x l m)) = (n : Int) ∧ sumK (made (opAtU n x l m)) + sumP (made (opAtU n x l m)) = ((n - m + l.length : Nat) : Int) ∧ units (made (opAtU n x l m)) = opAtU n x l m := by
  obtain ⟨s1, s2⟩ := opAtU_src n x m l hx
  obtain ⟨m1, m2, m3, m4⟩ := made_ok (us := opAtU n x l m) (by omega) (by omega) (opAtU_good hg)
  have e := opAt_made n x m l (by omega) hx (by omega)
  have eB : opAtB (n : Int) (x : Int) l (m : Int) = true := by
    unfold opAtB opAtC inB
    rw [e, m1, hg]
    simp
    omega
  refine ⟨eB, ?_, m1, m2, by rw [m3, s1], by rw [m4, s2], by rw [units_made, nf_opAt]⟩
  unfold opAtT
  rw [if_pos eB, e]
theorem allB_parts {a b : List Int} (h : allB (a ++ b) = true) : allB a = true ∧ allB b = true := by rw [allB_app, Bool.and_eq_true] at h; exact h
theorem okText_parts {t : List Int} (h : okText t = true) : allB t = true ∧ t.length ≤ 200 := by
  unfold okText at h
  rw [Bool.and_eq_true, decide_eq_true_eq] at h
  exact h
theorem okText_mkB {t : List Int} (h : allB t = true) (hl : t.length ≤ 200) : okText t = true := by
  unfold okText
  rw [h, decide_eq_true hl]
  rfl
theorem text_put {t l : List Int} {x : Nat} (ht : allB t = true) (hl : allB l = true) : allB (t.take x ++ (l ++ t.drop x)) = true := by
  have := allB_parts (a := t.take x) (b := t.drop x) (by rw [List.take_append_drop]; exact ht)
  rw [allB_app, allB_app, this.1, this.2, hl]
  rfl
theorem opAt_smP {n x m : Int} {l : List Int} (h : okOp (opAtT n x l m) = true) : SmP (opAtT n x l m) := by
  obtain ⟨_, h2, h3⟩ := okOp_units h
  refine ⟨by omega, ?_⟩
  have := signsIn_le h2
  omega
/-- an insertion, and the deletion that takes it back -/
theorem place_ok {t l : List Int} {x : Nat} (ht : okText t = true) (hl : okText l = true) (h1 : t.length ≤ 12) (h2 : l.length ≤ 12) (hx : x ≤ t.length) :
    opAtB (t.length : Int) (x : Int) l 0 = true ∧ fitsB (opAtT (t.length : Int) (x : Int) l 0) t = true ∧ applyT (opAtT (t.length : Int) (x : Int) l 0) t = t.take x ++ (l ++ t.drop x) ∧ okText (t.take x ++ (l ++ t.drop x)) = true ∧ (t.take x ++ (l ++ t.drop x)).length = t.length + l.length ∧
    opAtB ((t.length : Int) + (l.length : Int)) (x : Int) [] (l.length : Int) = true ∧ fitsB (opAtT ((t.length : Int) + (l.length : Int)) (x : Int) [] (l.length : Int)) (t.take x ++ (l ++ t.drop x)) = true ∧ applyT (opAtT ((t.length : Int) + (l.length : Int)) (x : Int) [] (l.length : Int)) (t.take x ++ (l ++ t.drop x)) = t ∧
    SmP (opAtT (t.length : Int) (x : Int) l 0) ∧ SmP (opAtT ((t.length : Int) + (l.length : Int)) (x : Int) [] (l.length : Int)) ∧ countK (opAtT (t.length : Int) (x : Int) l 0) 3 = 0 ∧ ((t.take x ++ (l ++ t.drop x)).drop x).take l.length = l := by
  obtain ⟨ta, tl⟩ := okText_parts ht
  obtain ⟨la, ll⟩ := okText_parts hl
  have hp : (t.take x ++ (l ++ t.drop x)).length = t.length + l.length := by simp; omega
  have hpo : okText (t.take x ++ (l ++ t.drop x)) = true := okText_mkB (text_put ta la) (by omega)
  have a := opAt_ok (n := t.length) (x := x) (m := 0) (l := l) (by omega) (by omega) (by omega) la
  have b := opAt_ok (n := t.length + l.length) (x := x) (m := l.length) (l := []) (by omega) (by omega) (by simp) rfl
  rw [Int.natCast_zero] at a
  rw [Int.natCast_add] at b
  obtain ⟨a1, a2, a3, a4, a5, a6, a7⟩ := a
  obtain ⟨b1, b2, b3, b4, b5, b6, b7⟩ := b
  rw [a2, b2]
  obtain ⟨c1, c2, c3, c4, c5⟩ := apply_ok a3 ht a5
  obtain ⟨d1, d2, d3, d4, d5⟩ := apply_ok b3 hpo (by rw [b5, hp]; simp)
  have hx2 : (t.take x).length = x := by rw [List.length_take]; omega
  have e1 : (t.take x ++ (l ++ t.drop x)).drop x = l ++ t.drop x := by
    have := List.drop_left (l₁ := t.take x) (l₂ := l ++ t.drop x)
    rwa [hx2] at this
  refine ⟨a1, c1, ?_, hpo, hp, b1, d1, ?_, ?_, ?_, ?_, by rw [e1, List.take_left]⟩
  · rw [c2, a7, put_apply rfl hx]
  · rw [d2, b7, drop_apply hp (by omega)]
    have e2 : (t.take x ++ (l ++ t.drop x)).take x = t.take x := by
      have := List.take_left (l₁ := t.take x) (l₂ := l ++ t.drop x)
      rwa [hx2] at this
    rw [e2, ← List.drop_drop, e1, List.drop_left, List.take_append_drop]
  · have := opAt_smP (n := (t.length : Int)) (x := (x : Int)) (m := 0) (l := l) (by rw [a2]; exact a3)
    rwa [a2] at this
  · have := opAt_smP (n := (t.length : Int) + (l.length : Int)) (x := (x : Int)) (m := (l.length : Int)) (l := []) (by rw [b2]; exact b3)
    rwa [b2] at this
  · refine countK_zero a4.1 ?_
    rw [a7]
    unfold opAtU
    simp
/-- two insertions at one place: the characters of the first come first -/
theorem tie_ok {t : List Int} {x : Nat} (ht : okText t = true) (h1 : t.length ≤ 12) (hx : x ≤ t.length) :
    opAtB (t.length : Int) (x : Int) [65, 66] 0 = true ∧ opAtB (t.length : Int) (x : Int) [90] 0 = true ∧ xformOk (opAtT (t.length : Int) (x : Int) [65, 66] 0) (opAtT (t.length : Int) (x : Int) [90] 0) = true ∧ SmP (opAtT (t.length : Int) (x : Int) [65, 66] 0) ∧ SmP (opAtT (t.length : Int) (x : Int) [90] 0) ∧ SmP (xformB (opAtT (t.length : Int) (x : Int) [65, 66] 0) (opAtT (t.length : Int) (x : Int) [90] 0)) ∧
    applyAllB [opAtT (t.length : Int) (x : Int) [65, 66] 0, xformB (opAtT (t.length : Int) (x : Int) [65, 66] 0) (opAtT (t.length : Int) (x : Int) [90] 0)] t = true ∧ applyAllT [opAtT (t.length : Int) (x : Int) [65, 66] 0, xformB (opAtT (t.length : Int) (x : Int) [65, 66] 0) (opAtT (t.length : Int) (x : Int) [90] 0)] t = t.take x ++ ([65, 66] ++ ([90] ++ t.drop x)) := by
  have a := opAt_ok (n := t.length) (x := x) (m := 0) (l := [65, 66]) (by omega) (by omega) (by simp) (by decide)
  have b := opAt_ok (n := t.length) (x := x) (m := 0) (l := [90]) (by omega) (by omega) (by simp) (by decide)
  rw [Int.natCast_zero] at a b
  obtain ⟨a1, a2, a3, a4, a5, a6, a7⟩ := a
  obtain ⟨b1, b2, b3, b4, b5, b6, b7⟩ := b
  have sa := opAt_smP (n := (t.length : Int)) (x := (x : Int)) (m := 0) (l := [65, 66]) (by rw [a2]; exact a3)
  have sb := opAt_smP (n := (t.length : Int)) (x := (x : Int)) (m := 0) (l := [90]) (by rw [b2]; exact b3)
  rw [a2] at sa
  rw [b2] at sb
  rw [a2, b2]
  have hsum : sumK (made (opAtU t.length x [90] 0)) + sumP (made (opAtU t.length x [90] 0)) + sumP (made (opAtU t.length x [65, 66] 0)) ≤ 200 := by
    have h := okOp_of a3
    obtain ⟨t1, t2, t3⟩ := sum_t (okOp_partsB a3)
    rw [b6]
    have : sumK (made (opAtU t.length x [65, 66] 0)) + sumP (made (opAtU t.length x [65, 66] 0)) ≤ 20 := by rw [a6]; simp; omega
    have h0 : 0 ≤ sumK (made (opAtU t.length x [65, 66] 0)) := by rw [t1]; exact h.2.2.2.2.1
    simp
    omega
  obtain ⟨m1, m2, m3, m4, m5, m6, m7, m8, m9, m10, m11, m12⟩ := xform_ok a3 b3 ht a5 b5 hsum
  obtain ⟨c1, c2, c3, c4, c5⟩ := apply_ok a3 ht a5
  obtain ⟨d1, d2, d3, d4, d5⟩ := apply_ok m3 c3 (by rw [m7, c4])
  have hyu : units (xformB (made (opAtU t.length x [65, 66] 0)) (made (opAtU t.length x [90] 0))) = nfU (xf (opAtU t.length x [65, 66] 0) (opAtU t.length x [90] 0)).2 := by
    unfold xformB
    rw [if_pos m1]
    unfold xfB
    rw [a7, b7]
    exact units_norm _
  have hall : applyAllB [made (opAtU t.length x [65, 66] 0), xformB (made (opAtU t.length x [65, 66] 0)) (made (opAtU t.length x [90] 0))] t = true := by
    unfold applyAllB foldAll
    simp [stepAll, c1, d1, ht]
  refine ⟨a1, b1, m1, sa, sb, xformB_sm _ _, hall, ?_⟩
  unfold applyAllT
  rw [if_pos hall]
  unfold foldAll
  simp only [List.foldl_cons, List.foldl_nil, stepAll, c1, d1, if_true, Option.getD_some]
  rw [d2, hyu, apply_nf, c2, a7, tie_apply rfl hx]
theorem idle_keep {n : Nat} (h : n ≤ 200) : idleB (keepL (n : Int)) = true := by
  obtain ⟨h1, h2, h3, h4, h5⟩ := keepL_ok h
  obtain ⟨t1, t2, t3⟩ := sum_t (okOp_partsB h1)
  have hk : sumOf keepOf (keepL (n : Int)) = (n : Int) := by
    unfold keepL
    split
    · simp [sumOf, keepOf]
    · simp [sumOf]
      omega
  unfold idleB putsN dropsN
  rw [h1]
  simp
  omega
theorem intsNil {w : World} {B : Nat} {A : Option Addr} {c : Nat} : RdC w B (encInts []) (.slice A 0 c) := ⟨A, c, by simp, by simp, fun h => by simp at h⟩
theorem op_bulk2 {o : List Pt} (h : okOp o = true) : o.length + signsIn o ≤ 130000 := by
  obtain ⟨_, h2, h3⟩ := okOp_units h
  have := signsIn_le h2
  omega
theorem opAtT_bulk (n x m : Int) (l : List Int) : (opAtT n x l m).length + signsIn (opAtT n x l m) ≤ 130000 := by
  unfold opAtT
  split
  · rename_i h
    unfold opAtB at h
    rw [Bool.and_eq_true] at h
    exact op_bulk2 h.2
  · simp [signsIn]
theorem xformB_bulk (a b : List Pt) : (xformB a b).length + signsIn (xformB a b) ≤ 130000 := by
  unfold xformB
  split
  · rename_i h
    unfold xformOk at h
    rw [Bool.and_eq_true] at h
    exact op_bulk2 h.2
  · simp [signsIn]
end Go.Proofs.Ytmlkeflnnaabeaa.low


/-
  Positions: literal slices in memory; a text with three characters put in.
-/
namespace Go.Proofs.Ytmlkeflnnaabeaa.low
open Go.RowKit
set_option linter.unusedVariables false

theorem row_one (w : World) (a : Int) (T : TypeId) : Row (Value.int .i64) (w.alloc (.cells #[.int .i64 a] T)) (w.alloc (.cells #[.int .i64 a] T)).heap.size (some ⟨w.heap.size, 0, none⟩) [a] := fun _ => by
  refine ⟨⟨w.heap.size, 0, none⟩, rfl, by simp, fun j z hz => ?_⟩
  have hh := heap_alloc_new w (.cells #[.int .i64 a] T)
  rw [add_at]
  match j, hz with
  | 0, hz => simp at hz; subst hz; exact cell_of_row _ _ 0 _ _ _ hh
  | j + 1, hz => simp at hz
theorem pss_two {w : World} {va vy : Value} {a y : List Pt} (T : TypeId) (ra : RdC w w.heap.size (encPs a) va) (ry : RdC w w.heap.size (encPs y) vy) : RdC (w.alloc (.cells #[va, vy] T)) (w.alloc (.cells #[va, vy] T)).heap.size (encPss [a, y]) (.slice (some ⟨w.heap.size, 0, none⟩) 2 2) := by
  have hb := alloc_below w (.cells #[va, vy] T)
  have hh := heap_alloc_new w (.cells #[va, vy] T)
  refine ⟨some ⟨w.heap.size, 0, none⟩, 2, rfl, by simp, fun _ => ⟨⟨w.heap.size, 0, none⟩, rfl, by simp, .inl rfl, ?_⟩⟩
  exact ⟨⟨⟨va, by rw [add_at]; exact cell_of_row _ _ 0 _ _ _ hh, ra.past hb⟩, trivial⟩, ⟨⟨vy, by rw [add_at]; exact cell_of_row _ _ 1 _ _ _ hh, ry.past hb⟩, trivial⟩, trivial⟩
theorem tie_text {t : List Int} {x : Nat} (hx : x ≤ t.length) : (t.take x ++ ([65, 66] ++ ([90] ++ t.drop x)) : List Int).length = t.length + 3 ∧ (t.take x ++ ([65, 66] ++ ([90] ++ t.drop x)) : List Int)[x]? = some 65 ∧ (t.take x ++ ([65, 66] ++ ([90] ++ t.drop x)) : List Int)[x + 1]? = some 66 ∧ (t.take x ++ ([65, 66] ++ ([90] ++ t.drop x)) : List Int)[x + 2]? = some 90 := by
  have l : (t.take x).length = x := by rw [List.length_take]; omega
  refine ⟨by simp; omega, ?_, ?_, ?_⟩
  · rw [List.getElem?_append_right (by omega), l]; simp
  · rw [List.getElem?_append_right (by omega), l]; simp
  · rw [List.getElem?_append_right (by omega), l]; simp
theorem pss_small {a y : List Pt} (ha : SmP a) (hy : SmP y) (h : a.length + signsIn a + (y.length + signsIn y) ≤ 1048576) : SmPP [a, y] := ⟨by simp, by simp [bulk]; omega⟩
end Go.Proofs.Ytmlkeflnnaabeaa.low


/-
  A builder and a reader inside a larger struct: the block at g holds D; the builder's three cells stand at o, the others are as C says.
-/
namespace Go.Proofs.Ytmlkeflnnaabeaa.low.xb
open Go.RowKit
set_option linter.unusedVariables false

/-- the block at g, of the type T, holds what D says -/
def Blk (g : Nat) (T : TypeId) (w : World) (D : Nat → Option Value) : Prop := ∃ cs, w.heap[g]? = some (.cells cs T (0, 0)) ∧ ∀ i, cs[i]? = D i
/-- D with one cell changed -/
def upd (D : Nat → Option Value) (i : Nat) (v : Value) : Nat → Option Value := fun j => if j = i then some v else D j
theorem upd_at (D : Nat → Option Value) (i : Nat) (v : Value) : upd D i v i = some v := by simp [upd]
theorem upd_ne {D : Nat → Option Value} {i j : Nat} (v : Value) (h : ¬ j = i) : upd D i v j = D j := by simp [upd, h]
section
variable {g i : Nat} {T : TypeId} {w w' : World} {D : Nat → Option Value} {u : Value}
theorem Blk.lt (h : Blk g T w D) : g < w.heap.size := by obtain ⟨cs, h1, _⟩ := h; exact lt_of_some h1
theorem Blk.cell (h : Blk g T w D) (i : Nat) : w.cell? ⟨g, i, none⟩ = D i := by
  obtain ⟨cs, h1, h2⟩ := h
  rw [cell_of_row _ _ i _ _ _ h1]
  exact h2 i
theorem Blk.free (h : Blk g T w D) (i : Nat) : w.frozen? ⟨g, i, none⟩ = false := by
  obtain ⟨cs, h1, h2⟩ := h
  simp [World.frozen?, h1]
theorem Blk.keep (h : Blk g T w D) (hk : w'.heap[g]? = w.heap[g]?) : Blk g T w' D := by
  obtain ⟨cs, h1, h2⟩ := h
  exact ⟨cs, hk.trans h1, h2⟩
theorem Blk.past (h : Blk g T w D) (hb : Below w.heap.size w w') : Blk g T w' D := h.keep (hb.block _ h.lt)
theorem Blk.set (h : Blk g T w D) (hi : D i = some u) (v : Value) : Blk g T (w.setCell ⟨g, i, none⟩ v) (upd D i v) := by
  obtain ⟨cs, h1, h2⟩ := h
  refine ⟨_, heap_setCell_same _ _ _ _ _ _ h1, fun j => ?_⟩
  rw [Array.getElem?_setIfInBounds]
  by_cases e : i = j
  · subst e
    rw [upd_at]
    have := h2 i
    rw [hi] at this
    simp only [if_true]
    rw [if_pos (by rcases Nat.lt_or_ge i cs.size with hl | hg; exact hl; rw [Array.getElem?_eq_none hg] at this; cases this)]
  · rw [if_neg e, upd_ne _ (fun k => e k.symm)]
    exact h2 j
theorem Blk.far {base n size : Nat} {x : Value} {e : TypeId} {xs : List Value} (h : Blk g T w D) (hr : w.ownsRow base e size x n xs) (hT : ¬ T = e) : ¬ x.ownBlock = some g := by
  obtain ⟨cs, h1, _⟩ := h
  exact own_far hr h1 hT
theorem Blk.grown {w0 w1 : World} {r : Option Nat} (h : Blk g T w D) (h0 : Below w.heap.size w w0) (hgrow : w0.grownBy w1 r) (hne : ¬ r = some g) : Blk g T w1 D := by
  refine h.keep ?_
  rw [hgrow.block g (Nat.lt_of_lt_of_le h.lt h0.size) (fun e => hne e.symm), h0.block g h.lt]
end

/-- the builder's three cells at o in the block at g; the block's other cells are as C says -/
structure Box (lo g o : Nat) (C : Nat → Option Value) (T : TypeId) (w : World) (v u : Value) (d : Int) (ps : List Pt) (us : List Value) : Prop where
  box : ∃ D, Blk g T w D ∧ D o = some v ∧ D (o + 1) = some u ∧ D (o + 2) = some (.int .i64 d) ∧ ∀ i, i < o ∨ o + 3 ≤ i → D i = C i
  row : w.ownsRow lo 80 3 v ps.length (cellsOf ps us)
  len : us.length = ps.length
  low : lo ≤ g
section
variable {lo g o : Nat} {C : Nat → Option Value} {T : TypeId} {w w0 w1 : World} {v u : Value} {d : Int} {ps : List Pt} {us : List Value}
theorem Box.cell0 (h : Box lo g o C T w v u d ps us) : w.cell? ⟨g, o, none⟩ = some v := by obtain ⟨D, h1, h2, h3, h4, _⟩ := h.box; rw [h1.cell]; exact h2
theorem Box.cell1 (h : Box lo g o C T w v u d ps us) : w.cell? ⟨g, o + 1, none⟩ = some u := by obtain ⟨D, h1, h2, h3, h4, _⟩ := h.box; rw [h1.cell]; exact h3
theorem Box.cell2 (h : Box lo g o C T w v u d ps us) : w.cell? ⟨g, o + 2, none⟩ = some (.int .i64 d) := by obtain ⟨D, h1, h2, h3, h4, _⟩ := h.box; rw [h1.cell]; exact h4
theorem Box.free (h : Box lo g o C T w v u d ps us) (i : Nat) : w.frozen? ⟨g, i, none⟩ = false := by obtain ⟨D, h1, _⟩ := h.box; exact h1.free i
theorem Box.lt (h : Box lo g o C T w v u d ps us) : g < w.heap.size := by obtain ⟨D, h1, _⟩ := h.box; exact h1.lt
theorem Box.far {base n size : Nat} {x : Value} {e : TypeId} {xs : List Value} (h : Box lo g o C T w v u d ps us) (hr : w.ownsRow base e size x n xs) (hT : ¬ T = e) : ¬ x.ownBlock = some g := by
  obtain ⟨D, h1, _⟩ := h.box
  exact h1.far hr hT
theorem Box.freeG {r : Option Nat} (h : Box lo g o C T w v u d ps us) (i : Nat) (h0 : Below w.heap.size w w0) (hgrow : w0.grownBy w1 r) (hne : ¬ r = some g) : w1.frozen? ⟨g, i, none⟩ = false := by
  obtain ⟨D, h1, _⟩ := h.box
  exact (h1.grown h0 hgrow hne).free i
theorem Box.cellG0 {r : Option Nat} (h : Box lo g o C T w v u d ps us) (h0 : Below w.heap.size w w0) (hgrow : w0.grownBy w1 r) (hne : ¬ r = some g) : w1.cell? ⟨g, o, none⟩ = some v := by
  obtain ⟨D, h1, h2, h3, h4, _⟩ := h.box
  rw [(h1.grown h0 hgrow hne).cell]
  exact h2
theorem Box.cellG1 {r : Option Nat} (h : Box lo g o C T w v u d ps us) (h0 : Below w.heap.size w w0) (hgrow : w0.grownBy w1 r) (hne : ¬ r = some g) : w1.cell? ⟨g, o + 1, none⟩ = some u := by
  obtain ⟨D, h1, h2, h3, h4, _⟩ := h.box
  rw [(h1.grown h0 hgrow hne).cell]
  exact h3
theorem Box.cellG2 {r : Option Nat} (h : Box lo g o C T w v u d ps us) (h0 : Below w.heap.size w w0) (hgrow : w0.grownBy w1 r) (hne : ¬ r = some g) : w1.cell? ⟨g, o + 2, none⟩ = some (.int .i64 d) := by
  obtain ⟨D, h1, h2, h3, h4, _⟩ := h.box
  rw [(h1.grown h0 hgrow hne).cell]
  exact h4
end

/-- a part more: behind the making of a block of one part, the append and the store -/
theorem Box.push {lo g o gg cap : Nat} {C : Nat → Option Value} {T : TypeId} {w w0 w1 : World} {v u : Value} {d : Int} {ps : List Pt} {us : List Value} {p : Pt} {u' : Value} (h : Box lo g o C T w v u d ps us) (hT1 : ¬ T = 3) (hT2 : ¬ T = 80)
    (ha : Apart lo w.heap.size w (ps ++ [p]) (us ++ [u'])) (h0 : Below w.heap.size w w0) 
    (hown : w1.ownsRow lo 80 3 (.slice (some ⟨gg, 0, none⟩) (ps.length + 1) cap) (ps.length + 1) (cellsOf ps us ++ [.int .i64 p.kind, .int .i64 p.n, u']))
    (hgrow : w0.grownBy w1 v.ownBlock) :
    Box lo g o C T (w1.setCell ⟨g, o, none⟩ (.slice (some ⟨gg, 0, none⟩) (ps.length + 1) cap)) (.slice (some ⟨gg, 0, none⟩) (ps.length + 1) cap) u d (ps ++ [p]) (us ++ [u']) ∧
    Apart lo (w1.setCell ⟨g, o, none⟩ (.slice (some ⟨gg, 0, none⟩) (ps.length + 1) cap)).heap.size (w1.setCell ⟨g, o, none⟩ (.slice (some ⟨gg, 0, none⟩) (ps.length + 1) cap)) (ps ++ [p]) (us ++ [u']) ∧
    Below lo w (w1.setCell ⟨g, o, none⟩ (.slice (some ⟨gg, 0, none⟩) (ps.length + 1) cap)) := by
  have hlt := h.lt
  obtain ⟨D, hD, k1, k2, k3, k4⟩ := h.box
  have hsz : w.heap.size ≤ w1.heap.size := Nat.le_trans h0.size hgrow.size
  have hold : ∀ k, k < w.heap.size → ¬ v.ownBlock = some k → w1.heap[k]? = w.heap[k]? := fun k hk hne => by
    rw [hgrow.block k (Nat.lt_of_lt_of_le hk h0.size) (fun e => hne e.symm), h0.block k hk]
  have hg1 := hD.grown h0 hgrow (hD.far h.row hT2)
  have hgg : ¬ (Value.slice (some ⟨gg, 0, none⟩) (ps.length + 1) cap).ownBlock = some g := hg1.far hown hT2
  refine ⟨⟨⟨_, hg1.set k1 _, upd_at _ _ _, by rw [upd_ne _ (by omega)]; exact k2, by rw [upd_ne _ (by omega)]; exact k3, fun i hi => by rw [upd_ne _ (by omega)]; exact k4 i hi⟩, ?_, by simp [h.len], h.low⟩, ?_, ?_⟩
  · rw [cellsOf_snoc _ _ _ _ h.len]
    have := ownsRow_setCell_other hown (a := ⟨g, o, none⟩) hgg (.slice (some ⟨gg, 0, none⟩) (ps.length + 1) cap)
    simpa using this
  · refine ha.keep (by simp; exact hsz) (fun i x k hx hk1 hk2 => ?_)
    obtain ⟨q, hq⟩ := idx_some (l := ps ++ [p]) (i := i) (by rw [← ha.1]; exact idx_lt hx)
    have hox := (ha.2.1 i q x hq hx).1
    have hkg : ¬ k = g := fun e => hD.far hox hT1 (by rw [hk1, e])
    rw [Below.heap_setCell _ _ _ _ hkg, hold k hk2]
    intro hv
    obtain ⟨c1, e1⟩ := own_blk hox hk1
    obtain ⟨c2, e2⟩ := own_blk h.row hv
    rw [e1] at e2
    injection e2 with e2
    injection e2 with _ ht _
    exact absurd ht (by decide)
  · refine Below.setCell ?_ h.low _
    have hb : Below lo w w0 := h0.mono (Nat.le_trans h.low (Nat.le_of_lt hlt))
    exact hb.grown hgrow (Nat.le_trans (Nat.le_trans h.low (Nat.le_of_lt hlt)) h0.size) (fun k hk => own_ge h.row k hk)

theorem push_fr {S : Nat → Prop} {g o : Nat} {v : Value} {us : List Value} {w w0 w1 : World} (h : OwnS S g v us) (h0 : Below w.heap.size w w0) (hg : w0.grownBy w1 v.ownBlock) (x : Value) : Fr S w (w1.setCell ⟨g, o, none⟩ x) :=
  ((Fr.below h0).grown hg (fun k hk => h.2.1 k hk)).setCell h.1 x
/-- the builder: its parts, what is to be put, what is dropped; its blocks lie in S -/
def BAtS (S : Nat → Prop) (lo g o : Nat) (C : Nat → Option Value) (T : TypeId) (w : World) (ps : List Pt) (put : List Int) (d : Int) : Prop :=
  ∃ v u us, Box lo g o C T w v u d ps us ∧ Apart lo w.heap.size w (ps ++ [⟨2, 0, put⟩]) (us ++ [u]) ∧ OwnS S g v (us ++ [u])
def BNilS (S : Nat → Prop) (lo g o : Nat) (C : Nat → Option Value) (T : TypeId) (w : World) (ps : List Pt) : Prop := ∃ v us, Box lo g o C T w v (.slice none 0 0) 0 ps us ∧ Apart lo w.heap.size w ps us ∧ OwnS S g v us
def FlushedS (S : Nat → Prop) (lo g o : Nat) (C : Nat → Option Value) (T : TypeId) (w : World) (ps : List Pt) (e : Ending) (w' : World) : Prop := e = .returned (.tuple #[]) ∧ BNilS S lo g o C T w' ps ∧ Below lo w w' ∧ Fr S w w'
def BuiltS (S : Nat → Prop) (lo g o : Nat) (C : Nat → Option Value) (T : TypeId) (w : World) (ps : List Pt) (put : List Int) (d : Int) (e : Ending) (w' : World) : Prop := e = .returned (.tuple #[]) ∧ BAtS S lo g o C T w' ps put d ∧ Below lo w w' ∧ Fr S w w'
theorem BNilS.at_ {S : Nat → Prop} {lo g o : Nat} {C : Nat → Option Value} {T : TypeId} {w : World} {ps : List Pt} (h : BNilS S lo g o C T w ps) : BAtS S lo g o C T w ps [] 0 := by
  obtain ⟨v, us, hx, ha, ho⟩ := h
  refine ⟨v, _, us, hx, Apart.bare 2 0 ha, ho.1, ho.2.1, fun i k x hxi hk => ?_⟩
  by_cases hi : i < us.length
  · rw [List.getElem?_append_left hi] at hxi
    exact ho.2.2 i k x hxi hk
  · rw [List.getElem?_append_right (by omega)] at hxi
    have hx' : i - us.length = 0 := by
      have := idx_lt hxi
      simp at this
      omega
    rw [hx'] at hxi
    simp at hxi
    subst hxi
    simp [Value.ownBlock] at hk
theorem Box.clearS {S : Nat → Prop} {lo g o : Nat} {C : Nat → Option Value} {T : TypeId} {w : World} {v u : Value} {d : Int} {ps : List Pt} {us : List Value} (h : Box lo g o C T w v u d ps us) (hT1 : ¬ T = 3) (hT2 : ¬ T = 80) (ha : Apart lo w.heap.size w ps us) (ho : OwnS S g v us) :
    BNilS S lo g o C T ((w.setCell ⟨g, o + 1, none⟩ (.slice none 0 0)).setCell ⟨g, o + 2, none⟩ (.int .i64 0)) ps ∧ Below lo w ((w.setCell ⟨g, o + 1, none⟩ (.slice none 0 0)).setCell ⟨g, o + 2, none⟩ (.int .i64 0)) ∧ Fr S w ((w.setCell ⟨g, o + 1, none⟩ (.slice none 0 0)).setCell ⟨g, o + 2, none⟩ (.int .i64 0)) := by
  obtain ⟨D, hD, k1, k2, k3, k4⟩ := h.box
  have k3' : upd D (o + 1) (.slice none 0 0) (o + 2) = some (.int .i64 d) := by rw [upd_ne _ (by omega)]; exact k3
  refine ⟨⟨v, us, ⟨⟨_, (hD.set k2 _).set k3' _, by rw [upd_ne _ (by omega), upd_ne _ (by omega)]; exact k1, by rw [upd_ne _ (by omega), upd_at], upd_at _ _ _, fun i hi => by rw [upd_ne _ (by omega), upd_ne _ (by omega)]; exact k4 i hi⟩, ?_, h.len, h.low⟩, ?_, ho⟩, ((Below.refl _ _).setCell h.low _).setCell h.low _, ((Fr.refl S w).setCell (p := ⟨g, o + 1, none⟩) ho.1 _).setCell (p := ⟨g, o + 2, none⟩) ho.1 _⟩
  · exact ownsRow_setCell_other (ownsRow_setCell_other h.row (hD.far h.row hT2) _) (hD.far h.row hT2) _
  · refine ha.keep (by simp) (fun i x k hx hk1 hk2 => ?_)
    obtain ⟨q, hq⟩ := idx_some (l := ps) (i := i) (by rw [← ha.1]; exact idx_lt hx)
    have hkg : ¬ k = g := fun e => hD.far (ha.2.1 i q x hq hx).1 hT1 (by rw [hk1, e])
    rw [Below.heap_setCell _ _ _ _ hkg, Below.heap_setCell _ _ _ _ hkg]
/-- more characters to be put: behind the append and the store -/
theorem Box.moreS {S : Nat → Prop} {lo g o : Nat} {C : Nat → Option Value} {T : TypeId} {w w1 : World} {v u v' : Value} {d : Int} {ps : List Pt} {us : List Value} {put put' : List Int} (h : Box lo g o C T w v u d ps us) (hT1 : ¬ T = 3) (hT2 : ¬ T = 80)
    (ha : Apart lo w.heap.size w (ps ++ [⟨2, 0, put⟩]) (us ++ [u])) (hown : w1.ownsRow lo 3 1 v' put'.length (put'.map (Value.int .i64))) (hgrow : w.grownBy w1 u.ownBlock) (hat : v'.ownBlock = u.ownBlock ∨ v'.ownBlock = some w.heap.size) (hos : OwnS S g v (us ++ [u])) (hS : S w.heap.size) :
    BAtS S lo g o C T (w1.setCell ⟨g, o + 1, none⟩ v') ps put' d ∧ Below lo w (w1.setCell ⟨g, o + 1, none⟩ v') ∧ Fr S w (w1.setCell ⟨g, o + 1, none⟩ v') := by
  have hlt := h.lt
  obtain ⟨D, hD, k1, k2, k3, k4⟩ := h.box
  have hu := ha.last h.len
  have ha0 := ha.init h.len
  have hold : ∀ k, k < w.heap.size → ¬ u.ownBlock = some k → w1.heap[k]? = w.heap[k]? := fun k hk hne => hgrow.block k hk (fun e => hne e.symm)
  have hg1 := hD.grown (Below.refl _ _) hgrow (hD.far hu hT1)
  have hvg := hg1.far hown hT1
  have hlow : lo ≤ w.heap.size := Nat.le_trans h.low (Nat.le_of_lt hlt)
  have hv' : ∀ k, v'.ownBlock = some k → S k := fun k hk => by
    rcases hat with e | e
    · exact hos.last k (by rw [← e]; exact hk)
    · rw [e] at hk
      injection hk with hk
      rw [← hk]; exact hS
  have hos' : OwnS S g v (us ++ [v']) := ⟨hos.1, hos.2.1, fun i k x hx hk => by
    by_cases hi : i < us.length
    · rw [List.getElem?_append_left hi] at hx
      exact hos.init.2.2 i k x hx hk
    · rw [List.getElem?_append_right (by omega)] at hx
      have hx' : i - us.length = 0 := by
        have := idx_lt hx
        simp at this
        omega
      rw [hx'] at hx
      simp at hx
      subst hx
      exact hv' k hk⟩
  have hfr : Fr S w (w1.setCell ⟨g, o + 1, none⟩ v') := ((Fr.refl S w).grown hgrow (fun k hk => hos.last k hk)).setCell (p := ⟨g, o + 1, none⟩) hos.1 _
  refine ⟨⟨v, v', us, ⟨⟨_, hg1.set k2 _, by rw [upd_ne _ (by omega)]; exact k1, upd_at _ _ _, by rw [upd_ne _ (by omega)]; exact k3, fun i hi => by rw [upd_ne _ (by omega)]; exact k4 i hi⟩, ?_, h.len, h.low⟩, ?_, hos'⟩, ?_, hfr⟩
  · refine own_keep h.row (fun k hk1 hk2 => ?_)
    have hkg : ¬ k = g := fun e => hD.far h.row hT2 (by rw [hk1, e])
    rw [Below.heap_setCell _ _ _ _ hkg]
    refine hold k hk2 (fun hk3 => ?_)
    obtain ⟨c1, e1⟩ := own_blk h.row hk1
    exact own_far hu e1 (by decide) hk3
  · have hkeep : Apart lo (w1.setCell ⟨g, o + 1, none⟩ v').heap.size (w1.setCell ⟨g, o + 1, none⟩ v') ps us := by
      refine ha0.keep (by simp; exact hgrow.size) (fun i x k hx hk1 hk2 => ?_)
      obtain ⟨q, hq⟩ := idx_some (l := ps) (i := i) (by rw [← h.len]; exact idx_lt hx)
      have hkg : ¬ k = g := fun e => hD.far (ha0.2.1 i q x hq hx).1 hT1 (by rw [hk1, e])
      rw [Below.heap_setCell _ _ _ _ hkg]
      exact hold k hk2 (ha.far h.len hx hk1)
    refine hkeep.snoc (ownsRow_setCell_other hown hvg _) (fun k hk => ?_) (fun i x k hx hk1 hk2 => ?_)
    · obtain ⟨c1, e1⟩ := own_blk hown hk
      have := lt_of_some e1
      simpa using this
    · obtain ⟨q, hq⟩ := idx_some (l := ps) (i := i) (by rw [← h.len]; exact idx_lt hx)
      rcases hat with e | e
      · exact ha.far h.len hx hk1 (by rw [← e]; exact hk2)
      · obtain ⟨c1, e1⟩ := own_blk (ha0.2.1 i q x hq hx).1 hk1
        have := lt_of_some e1
        rw [hk2] at e
        injection e with e
        omega
  · refine Below.setCell ?_ h.low _
    exact (Below.refl _ _).grown hgrow hlow (fun k hk => own_ge hu k hk)
theorem Box.dropS {S : Nat → Prop} {lo g o : Nat} {C : Nat → Option Value} {T : TypeId} {w : World} {v u : Value} {d d' : Int} {ps : List Pt} {us : List Value} {put : List Int} (h : Box lo g o C T w v u d ps us) (hT1 : ¬ T = 3) (hT2 : ¬ T = 80)
    (ha : Apart lo w.heap.size w (ps ++ [⟨2, 0, put⟩]) (us ++ [u])) (hos : OwnS S g v (us ++ [u])) :
    BAtS S lo g o C T (w.setCell ⟨g, o + 2, none⟩ (.int .i64 d')) ps put d' ∧ Below lo w (w.setCell ⟨g, o + 2, none⟩ (.int .i64 d')) ∧ Fr S w (w.setCell ⟨g, o + 2, none⟩ (.int .i64 d')) := by
  obtain ⟨D, hD, k1, k2, k3, k4⟩ := h.box
  refine ⟨⟨v, u, us, ⟨⟨_, hD.set k3 _, by rw [upd_ne _ (by omega)]; exact k1, by rw [upd_ne _ (by omega)]; exact k2, upd_at _ _ _, fun i hi => by rw [upd_ne _ (by omega)]; exact k4 i hi⟩, ownsRow_setCell_other h.row (hD.far h.row hT2) _, h.len, h.low⟩, ha.keep (by simp) (fun i x k hx hk1 hk2 => ?_), hos⟩, (Below.refl _ _).setCell h.low _, (Fr.refl S w).setCell (p := ⟨g, o + 2, none⟩) hos.1 _⟩
  obtain ⟨q, hq⟩ := idx_some (l := ps ++ [⟨2, 0, put⟩]) (i := i) (by rw [← ha.1]; exact idx_lt hx)
  have hkg : ¬ k = g := fun e => hD.far (ha.2.1 i q x hq hx).1 hT1 (by rw [hk1, e])
  rw [Below.heap_setCell _ _ _ _ hkg]
/-- the last part's number is changed in place -/
theorem Box.setN {lo g o gv cap : Nat} {C : Nat → Option Value} {T : TypeId} {w : World} {u : Value} {d b : Int} {r : List Pt} {p : Pt} {us : List Value} (h : Box lo g o C T w (.slice (some ⟨gv, 0, none⟩) (r.length + 1) cap) u d (r ++ [p]) us) (hT1 : ¬ T = 3) (hT2 : ¬ T = 80)
    (ha : Apart lo w.heap.size w (r ++ [p]) us) :
    Box lo g o C T (w.setCell ⟨gv, r.length * 3 + 1, none⟩ (.int .i64 b)) (.slice (some ⟨gv, 0, none⟩) (r.length + 1) cap) u d (r ++ [⟨p.kind, b, p.signs⟩]) us ∧
    Apart lo (w.setCell ⟨gv, r.length * 3 + 1, none⟩ (.int .i64 b)).heap.size (w.setCell ⟨gv, r.length * 3 + 1, none⟩ (.int .i64 b)) (r ++ [⟨p.kind, b, p.signs⟩]) us ∧
    Below lo w (w.setCell ⟨gv, r.length * 3 + 1, none⟩ (.int .i64 b)) := by
  obtain ⟨D, hD, k1, k2, k3, k4⟩ := h.box
  have hgv := hD.far h.row hT2
  have hge := own_ge h.row gv rfl
  have hl : us.length = (r ++ [p]).length := h.len
  refine ⟨⟨⟨D, hD.keep (Below.heap_setCell _ _ _ _ (fun e => hgv (by simp [Value.ownBlock]; exact e.symm))), k1, k2, k3, k4⟩, ?_, by simpa using hl, h.low⟩, ?_, (Below.refl _ _).setCell hge _⟩
  · have e1 := cellsOf_setN (r ++ [p]) us r.length p b hl (by simp)
    have e2 : (r ++ [p]).set r.length ⟨p.kind, b, p.signs⟩ = r ++ [⟨p.kind, b, p.signs⟩] := by simp
    rw [e2] at e1
    rw [← e1]
    have := (World.ownsRow.stored (n := r.length + 1) (by simpa using h.row) (r.length * 3 + 1) (.int .i64 b)).1
    simpa using this
  · refine Apart.setN (p := p) (ha.keep (by simp) (fun i x k hx hk1 hk2 => ?_)) rfl
    obtain ⟨q, hq⟩ := idx_some (l := r ++ [p]) (i := i) (by rw [← hl]; exact idx_lt hx)
    obtain ⟨c1, e1⟩ := own_blk (ha.2.1 i q x hq hx).1 hk1
    have hne : ¬ k = gv := fun e => by
      subst e
      exact own_far h.row e1 (by decide) rfl
    rw [Below.heap_setCell _ _ _ _ hne]
theorem Box.parts {lo g o : Nat} {C : Nat → Option Value} {T : TypeId} {w : World} {v u : Value} {d : Int} {ps : List Pt} {us : List Value} (h : Box lo g o C T w v u d ps us) (ha : Apart lo w.heap.size w ps us) : PBuf lo w.heap.size w v ps :=
  ⟨us, h.row, ha, fun k hk => by obtain ⟨c1, e1⟩ := own_blk h.row hk; exact lt_of_some e1, Nat.le_refl _, Nat.le_trans h.low (Nat.le_of_lt h.lt)⟩
end Go.Proofs.Ytmlkeflnnaabeaa.low.xb


/-
  Contracts of the program's builder where it stands inside a larger struct: endRun, drop, put, done, keep.
-/
namespace Go.Proofs.Ytmlkeflnnaabeaa.low.xb
open Go.RowKit
set_option linter.unusedVariables false

/-- the builder's end: the parts, and what became of the block -/
def GoneX (S : Nat → Prop) (lo g o : Nat) (C : Nat → Option Value) (ps : List Pt) (w : World) (e : Ending) (w' : World) : Prop := GoneS S lo ps w e w' ∧ ∃ v u us, Box lo g o C 97 w' v u 0 ps us
set_option maxRecDepth 100000 in
set_option maxHeartbeats 3200000 in
theorem implFlush_f (S : Nat → Prop) (lo g o : Nat) (C : Nat → Option Value) (ps : List Pt) (put : List Int) (d : Int) (w : World) (hb : BAtS S lo g o C 97 w ps put d) (hS : ∀ b, w.heap.size ≤ b → S b) (hl : ps.length ≤ 4294967296) (hp : put.length ≤ 4294967296) :
    Calls Try.prog 84 #[.pointer (some ⟨g, o, none⟩)] w (FlushedS S lo g o C 97 w (ps ++ putL put ++ dropL d)) := by
  obtain ⟨i0, hi0, hz0, hz1, hz2⟩ := info_parts part_info
  obtain ⟨v, u, us, hx, ha, hos⟩ := hb
  have HS := Lib.hid hS
  have HOS := Lib.hid hos
  clear hS hos
  have ha0 := ha.init hx.len
  obtain ⟨A, c, rfl⟩ := own_form (ha.last hx.len)
  have c0 := hx.cell0
  have c1 := hx.cell1
  have c2 := hx.cell2
  have f0 := hx.free o
  have f1 := hx.free (o + 1)
  have f2 := hx.free (o + 2)
  have HX := Lib.hid hx
  have HA := Lib.hid ha
  have HA0 := Lib.hid ha0
  clear hx ha ha0
  by_cases hput : put.length = 0
  · have e1 : putL put = [] := by simp [putL, hput]
    rw [e1, List.append_nil]
    by_cases hd : 0 < d
    · have e2 : dropL d = [⟨3, d, []⟩] := by simp [dropL, hd]
      rw [e2]
      go_enter Try.func84, Try.ntmps84
      go_wp2_with fail
      have lg := HX.out.lt
      have hlo : lo ≤ w.heap.size := Nat.le_trans HX.out.low (Nat.le_of_lt lg)
      have hne := HX.out.far HX.out.row (by decide)
      go_region_law ((refine step_append_lies _ (by rfl) (.tmp 31) (.tmp 37) 26 (by rfl) lo 80 i0 _ 3 40 Try.underlying26 hi0 hz0 hz1 hz2 rfl (by omega) v ps.length (cellsOf ps us) (by rfl) ((HX.out.row.alloc _).drew) ⟨w.heap.size, 0, none⟩ 1 1 [.int .i64 3, .int .i64 d, .slice none 0 0] (by rfl) (by rfl) (World.news_of_block (cs := #[.int .i64 3, .int .i64 d, .slice none 0 0]) (t := 80) (fr := (0, 0)) (heap_alloc_new w _)) (by simp [Value.oneCell']) (by omega) (by unfold maxLen; omega) (by omega) (by simp; omega) (w.heap.size + 1) (by simp) ?_; intro gg cap w1 hown1 hgrow hat hlt; have hf := HX.out.freeG o (below_made w _) hgrow hne; have hf1 := HX.out.freeG (o + 1) (below_made w _) hgrow hne; have hf2 := HX.out.freeG (o + 2) (below_made w _) hgrow hne; have hc : w1.cell? ⟨g, o, none⟩ = some v := HX.out.cellG0 (below_made w _) hgrow hne; have hc1 : w1.cell? ⟨g, o + 1, none⟩ = some (.slice A put.length c) := HX.out.cellG1 (below_made w _) hgrow hne; have hc2 : w1.cell? ⟨g, o + 2, none⟩ = some (.int .i64 d) := HX.out.cellG2 (below_made w _) hgrow hne))
      all_goals
        obtain ⟨hx2, ha2, b2⟩ := Box.push (p := ⟨3, d, []⟩) HX.out (by decide) (by decide) (Apart.bare 3 d HA0.out) (below_made w _) hown1 hgrow
        have HO2 := Lib.hid (HOS.out.init.push (n := ps.length + 1) (cap := cap) nil_own hat (HS.out _ (by omega)))
        have HR2 := Lib.hid (push_fr (o := o) HOS.out.init (below_made w _) hgrow (.slice (some ⟨gg, 0, none⟩) (ps.length + 1) cap))
        have HX2 := Lib.hid hx2
        have HA2 := Lib.hid ha2
        have HB2 := Lib.hid b2
        clear hx2 ha2 b2
        go_wp2
        go_end0
        obtain ⟨r1, r2, r3⟩ := HX2.out.clearS (by decide) (by decide) HA2.out HO2.out
        exact ⟨rfl, r1, HB2.out.trans r2, HR2.out.trans r3⟩

    · have e2 : dropL d = [] := by simp [dropL]; omega
      rw [e2, List.append_nil]
      go_enter Try.func84, Try.ntmps84
      go_wp2_with fail
      go_end0
      obtain ⟨r1, r2, r3⟩ := HX.out.clearS (by decide) (by decide) HA0.out HOS.out.init
      exact ⟨rfl, r1, r2, r3⟩
  · have hput' : (0 : Int) < (put.length : Int) := by omega
    have e1 : putL put = [⟨2, 0, put⟩] := by simp [putL, hput]
    rw [e1]
    by_cases hd : 0 < d
    · have e2 : dropL d = [⟨3, d, []⟩] := by simp [dropL, hd]
      rw [e2]
      generalize hQ : ps ++ [⟨2, 0, put⟩] ++ [⟨3, d, []⟩] = Q
      have HQ := Lib.hid hQ
      clear hQ
      go_enter Try.func84, Try.ntmps84
      go_wp2_with fail
      have lg := HX.out.lt
      have hlo : lo ≤ w.heap.size := Nat.le_trans HX.out.low (Nat.le_of_lt lg)
      have hne := HX.out.far HX.out.row (by decide)
      go_region_law ((refine step_append_lies _ (by rfl) (.tmp 12) (.tmp 18) 26 (by rfl) lo 80 i0 _ 3 40 Try.underlying26 hi0 hz0 hz1 hz2 rfl (by omega) v ps.length (cellsOf ps us) (by rfl) ((HX.out.row.alloc _).drew) ⟨w.heap.size, 0, none⟩ 1 1 [.int .i64 2, .int .i64 0, .slice A put.length c] (by rfl) (by rfl) (World.news_of_block (cs := #[.int .i64 2, .int .i64 0, .slice A put.length c]) (t := 80) (fr := (0, 0)) (heap_alloc_new w _)) (by simp [Value.oneCell']) (by omega) (by unfold maxLen; omega) (by omega) (by simp; omega) (w.heap.size + 1) (by simp) ?_; intro gg cap w1 hown1 hgrow hat hlt; have hf := HX.out.freeG o (below_made w _) hgrow hne; have hf1 := HX.out.freeG (o + 1) (below_made w _) hgrow hne; have hf2 := HX.out.freeG (o + 2) (below_made w _) hgrow hne; have hc : w1.cell? ⟨g, o, none⟩ = some v := HX.out.cellG0 (below_made w _) hgrow hne; have hc1 : w1.cell? ⟨g, o + 1, none⟩ = some (.slice A put.length c) := HX.out.cellG1 (below_made w _) hgrow hne; have hc2 : w1.cell? ⟨g, o + 2, none⟩ = some (.int .i64 d) := HX.out.cellG2 (below_made w _) hgrow hne))
      all_goals

        obtain ⟨hx1, ha1, b1⟩ := Box.push (p := ⟨2, 0, put⟩) HX.out (by decide) (by decide) HA.out (below_made w _) hown1 hgrow
        have HO1 := Lib.hid (HOS.out.init.push (n := ps.length + 1) (cap := cap) HOS.out.last hat (HS.out _ (by omega)))
        have HR1 := Lib.hid (push_fr (o := o) HOS.out.init (below_made w _) hgrow (.slice (some ⟨gg, 0, none⟩) (ps.length + 1) cap))
        clear hown1 hgrow hat hlt hlo hne lg c0 c1 c2 f0 f1 f2
        have HX1 := Lib.hid hx1
        have HA1 := Lib.hid ha1
        have HB1 := Lib.hid b1
        clear hx1 ha1 b1
        go_wp2_with fail
        clear hf hf1 hf2 hc hc1 hc2
        generalize (Value.slice (some ⟨gg, 0, none⟩) (ps.length + 1) cap) = v1 at *
        generalize w1.setCell ⟨g, o, none⟩ v1 = W1 at *
        have c0 := HX1.out.cell0
        have c1 := HX1.out.cell1
        have c2 := HX1.out.cell2
        have f0 := HX1.out.free o
        have f1 := HX1.out.free (o + 1)
        have f2 := HX1.out.free (o + 2)
        generalize hps : ps ++ [⟨2, 0, put⟩] = ps1 at *
        have hl1 : ps1.length ≤ 4294967297 := by rw [← hps]; simp; omega
        clear hps
        generalize us ++ [Value.slice A put.length c] = us1 at *
        have lg := HX1.out.lt
        have hlo : lo ≤ W1.heap.size := Nat.le_trans HX1.out.low (Nat.le_of_lt lg)
        have hne := HX1.out.far HX1.out.row (by decide)
        go_region_law ((refine step_append_lies _ (by rfl) (.tmp 31) (.tmp 37) 26 (by rfl) lo 80 i0 _ 3 40 Try.underlying26 hi0 hz0 hz1 hz2 rfl (by omega) v1 ps1.length (cellsOf ps1 us1) (by rfl) ((HX1.out.row.alloc _).drew) ⟨W1.heap.size, 0, none⟩ 1 1 [.int .i64 3, .int .i64 d, .slice none 0 0] (by rfl) (by rfl) (World.news_of_block (cs := #[.int .i64 3, .int .i64 d, .slice none 0 0]) (t := 80) (fr := (0, 0)) (heap_alloc_new W1 _)) (by simp [Value.oneCell']) (by omega) (by unfold maxLen; omega) (by omega) (by simp; omega) (W1.heap.size + 1) (by simp) ?_; intro gg cap w1 hown1 hgrow hat hlt; have hf := HX1.out.freeG o (below_made W1 _) hgrow hne; have hf1 := HX1.out.freeG (o + 1) (below_made W1 _) hgrow hne; have hf2 := HX1.out.freeG (o + 2) (below_made W1 _) hgrow hne; have hc : w1.cell? ⟨g, o, none⟩ = some v1 := HX1.out.cellG0 (below_made W1 _) hgrow hne; have hc1 : w1.cell? ⟨g, o + 1, none⟩ = some (.slice A put.length c) := HX1.out.cellG1 (below_made W1 _) hgrow hne; have hc2 : w1.cell? ⟨g, o + 2, none⟩ = some (.int .i64 d) := HX1.out.cellG2 (below_made W1 _) hgrow hne))
        all_goals
          obtain ⟨hx2, ha2, b2⟩ := Box.push (p := ⟨3, d, []⟩) HX1.out (by decide) (by decide) (Apart.bare 3 d HA1.out) (below_made W1 _) hown1 hgrow
          have HO2 := Lib.hid (HO1.out.push (n := ps1.length + 1) (cap := cap) nil_own hat (HS.out _ (by have := HR1.out.size; omega)))
          have HR2 := Lib.hid (push_fr (o := o) HO1.out (below_made W1 _) hgrow (.slice (some ⟨gg, 0, none⟩) (ps1.length + 1) cap))
          have HX2 := Lib.hid hx2
          have HA2 := Lib.hid ha2
          have HB2 := Lib.hid b2
          clear hx2 ha2 b2
          go_wp2
          go_end0
          obtain ⟨r1, r2, r3⟩ := HX2.out.clearS (by decide) (by decide) HA2.out HO2.out
          exact ⟨rfl, by rw [← HQ.out]; exact r1, HB1.out.trans (HB2.out.trans r2), HR1.out.trans (HR2.out.trans r3)⟩

    · have e2 : dropL d = [] := by simp [dropL]; omega
      rw [e2, List.append_nil]
      go_enter Try.func84, Try.ntmps84
      go_wp2_with fail
      have lg := HX.out.lt
      have hlo : lo ≤ w.heap.size := Nat.le_trans HX.out.low (Nat.le_of_lt lg)
      have hne := HX.out.far HX.out.row (by decide)
      go_region_law ((refine step_append_lies _ (by rfl) (.tmp 12) (.tmp 18) 26 (by rfl) lo 80 i0 _ 3 40 Try.underlying26 hi0 hz0 hz1 hz2 rfl (by omega) v ps.length (cellsOf ps us) (by rfl) ((HX.out.row.alloc _).drew) ⟨w.heap.size, 0, none⟩ 1 1 [.int .i64 2, .int .i64 0, .slice A put.length c] (by rfl) (by rfl) (World.news_of_block (cs := #[.int .i64 2, .int .i64 0, .slice A put.length c]) (t := 80) (fr := (0, 0)) (heap_alloc_new w _)) (by simp [Value.oneCell']) (by omega) (by unfold maxLen; omega) (by omega) (by simp; omega) (w.heap.size + 1) (by simp) ?_; intro gg cap w1 hown1 hgrow hat hlt; have hf := HX.out.freeG o (below_made w _) hgrow hne; have hf1 := HX.out.freeG (o + 1) (below_made w _) hgrow hne; have hf2 := HX.out.freeG (o + 2) (below_made w _) hgrow hne; have hc : w1.cell? ⟨g, o, none⟩ = some v := HX.out.cellG0 (below_made w _) hgrow hne; have hc1 : w1.cell? ⟨g, o + 1, none⟩ = some (.slice A put.length c) := HX.out.cellG1 (below_made w _) hgrow hne; have hc2 : w1.cell? ⟨g, o + 2, none⟩ = some (.int .i64 d) := HX.out.cellG2 (below_made w _) hgrow hne))
      all_goals

        obtain ⟨hx1, ha1, b1⟩ := Box.push (p := ⟨2, 0, put⟩) HX.out (by decide) (by decide) HA.out (below_made w _) hown1 hgrow
        have HO2 := Lib.hid (HOS.out.init.push (n := ps.length + 1) (cap := cap) HOS.out.last hat (HS.out _ (by omega)))
        have HR2 := Lib.hid (push_fr (o := o) HOS.out.init (below_made w _) hgrow (.slice (some ⟨gg, 0, none⟩) (ps.length + 1) cap))
        have HX2 := Lib.hid hx1
        have HA2 := Lib.hid ha1
        have HB2 := Lib.hid b1
        clear hx1 ha1 b1
        go_wp2
        go_end0
        obtain ⟨r1, r2, r3⟩ := HX2.out.clearS (by decide) (by decide) HA2.out HO2.out
        exact ⟨rfl, r1, HB2.out.trans r2, HR2.out.trans r3⟩

set_option maxHeartbeats 1600000 in
theorem implDrop_f (S : Nat → Prop) (lo g o : Nat) (C : Nat → Option Value) (ps : List Pt) (put : List Int) (d n : Int) (w : World) (hb : BAtS S lo g o C 97 w ps put d) (hS : ∀ b, w.heap.size ≤ b → S b) (h0 : 0 ≤ d) (h1 : d ≤ 4611686018427387904) (h2 : 0 ≤ n) (h3 : n ≤ 1048576) :
    Calls Try.prog 75 #[.pointer (some ⟨g, o, none⟩), .int .i64 n] w (BuiltS S lo g o C 97 w ps put (d + n)) := by
  obtain ⟨v, u, us, hx, ha, hos⟩ := hb
  have HS := Lib.hid hS
  have HOS := Lib.hid hos
  clear hS hos
  have c2 := hx.cell2
  have f2 := hx.free (o + 2)
  have HX := Lib.hid hx
  have HA := Lib.hid ha
  clear hx ha
  go_enter Try.func75, Try.ntmps75
  go_wp2
  go_end0
  obtain ⟨r1, r2, r3⟩ := HX.out.dropS (d' := d + n) (by decide) (by decide) HA.out HOS.out
  exact ⟨rfl, r1, r2, r3⟩

set_option maxHeartbeats 1600000 in
theorem implPut_f (S : Nat → Prop) (lo g o : Nat) (C : Nat → Option Value) (ps : List Pt) (put : List Int) (d : Int) (A : Option Addr) (c : Nat) (zs : List Int) (w : World) (hb : BAtS S lo g o C 97 w ps put d) (hS : ∀ b, w.heap.size ≤ b → S b) (hr : Row (Value.int .i64) w w.heap.size A zs) (hp : put.length ≤ 4294967296) (hz : zs.length ≤ 4294967296) :
    Calls Try.prog 74 #[.pointer (some ⟨g, o, none⟩), .slice A zs.length c] w (BuiltS S lo g o C 97 w ps (put ++ zs) d) := by
  obtain ⟨i0, hi0, hz0, hz1, hz2⟩ := info_parts ints_info
  obtain ⟨v, u, us, hx, ha, hos⟩ := hb
  have HS := Lib.hid hS
  have HOS := Lib.hid hos
  clear hS hos
  obtain ⟨Au, cu, rfl⟩ := own_form (ha.last hx.len)
  simp only at hx ha
  have c1 := hx.cell1
  have f1 := hx.free (o + 1)
  have ho := Lib.hid (ha.last hx.len)
  have hlo : lo ≤ w.heap.size := Nat.le_trans hx.low (Nat.le_of_lt hx.lt)
  have HX := Lib.hid hx
  have HA := Lib.hid ha
  clear hx ha
  by_cases hn : 0 < zs.length
  · obtain ⟨ad, rfl, hbk, hcs⟩ := hr hn
    have hcs' : ∀ j x, (zs.map (Value.int .i64))[j]? = some x → w.cell? (ad.add j) = some x := fun j x hx => by
      rw [List.getElem?_map] at hx
      obtain ⟨z, hz, rfl⟩ := Option.map_eq_some_iff.1 hx
      exact hcs j z hz
    have HC := Lib.hid hcs'
    clear hcs hcs' hr
    have hug := HX.out.far ho.out (by decide)
    go_enter Try.func74, Try.ntmps74
    go_wp2_with (at_builtin; refine wpList_append_lies _ rfl (.tmp 8) (.tmp 9) 23 rfl lo 3 i0 (.int .i64 0) 1 8 Try.underlying23 hi0 hz0 hz1 hz2 rfl (by decide) (.slice Au put.length cu) put.length (put.map (Value.int .i64)) rfl ho.out ad zs.length c (zs.map (Value.int .i64)) rfl (by simp) HC.out (by simp [Value.oneCell']) (by omega) (by unfold maxLen; omega) (by omega) hlo w.heap.size rfl ?_; intro gg cap w1 hown1 hgrow hat hlt; have hf := HX.out.freeG (o + 1) (Below.refl _ _) hgrow hug; have hc : w1.cell? ⟨g, o + 1, none⟩ = some (.slice Au put.length cu) := HX.out.cellG1 (Below.refl _ _) hgrow hug)
    go_end0
    obtain ⟨r1, r2, r3⟩ := Box.moreS (put' := put ++ zs) HX.out (by decide) (by decide) HA.out (by simpa using hown1) hgrow (hat.elim (fun e => .inl (by rw [e]; rfl)) (fun e => .inr (by rw [← e]; rfl))) HOS.out (HS.out _ (Nat.le_refl _))
    exact ⟨rfl, r1, r2, r3⟩
  · have e0 : zs = [] := List.eq_nil_of_length_eq_zero (by omega)
    subst e0
    rw [List.append_nil]
    go_enter Try.func74, Try.ntmps74
    go_wp2_with (at_builtin; refine wpList_append_zero rfl (.tmp 8) (.tmp 9) 23 rfl lo 3 i0 1 Try.underlying23 hi0 (.slice Au put.length cu) put.length (put.map (Value.int .i64)) rfl ho.out A c rfl ?_)
    go_end0
    obtain ⟨r1, r2, r3⟩ := Box.moreS (put' := put) HX.out (by decide) (by decide) HA.out ho.out ⟨rfl, rfl, rfl, Nat.le_refl _, fun _ _ _ => rfl⟩ (.inl rfl) HOS.out (HS.out _ (Nat.le_refl _))
    exact ⟨rfl, r1, r2, r3⟩

set_option maxHeartbeats 1600000 in
theorem implDone_f (S : Nat → Prop) (lo g o : Nat) (C : Nat → Option Value) (ps : List Pt) (put : List Int) (d : Int) (w : World) (hb : BAtS S lo g o C 97 w ps put d) (hS : ∀ b, w.heap.size ≤ b → S b) (hl : ps.length ≤ 4294967296) (hp : put.length ≤ 4294967296) :
    Calls Try.prog 58 #[.pointer (some ⟨g, o, none⟩)] w (GoneX S lo g o C (ps ++ putL put ++ dropL d) w) := by
  go_enter Try.func58, Try.ntmps58
  go_wp2_with fail
  refine (implFlush_f S lo g o C ps put d w hb hS hl hp).mono ?_
  rintro e w1 ⟨rfl, ⟨v, us, hx, ha, hos⟩, b1, fr1⟩
  have HS := Lib.hid hS
  have HOS := Lib.hid hos
  have HR := Lib.hid fr1
  clear hS hos fr1
  obtain ⟨Av, cv, rfl⟩ := own_form hx.row
  have c0 := hx.cell0
  have HX := Lib.hid hx
  have HA := Lib.hid ha
  clear hx ha
  generalize ps ++ putL put ++ dropL d = q at *
  go_wp2
  go_ret
  exact ⟨⟨_, us, rfl, HX.out.parts HA.out, b1, HR.out, HX.out.row, HX.out.len, HOS.out.2.1, HOS.out.2.2⟩, _, _, us, HX.out⟩

set_option maxRecDepth 100000 in
set_option maxHeartbeats 3200000 in
theorem implKeep_f (S : Nat → Prop) (lo g o : Nat) (C : Nat → Option Value) (ps : List Pt) (put : List Int) (d n : Int) (w : World) (hb : BAtS S lo g o C 97 w ps put d) (hS : ∀ b, w.heap.size ≤ b → S b) (hl : ps.length ≤ 4294967296) (hp : put.length ≤ 4294967296) (hn : ¬ n = 0) (hn0 : 0 ≤ n) (hn1 : n ≤ 1048576)
    (hq : ∀ p ∈ ps ++ putL put ++ dropL d, 0 ≤ p.n ∧ p.n ≤ 4611686018427387904) (hql : (ps ++ putL put ++ dropL d).length ≤ 4294967298) :
    Calls Try.prog 57 #[.pointer (some ⟨g, o, none⟩), .int .i64 n] w (FlushedS S lo g o C 97 w (keepTo (ps ++ putL put ++ dropL d) n)) := by
  obtain ⟨i0, hi0, hz0, hz1, hz2⟩ := info_parts part_info
  go_enter Try.func57, Try.ntmps57
  go_wp2_with fail
  refine (implFlush_f S lo g o C ps put d w hb hS hl hp).mono ?_
  rintro e w1 ⟨rfl, ⟨v, us, hx, ha, hos⟩, b1, fr1⟩
  have HS := Lib.hid hS
  have HOS := Lib.hid hos
  have HR := Lib.hid fr1
  clear hS hos fr1
  generalize ps ++ putL put ++ dropL d = q at *
  have c0 := hx.cell0
  have f0 := hx.free o
  have hne := hx.far hx.row (by decide)
  have hlo : lo ≤ w1.heap.size := Nat.le_trans hx.low (Nat.le_of_lt hx.lt)
  rcases q.eq_nil_or_concat with rfl | ⟨r, p, rfl⟩
  · obtain ⟨Av, cv, rfl⟩ := own_form hx.row
    have HX := Lib.hid hx
    have HA := Lib.hid ha
    clear hx ha
    go_wp2_with (at_builtin; refine wpList_append_lies _ rfl (.tmp 44) (.tmp 47) 26 rfl lo 80 i0 _ 3 40 Try.underlying26 hi0 hz0 hz1 hz2 rfl (by omega) (.slice Av 0 cv) 0 (cellsOf [] us) rfl (HX.out.row.alloc _) ⟨w1.heap.size, 0, none⟩ 1 1 [.int .i64 1, .int .i64 n, .slice none 0 0] rfl rfl (World.news_of_block (cs := #[.int .i64 1, .int .i64 n, .slice none 0 0]) (t := 80) (fr := (0, 0)) (heap_alloc_new w1 _)) (by simp [Value.oneCell']) (by omega) (by unfold maxLen; omega) (by omega) (by simp; omega) (w1.heap.size + 1) (by simp) ?_; intro gg cap w2 hown1 hgrow hat hlt; have hf := HX.out.freeG o (below_new w1 _) hgrow hne; have hc : w2.cell? ⟨g, o, none⟩ = some (.slice Av 0 cv) := HX.out.cellG0 (below_new w1 _) hgrow hne)
    go_end0
    obtain ⟨hx2, ha2, b2⟩ := Box.push (p := ⟨1, n, []⟩) HX.out (by decide) (by decide) (Apart.bare 1 n HA.out) (below_new w1 _) hown1 hgrow
    refine ⟨rfl, ?_, b1.trans b2, HR.out.trans (push_fr (o := o) HOS.out (below_new w1 _) hgrow _)⟩
    rw [keepTo_nil]
    exact ⟨_, _, hx2, ha2, HOS.out.push nil_own hat (HS.out _ (by have := HR.out.size; omega))⟩
  · rw [List.concat_eq_append] at *
    have hrl : (r ++ [p]).length = r.length + 1 := by simp
    rw [hrl] at hql
    have hp0 := hq p (by simp)
    clear hq
    rcases hx.row.2 with ⟨_, h0⟩ | ⟨gv, cap0, cur, rfl, hgv, hhv, hcap, hcap2, _, _⟩
    · simp at h0
    rw [hrl] at c0 hne hcap hx
    have hrow : w1.ownsRow lo 80 3 (.slice (some ⟨gv, 0, none⟩) (r.length + 1) cap0) (r.length + 1) (cellsOf (r ++ [p]) us) := by have := hx.row; rwa [hrl] at this
    have k0 : w1.cell? ⟨gv, r.length * 3, none⟩ = some (.int .i64 p.kind) := by
      have := hrow.cellAt (r.length * 3) (by omega)
      obtain ⟨u, hu⟩ := idx_some (l := us) (i := r.length) (by rw [hx.len]; simp)
      rw [this, (cellsOf_at (r ++ [p]) us r.length p u (by simp) hu).1]
    have k1 : w1.cell? ⟨gv, r.length * 3 + 1, none⟩ = some (.int .i64 p.n) := by
      have := hrow.cellAt (r.length * 3 + 1) (by omega)
      obtain ⟨u, hu⟩ := idx_some (l := us) (i := r.length) (by rw [hx.len]; simp)
      rw [this, (cellsOf_at (r ++ [p]) us r.length p u (by simp) hu).2.1]
    have fv := hrow.frozenAt (r.length * 3 + 1)
    have HRW := Lib.hid hrow
    clear hrow
    have HX := Lib.hid hx
    have HA := Lib.hid ha
    clear hx ha hhv
    by_cases hk : p.kind = 1
    · go_wp2
      go_end0
      obtain ⟨hx2, ha2, b2⟩ := Box.setN (b := p.n + n) HX.out (by decide) (by decide) HA.out
      refine ⟨rfl, ?_, b1.trans b2, HR.out.trans (setN_fr HOS.out _)⟩
      rw [keepTo_t n hk]
      exact ⟨_, _, hx2, ha2, HOS.out⟩
    · go_wp2_with (at_builtin; refine wpList_append_lies _ rfl (.tmp 44) (.tmp 47) 26 rfl lo 80 i0 _ 3 40 Try.underlying26 hi0 hz0 hz1 hz2 rfl (by omega) (.slice (some ⟨gv, 0, none⟩) (r.length + 1) cap0) (r.length + 1) (cellsOf (r ++ [p]) us) rfl (HRW.out.alloc _) ⟨w1.heap.size, 0, none⟩ 1 1 [.int .i64 1, .int .i64 n, .slice none 0 0] rfl rfl (World.news_of_block (cs := #[.int .i64 1, .int .i64 n, .slice none 0 0]) (t := 80) (fr := (0, 0)) (heap_alloc_new w1 _)) (by simp [Value.oneCell']) (by omega) (by unfold maxLen; omega) (by omega) (by simp; omega) (w1.heap.size + 1) (by simp) ?_; intro gg cap w2 hown1 hgrow hat hlt; have hf := HX.out.freeG o (below_new w1 _) hgrow hne; have hc : w2.cell? ⟨g, o, none⟩ = some (.slice (some ⟨gv, 0, none⟩) (r.length + 1) cap0) := HX.out.cellG0 (below_new w1 _) hgrow hne)
      go_end0
      obtain ⟨hx2, ha2, b2⟩ := Box.push (p := ⟨1, n, []⟩) HX.out (by decide) (by decide) (Apart.bare 1 n HA.out) (below_new w1 _) (by rw [hrl]; exact hown1) hgrow
      rw [hrl] at hx2 ha2 b2
      refine ⟨rfl, ?_, b1.trans b2, HR.out.trans (push_fr (o := o) HOS.out (below_new w1 _) hgrow _)⟩
      rw [keepTo_f n hk]
      exact ⟨_, _, hx2, ha2, HOS.out.push nil_own hat (HS.out _ (by have := HR.out.size; omega))⟩

set_option maxHeartbeats 1600000 in
theorem implKeep_zero (g o : Nat) (w : World) : Calls Try.prog 57 #[.pointer (some ⟨g, o, none⟩), .int .i64 0] w fun e w' => e = .returned (.tuple #[]) ∧ w = w' := by
  go_enter Try.func57, Try.ntmps57
  go_wp2
  first | go_end0 | (refine bodyPost_ret (results_none rfl _ _ _) rfl ?_)
  exact ⟨rfl, rfl⟩
end Go.Proofs.Ytmlkeflnnaabeaa.low.xb


/-
  The program's reader of an operation (opReader): the part at hand and the rest; more.
-/
namespace Go.Proofs.Ytmlkeflnnaabeaa.low
open Go.RowKit
set_option linter.unusedVariables false

/-- a part as the reader holds it: valid, or the zero value -/
def Vp (p : Pt) : Prop := ((p.kind = 1 ∨ p.kind = 3) ∧ 0 ≤ p.n ∧ p.n ≤ 200 ∧ p.signs = []) ∨ (p.kind = 2 ∧ p.n = 0 ∧ p.signs.length ≤ 200) ∨ (p.kind = 0 ∧ p.n = 0 ∧ p.signs = [])
theorem Vp.of {p : Pt} (h : okPt p = true) : Vp p := by
  have := of_okPt h
  unfold Vp
  obtain ⟨k, n, zs⟩ := p
  simp only at this ⊢
  have e : zs.length = 0 → zs = [] := List.eq_nil_of_length_eq_zero
  rcases (show k = 1 ∨ k = 2 ∨ k = 3 by omega) with rfl | rfl | rfl
  · exact .inl ⟨.inl rfl, by omega, by omega, e (by omega)⟩
  · exact .inr (.inl ⟨rfl, by omega, by omega⟩)
  · exact .inl ⟨.inr rfl, by omega, by omega, e (by omega)⟩
theorem Vp.size {p : Pt} (h : Vp p) : p.n + (p.signs.length : Int) = (sizeP p : Int) ∧ sizeP p ≤ 200 ∧ 0 ≤ p.n ∧ p.n ≤ 200 ∧ p.signs.length ≤ 200 := by
  obtain ⟨k, n, zs⟩ := p
  unfold sizeP
  rcases h with ⟨h1, h2, h3, h4⟩ | ⟨h1, h2, h3⟩ | ⟨h1, h2, h3⟩ <;> simp only at * <;> subst_vars <;> simp <;> (try omega)
  rcases h1 with rfl | rfl <;> simp <;> omega
theorem Vp.sz {p : Pt} (h : Vp p) (h0 : 0 < sizeP p) : szP_ p := by
  obtain ⟨k, n, zs⟩ := p
  have hs := h.size
  unfold szP_
  rcases h with ⟨h1, h2, h3, h4⟩ | ⟨h1, h2, h3⟩ | ⟨h1, h2, h3⟩ <;> simp only at * <;> subst_vars <;> simp [sizeP] at * <;> omega
/-- the reader at block g: p at hand, ps behind it -/
structure Orr (lo g : Nat) (w : World) (p : Pt) (ps : List Pt) : Prop where
  box : ∃ B cb A c, w.heap[g]? = some (.cells #[.int .i64 p.kind, .int .i64 p.n, .slice B p.signs.length cb, .slice A ps.length c] 95 (0, 0)) ∧ RdC w lo (encInts p.signs) (.slice B p.signs.length cb) ∧ RdC w lo (encPs ps) (.slice A ps.length c)
  ge : lo ≤ g
  vp : Vp p
  vs : ∀ x ∈ ps, okPt x = true
  ln : ps.length ≤ 1048576
section
variable {lo g : Nat} {w w' : World} {p : Pt} {ps : List Pt}
theorem Orr.lt (h : Orr lo g w p ps) : g < w.heap.size := by obtain ⟨B, cb, A, c, h1, _⟩ := h.box; exact lt_of_some h1
theorem Orr.keep (h : Orr lo g w p ps) (hg : w'.heap[g]? = w.heap[g]?) (hb : Below lo w w') : Orr lo g w' p ps := by
  obtain ⟨B, cb, A, c, h1, h2, h3⟩ := h.box
  exact ⟨⟨B, cb, A, c, hg.trans h1, h2.below hb, h3.below hb⟩, h.ge, h.vp, h.vs, h.ln⟩
theorem Orr.past (h : Orr lo g w p ps) (hb : Below w.heap.size w w') : Orr lo g w' p ps :=
  h.keep (hb.block _ h.lt) (hb.mono (Nat.le_trans h.ge (Nat.le_of_lt h.lt)))
end
/-- a part of a slice of parts, with all that is known of its characters -/
theorem parts_hd {w : World} {B : Nat} {A : Option Addr} {n c : Nat} {p : Pt} {ps : List Pt} (h : RdC w B (encPs (p :: ps)) (.slice A n c)) : ∃ b off A' c', A = some ⟨b, off, none⟩ ∧ b < B ∧ ps.length + 1 ≤ c ∧ w.cell? ⟨b, off, none⟩ = some (.int .i64 p.kind) ∧ w.cell? ⟨b, off + 1, none⟩ = some (.int .i64 p.n) ∧ w.cell? ⟨b, off + 2, none⟩ = some (.slice A' p.signs.length c') ∧ RdC w B (encInts p.signs) (.slice A' p.signs.length c') ∧
    (∀ d, ps.length ≤ d → RdC w B (encPs ps) (.slice (some ⟨b, off + 3, none⟩) ps.length d)) := by
  obtain ⟨A0, c0, hv, hc, h⟩ := h
  injection hv with e1 e2 e3
  subst e1 e3
  obtain ⟨ad, hA, hb, hs, hr⟩ := h (by simp)
  obtain ⟨b, off, spot⟩ := ad
  obtain rfl : spot = none := by
    rcases hs with hs | hs
    · cases hs
    · exact hs
  obtain ⟨⟨⟨v0, h0, rfl⟩, ⟨v1, h1, rfl⟩, ⟨v2, h2, r2⟩, _⟩, hr⟩ := hr
  obtain ⟨A', c', rfl, r3, _⟩ := ints_rd r2
  rw [add_at] at h0 h1 h2
  refine ⟨b, off, A', c', hA, hb, by simpa using hc, by simpa using h0, by simpa using h1, by simpa using h2, r2, fun d hd => ⟨some ⟨b, off + 3, none⟩, d, by simp, by simpa using hd, fun _ => ⟨⟨b, off + 3, none⟩, rfl, hb, .inr rfl, ?_⟩⟩⟩
  have key : ∀ (rs : List (List Dat)) (o : Nat), RdR w B 3 ⟨b, off, none⟩ (o + 3) rs → RdR w B 3 ⟨b, off + 3, none⟩ o rs := by
    have keyL : ∀ (ds : List Dat) (o : Nat), RdL w B ⟨b, off, none⟩ (o + 3) ds → RdL w B ⟨b, off + 3, none⟩ o ds := by
      intro ds
      induction ds with
      | nil => intro o _; trivial
      | cons d ds ih =>
        intro o ⟨⟨v, h1, h2⟩, h3⟩
        refine ⟨⟨v, ?_, h2⟩, ih (o + 1) (by rw [show o + 1 + 3 = o + 3 + 1 by omega]; exact h3)⟩
        rw [add_at] at h1 ⊢
        rw [show off + 3 + o = off + (o + 3) by omega]
        exact h1
    intro rs
    induction rs with
    | nil => intro o _; trivial
    | cons r rs ih =>
      intro o ⟨h1, h2⟩
      exact ⟨keyL r o h1, ih (o + 3) (by rw [show o + 3 + 3 = o + 3 + 3 by omega]; exact h2)⟩
  exact key _ 0 hr
theorem parts_none {w : World} {B : Nat} {A : Option Addr} {c : Nat} : RdC w B (encPs []) (.slice A 0 c) := ⟨A, c, by simp, by simp, fun h => by simp at h⟩
def restOf (g : Nat) (w : World) : Nat := match w.cell? ⟨g, 3, none⟩ with
  | some (.slice _ n _) => n
  | _ => 0
theorem orr_rest {lo g : Nat} {w : World} {p : Pt} {ps : List Pt} (h : Orr lo g w p ps) : restOf g w = ps.length := by
  obtain ⟨B, cb, A, c, h1, _⟩ := h.box
  have c3 : w.cell? ⟨g, 3, none⟩ = some (.slice A ps.length c) := cell_of_row _ _ 3 _ _ _ h1
  unfold restOf
  rw [c3]
/-- behind a look for more: the reader stands at a part with something left of it, or at the end -/
def MoreP (lo g : Nat) (p : Pt) (ps : List Pt) (w : World) (e : Ending) (w' : World) : Prop := ∃ p' ps', e = .returned (.bool (decide (0 < sizeP p'))) ∧ Orr lo g w' p' ps' ∧ unitsP p' ++ units ps' = unitsP p ++ units ps ∧ (sizeP p' = 0 → ps' = []) ∧ Below lo w w' ∧ Fr (fun q => q = g) w w'
theorem ret_b {b c : Bool} (h : b = c) : Ending.returned (.bool b) = .returned (.bool c) := by rw [h]
theorem fr_set (g i : Nat) (w : World) (x : Value) : Fr (fun q => q = g) w (w.setCell ⟨g, i, none⟩ x) := (Fr.refl (fun q => q = g) w).setCell (p := ⟨g, i, none⟩) rfl x

/-- the world behind 'r.next, r.rest = r.rest[0], r.rest[1:]' -/
def nextW (g b off c k : Nat) (kind n : Int) (u : Value) (w : World) : World := ((((w.drew.setCell ⟨g, 0, none⟩ (.int .i64 kind)).setCell ⟨g, 1, none⟩ (.int .i64 n)).setCell ⟨g, 2, none⟩ u).setCell ⟨g, 3, none⟩ (.slice (if c = 1 then some ⟨b, off, none⟩ else some ⟨b, off + 3, none⟩) k (c - 1)))
theorem heap_drew (w : World) (g : Nat) : w.drew.heap[g]? = w.heap[g]? := rfl
theorem nextW_fr (g b off c k : Nat) (kind n : Int) (u : Value) (w : World) : Fr (fun q => q = g) w (nextW g b off c k kind n u w) :=
  (((((Fr.refl (fun q => q = g) w).drew).setCell (p := ⟨g, 0, none⟩) rfl _).setCell (p := ⟨g, 1, none⟩) rfl _).setCell (p := ⟨g, 2, none⟩) rfl _).setCell (p := ⟨g, 3, none⟩) rfl _
theorem nextW_below {lo g : Nat} (hg : lo ≤ g) (b off c k : Nat) (kind n : Int) (u : Value) (w : World) : Below lo w (nextW g b off c k kind n u w) :=
  (((((Below.refl lo w).drew).setCell (p := ⟨g, 0, none⟩) hg _).setCell (p := ⟨g, 1, none⟩) hg _).setCell (p := ⟨g, 2, none⟩) hg _).setCell (p := ⟨g, 3, none⟩) hg _
theorem orr_next {lo g b off c c' : Nat} {A' : Option Addr} {w : World} {q : Pt} {qs : List Pt} {v0 v1 v2 v3 : Value} (h1 : w.heap[g]? = some (.cells #[v0, v1, v2, v3] 95 (0, 0))) (hr : RdC w lo (encInts q.signs) (.slice A' q.signs.length c')) (ht : ∀ d, qs.length ≤ d → RdC w lo (encPs qs) (.slice (some ⟨b, off + 3, none⟩) qs.length d)) (hc : qs.length + 1 ≤ c) (hge : lo ≤ g)
    (hv : okPt q = true) (hvs : ∀ x ∈ qs, okPt x = true) (hln : qs.length ≤ 1048576) : Orr lo g (nextW g b off c qs.length q.kind q.n (.slice A' q.signs.length c') w) q qs := by
  have hb := nextW_below hge b off c qs.length q.kind q.n (.slice A' q.signs.length c') w
  refine ⟨⟨A', c', (if c = 1 then some ⟨b, off, none⟩ else some ⟨b, off + 3, none⟩), c - 1, ?_, hr.below hb, ?_⟩, hge, Vp.of hv, hvs, hln⟩
  · unfold nextW
    rw [heap_setCell_same _ _ _ _ _ _ (heap_setCell_same _ _ _ _ _ _ (heap_setCell_same _ _ _ _ _ _ (heap_setCell_same _ _ _ _ _ _ ((heap_drew w g).trans h1))))]
    rfl
  · by_cases e : c = 1
    · rw [if_pos e]
      obtain rfl : qs = [] := List.eq_nil_of_length_eq_zero (by omega)
      exact parts_none
    · rw [if_neg e]
      exact (ht _ (by omega)).below hb

set_option maxRecDepth 100000 in
set_option maxHeartbeats 3200000 in
theorem implMore (lo g : Nat) (p : Pt) (ps : List Pt) (w : World) (h : Orr lo g w p ps) : Calls Try.prog 100 #[.pointer (some ⟨g, 0, none⟩)] w (MoreP lo g p ps w) := by
  have hgw := h.lt
  go_enter Try.func100, Try.ntmps100
  go_wp2
  go_loopw [2] (fun t wr => t = .bool false ∧ ∃ p' ps', Orr lo g wr p' ps' ∧ unitsP p' ++ units ps' = unitsP p ++ units ps ∧ Below lo w wr ∧ Fr (fun q => q = g) w wr) (fun _ wr => restOf g wr)
  case atStart => exact ⟨rfl, p, ps, h, rfl, Below.refl _ _, Fr.refl _ _⟩
  case round =>
    obtain ⟨rfl, p', ps', ho, hu, hbel, hfr⟩ := hrel
    obtain ⟨B, cb, A, c, h1, h2, h3⟩ := ho.box
    have hz := ho.vp.size
    have c0 : wr.cell? ⟨g, 0, none⟩ = some (.int .i64 p'.kind) := cell_of_row _ _ 0 _ _ _ h1
    have c1 : wr.cell? ⟨g, 1, none⟩ = some (.int .i64 p'.n) := cell_of_row _ _ 1 _ _ _ h1
    have c2 : wr.cell? ⟨g, 2, none⟩ = some (.slice B p'.signs.length cb) := cell_of_row _ _ 2 _ _ _ h1
    have c3 : wr.cell? ⟨g, 3, none⟩ = some (.slice A ps'.length c) := cell_of_row _ _ 3 _ _ _ h1
    have hlt := ho.lt
    have HO := Lib.hid ho
    have HU := Lib.hid hu
    have HF := Lib.hid hfr
    have HZ := Lib.hid hz
    have H1 := Lib.hid h1
    have HM := Lib.hid (show restOf g wr = ps'.length by unfold restOf; rw [c3])
    clear ho hu hfr hz h1 h hgw
    go_wp2_with fail
    have hz := HZ.out
    refine (implSize_any p'.kind p'.n B p'.signs.length cb wr (by omega) (by omega) (by omega)).mono ?_
    clear hz c0 c1 c2
    rintro e w1 ⟨rfl, b1⟩
    have HB := Lib.hid b1
    have hlt1 : g < w1.heap.size := Nat.lt_of_lt_of_le hlt b1.size
    have h1' : w1.heap[g]? = some (.cells #[.int .i64 p'.kind, .int .i64 p'.n, .slice B p'.signs.length cb, .slice A ps'.length c] 95 (0, 0)) := (b1.block g hlt).trans H1.out
    have c3' : w1.cell? ⟨g, 3, none⟩ = some (.slice A ps'.length c) := cell_of_row _ _ 3 _ _ _ h1'
    have ho1 := HO.out.past b1
    have hb1 : Below lo w w1 := hbel.trans (b1.mono (Nat.le_trans ho1.ge (by have := HO.out.lt; omega)))
    have hf1 : Fr (fun q => q = g) w w1 := HF.out.trans (Fr.below b1)
    have H1' := Lib.hid h1'
    have HO1 := Lib.hid ho1
    have HF1 := Lib.hid hf1
    clear b1 c3 h1' ho1 hf1 HO HF HB H1 hbel
    rw [HZ.out.1]
    by_cases hs : sizeP p' = 0
    · have g0 : (((sizeP p' : Nat) : Int) == 0) = true := by simp [hs]
      cases ps' with
      | nil =>
        have HS := Lib.hid hs
        clear hs
        go_wp2
        go_ret
        exact ⟨p', [], ret_b (by simp [HS.out]), HO1.out, HU.out, fun _ => rfl, hb1, HF1.out⟩
      | cons q qs =>
        have hql : ((qs.length : Int) + 1 == 0) = false := by simp; omega
        have hRd := HO1.out
        obtain ⟨B2, cb2, A2, c2, k1, k2, k3⟩ := hRd.box
        rw [H1'.out] at k1
        injection k1 with k1
        injection k1 with k1 _ _
        simp at k1
        obtain ⟨⟨rfl, rfl⟩, rfl, rfl⟩ := k1
        obtain ⟨b, off, A', c', rfl, hblt, hc, d0, d1, d2, r2, rt⟩ := parts_hd k3
        have f0 : ∀ o, w1.frozen? ⟨g, o, none⟩ = false := fun o => by simp [World.frozen?, H1'.out]
        have f1 := f0 0
        have f2 := f0 1
        have f3 := f0 2
        have f4 := f0 3
        have HK := Lib.hid (show RdC w1 lo (encInts q.signs) (.slice A' q.signs.length c') ∧ (∀ d, qs.length ≤ d → RdC w1 lo (encPs qs) (.slice (some ⟨b, off + 3, none⟩) qs.length d)) from ⟨r2, rt⟩)
        have c0 : w1.cell? ⟨g, 0, none⟩ = some (.int .i64 p'.kind) := cell_of_row _ _ 0 _ _ _ H1'.out
        have c1 : w1.cell? ⟨g, 1, none⟩ = some (.int .i64 p'.n) := cell_of_row _ _ 1 _ _ _ H1'.out
        have c2 : w1.cell? ⟨g, 2, none⟩ = some (.slice B p'.signs.length cb) := cell_of_row _ _ 2 _ _ _ H1'.out
        have hne : ¬ b = g := by have := HO1.out.ge; omega
        clear f0 r2 rt k2 k3 hRd hs
        have hq1 : (1 : Int) ≤ (qs.length : Int) + 1 := by omega
        go_wp2
        go_region
        all_goals
          go_roundw
          case rel =>
            have hv := HO1.out.vs
            have hln := HO1.out.ln
            have hx := orr_next H1'.out HK.out.1 HK.out.2 hc HO1.out.ge (hv q (by simp)) (fun x hx => hv x (by simp [hx])) (by simp at hln; omega)
            have hu : unitsP q ++ units qs = unitsP p ++ units ps := by
              rw [← HU.out, units_cons]
              have e : unitsP p' = [] := List.eq_nil_of_length_eq_zero (by rw [unitsP_len]; simpa using g0)
              rw [e]
              rfl
            repeat apply Exists.intro
            exact ⟨⟨rfl, q, qs, hx, hu, hb1.trans (nextW_below HO1.out.ge _ _ _ _ _ _ _ _), HF1.out.trans (nextW_fr _ _ _ _ _ _ _ _ _)⟩, rfl⟩
          case measure =>
            have hv := HO1.out.vs
            have hln := HO1.out.ln
            have hx := orr_next H1'.out HK.out.1 HK.out.2 hc HO1.out.ge (hv q (by simp)) (fun x hx => hv x (by simp [hx])) (by simp at hln; omega)
            rw [HM.out]
            refine Nat.lt_of_le_of_lt (Nat.le_of_eq (orr_rest hx)) ?_
            simp
    · have g0 : (((sizeP p' : Nat) : Int) == 0) = false := by simp [hs]
      have HS := Lib.hid hs
      clear hs
      go_wp2
      go_ret
      exact ⟨p', ps', ret_b (by have := HS.out; simp; omega), HO1.out, HU.out, fun h => absurd h HS.out, hb1, HF1.out⟩
end Go.Proofs.Ytmlkeflnnaabeaa.low


/-
  The program's reader of an operation: cut and take; the builder's add and addBoth.
-/
namespace Go.Proofs.Ytmlkeflnnaabeaa.low
open Go.RowKit
set_option linter.unusedVariables false

/-- the first n units of a part, and what is left of it -/
def cutL (p : Pt) (n : Nat) : Pt := if p.kind = 2 then ⟨2, 0, p.signs.take n⟩ else ⟨p.kind, (n : Int), []⟩
def cutR (p : Pt) (n : Nat) : Pt := if p.kind = 2 then ⟨2, 0, p.signs.drop n⟩ else ⟨p.kind, p.n - (n : Int), []⟩
/-- a part as a value -/
def PtV (lo : Nat) (w : World) (p : Pt) (v : Value) : Prop := ∃ A c, v = .agg #[.int .i64 p.kind, .int .i64 p.n, .slice A p.signs.length c] ∧ RdC w lo (encInts p.signs) (.slice A p.signs.length c)
theorem PtV.below {lo : Nat} {w w' : World} {p : Pt} {v : Value} (h : PtV lo w p v) (hb : Below lo w w') : PtV lo w' p v := by
  obtain ⟨A, c, h1, h2⟩ := h
  exact ⟨A, c, h1, h2.below hb⟩
def CutP (lo : Nat) (p : Pt) (n : Nat) (w : World) (e : Ending) (w' : World) : Prop := ∃ v1 v2, e = .returned (.tuple #[v1, v2]) ∧ PtV lo w' (cutL p n) v1 ∧ PtV lo w' (cutR p n) v2 ∧ Below w.heap.size w w'
theorem ints_none {w : World} {B : Nat} {A : Option Addr} {c : Nat} : RdC w B (encInts []) (.slice A 0 c) := ⟨A, c, by simp, by simp, fun h => by simp at h⟩

theorem cut_below {lo : Nat} {w : World} (h : lo ≤ w.heap.size) (o1 o2 o3 : Obj) : Below lo w (((w.alloc o1).alloc o2).alloc o3).drew := (((((Below.refl lo w).alloc h _).alloc (by simp; omega) _).alloc (by simp; omega) _)).drew

set_option maxRecDepth 100000 in
set_option maxHeartbeats 3200000 in
theorem implCut (lo : Nat) (p : Pt) (n : Nat) (B : Option Addr) (cb : Nat) (w : World) (hv : Vp p) (hr : RdC w lo (encInts p.signs) (.slice B p.signs.length cb)) (hlo : lo ≤ w.heap.size) (h0 : 0 < n) (hn : n ≤ sizeP p) :
    Calls Try.prog 108 #[.agg #[.int .i64 p.kind, .int .i64 p.n, .slice B p.signs.length cb], .int .i64 (n : Int)] w (CutP lo p n w) := by
  have hz := hv.size
  by_cases hk : p.kind = 2
  · have e1 : cutL p n = ⟨2, 0, p.signs.take n⟩ := by simp [cutL, hk]
    have e2 : cutR p n = ⟨2, 0, p.signs.drop n⟩ := by simp [cutR, hk]
    have hl : n ≤ p.signs.length := by simpa [sizeP, hk] using hn
    have g0 : (p.kind == 2) = true := by simp [hk]
    obtain ⟨A', c', hv', hrow, hcap⟩ := ints_rd hr
    injection hv' with x1 x2 x3
    subst x1 x3
    obtain ⟨ad, rfl, hb, hcell⟩ := hrow (by omega)
    have i1 : (0 : Int) ≤ (n : Int) := by omega
    have i2 : (n : Int) ≤ (p.signs.length : Int) := by omega
    have i3 : (n : Int) ≤ (cb : Int) := by omega
    have HR := Lib.hid hrow
    have H1 := Lib.hid e1
    have H2 := Lib.hid e2
    clear e1 e2 hrow hk hr hcell
    have hl1 : (p.signs.take n).length = n := by simp; omega
    have hl2 : (p.signs.drop n).length = p.signs.length - n := by simp
    have key : ∀ w', Below lo w w' → PtV lo w' ⟨2, 0, p.signs.take n⟩ (.agg #[.int .i64 2, .int .i64 0, .slice (some ad) n cb]) := fun w' hbw => by
      have := rd_ints (c := cb) (HR.out.init n) (by omega)
      rw [hl1] at this
      exact ⟨some ad, cb, by rw [hl1], by rw [hl1]; exact this.below hbw⟩
    have KEY := Lib.hid key
    clear key
    by_cases hcn : cb = n
    · have e3 : p.signs.drop n = [] := List.drop_eq_nil_of_le (by omega)
      have e4 : p.signs.length = n := by omega
      have HL := Lib.hid e4
      have H3 := Lib.hid e3
      have HC := Lib.hid hcn
      clear e3 e4 hl1 hl2 hl i3 hcap
      subst hcn
      go_enter Try.func108, Try.ntmps108
      go_wp2
      go_region
      all_goals
        go_wp2
        refine bodyPost_ret (v := .tuple #[.agg #[.int .i64 2, .int .i64 0, .slice (some ad) cb cb], .agg #[.int .i64 2, .int .i64 0, .slice (some ad) (p.signs.length - cb) 0]]) (by simp [results, Try.results108, go_sem]) rfl ⟨_, _, rfl, ?_, ?_, ?_⟩
        · rw [H1.out]
          exact KEY.out _ (cut_below hlo _ _ _)
        · rw [H2.out, H3.out, HL.out, Nat.sub_self]
          exact ⟨some ad, 0, rfl, ints_none⟩
        · exact cut_below (Nat.le_refl _) _ _ _
    · have HL2 := Lib.hid hl2
      clear hl1 hl2
      go_enter Try.func108, Try.ntmps108
      go_wp2
      go_region
      all_goals
        go_wp2
        refine bodyPost_ret (v := .tuple #[.agg #[.int .i64 2, .int .i64 0, .slice (some ad) n cb], .agg #[.int .i64 2, .int .i64 0, .slice (some (ad.add n)) (p.signs.length - n) (cb - n)]]) (by simp [results, Try.results108, go_sem]) rfl ⟨_, _, rfl, ?_, ?_, ?_⟩
        · rw [H1.out]
          exact KEY.out _ (cut_below hlo _ _ _)
        · rw [H2.out]
          refine ⟨some (ad.add n), cb - n, by rw [HL2.out], ?_⟩
          rw [HL2.out]
          have := rd_ints (c := cb - n) (HR.out.tail n) (by rw [HL2.out]; omega)
          rw [HL2.out] at this
          exact this.below (cut_below hlo _ _ _)
        · exact cut_below (Nat.le_refl _) _ _ _
  · have e1 : cutL p n = ⟨p.kind, (n : Int), []⟩ := by simp [cutL, hk]
    have e2 : cutR p n = ⟨p.kind, p.n - (n : Int), []⟩ := by simp [cutR, hk]
    have g0 : (p.kind == 2) = false := by simp [hk]
    have hl : (n : Int) ≤ p.n := by have : sizeP p = p.n.toNat := by simp [sizeP, hk]
                                    omega
    have H1 := Lib.hid e1
    have H2 := Lib.hid e2
    clear e1 e2 hk hr
    go_enter Try.func108, Try.ntmps108
    go_wp2
    go_region
    all_goals
      go_wp2
      refine bodyPost_ret (v := .tuple #[.agg #[.int .i64 p.kind, .int .i64 (n : Int), .slice none 0 0], .agg #[.int .i64 p.kind, .int .i64 (p.n - (n : Int)), .slice none 0 0]]) (by simp [results, Try.results108, go_sem]) rfl ⟨_, _, rfl, ?_, ?_, ?_⟩
      · rw [H1.out]
        exact ⟨none, 0, rfl, ints_none⟩
      · rw [H2.out]
        exact ⟨none, 0, rfl, ints_none⟩
      · exact cut_below (Nat.le_refl _) _ _ _
/-- behind a take of n units: the piece, and the reader moved on -/
def TakeQ (lo g : Nat) (p : Pt) (ps : List Pt) (n : Nat) (w : World) (e : Ending) (w' : World) : Prop := ∃ v, e = .returned v ∧ PtV lo w' (cutL p n) v ∧ Orr lo g w' (cutR p n) ps ∧ Below lo w w' ∧ Fr (fun q => q = g) w w'
theorem cutR_vp {p : Pt} {n : Nat} (h : Vp p) (hn : n ≤ sizeP p) : Vp (cutR p n) := by
  obtain ⟨k, m, zs⟩ := p
  unfold cutR
  unfold sizeP at hn
  rcases h with ⟨h1, h2, h3, h4⟩ | ⟨h1, h2, h3⟩ | ⟨h1, h2, h3⟩ <;> simp only at * <;> subst_vars
  · have hk : ¬ k = 2 := by omega
    rw [if_neg hk] at hn ⊢
    exact .inl ⟨h1, by simp; omega, by simp; omega, rfl⟩
  · exact .inr (.inl ⟨rfl, rfl, by simp; omega⟩)
  · simp at hn
    subst hn
    exact .inr (.inr ⟨rfl, rfl, rfl⟩)
theorem cutL_vp {p : Pt} {n : Nat} (h : Vp p) (hn : n ≤ sizeP p) : Vp (cutL p n) := by
  obtain ⟨k, m, zs⟩ := p
  have hz := h.size
  unfold cutL
  unfold sizeP at hn hz
  rcases h with ⟨h1, h2, h3, h4⟩ | ⟨h1, h2, h3⟩ | ⟨h1, h2, h3⟩ <;> simp only at * <;> subst_vars
  · have hk : ¬ k = 2 := by omega
    rw [if_neg hk] at hn hz ⊢
    exact .inl ⟨h1, by simp, by simp; omega, rfl⟩
  · exact .inr (.inl ⟨rfl, rfl, by simp; omega⟩)
  · simp at hn
    subst hn
    exact .inr (.inr ⟨rfl, rfl, rfl⟩)

theorem take_below {lo : Nat} (w : World) (g m : Nat) (x0 x1 x2 y0 y1 y2 : Value) (o1 o2 : Obj) (hg : lo ≤ g) (hm : lo ≤ m) (hs : g < w.heap.size) : Below lo w ((((((((w.setCell ⟨g, 0, none⟩ x0).setCell ⟨g, 1, none⟩ x1).setCell ⟨g, 2, none⟩ x2).setCell ⟨m, 0, none⟩ y0).setCell ⟨m, 1, none⟩ y1).setCell ⟨m, 2, none⟩ y2).alloc o1).alloc o2) :=
  ((((((((Below.refl lo w).setCell (p := ⟨g, 0, none⟩) hg _).setCell (p := ⟨g, 1, none⟩) hg _).setCell (p := ⟨g, 2, none⟩) hg _).setCell (p := ⟨m, 0, none⟩) hm _).setCell (p := ⟨m, 1, none⟩) hm _).setCell (p := ⟨m, 2, none⟩) hm _).alloc (by simp; omega) _).alloc (by simp; omega) _
set_option maxRecDepth 100000 in
set_option maxHeartbeats 3200000 in
theorem implTake (lo g : Nat) (p : Pt) (ps : List Pt) (n : Nat) (w : World) (h : Orr lo g w p ps) (h0 : 0 < n) (hn : n ≤ sizeP p) : Calls Try.prog 106 #[.pointer (some ⟨g, 0, none⟩), .int .i64 (n : Int)] w (TakeQ lo g p ps n w) := by
  obtain ⟨B, cb, A, c, h1, h2, h3⟩ := h.box
  have hlt := h.lt
  have c0 : w.cell? ⟨g, 0, none⟩ = some (.int .i64 p.kind) := cell_of_row _ _ 0 _ _ _ h1
  have c1 : w.cell? ⟨g, 1, none⟩ = some (.int .i64 p.n) := cell_of_row _ _ 1 _ _ _ h1
  have c2 : w.cell? ⟨g, 2, none⟩ = some (.slice B p.signs.length cb) := cell_of_row _ _ 2 _ _ _ h1
  have hge := h.ge
  have HV := Lib.hid h.vp
  have HO := Lib.hid h
  have H1 := Lib.hid h1
  clear h h1
  go_enter Try.func106, Try.ntmps106
  have b0 := alloc_below w (.cells #[.int .i64 0, .int .i64 0, .slice none 0 0] 80)
  go_wp2_with fail
  refine (implCut lo p n B cb _ HV.out (h2.below (b0.mono (by omega))) (by simp; omega) h0 hn).mono ?_
  rintro e w1 ⟨v1, v2, rfl, ⟨A1, c1'', rfl, r1⟩, ⟨A2, c2'', rfl, r2⟩, b1⟩
  have hb1 : Below w.heap.size w w1 := b0.trans (b1.mono b0.size)
  have hgl : g < w1.heap.size := Nat.lt_of_lt_of_le hlt hb1.size
  have h1' := (hb1.block g hlt).trans H1.out
  have f0 : ∀ o, w1.frozen? ⟨g, o, none⟩ = false := fun o => by simp [World.frozen?, h1']
  have f1 := f0 0
  have f2 := f0 1
  have f3 := f0 2
  have c0' : w1.cell? ⟨g, 0, none⟩ = some (.int .i64 p.kind) := cell_of_row _ _ 0 _ _ _ h1'
  have c1' : w1.cell? ⟨g, 1, none⟩ = some (.int .i64 p.n) := cell_of_row _ _ 1 _ _ _ h1'
  have c2' : w1.cell? ⟨g, 2, none⟩ = some (.slice B p.signs.length cb) := cell_of_row _ _ 2 _ _ _ h1'
  have hn4 : w1.heap[w.heap.size]? = some (.cells #[.int .i64 0, .int .i64 0, .slice none 0 0] 80 (0, 0)) := (b1.block _ (by simp)).trans (heap_alloc_new w _)
  have hnf : ∀ o, w1.frozen? ⟨w.heap.size, o, none⟩ = false := fun o => by simp [World.frozen?, hn4]
  have k0 : w1.cell? ⟨w.heap.size, 0, none⟩ = some (.int .i64 0) := cell_of_row _ _ 0 _ _ _ hn4
  have k1 : w1.cell? ⟨w.heap.size, 1, none⟩ = some (.int .i64 0) := cell_of_row _ _ 1 _ _ _ hn4
  have k2 : w1.cell? ⟨w.heap.size, 2, none⟩ = some (.slice none 0 0) := cell_of_row _ _ 2 _ _ _ hn4
  have n0 := hnf 0
  have n1 := hnf 1
  have n2 := hnf 2
  have hwl : w.heap.size < w1.heap.size := lt_of_some hn4
  have hgn : ¬ g = w.heap.size := by omega
  have hgn1 : ¬ g = w1.heap.size := by omega
  have hgn2 : ¬ g = w1.heap.size + 1 := by omega
  have hwn1 : ¬ w.heap.size = w1.heap.size := by omega
  have hwn2 : ¬ w.heap.size = w1.heap.size + 1 := by omega
  have HP := Lib.hid h1'
  have HN := Lib.hid hn4
  have HB := Lib.hid b1
  have HB1 := Lib.hid hb1
  clear h1' hn4 b1 hb1 f0 hnf c0 c1 c2
  go_wp2
  have hge2 : lo ≤ w.heap.size := Nat.le_trans hge (Nat.le_of_lt hlt)
  have bel : Below lo w1 _ := take_below w1 g w.heap.size (.int .i64 (cutR p n).kind) (.int .i64 (cutR p n).n) (.slice A2 (cutR p n).signs.length c2'') (.int .i64 (cutL p n).kind) (.int .i64 (cutL p n).n) (.slice A1 (cutL p n).signs.length c1'') (.cells #[.int .i64 (cutL p n).kind, .int .i64 (cutL p n).n, .slice A1 (cutL p n).signs.length c1''] 80) (.cells #[.int .i64 (cutR p n).kind, .int .i64 (cutR p n).n, .slice A2 (cutR p n).signs.length c2''] 80) hge hge2 hgl
  refine bodyPost_ret (v := .agg #[.int .i64 (cutL p n).kind, .int .i64 (cutL p n).n, .slice A1 (cutL p n).signs.length c1'']) (by simp [results, Try.results106, go_sem, *]) rfl ⟨_, rfl, ⟨A1, c1'', rfl, r1.below bel⟩, ⟨⟨A2, c2'', A, c, ?_, r2.below bel, (h3.below (HB1.out.mono hge2)).below bel⟩, hge, cutR_vp HV.out hn, HO.out.vs, HO.out.ln⟩, (HB1.out.mono hge2).trans bel, ?_⟩
  · refine heap_old _ _ (heap_old _ _ ?_)
    rw [Below.heap_setCell _ _ _ _ hgn, Below.heap_setCell _ _ _ _ hgn, Below.heap_setCell _ _ _ _ hgn, heap_setCell_same _ _ _ _ _ _ (heap_setCell_same _ _ _ _ _ _ (heap_setCell_same _ _ _ _ _ _ HP.out))]
    rfl
  · refine ⟨Nat.le_trans HB1.out.size bel.size, fun b hb hs => ?_⟩
    have hs' : ¬ b = g := hs
    have hbn : ¬ b = w.heap.size := by omega
    have hbl : b < w1.heap.size := by omega
    rw [Below.heap_alloc _ _ _ (by simp; omega), Below.heap_alloc _ _ _ (by simp; omega), Below.heap_setCell _ _ _ _ hbn, Below.heap_setCell _ _ _ _ hbn, Below.heap_setCell _ _ _ _ hbn, Below.heap_setCell _ _ _ _ hs', Below.heap_setCell _ _ _ _ hs', Below.heap_setCell _ _ _ _ hs']
    exact HB1.out.block b hb
end Go.Proofs.Ytmlkeflnnaabeaa.low


/-
  The program's builder as the composition uses it: add and addBoth, in the builder's words.
-/
namespace Go.Proofs.Ytmlkeflnnaabeaa.low
open Go.RowKit
set_option linter.unusedVariables false

theorem BldP.pre {O : Nat → Prop} {lo g : Nat} {T : TypeId} {L : List Pt} {w w1 w' : World} {e : Ending} (hlo : lo ≤ w.heap.size) (hb : Below w.heap.size w w1) (h : BldP O lo g T L w1 e w') : BldP O lo g T L w e w' := by
  obtain ⟨h1, O', h2, h3, h4⟩ := h
  exact ⟨h1, O', h2, (hb.mono hlo).trans h3, Nat.le_trans hb.size h4.size, fun b hlt hn => (h4.block b (Nat.lt_of_lt_of_le hlt hb.size) hn).trans (hb.block b hlt), fun b ho => (h4.more b ho).imp id (fun h => Nat.le_trans hb.size h)⟩
theorem BldP.same {O : Nat → Prop} {lo g : Nat} {T : TypeId} {L : List Pt} {w w' : World} (h : Bld O lo g T w L) (hb : Below w.heap.size w w') : BldP O lo g T L w (.returned (.tuple #[])) w' :=
  ⟨rfl, O, h.past hb, hb.mono h.low, hb.size, fun b hlt _ => hb.block b hlt, fun b ho => .inl ho⟩
theorem rd_row {w : World} {lo : Nat} {A : Option Addr} {c : Nat} {zs : List Int} (h : RdC w lo (encInts zs) (.slice A zs.length c)) : Row (Value.int .i64) w lo A zs := by
  obtain ⟨A', c', e, h1, _⟩ := ints_rd h
  injection e with e1 e2 e3
  rw [e1]
  exact h1
set_option maxRecDepth 100000 in
set_option maxHeartbeats 1600000 in
theorem implAddB (O : Nat → Prop) (lo g : Nat) (L : List Pt) (p : Pt) (v : Value) (w : World) (hb : Bld O lo g 76 w L) (hv : PtV lo w p v) (hp : Vp p) (hk : ¬ p.kind = 0) (hl : L.length < 100000) :
    Calls Try.prog 81 #[.pointer (some ⟨g, 0, none⟩), v] w (BldP O lo g 76 (L ++ [p]) w) := by
  obtain ⟨A, c, rfl, hr⟩ := hv
  have hlo := hb.low
  have hrow := rd_row hr
  obtain ⟨pk, pn, pz⟩ := p
  have hsz := hp.size
  simp only at hk hr hrow hsz ⊢
  have hat := hb.past (alloc_below w (.cells #[.int .i64 pk, .int .i64 pn, .slice A pz.length c] 80))
  have bel := alloc_below w (.cells #[.int .i64 pk, .int .i64 pn, .slice A pz.length c] 80)
  have hrow1 : Row (Value.int .i64) (w.alloc (.cells #[.int .i64 pk, .int .i64 pn, .slice A pz.length c] 80)) (w.alloc (.cells #[.int .i64 pk, .int .i64 pn, .slice A pz.length c] 80)).heap.size A pz := (rd_row (hr.below (bel.mono hlo))).more (by simp; omega)
  have HAT := Lib.hid hat
  have HROW := Lib.hid hrow1
  clear hat hrow hrow1 hr hb
  rcases hp with ⟨h1, h2, h3, h4⟩ | ⟨h1, h2, h3⟩ | ⟨h1, h2, h3⟩
  · simp only at h1 h2 h3 h4
    subst h4
    rcases h1 with rfl | rfl
    · go_enter Try.func81, Try.ntmps81
      go_wp2_with fail
      refine (implKeepB O lo g L pn _ HAT.out h2 h3 hl).mono ?_
      intro e w3 hq
      have HQ := Lib.hid (BldP.pre hlo bel hq)
      have he := hq.1
      clear hq
      subst he
      go_wp2
      go_end0
      exact HQ.out
    · go_enter Try.func81, Try.ntmps81
      go_wp2_with fail
      refine (implDropB O lo g L pn _ HAT.out h2 h3 hl).mono ?_
      intro e w3 hq
      have HQ := Lib.hid (BldP.pre hlo bel hq)
      have he := hq.1
      clear hq
      subst he
      go_wp2
      go_end0
      exact HQ.out
  · simp only at h1 h2 h3
    subst h1 h2
    go_enter Try.func81, Try.ntmps81
    go_wp2_with fail
    refine (implPutB O lo g L A c pz.length pz _ HAT.out HROW.out rfl h3 hl).mono ?_
    intro e w3 hq
    have HQ := Lib.hid (BldP.pre hlo bel hq)
    have he := hq.1
    clear hq
    subst he
    go_wp2
    go_end0
    exact HQ.out
  · exact absurd h1 hk

theorem two_below {w : World} (o1 o2 : Obj) : Below w.heap.size w ((w.alloc o1).alloc o2) := ((Below.refl _ w).alloc (Nat.le_refl _) _).alloc (by simp) _
/-- what two parts that meet leave -/
def bothL (L : List Pt) (p q : Pt) : List Pt := if q.kind = 1 then L ++ [p] else if p.kind = 1 then L ++ [q] else L
end Go.Proofs.Ytmlkeflnnaabeaa.low


/-
  The program's reader inside a larger struct (at o in the block g): more, kind, take.
-/
namespace Go.Proofs.Ytmlkeflnnaabeaa.low.xb
open Go.RowKit
set_option linter.unusedVariables false

/-- the reader's four cells at o of what D says: p at hand, ps behind it -/
def RdV (lo : Nat) (w : World) (D : Nat → Option Value) (o : Nat) (p : Pt) (ps : List Pt) : Prop :=
  (∃ B cb A c, D o = some (.int .i64 p.kind) ∧ D (o + 1) = some (.int .i64 p.n) ∧ D (o + 2) = some (.slice B p.signs.length cb) ∧ D (o + 3) = some (.slice A ps.length c) ∧ RdC w lo (encInts p.signs) (.slice B p.signs.length cb) ∧ RdC w lo (encPs ps) (.slice A ps.length c)) ∧ Vp p ∧ (∀ x ∈ ps, okPt x = true) ∧ ps.length ≤ 1048576
theorem RdV.keep {lo o : Nat} {w w' : World} {D D' : Nat → Option Value} {p : Pt} {ps : List Pt} (h : RdV lo w D o p ps) (hb : Below lo w w') (hD : ∀ i, o ≤ i → i < o + 4 → D' i = D i) : RdV lo w' D' o p ps := by
  obtain ⟨⟨B, cb, A, c, h1, h2, h3, h4, h5, h6⟩, h7⟩ := h
  exact ⟨⟨B, cb, A, c, (hD o (by omega) (by omega)).trans h1, (hD _ (by omega) (by omega)).trans h2, (hD _ (by omega) (by omega)).trans h3, (hD _ (by omega) (by omega)).trans h4, h5.below hb, h6.below hb⟩, h7⟩
/-- the reader at o in the block g; the block's other cells are as C says -/
structure Orr (lo g o : Nat) (C : Nat → Option Value) (w : World) (p : Pt) (ps : List Pt) : Prop where
  box : ∃ D, Blk g 97 w D ∧ RdV lo w D o p ps ∧ ∀ i, i < o ∨ o + 4 ≤ i → D i = C i
  ge : lo ≤ g
section
variable {lo g o : Nat} {C : Nat → Option Value} {w w' : World} {p : Pt} {ps : List Pt}
theorem Orr.lt (h : Orr lo g o C w p ps) : g < w.heap.size := by obtain ⟨D, h1, _⟩ := h.box; exact h1.lt
theorem Orr.vp (h : Orr lo g o C w p ps) : Vp p := by obtain ⟨D, _, h1, _⟩ := h.box; exact h1.2.1
theorem Orr.vs (h : Orr lo g o C w p ps) : ∀ x ∈ ps, okPt x = true := by obtain ⟨D, _, h1, _⟩ := h.box; exact h1.2.2.1
theorem Orr.ln (h : Orr lo g o C w p ps) : ps.length ≤ 1048576 := by obtain ⟨D, _, h1, _⟩ := h.box; exact h1.2.2.2
theorem Orr.past (h : Orr lo g o C w p ps) (hb : Below w.heap.size w w') : Orr lo g o C w' p ps := by
  have hl := h.lt
  have hg := h.ge
  obtain ⟨D, h1, h2, h3⟩ := h.box
  exact ⟨⟨D, h1.past hb, h2.keep (hb.mono (by omega)) (fun _ _ _ => rfl), h3⟩, hg⟩
end
def restOf (g o : Nat) (w : World) : Nat := match w.cell? ⟨g, o + 3, none⟩ with
  | some (.slice _ n _) => n
  | _ => 0
theorem orr_rest {lo g o : Nat} {C : Nat → Option Value} {w : World} {p : Pt} {ps : List Pt} (h : Orr lo g o C w p ps) : restOf g o w = ps.length := by
  obtain ⟨D, h1, ⟨⟨B, cb, A, c, _, _, _, h4, _⟩, _⟩, _⟩ := h.box
  unfold restOf
  rw [h1.cell, h4]
/-- behind a look for more: the reader stands at a part with something left of it, or at the end -/
def MoreP (lo g o : Nat) (C : Nat → Option Value) (p : Pt) (ps : List Pt) (w : World) (e : Ending) (w' : World) : Prop := ∃ p' ps', e = .returned (.bool (decide (0 < sizeP p'))) ∧ Orr lo g o C w' p' ps' ∧ unitsP p' ++ units ps' = unitsP p ++ units ps ∧ (sizeP p' = 0 → ps' = []) ∧ Below lo w w' ∧ Fr (fun q => q = g) w w'

/-- the world behind 'r.next, r.rest = r.rest[0], r.rest[1:]' -/
def nextW (g o b off c k : Nat) (kind n : Int) (u : Value) (w : World) : World := ((((w.drew.setCell ⟨g, o, none⟩ (.int .i64 kind)).setCell ⟨g, o + 1, none⟩ (.int .i64 n)).setCell ⟨g, o + 2, none⟩ u).setCell ⟨g, o + 3, none⟩ (.slice (if c = 1 then some ⟨b, off, none⟩ else some ⟨b, off + 3, none⟩) k (c - 1)))
theorem nextW_fr (g o b off c k : Nat) (kind n : Int) (u : Value) (w : World) : Fr (fun q => q = g) w (nextW g o b off c k kind n u w) :=
  (((((Fr.refl (fun q => q = g) w).drew).setCell (p := ⟨g, o, none⟩) rfl _).setCell (p := ⟨g, o + 1, none⟩) rfl _).setCell (p := ⟨g, o + 2, none⟩) rfl _).setCell (p := ⟨g, o + 3, none⟩) rfl _
theorem nextW_below {lo g : Nat} (hg : lo ≤ g) (o b off c k : Nat) (kind n : Int) (u : Value) (w : World) : Below lo w (nextW g o b off c k kind n u w) :=
  (((((Below.refl lo w).drew).setCell (p := ⟨g, o, none⟩) hg _).setCell (p := ⟨g, o + 1, none⟩) hg _).setCell (p := ⟨g, o + 2, none⟩) hg _).setCell (p := ⟨g, o + 3, none⟩) hg _
theorem blk4 {g o : Nat} {T : TypeId} {w : World} {D : Nat → Option Value} {v0 v1 v2 v3 : Value} (hD : Blk g T w D) (h0 : D o = some v0) (h1 : D (o + 1) = some v1) (h2 : D (o + 2) = some v2) (h3 : D (o + 3) = some v3) (x0 x1 x2 x3 : Value) : ∃ D', Blk g T ((((w.setCell ⟨g, o, none⟩ x0).setCell ⟨g, o + 1, none⟩ x1).setCell ⟨g, o + 2, none⟩ x2).setCell ⟨g, o + 3, none⟩ x3) D' ∧ D' o = some x0 ∧ D' (o + 1) = some x1 ∧ D' (o + 2) = some x2 ∧ D' (o + 3) = some x3 ∧ ∀ i, i < o ∨ o + 4 ≤ i → D' i = D i := by
  have k1 := hD.set h0 x0
  have k2 := k1.set (i := o + 1) (u := v1) (by rw [upd_ne _ (by omega)]; exact h1) x1
  have k3 := k2.set (i := o + 2) (u := v2) (by rw [upd_ne _ (by omega), upd_ne _ (by omega)]; exact h2) x2
  have k4 := k3.set (i := o + 3) (u := v3) (by rw [upd_ne _ (by omega), upd_ne _ (by omega), upd_ne _ (by omega)]; exact h3) x3
  refine ⟨_, k4, ?_, ?_, ?_, upd_at _ _ _, fun i hi => ?_⟩
  · rw [upd_ne _ (by omega), upd_ne _ (by omega), upd_ne _ (by omega), upd_at]
  · rw [upd_ne _ (by omega), upd_ne _ (by omega), upd_at]
  · rw [upd_ne _ (by omega), upd_at]
  · rw [upd_ne _ (by omega), upd_ne _ (by omega), upd_ne _ (by omega), upd_ne _ (by omega)]
theorem blk3 {g o : Nat} {T : TypeId} {w : World} {D : Nat → Option Value} {v0 v1 v2 : Value} (hD : Blk g T w D) (h0 : D o = some v0) (h1 : D (o + 1) = some v1) (h2 : D (o + 2) = some v2) (x0 x1 x2 : Value) : ∃ D', Blk g T (((w.setCell ⟨g, o, none⟩ x0).setCell ⟨g, o + 1, none⟩ x1).setCell ⟨g, o + 2, none⟩ x2) D' ∧ D' o = some x0 ∧ D' (o + 1) = some x1 ∧ D' (o + 2) = some x2 ∧ ∀ i, i < o ∨ o + 3 ≤ i → D' i = D i := by
  have k1 := hD.set h0 x0
  have k2 := k1.set (i := o + 1) (u := v1) (by rw [upd_ne _ (by omega)]; exact h1) x1
  have k3 := k2.set (i := o + 2) (u := v2) (by rw [upd_ne _ (by omega), upd_ne _ (by omega)]; exact h2) x2
  refine ⟨_, k3, ?_, ?_, upd_at _ _ _, fun i hi => ?_⟩
  · rw [upd_ne _ (by omega), upd_ne _ (by omega), upd_at]
  · rw [upd_ne _ (by omega), upd_at]
  · rw [upd_ne _ (by omega), upd_ne _ (by omega), upd_ne _ (by omega)]
theorem orr_next {lo g o b off c c' : Nat} {C D : Nat → Option Value} {A' : Option Addr} {w : World} {q : Pt} {qs : List Pt} {v0 v1 v2 v3 : Value} (hD : Blk g 97 w D) (h0 : D o = some v0) (h1 : D (o + 1) = some v1) (h2 : D (o + 2) = some v2) (h3 : D (o + 3) = some v3) (hC : ∀ i, i < o ∨ o + 4 ≤ i → D i = C i)
    (hr : RdC w lo (encInts q.signs) (.slice A' q.signs.length c')) (ht : ∀ d, qs.length ≤ d → RdC w lo (encPs qs) (.slice (some ⟨b, off + 3, none⟩) qs.length d)) (hc : qs.length + 1 ≤ c) (hge : lo ≤ g)
    (hv : okPt q = true) (hvs : ∀ x ∈ qs, okPt x = true) (hln : qs.length ≤ 1048576) : Orr lo g o C (nextW g o b off c qs.length q.kind q.n (.slice A' q.signs.length c') w) q qs := by
  have hb := nextW_below hge o b off c qs.length q.kind q.n (.slice A' q.signs.length c') w
  obtain ⟨D', k, k0, k1, k2, k3, k4⟩ := blk4 (w := w.drew) (hD.keep (heap_drew w g)) h0 h1 h2 h3 (.int .i64 q.kind) (.int .i64 q.n) (.slice A' q.signs.length c') (.slice (if c = 1 then some ⟨b, off, none⟩ else some ⟨b, off + 3, none⟩) qs.length (c - 1))
  refine ⟨⟨D', k, ⟨⟨A', c', (if c = 1 then some ⟨b, off, none⟩ else some ⟨b, off + 3, none⟩), c - 1, k0, k1, k2, k3, hr.below hb, ?_⟩, Vp.of hv, hvs, hln⟩, fun i hi => (k4 i hi).trans (hC i hi)⟩, hge⟩
  by_cases e : c = 1
  · rw [if_pos e]
    obtain rfl : qs = [] := List.eq_nil_of_length_eq_zero (by omega)
    exact parts_none
  · rw [if_neg e]
    exact (ht _ (by omega)).below hb

set_option maxRecDepth 100000 in
set_option maxHeartbeats 3200000 in
theorem implMore (lo g o : Nat) (C : Nat → Option Value) (p : Pt) (ps : List Pt) (w : World) (h : Orr lo g o C w p ps) : Calls Try.prog 100 #[.pointer (some ⟨g, o, none⟩)] w (MoreP lo g o C p ps w) := by
  have hgw := h.lt
  go_enter Try.func100, Try.ntmps100
  go_wp2
  go_loopw [2] (fun t wr => t = .bool false ∧ ∃ p' ps', Orr lo g o C wr p' ps' ∧ unitsP p' ++ units ps' = unitsP p ++ units ps ∧ Below lo w wr ∧ Fr (fun q => q = g) w wr) (fun _ wr => restOf g o wr)
  case atStart => exact ⟨rfl, p, ps, h, rfl, Below.refl _ _, Fr.refl _ _⟩
  case round =>
    obtain ⟨rfl, p', ps', ho, hu, hbel, hfr⟩ := hrel
    obtain ⟨D, hD, ⟨⟨B, cb, A, c, d0, d1, d2, d3, h2, h3⟩, _⟩, hC⟩ := ho.box
    have hz := ho.vp.size
    have c0 : wr.cell? ⟨g, o, none⟩ = some (.int .i64 p'.kind) := (hD.cell _).trans d0
    have c1 : wr.cell? ⟨g, o + 1, none⟩ = some (.int .i64 p'.n) := (hD.cell _).trans d1
    have c2 : wr.cell? ⟨g, o + 2, none⟩ = some (.slice B p'.signs.length cb) := (hD.cell _).trans d2
    have c3 : wr.cell? ⟨g, o + 3, none⟩ = some (.slice A ps'.length c) := (hD.cell _).trans d3
    have hlt := ho.lt
    have HO := Lib.hid ho
    have HU := Lib.hid hu
    have HF := Lib.hid hfr
    have HZ := Lib.hid hz
    have H1 := Lib.hid hD
    have HD := Lib.hid (And.intro d0 (And.intro d1 (And.intro d2 (And.intro d3 (And.intro hC h3)))))
    have HM := Lib.hid (show restOf g o wr = ps'.length by unfold restOf; rw [c3])
    clear ho hu hfr hz hD h hgw d0 d1 d2 d3 hC h3
    go_wp2_with fail
    have hz := HZ.out
    refine (implSize_any p'.kind p'.n B p'.signs.length cb wr (by omega) (by omega) (by omega)).mono ?_
    clear hz c0 c1 c2
    rintro e w1 ⟨rfl, b1⟩
    have HB := Lib.hid b1
    have hlt1 : g < w1.heap.size := Nat.lt_of_lt_of_le hlt b1.size
    have h1' := H1.out.past b1
    have c3' : w1.cell? ⟨g, o + 3, none⟩ = some (.slice A ps'.length c) := (h1'.cell _).trans HD.out.2.2.2.1
    have ho1 := HO.out.past b1
    have hb1 : Below lo w w1 := hbel.trans (b1.mono (Nat.le_trans ho1.ge (by have := HO.out.lt; omega)))
    have hf1 : Fr (fun q => q = g) w w1 := HF.out.trans (Fr.below b1)
    have H3 := Lib.hid (HD.out.2.2.2.2.2.below (b1.mono (Nat.le_trans ho1.ge (by have := HO.out.lt; omega))))
    have H1' := Lib.hid h1'
    have HO1 := Lib.hid ho1
    have HF1 := Lib.hid hf1
    clear b1 c3 h1' ho1 hf1 HO HF HB H1 hbel
    rw [HZ.out.1]
    by_cases hs : sizeP p' = 0
    · have g0 : (((sizeP p' : Nat) : Int) == 0) = true := by simp [hs]
      cases ps' with
      | nil =>
        have HS := Lib.hid hs
        clear hs
        go_wp2
        go_ret
        exact ⟨p', [], ret_b (by simp [HS.out]), HO1.out, HU.out, fun _ => rfl, hb1, HF1.out⟩
      | cons q qs =>
        have hql : ((qs.length : Int) + 1 == 0) = false := by simp; omega
        have k3 := H3.out
        obtain ⟨b, off, A', c', rfl, hblt, hc, d0, d1, d2, r2, rt⟩ := parts_hd k3
        have f1 := H1'.out.free o
        have f2 := H1'.out.free (o + 1)
        have f3 := H1'.out.free (o + 2)
        have f4 := H1'.out.free (o + 3)
        have HK := Lib.hid (show RdC w1 lo (encInts q.signs) (.slice A' q.signs.length c') ∧ (∀ d, qs.length ≤ d → RdC w1 lo (encPs qs) (.slice (some ⟨b, off + 3, none⟩) qs.length d)) from ⟨r2, rt⟩)
        have c0 : w1.cell? ⟨g, o, none⟩ = some (.int .i64 p'.kind) := (H1'.out.cell _).trans HD.out.1
        have c1 : w1.cell? ⟨g, o + 1, none⟩ = some (.int .i64 p'.n) := (H1'.out.cell _).trans HD.out.2.1
        have c2 : w1.cell? ⟨g, o + 2, none⟩ = some (.slice B p'.signs.length cb) := (H1'.out.cell _).trans HD.out.2.2.1
        have hne : ¬ b = g := by have := HO1.out.ge; omega
        clear r2 rt k3 hs h2 H3
        have hq1 : (1 : Int) ≤ (qs.length : Int) + 1 := by omega
        go_wp2
        go_region
        all_goals
          go_roundw
          case rel =>
            have hv := HO1.out.vs
            have hln := HO1.out.ln
            have hx := orr_next H1'.out HD.out.1 HD.out.2.1 HD.out.2.2.1 HD.out.2.2.2.1 HD.out.2.2.2.2.1 HK.out.1 HK.out.2 hc HO1.out.ge (hv q (by simp)) (fun x hx => hv x (by simp [hx])) (by simp at hln; omega)
            have hu : unitsP q ++ units qs = unitsP p ++ units ps := by
              rw [← HU.out, units_cons]
              have e : unitsP p' = [] := List.eq_nil_of_length_eq_zero (by rw [unitsP_len]; simpa using g0)
              rw [e]
              rfl
            repeat apply Exists.intro
            exact ⟨⟨rfl, q, qs, hx, hu, hb1.trans (nextW_below HO1.out.ge _ _ _ _ _ _ _ _ _), HF1.out.trans (nextW_fr _ _ _ _ _ _ _ _ _ _)⟩, rfl⟩
          case measure =>
            have hv := HO1.out.vs
            have hln := HO1.out.ln
            have hx := orr_next H1'.out HD.out.1 HD.out.2.1 HD.out.2.2.1 HD.out.2.2.2.1 HD.out.2.2.2.2.1 HK.out.1 HK.out.2 hc HO1.out.ge (hv q (by simp)) (fun x hx => hv x (by simp [hx])) (by simp at hln; omega)
            rw [HM.out]
            refine Nat.lt_of_le_of_lt (Nat.le_of_eq (orr_rest hx)) ?_
            simp
    · have g0 : (((sizeP p' : Nat) : Int) == 0) = false := by simp [hs]
      have HS := Lib.hid hs
      clear hs
      go_wp2
      go_ret
      exact ⟨p', ps', ret_b (by have := HS.out; simp; omega), HO1.out, HU.out, fun h => absurd h HS.out, hb1, HF1.out⟩
/-- the kind of the part at hand, 0 at the end -/
def kindP (p : Pt) : Int := if 0 < sizeP p then p.kind else 0
def KindP (lo g o : Nat) (C : Nat → Option Value) (p : Pt) (ps : List Pt) (w : World) (e : Ending) (w' : World) : Prop := ∃ p' ps', e = .returned (.int .i64 (kindP p')) ∧ Orr lo g o C w' p' ps' ∧ unitsP p' ++ units ps' = unitsP p ++ units ps ∧ (sizeP p' = 0 → ps' = []) ∧ Below lo w w' ∧ Fr (fun q => q = g) w w'
theorem ret_i {a b : Int} (h : a = b) : Ending.returned (.int .i64 a) = .returned (.int .i64 b) := by rw [h]
set_option maxRecDepth 100000 in
set_option maxHeartbeats 3200000 in
theorem implKind (lo g o : Nat) (C : Nat → Option Value) (p : Pt) (ps : List Pt) (w : World) (h : Orr lo g o C w p ps) : Calls Try.prog 77 #[.pointer (some ⟨g, o, none⟩)] w (KindP lo g o C p ps w) := by
  go_enter Try.func77, Try.ntmps77
  go_wp2_with fail
  refine (implMore lo g o C p ps w h).mono ?_
  rintro e w1 ⟨p', ps', rfl, ho, hu, hs, hb, hf⟩
  have HU := Lib.hid hu
  have HS := Lib.hid hs
  have HF := Lib.hid hf
  have HO := Lib.hid ho
  obtain ⟨D, hD, ⟨⟨B, cb, A, c, d0, d1, d2, d3, h2, h3⟩, _⟩, hC⟩ := ho.box
  have c0 : w1.cell? ⟨g, o, none⟩ = some (.int .i64 p'.kind) := (hD.cell _).trans d0
  clear hu hs hf ho h hD d0 d1 d2 d3 h2 h3 hC
  by_cases h0 : 0 < sizeP p'
  · have g0 : decide (0 < sizeP p') = true := by simp [h0]
    have HK := Lib.hid (show kindP p' = p'.kind by simp [kindP, h0])
    rw [g0]
    clear h0 g0
    go_wp2
    go_ret
    exact ⟨p', ps', ret_i HK.out.symm, HO.out, HU.out, HS.out, hb, HF.out⟩
  · have g0 : decide (0 < sizeP p') = false := by simp [h0]
    have HK := Lib.hid (show kindP p' = 0 by simp [kindP, h0])
    rw [g0]
    clear h0 g0
    go_wp2
    go_ret
    exact ⟨p', ps', ret_i HK.out.symm, HO.out, HU.out, HS.out, hb, HF.out⟩
/-- behind a take of n units: the piece, and the reader moved on -/
def TakeQ (lo g o : Nat) (C : Nat → Option Value) (p : Pt) (ps : List Pt) (n : Nat) (w : World) (e : Ending) (w' : World) : Prop := ∃ v, e = .returned v ∧ PtV lo w' (cutL p n) v ∧ Orr lo g o C w' (cutR p n) ps ∧ Below lo w w' ∧ Fr (fun q => q = g) w w'
theorem take_below {lo : Nat} (w : World) (g o m : Nat) (x0 x1 x2 y0 y1 y2 : Value) (o1 o2 : Obj) (hg : lo ≤ g) (hm : lo ≤ m) (hs : g < w.heap.size) : Below lo w ((((((((w.setCell ⟨g, o, none⟩ x0).setCell ⟨g, o + 1, none⟩ x1).setCell ⟨g, o + 2, none⟩ x2).setCell ⟨m, 0, none⟩ y0).setCell ⟨m, 1, none⟩ y1).setCell ⟨m, 2, none⟩ y2).alloc o1).alloc o2) :=
  ((((((((Below.refl lo w).setCell (p := ⟨g, o, none⟩) hg _).setCell (p := ⟨g, o + 1, none⟩) hg _).setCell (p := ⟨g, o + 2, none⟩) hg _).setCell (p := ⟨m, 0, none⟩) hm _).setCell (p := ⟨m, 1, none⟩) hm _).setCell (p := ⟨m, 2, none⟩) hm _).alloc (by simp; omega) _).alloc (by simp; omega) _
set_option maxRecDepth 100000 in
set_option maxHeartbeats 3200000 in
theorem implTake (lo g o : Nat) (C : Nat → Option Value) (p : Pt) (ps : List Pt) (n : Nat) (w : World) (h : Orr lo g o C w p ps) (h0 : 0 < n) (hn : n ≤ sizeP p) : Calls Try.prog 106 #[.pointer (some ⟨g, o, none⟩), .int .i64 (n : Int)] w (TakeQ lo g o C p ps n w) := by
  obtain ⟨D, hD, ⟨⟨B, cb, A, c, d0, d1, d2, d3, h2, h3⟩, _⟩, hC⟩ := h.box
  have hlt := h.lt
  have c0 : w.cell? ⟨g, o, none⟩ = some (.int .i64 p.kind) := (hD.cell _).trans d0
  have c1 : w.cell? ⟨g, o + 1, none⟩ = some (.int .i64 p.n) := (hD.cell _).trans d1
  have c2 : w.cell? ⟨g, o + 2, none⟩ = some (.slice B p.signs.length cb) := (hD.cell _).trans d2
  have hge := h.ge
  have HV := Lib.hid h.vp
  have HO := Lib.hid h
  have H1 := Lib.hid hD
  have HD := Lib.hid (And.intro d0 (And.intro d1 (And.intro d2 (And.intro d3 hC))))
  clear h hD d0 d1 d2 d3 hC
  go_enter Try.func106, Try.ntmps106
  have b0 := alloc_below w (.cells #[.int .i64 0, .int .i64 0, .slice none 0 0] 80)
  go_wp2_with fail
  refine (implCut lo p n B cb _ HV.out (h2.below (b0.mono (by omega))) (by simp; omega) h0 hn).mono ?_
  rintro e w1 ⟨v1, v2, rfl, ⟨A1, c1'', rfl, r1⟩, ⟨A2, c2'', rfl, r2⟩, b1⟩
  have hb1 : Below w.heap.size w w1 := b0.trans (b1.mono b0.size)
  have hgl : g < w1.heap.size := Nat.lt_of_lt_of_le hlt hb1.size
  have h1' := H1.out.past hb1
  have f1 := h1'.free o
  have f2 := h1'.free (o + 1)
  have f3 := h1'.free (o + 2)
  have c0' : w1.cell? ⟨g, o, none⟩ = some (.int .i64 p.kind) := (h1'.cell _).trans HD.out.1
  have c1' : w1.cell? ⟨g, o + 1, none⟩ = some (.int .i64 p.n) := (h1'.cell _).trans HD.out.2.1
  have c2' : w1.cell? ⟨g, o + 2, none⟩ = some (.slice B p.signs.length cb) := (h1'.cell _).trans HD.out.2.2.1
  have hn4 : w1.heap[w.heap.size]? = some (.cells #[.int .i64 0, .int .i64 0, .slice none 0 0] 80 (0, 0)) := (b1.block _ (by simp)).trans (heap_alloc_new w _)
  have hnf : ∀ o, w1.frozen? ⟨w.heap.size, o, none⟩ = false := fun o => by simp [World.frozen?, hn4]
  have k0 : w1.cell? ⟨w.heap.size, 0, none⟩ = some (.int .i64 0) := cell_of_row _ _ 0 _ _ _ hn4
  have k1 : w1.cell? ⟨w.heap.size, 1, none⟩ = some (.int .i64 0) := cell_of_row _ _ 1 _ _ _ hn4
  have k2 : w1.cell? ⟨w.heap.size, 2, none⟩ = some (.slice none 0 0) := cell_of_row _ _ 2 _ _ _ hn4
  have n0 := hnf 0
  have n1 := hnf 1
  have n2 := hnf 2
  have hwl : w.heap.size < w1.heap.size := lt_of_some hn4
  have hgn : ¬ g = w.heap.size := by omega
  have hgn1 : ¬ g = w1.heap.size := by omega
  have hgn2 : ¬ g = w1.heap.size + 1 := by omega
  have hwn1 : ¬ w.heap.size = w1.heap.size := by omega
  have hwn2 : ¬ w.heap.size = w1.heap.size + 1 := by omega
  have HP := Lib.hid h1'
  have HN := Lib.hid hn4
  have HB := Lib.hid b1
  have HB1 := Lib.hid hb1
  clear h1' hn4 b1 hb1 hnf c0 c1 c2
  go_wp2
  have hge2 : lo ≤ w.heap.size := Nat.le_trans hge (Nat.le_of_lt hlt)
  have bel : Below lo w1 _ := take_below w1 g o w.heap.size (.int .i64 (cutR p n).kind) (.int .i64 (cutR p n).n) (.slice A2 (cutR p n).signs.length c2'') (.int .i64 (cutL p n).kind) (.int .i64 (cutL p n).n) (.slice A1 (cutL p n).signs.length c1'') (.cells #[.int .i64 (cutL p n).kind, .int .i64 (cutL p n).n, .slice A1 (cutL p n).signs.length c1''] 80) (.cells #[.int .i64 (cutR p n).kind, .int .i64 (cutR p n).n, .slice A2 (cutR p n).signs.length c2''] 80) hge hge2 hgl
  obtain ⟨D', kD, e0, e1, e2, e4⟩ := blk3 HP.out HD.out.1 HD.out.2.1 HD.out.2.2.1 (.int .i64 (cutR p n).kind) (.int .i64 (cutR p n).n) (.slice A2 (cutR p n).signs.length c2'')
  refine bodyPost_ret (v := .agg #[.int .i64 (cutL p n).kind, .int .i64 (cutL p n).n, .slice A1 (cutL p n).signs.length c1'']) (by simp [results, Try.results106, go_sem, *]) rfl ⟨_, rfl, ⟨A1, c1'', rfl, r1.below bel⟩, ⟨⟨D', kD.keep ?_, ⟨⟨A2, c2'', A, c, e0, e1, e2, (e4 _ (by omega)).trans HD.out.2.2.2.1, r2.below bel, (h3.below (HB1.out.mono hge2)).below bel⟩, cutR_vp HV.out hn, HO.out.vs, HO.out.ln⟩, fun i hi => (e4 i (by omega)).trans (HD.out.2.2.2.2 i hi)⟩, hge⟩, (HB1.out.mono hge2).trans bel, ?_⟩
  · rw [Below.heap_alloc _ _ _ (by simp; omega), Below.heap_alloc _ _ _ (by simp; omega), Below.heap_setCell _ _ _ _ hgn, Below.heap_setCell _ _ _ _ hgn, Below.heap_setCell _ _ _ _ hgn]
  · refine ⟨Nat.le_trans HB1.out.size bel.size, fun b hb hs => ?_⟩
    have hs' : ¬ b = g := hs
    have hbn : ¬ b = w.heap.size := by omega
    have hbl : b < w1.heap.size := by omega
    rw [Below.heap_alloc _ _ _ (by simp; omega), Below.heap_alloc _ _ _ (by simp; omega), Below.heap_setCell _ _ _ _ hbn, Below.heap_setCell _ _ _ _ hbn, Below.heap_setCell _ _ _ _ hbn, Below.heap_setCell _ _ _ _ hs', Below.heap_setCell _ _ _ _ hs', Below.heap_setCell _ _ _ _ hs']
    exact HB1.out.block b hb
end Go.Proofs.Ytmlkeflnnaabeaa.low.xb


/-
  The builder inside a larger struct in one word: Bld: at o in the block g it holds what the parts L, added one by one, have made of it.
-/
namespace Go.Proofs.Ytmlkeflnnaabeaa.low.xb
open Go.RowKit
set_option linter.unusedVariables false

/-- the builder's three cells at o of what D says hold what the parts L have made; O: its blocks -/
structure BdV (O : Nat → Prop) (lo g : Nat) (w : World) (D : Nat → Option Value) (o : Nat) (L : List Pt) : Prop where
  at_ : ∃ v u us, D o = some v ∧ D (o + 1) = some u ∧ D (o + 2) = some (.int .i64 (foldN L).2.2) ∧ w.ownsRow lo 80 3 v (foldN L).1.length (cellsOf (foldN L).1 us) ∧ us.length = (foldN L).1.length ∧ Apart lo w.heap.size w ((foldN L).1 ++ [⟨2, 0, (foldN L).2.1⟩]) (us ++ [u]) ∧ (∀ k, v.ownBlock = some k → O k) ∧ ∀ (i k : Nat) (x : Value), (us ++ [u])[i]? = some x → x.ownBlock = some k → O k
  sz : ∀ p ∈ L, szP_ p
  len : L.length ≤ 100000
  old : ∀ b, O b → b < w.heap.size
  ng : ¬ O g
/-- the builder at o in the block g; the block's other cells are as C says -/
structure Bld (O : Nat → Prop) (lo g o : Nat) (C : Nat → Option Value) (w : World) (L : List Pt) : Prop where
  box : ∃ D, Blk g 97 w D ∧ BdV O lo g w D o L ∧ ∀ i, i < o ∨ o + 3 ≤ i → D i = C i
  ge : lo ≤ g
/-- blocks outside O and g are as they were; O' is O and new blocks -/
structure GrewX (O O' : Nat → Prop) (g : Nat) (w w' : World) : Prop where
  size : w.heap.size ≤ w'.heap.size
  block : ∀ b, b < w.heap.size → ¬ O b → ¬ b = g → w'.heap[b]? = w.heap[b]?
  more : ∀ b, O' b → O b ∨ w.heap.size ≤ b
def BldP (O : Nat → Prop) (lo g o : Nat) (C : Nat → Option Value) (L : List Pt) (w : World) (e : Ending) (w' : World) : Prop := e = .returned (.tuple #[]) ∧ ∃ O', Bld O' lo g o C w' L ∧ Below lo w w' ∧ GrewX O O' g w w'
theorem BdV.keep {O : Nat → Prop} {lo g o : Nat} {w w' : World} {D D' : Nat → Option Value} {L : List Pt} (h : BdV O lo g w D o L) (hsz : w.heap.size ≤ w'.heap.size) (hk : ∀ b, b < w.heap.size → O b → w'.heap[b]? = w.heap[b]?) (hD : ∀ i, o ≤ i → i < o + 3 → D' i = D i) : BdV O lo g w' D' o L := by
  obtain ⟨v, u, us, h1, h2, h3, h4, h5, h6, h7, h8⟩ := h.at_
  exact ⟨⟨v, u, us, (hD _ (by omega) (by omega)).trans h1, (hD _ (by omega) (by omega)).trans h2, (hD _ (by omega) (by omega)).trans h3, own_keep h4 (fun k k1 k2 => hk k k2 (h7 k k1)), h5, h6.keep hsz (fun i x k hxi k1 k2 => hk k k2 (h8 i k x hxi k1)), h7, h8⟩, h.sz, h.len, fun b hb => Nat.lt_of_lt_of_le (h.old b hb) hsz, h.ng⟩
section
variable {O : Nat → Prop} {lo g o : Nat} {C : Nat → Option Value} {w w' : World} {L : List Pt} {p : Pt}
theorem Bld.lt (h : Bld O lo g o C w L) : g < w.heap.size := by obtain ⟨D, h1, _⟩ := h.box; exact h1.lt
theorem Bld.low (h : Bld O lo g o C w L) : lo ≤ w.heap.size := Nat.le_trans h.ge (Nat.le_of_lt h.lt)
theorem Bld.sz (h : Bld O lo g o C w L) : ∀ p ∈ L, szP_ p := by obtain ⟨D, _, h1, _⟩ := h.box; exact h1.sz
theorem Bld.len (h : Bld O lo g o C w L) : L.length ≤ 100000 := by obtain ⟨D, _, h1, _⟩ := h.box; exact h1.len
theorem Bld.fit (h : Bld O lo g o C w L) : Fit L.length (signsIn L) (foldN L) := foldN_fitZ h.sz
theorem Bld.past (h : Bld O lo g o C w L) (hb : Below w.heap.size w w') : Bld O lo g o C w' L := by
  obtain ⟨D, h1, h2, h3⟩ := h.box
  exact ⟨⟨D, h1.past hb, h2.keep hb.size (fun b hlt _ => hb.block b hlt) (fun _ _ _ => rfl), h3⟩, h.ge⟩
theorem Bld.at_ (h : Bld O lo g o C w L) : BAtS (fun b => (O b ∨ b = g) ∨ w.heap.size ≤ b) lo g o C 97 w (foldN L).1 (foldN L).2.1 (foldN L).2.2 := by
  obtain ⟨D, hD, h2, hC⟩ := h.box
  obtain ⟨v, u, us, h1, h2, h3, h4, h5, h6, h7, h8⟩ := h2.at_
  exact ⟨v, u, us, ⟨⟨D, hD, h1, h2, h3, hC⟩, h4, h5, h.ge⟩, h6, .inl (.inr rfl), fun k hk => .inl (.inl (h7 k hk)), fun i k x hx hk => .inl (.inl (h8 i k x hx hk))⟩
theorem Bld.add (h : Bld O lo g o C w L) (hl : L.length < 100000) (hp : szP_ p) (hb : Below lo w w') (hf : Fr (fun b => (O b ∨ b = g) ∨ w.heap.size ≤ b) w w') (ha : BAtS (fun b => (O b ∨ b = g) ∨ w.heap.size ≤ b) lo g o C 97 w' (stepN (foldN L) p).1 (stepN (foldN L) p).2.1 (stepN (foldN L) p).2.2) : ∃ O', Bld O' lo g o C w' (L ++ [p]) ∧ Below lo w w' ∧ GrewX O O' g w w' := by
  obtain ⟨v, u, us, hx, ap, ho⟩ := ha
  obtain ⟨D, hD, k1, k2, k3, hC⟩ := hx.box
  refine ⟨fun b => (O b ∨ w.heap.size ≤ b) ∧ b < w'.heap.size ∧ ¬ b = g, ⟨⟨D, hD, ⟨?_, fun q hq => ?_, by simp; omega, fun b hb => hb.2.1, fun hg => hg.2.2 rfl⟩, hC⟩, h.ge⟩, hb, hf.size, fun b hlt hn hg => hf.block b hlt (fun hs => ?_), fun b hb => hb.1⟩
  · rw [foldN_app]
    have str : ∀ k, k < w'.heap.size → ¬ k = g → ((O k ∨ k = g) ∨ w.heap.size ≤ k) → (O k ∨ w.heap.size ≤ k) ∧ k < w'.heap.size ∧ ¬ k = g := fun k h1 h2 h3 => ⟨by rcases h3 with (h3 | h3) | h3; exact .inl h3; exact absurd h3 h2; exact .inr h3, h1, h2⟩
    refine ⟨v, u, us, k1, k2, k3, hx.row, hx.len, ap, fun k hk => str k (own_in hx.row hk) (fun e => hD.far hx.row (by decide) (by rw [hk, e])) (ho.2.1 k hk), fun i k x hxi hk => ?_⟩
    obtain ⟨q, hq⟩ := idx_some (l := (stepN (foldN L) p).1 ++ [⟨2, 0, (stepN (foldN L) p).2.1⟩]) (i := i) (by rw [← ap.1]; exact idx_lt hxi)
    have hox := (ap.2.1 i q x hq hxi).1
    exact str k (own_in hox hk) (fun e => hD.far hox (by decide) (by rw [hk, e])) (ho.2.2 i k x hxi hk)
  · rcases List.mem_append.1 hq with hq | hq
    · exact h.sz q hq
    · simp at hq
      subst hq
      exact hp
  · rcases hs with (hs | hs) | hs
    · exact hn hs
    · exact hg hs
    · omega
theorem BldP.pre {w1 : World} {e : Ending} (hlo : lo ≤ w.heap.size) (hb : Below w.heap.size w w1) (h : BldP O lo g o C L w1 e w') : BldP O lo g o C L w e w' := by
  obtain ⟨h1, O', h2, h3, h4⟩ := h
  exact ⟨h1, O', h2, (hb.mono hlo).trans h3, Nat.le_trans hb.size h4.size, fun b hlt hn hg => (h4.block b (Nat.lt_of_lt_of_le hlt hb.size) hn hg).trans (hb.block b hlt), fun b ho => (h4.more b ho).imp id (fun h => Nat.le_trans hb.size h)⟩
end
theorem implKeepB (O : Nat → Prop) (lo g o : Nat) (C : Nat → Option Value) (L : List Pt) (n : Int) (w : World) (hb : Bld O lo g o C w L) (h0 : 0 ≤ n) (h1 : n ≤ 200) (hl : L.length < 100000) :
    Calls Try.prog 57 #[.pointer (some ⟨g, o, none⟩), .int .i64 n] w (BldP O lo g o C (L ++ [⟨1, n, []⟩]) w) := by
  have hz : szP_ ⟨1, n, []⟩ := ⟨.inl rfl, h0, h1, by simp⟩
  by_cases hn : n = 0
  · subst hn
    refine (implKeep_zero g o w).mono ?_
    rintro e w' ⟨rfl, rfl⟩
    exact ⟨rfl, hb.add hl hz (Below.refl _ _) (Fr.refl _ _) hb.at_⟩
  · have hf := hb.fit
    have hd := hf.done
    have hsg := signsIn_le hb.sz
    have f1 := hf.len
    have f2 := hf.signs
    have hlen := hb.len
    refine (implKeep_f (fun b => (O b ∨ b = g) ∨ w.heap.size ≤ b) lo g o C _ _ _ n w hb.at_ (fun b h => .inr h) (by omega) (by omega) hn h0 (by omega) (fun p hp => by have := hd.2.2 p hp; omega) (by have := hd.1; exact Nat.le_trans this (by omega))).mono ?_
    rintro e w' ⟨rfl, hn', b, fr⟩
    refine ⟨rfl, hb.add hl hz b fr ?_⟩
    simp only [stepN, if_neg hn]
    exact hn'.at_
theorem implPutB (O : Nat → Prop) (lo g o : Nat) (C : Nat → Option Value) (L : List Pt) (A : Option Addr) (c m : Nat) (zs : List Int) (w : World) (hb : Bld O lo g o C w L) (hr : Row (Value.int .i64) w w.heap.size A zs) (hm : zs.length = m) (h1 : zs.length ≤ 200) (hl : L.length < 100000) :
    Calls Try.prog 74 #[.pointer (some ⟨g, o, none⟩), .slice A m c] w (BldP O lo g o C (L ++ [⟨2, 0, zs⟩]) w) := by
  subst hm
  have hz : szP_ ⟨2, 0, zs⟩ := ⟨.inr (.inl rfl), by simp, by simp, h1⟩
  have hsg := signsIn_le hb.sz
  have f2 := hb.fit.signs
  have hlen := hb.len
  refine (implPut_f (fun b => (O b ∨ b = g) ∨ w.heap.size ≤ b) lo g o C _ _ _ A c zs w hb.at_ (fun b h => .inr h) hr (by omega) (by omega)).mono ?_
  rintro e w' ⟨rfl, ha, b, fr⟩
  exact ⟨rfl, hb.add hl hz b fr ha⟩
theorem implDropB (O : Nat → Prop) (lo g o : Nat) (C : Nat → Option Value) (L : List Pt) (n : Int) (w : World) (hb : Bld O lo g o C w L) (h0 : 0 ≤ n) (h1 : n ≤ 200) (hl : L.length < 100000) :
    Calls Try.prog 75 #[.pointer (some ⟨g, o, none⟩), .int .i64 n] w (BldP O lo g o C (L ++ [⟨3, n, []⟩]) w) := by
  have hz : szP_ ⟨3, n, []⟩ := ⟨.inr (.inr rfl), h0, h1, by simp⟩
  have f3 := hb.fit.d0
  have f4 := hb.fit.d1
  have hlen := hb.len
  refine (implDrop_f (fun b => (O b ∨ b = g) ∨ w.heap.size ≤ b) lo g o C _ _ _ n w hb.at_ (fun b h => .inr h) f3 (by omega) h0 (by omega)).mono ?_
  rintro e w' ⟨rfl, ha, b, fr⟩
  exact ⟨rfl, hb.add hl hz b fr ha⟩
theorem parts_far {g : Nat} {T : TypeId} {w : World} {D : Nat → Option Value} {ps : List Pt} {v : Value} {b : List Nat} (hD : Blk g T w D) (h1 : ¬ T = 3) (h2 : ¬ T = 80) (h : OwC w (encPs ps) v b) : ∀ x ∈ b, ¬ x = g := fun x hx e => by
  subst e
  obtain ⟨xs, cs, hox, hor, hb⟩ := h
  rw [hb] at hx
  rcases List.mem_append.1 hx with hx | hx
  · exact hD.far hox h2 (by simpa using hx)
  · obtain ⟨us2, k1, k2, k3, k4⟩ := owR_parts hor
    rw [k3] at hx
    obtain ⟨i, u, hui, hk⟩ := mem_blks.1 hx
    obtain ⟨q, hq⟩ := idx_some (l := ps) (i := i) (by rw [← k1]; exact idx_lt hui)
    exact hD.far (ints_ow (k4 i q u hq hui)).1 h1 hk
/-- it returns the built parts, in blocks of the builder or new ones; the block's other cells are as they were -/
def DoneX (O : Nat → Prop) (lo g o : Nat) (C : Nat → Option Value) (L : List Pt) (w : World) (e : Ending) (w' : World) : Prop := ∃ v b, e = .returned v ∧ OwB lo w'.heap.size w' (encPs (doneN (foldN L))) v b ∧ (∀ x ∈ b, (O x ∨ w.heap.size ≤ x) ∧ ¬ x = g) ∧ Below lo w w' ∧ GrewX O (fun x => x ∈ b) g w w' ∧ ∃ D, Blk g 97 w' D ∧ ∀ i, i < o ∨ o + 3 ≤ i → D i = C i
theorem implDoneB (O : Nat → Prop) (lo g o : Nat) (C : Nat → Option Value) (L : List Pt) (w : World) (hb : Bld O lo g o C w L) :
    Calls Try.prog 58 #[.pointer (some ⟨g, o, none⟩)] w (DoneX O lo g o C L w) := by
  have f1 := hb.fit.len
  have hlen := hb.len
  have hsg := signsIn_le hb.sz
  have f2 := hb.fit.signs
  refine (implDone_f (fun b => (O b ∨ b = g) ∨ w.heap.size ≤ b) lo g o C _ _ _ w hb.at_ (fun b h => .inr h) (by omega) (by omega)).mono ?_
  rintro e w' ⟨h, v1, u1, us1, hx⟩
  obtain ⟨v, b, h1, h2, h3, h4, h5⟩ := GoneS.done (O := fun b => O b ∨ b = g) h
  obtain ⟨D, hD, _, _, _, hC⟩ := hx.box
  have far := parts_far hD (by decide) (by decide) h2.ow
  have str : ∀ x ∈ b, (O x ∨ w.heap.size ≤ x) ∧ ¬ x = g := fun x hxb => ⟨by rcases h3 x hxb with (k | k) | k; exact .inl k; exact absurd k (far x hxb); exact .inr k, far x hxb⟩
  exact ⟨v, b, h1, h2, str, h4, ⟨h5.size, fun x hlt hn hg => h5.block x hlt (fun k => by rcases k with k | k; exact hn k; exact hg k), fun x hxb => (str x hxb).1⟩, D, hD, hC⟩
set_option maxRecDepth 100000 in
set_option maxHeartbeats 1600000 in
theorem implAddB (O : Nat → Prop) (lo g o : Nat) (C : Nat → Option Value) (L : List Pt) (p : Pt) (v : Value) (w : World) (hb : Bld O lo g o C w L) (hv : PtV lo w p v) (hp : Vp p) (hk : ¬ p.kind = 0) (hl : L.length < 100000) :
    Calls Try.prog 81 #[.pointer (some ⟨g, o, none⟩), v] w (BldP O lo g o C (L ++ [p]) w) := by
  obtain ⟨A, c, rfl, hr⟩ := hv
  have hlo := hb.low
  have hrow := rd_row hr
  obtain ⟨pk, pn, pz⟩ := p
  have hsz := hp.size
  simp only at hk hr hrow hsz ⊢
  have hat := hb.past (alloc_below w (.cells #[.int .i64 pk, .int .i64 pn, .slice A pz.length c] 80))
  have bel := alloc_below w (.cells #[.int .i64 pk, .int .i64 pn, .slice A pz.length c] 80)
  have hrow1 : Row (Value.int .i64) (w.alloc (.cells #[.int .i64 pk, .int .i64 pn, .slice A pz.length c] 80)) (w.alloc (.cells #[.int .i64 pk, .int .i64 pn, .slice A pz.length c] 80)).heap.size A pz := (rd_row (hr.below (bel.mono hlo))).more (by simp; omega)
  have HAT := Lib.hid hat
  have HROW := Lib.hid hrow1
  clear hat hrow hrow1 hr hb
  rcases hp with ⟨h1, h2, h3, h4⟩ | ⟨h1, h2, h3⟩ | ⟨h1, h2, h3⟩
  · simp only at h1 h2 h3 h4
    subst h4
    rcases h1 with rfl | rfl
    · go_enter Try.func81, Try.ntmps81
      go_wp2_with fail
      refine (implKeepB O lo g o C L pn _ HAT.out h2 h3 hl).mono ?_
      intro e w3 hq
      have HQ := Lib.hid (BldP.pre hlo bel hq)
      have he := hq.1
      clear hq
      subst he
      go_wp2
      go_end0
      exact HQ.out
    · go_enter Try.func81, Try.ntmps81
      go_wp2_with fail
      refine (implDropB O lo g o C L pn _ HAT.out h2 h3 hl).mono ?_
      intro e w3 hq
      have HQ := Lib.hid (BldP.pre hlo bel hq)
      have he := hq.1
      clear hq
      subst he
      go_wp2
      go_end0
      exact HQ.out
  · simp only at h1 h2 h3
    subst h1 h2
    go_enter Try.func81, Try.ntmps81
    go_wp2_with fail
    refine (implPutB O lo g o C L A c pz.length pz _ HAT.out HROW.out rfl h3 hl).mono ?_
    intro e w3 hq
    have HQ := Lib.hid (BldP.pre hlo bel hq)
    have he := hq.1
    clear hq
    subst he
    go_wp2
    go_end0
    exact HQ.out
  · exact absurd h1 hk
end Go.Proofs.Ytmlkeflnnaabeaa.low.xb


/-
  The program's transformation: its state (two readers and two builders in one block, blocks that stay), and the contracts of what it calls in the words of that state.
-/
namespace Go.Proofs.Ytmlkeflnnaabeaa.low.xb
open Go.RowKit
set_option linter.unusedVariables false

/-- what stays: the part of the memory that is the caller's, the block of the state, the world at the start -/
structure Fy where
  lo : Nat
  g : Nat
  w0 : World
/-- the state: the readers stand at p, ps and q, qs; the builders hold L and M; the blocks of KL hold what KL says -/
structure Xs (F : Fy) (KL : List (Nat × Obj)) (O P : Nat → Prop) (L M : List Pt) (w : World) (p : Pt) (ps : List Pt) (q : Pt) (qs : List Pt) : Prop where
  box : ∃ D, Blk F.g 97 w D ∧ RdV F.lo w D 0 p ps ∧ RdV F.lo w D 4 q qs ∧ BdV O F.lo F.g w D 8 L ∧ BdV P F.lo F.g w D 11 M
  ge : F.lo ≤ F.g
  dis : ∀ b, O b → ¬ P b
  kp : ∀ x ∈ KL, w.heap[x.1]? = some x.2 ∧ F.lo ≤ x.1 ∧ ¬ x.1 = F.g ∧ ¬ O x.1 ∧ ¬ P x.1
  bl : Below F.lo F.w0 w
section
variable {F : Fy} {KL : List (Nat × Obj)} {O O' P P' : Nat → Prop} {L L' M M' : List Pt} {w w' : World} {p p' : Pt} {ps ps' : List Pt} {q q' : Pt} {qs qs' : List Pt}
theorem Xs.lt (h : Xs F KL O P L M w p ps q qs) : F.g < w.heap.size := by obtain ⟨D, h1, _⟩ := h.box; exact h1.lt
theorem Xs.low (h : Xs F KL O P L M w p ps q qs) : F.lo ≤ w.heap.size := Nat.le_trans h.ge (Nat.le_of_lt h.lt)
theorem Xs.vp (h : Xs F KL O P L M w p ps q qs) : Vp p := by obtain ⟨D, _, h1, _⟩ := h.box; exact h1.2.1
theorem Xs.vq (h : Xs F KL O P L M w p ps q qs) : Vp q := by obtain ⟨D, _, _, h1, _⟩ := h.box; exact h1.2.1
theorem Xs.past (h : Xs F KL O P L M w p ps q qs) (hb : Below w.heap.size w w') : Xs F KL O P L M w' p ps q qs := by
  have hl := hb.mono h.low
  obtain ⟨D, h1, h2, h3, h4, h5⟩ := h.box
  exact ⟨⟨D, h1.past hb, h2.keep hl (fun _ _ _ => rfl), h3.keep hl (fun _ _ _ => rfl), h4.keep hb.size (fun b hlt _ => hb.block b hlt) (fun _ _ _ => rfl), h5.keep hb.size (fun b hlt _ => hb.block b hlt) (fun _ _ _ => rfl)⟩, h.ge, h.dis, fun x hx => let ⟨k1, k2⟩ := h.kp x hx; ⟨(hb.block _ (lt_of_some k1)).trans k1, k2⟩, h.bl.trans hl⟩
theorem Xs.drew (h : Xs F KL O P L M w p ps q qs) : Xs F KL O P L M w.drew p ps q qs := h.past ((Below.refl _ _).drew)
/-- a block more that stays: one that lies beyond all blocks that stood -/
theorem Xs.also (h : Xs F KL O P L M w p ps q qs) (hb : Below w.heap.size w w') {b : Nat} {x : Obj} (hbl : w.heap.size ≤ b) (ho : w'.heap[b]? = some x) : Xs F ((b, x) :: KL) O P L M w' p ps q qs := by
  have h' := h.past hb
  refine ⟨h'.box, h'.ge, h'.dis, fun y hy => ?_, h'.bl⟩
  obtain ⟨D, _, _, _, h4, h5⟩ := h.box
  rcases List.mem_cons.1 hy with rfl | hy
  · exact ⟨ho, Nat.le_trans h.low hbl, by have := h.lt; show ¬ b = F.g; omega, fun hO => by have := h4.old _ hO; simp at this; omega, fun hP => by have := h5.old _ hP; simp at this; omega⟩
  · exact h'.kp y hy
theorem Xs.less {KM : List (Nat × Obj)} (h : Xs F KL O P L M w p ps q qs) (hs : ∀ x ∈ KM, x ∈ KL) : Xs F KM O P L M w p ps q qs := ⟨h.box, h.ge, h.dis, fun x hx => h.kp x (hs x hx), h.bl⟩
theorem Xs.fresh {m : Nat} (h : Xs F KL O P L M w p ps q qs) (hm : w.heap.size ≤ m) : ∀ x ∈ KL, ¬ x.1 = m := fun x hx e => by
  have := lt_of_some (h.kp x hx).1
  omega
/-- a cell of a block that stays is written -/
theorem Xs.setK {m i : Nat} {cs : Array Value} {T : TypeId} (h : Xs F ((m, .cells cs T (0, 0)) :: KL) O P L M w p ps q qs) (hn : ∀ x ∈ KL, ¬ x.1 = m) (v : Value) : Xs F ((m, .cells (cs.setIfInBounds i v) T (0, 0)) :: KL) O P L M (w.setCell ⟨m, i, none⟩ v) p ps q qs := by
  obtain ⟨h1, h2, h3, h4, h5⟩ := h.kp (m, .cells cs T (0, 0)) (by simp)
  simp only at h1 h2 h3 h4 h5
  have hb : Below F.lo w (w.setCell ⟨m, i, none⟩ v) := (Below.refl F.lo w).setCell (p := ⟨m, i, none⟩) h2 _
  have other : ∀ b, ¬ b = m → (w.setCell ⟨m, i, none⟩ v).heap[b]? = w.heap[b]? := fun b hb => Below.heap_setCell _ _ _ _ hb
  obtain ⟨D, k1, k2, k3, k4, k5⟩ := h.box
  refine ⟨⟨D, k1.keep (other _ (fun e => h3 e.symm)), k2.keep hb (fun _ _ _ => rfl), k3.keep hb (fun _ _ _ => rfl), k4.keep hb.size (fun b _ ho => other b (fun e => h4 (by rw [← e]; exact ho))) (fun _ _ _ => rfl), k5.keep hb.size (fun b _ ho => other b (fun e => h5 (by rw [← e]; exact ho))) (fun _ _ _ => rfl)⟩, h.ge, h.dis, fun x hx => ?_, h.bl.trans hb⟩
  rcases List.mem_cons.1 hx with rfl | hx
  · exact ⟨heap_setCell_same _ _ _ _ _ _ h1, h2, h3, h4, h5⟩
  · obtain ⟨k1, k2⟩ := h.kp x (by simp [hx])
    exact ⟨(other _ (hn x hx)).trans k1, k2⟩
theorem Xs.cellK {m i : Nat} {cs : Array Value} {T : TypeId} {v : Value} (h : Xs F KL O P L M w p ps q qs) (hm : (m, Obj.cells cs T (0, 0)) ∈ KL) (hv : cs[i]? = some v) : w.cell? ⟨m, i, none⟩ = some v := (cell_of_row _ _ i _ _ _ (h.kp _ hm).1).trans hv
theorem Xs.freeK {m : Nat} {cs : Array Value} {T : TypeId} (h : Xs F KL O P L M w p ps q qs) (hm : (m, Obj.cells cs T (0, 0)) ∈ KL) (i : Nat) : w.frozen? ⟨m, i, none⟩ = false := by
  have := (h.kp _ hm).1
  simp only at this
  simp [World.frozen?, this]
/-- cells of the block at hand -/
theorem Xs.cellsA (h : Xs F KL O P L M w p ps q qs) : ∃ B cb, w.cell? ⟨F.g, 0, none⟩ = some (.int .i64 p.kind) ∧ w.cell? ⟨F.g, 1, none⟩ = some (.int .i64 p.n) ∧ w.cell? ⟨F.g, 2, none⟩ = some (.slice B p.signs.length cb) ∧ RdC w F.lo (encInts p.signs) (.slice B p.signs.length cb) := by
  obtain ⟨D, h1, ⟨⟨B, cb, A, c, d0, d1, d2, d3, h2, h3⟩, _⟩, _⟩ := h.box
  exact ⟨B, cb, (h1.cell 0).trans d0, (h1.cell 1).trans d1, (h1.cell 2).trans d2, h2⟩
theorem Xs.cellsB (h : Xs F KL O P L M w p ps q qs) : ∃ B cb, w.cell? ⟨F.g, 4, none⟩ = some (.int .i64 q.kind) ∧ w.cell? ⟨F.g, 5, none⟩ = some (.int .i64 q.n) ∧ w.cell? ⟨F.g, 6, none⟩ = some (.slice B q.signs.length cb) ∧ RdC w F.lo (encInts q.signs) (.slice B q.signs.length cb) := by
  obtain ⟨D, h1, _, ⟨⟨B, cb, A, c, d0, d1, d2, d3, h2, h3⟩, _⟩, _⟩ := h.box
  exact ⟨B, cb, (h1.cell 4).trans d0, (h1.cell 5).trans d1, (h1.cell 6).trans d2, h2⟩
theorem Xs.movA {D : Nat → Option Value} (h : Xs F KL O P L M w p ps q qs) (hrb : RdV F.lo w D 4 q qs) (hx : BdV O F.lo F.g w D 8 L) (hy : BdV P F.lo F.g w D 11 M) (ho : Orr F.lo F.g 0 D w' p' ps') (hb : Below F.lo w w') (hf : Fr (fun b => b = F.g) w w') : Xs F KL O P L M w' p' ps' q qs := by
  obtain ⟨D', k1, k2, k3⟩ := ho.box
  have ng := hx.ng
  have ng' := hy.ng
  exact ⟨⟨D', k1, k2, hrb.keep hb (fun i _ _ => k3 i (by omega)), hx.keep hf.size (fun b hlt ho => hf.block b hlt (fun e => ng (by have e' : b = F.g := e; rw [← e']; exact ho))) (fun i _ _ => k3 i (by omega)), hy.keep hf.size (fun b hlt ho => hf.block b hlt (fun e => ng' (by have e' : b = F.g := e; rw [← e']; exact ho))) (fun i _ _ => k3 i (by omega))⟩, h.ge, h.dis, fun x hx => let ⟨h1, h2, h3, h4⟩ := h.kp x hx; ⟨(hf.block _ (lt_of_some h1) h3).trans h1, h2, h3, h4⟩, h.bl.trans hb⟩
theorem Xs.movB {D : Nat → Option Value} (h : Xs F KL O P L M w p ps q qs) (hra : RdV F.lo w D 0 p ps) (hx : BdV O F.lo F.g w D 8 L) (hy : BdV P F.lo F.g w D 11 M) (ho : Orr F.lo F.g 4 D w' q' qs') (hb : Below F.lo w w') (hf : Fr (fun b => b = F.g) w w') : Xs F KL O P L M w' p ps q' qs' := by
  obtain ⟨D', k1, k2, k3⟩ := ho.box
  have ng := hx.ng
  have ng' := hy.ng
  exact ⟨⟨D', k1, hra.keep hb (fun i _ _ => k3 i (by omega)), k2, hx.keep hf.size (fun b hlt ho => hf.block b hlt (fun e => ng (by have e' : b = F.g := e; rw [← e']; exact ho))) (fun i _ _ => k3 i (by omega)), hy.keep hf.size (fun b hlt ho => hf.block b hlt (fun e => ng' (by have e' : b = F.g := e; rw [← e']; exact ho))) (fun i _ _ => k3 i (by omega))⟩, h.ge, h.dis, fun x hx => let ⟨h1, h2, h3, h4⟩ := h.kp x hx; ⟨(hf.block _ (lt_of_some h1) h3).trans h1, h2, h3, h4⟩, h.bl.trans hb⟩
theorem Xs.bldX {D : Nat → Option Value} (h : Xs F KL O P L M w p ps q qs) (hra : RdV F.lo w D 0 p ps) (hrb : RdV F.lo w D 4 q qs) (hx : BdV O F.lo F.g w D 8 L) (hy : BdV P F.lo F.g w D 11 M) (hd : Bld O' F.lo F.g 8 D w' L') (hb : Below F.lo w w') (hg : GrewX O O' F.g w w') : Xs F KL O' P L' M w' p ps q qs := by
  obtain ⟨D', k1, k2, k3⟩ := hd.box
  have out : ∀ b, b < w.heap.size → ¬ O b → ¬ O' b := fun b hlt hn ho => by
    rcases hg.more b ho with h1 | h1
    · exact hn h1
    · omega
  exact ⟨⟨D', k1, hra.keep hb (fun i _ _ => k3 i (by omega)), hrb.keep hb (fun i _ _ => k3 i (by omega)), k2, hy.keep hg.size (fun b hlt hp => hg.block b hlt (fun ho => h.dis b ho hp) (fun e => hy.ng (by rw [← e]; exact hp))) (fun i _ _ => k3 i (by omega))⟩, h.ge, fun b ho hp => out b (hy.old b hp) (fun ho' => h.dis b ho' hp) ho, fun x hx => let ⟨h1, h2, h3, h4, h5⟩ := h.kp x hx; ⟨(hg.block _ (lt_of_some h1) h4 h3).trans h1, h2, h3, out _ (lt_of_some h1) h4, h5⟩, h.bl.trans hb⟩
theorem Xs.bldY {D : Nat → Option Value} (h : Xs F KL O P L M w p ps q qs) (hra : RdV F.lo w D 0 p ps) (hrb : RdV F.lo w D 4 q qs) (hx : BdV O F.lo F.g w D 8 L) (hy : BdV P F.lo F.g w D 11 M) (hd : Bld P' F.lo F.g 11 D w' M') (hb : Below F.lo w w') (hg : GrewX P P' F.g w w') : Xs F KL O P' L M' w' p ps q qs := by
  obtain ⟨D', k1, k2, k3⟩ := hd.box
  have out : ∀ b, b < w.heap.size → ¬ P b → ¬ P' b := fun b hlt hn ho => by
    rcases hg.more b ho with h1 | h1
    · exact hn h1
    · omega
  exact ⟨⟨D', k1, hra.keep hb (fun i _ _ => k3 i (by omega)), hrb.keep hb (fun i _ _ => k3 i (by omega)), hx.keep hg.size (fun b hlt hp => hg.block b hlt (fun ho => h.dis b hp ho) (fun e => hx.ng (by rw [← e]; exact hp))) (fun i _ _ => k3 i (by omega)), k2⟩, h.ge, fun b ho hp => out b (hx.old b ho) (fun hp' => h.dis b ho hp') hp, fun x hx => let ⟨h1, h2, h3, h4, h5⟩ := h.kp x hx; ⟨(hg.block _ (lt_of_some h1) h5 h3).trans h1, h2, h3, h4, out _ (lt_of_some h1) h5⟩, h.bl.trans hb⟩
def KindA (F : Fy) (KL : List (Nat × Obj)) (O P : Nat → Prop) (L M : List Pt) (p : Pt) (ps : List Pt) (q : Pt) (qs : List Pt) (e : Ending) (w' : World) : Prop := ∃ p' ps', e = .returned (.int .i64 (kindP p')) ∧ Xs F KL O P L M w' p' ps' q qs ∧ unitsP p' ++ units ps' = unitsP p ++ units ps ∧ (sizeP p' = 0 → ps' = [])
theorem Xs.kindA (h : Xs F KL O P L M w p ps q qs) : Calls Try.prog 77 #[.pointer (some ⟨F.g, 0, none⟩)] w (KindA F KL O P L M p ps q qs) := by
  obtain ⟨D, hD, ra, rb, bx, by_⟩ := h.box
  refine (implKind F.lo F.g 0 D p ps w ⟨⟨D, hD, ra, fun _ _ => rfl⟩, h.ge⟩).mono ?_
  rintro e w' ⟨p', ps', h1, h2, h3, h4, h5, h6⟩
  exact ⟨p', ps', h1, h.movA rb bx by_ h2 h5 h6, h3, h4⟩
def KindB (F : Fy) (KL : List (Nat × Obj)) (O P : Nat → Prop) (L M : List Pt) (p : Pt) (ps : List Pt) (q : Pt) (qs : List Pt) (e : Ending) (w' : World) : Prop := ∃ q' qs', e = .returned (.int .i64 (kindP q')) ∧ Xs F KL O P L M w' p ps q' qs' ∧ unitsP q' ++ units qs' = unitsP q ++ units qs ∧ (sizeP q' = 0 → qs' = [])
theorem Xs.kindB (h : Xs F KL O P L M w p ps q qs) : Calls Try.prog 77 #[.pointer (some ⟨F.g, 4, none⟩)] w (KindB F KL O P L M p ps q qs) := by
  obtain ⟨D, hD, ra, rb, bx, by_⟩ := h.box
  refine (implKind F.lo F.g 4 D q qs w ⟨⟨D, hD, rb, fun _ _ => rfl⟩, h.ge⟩).mono ?_
  rintro e w' ⟨p', ps', h1, h2, h3, h4, h5, h6⟩
  exact ⟨p', ps', h1, h.movB ra bx by_ h2 h5 h6, h3, h4⟩
def TakeA (F : Fy) (KL : List (Nat × Obj)) (O P : Nat → Prop) (L M : List Pt) (p : Pt) (ps : List Pt) (q : Pt) (qs : List Pt) (n : Nat) (e : Ending) (w' : World) : Prop := ∃ v, e = .returned v ∧ PtV F.lo w' (cutL p n) v ∧ Xs F KL O P L M w' (cutR p n) ps q qs
theorem Xs.takeA {n : Nat} (h : Xs F KL O P L M w p ps q qs) (h0 : 0 < n) (hn : n ≤ sizeP p) : Calls Try.prog 106 #[.pointer (some ⟨F.g, 0, none⟩), .int .i64 (n : Int)] w (TakeA F KL O P L M p ps q qs n) := by
  obtain ⟨D, hD, ra, rb, bx, by_⟩ := h.box
  refine (implTake F.lo F.g 0 D p ps n w ⟨⟨D, hD, ra, fun _ _ => rfl⟩, h.ge⟩ h0 hn).mono ?_
  rintro e w' ⟨v, h1, h2, h3, h4, h5⟩
  exact ⟨v, h1, h2, h.movA rb bx by_ h3 h4 h5⟩
def TakeB (F : Fy) (KL : List (Nat × Obj)) (O P : Nat → Prop) (L M : List Pt) (p : Pt) (ps : List Pt) (q : Pt) (qs : List Pt) (n : Nat) (e : Ending) (w' : World) : Prop := ∃ v, e = .returned v ∧ PtV F.lo w' (cutL q n) v ∧ Xs F KL O P L M w' p ps (cutR q n) qs
theorem Xs.takeB {n : Nat} (h : Xs F KL O P L M w p ps q qs) (h0 : 0 < n) (hn : n ≤ sizeP q) : Calls Try.prog 106 #[.pointer (some ⟨F.g, 4, none⟩), .int .i64 (n : Int)] w (TakeB F KL O P L M p ps q qs n) := by
  obtain ⟨D, hD, ra, rb, bx, by_⟩ := h.box
  refine (implTake F.lo F.g 4 D q qs n w ⟨⟨D, hD, rb, fun _ _ => rfl⟩, h.ge⟩ h0 hn).mono ?_
  rintro e w' ⟨v, h1, h2, h3, h4, h5⟩
  exact ⟨v, h1, h2, h.movB ra bx by_ h3 h4 h5⟩
def AddX (F : Fy) (KL : List (Nat × Obj)) (L M : List Pt) (p : Pt) (ps : List Pt) (q : Pt) (qs : List Pt) (P : Nat → Prop) (e : Ending) (w' : World) : Prop := e = .returned (.tuple #[]) ∧ ∃ O, Xs F KL O P L M w' p ps q qs
def AddY (F : Fy) (KL : List (Nat × Obj)) (L M : List Pt) (p : Pt) (ps : List Pt) (q : Pt) (qs : List Pt) (O : Nat → Prop) (e : Ending) (w' : World) : Prop := e = .returned (.tuple #[]) ∧ ∃ P, Xs F KL O P L M w' p ps q qs
theorem Xs.addX {r : Pt} {v : Value} (h : Xs F KL O P L M w p ps q qs) (hv : PtV F.lo w r v) (hr : Vp r) (hk : ¬ r.kind = 0) (hl : L.length < 100000) : Calls Try.prog 81 #[.pointer (some ⟨F.g, 8, none⟩), v] w (AddX F KL (L ++ [r]) M p ps q qs P) := by
  obtain ⟨D, hD, ra, rb, bx, by_⟩ := h.box
  refine (implAddB O F.lo F.g 8 D L r v w ⟨⟨D, hD, bx, fun _ _ => rfl⟩, h.ge⟩ hv hr hk hl).mono ?_
  rintro e w' ⟨h1, O', h2, h3, h4⟩
  exact ⟨h1, O', h.bldX ra rb bx by_ h2 h3 h4⟩
theorem Xs.addY {r : Pt} {v : Value} (h : Xs F KL O P L M w p ps q qs) (hv : PtV F.lo w r v) (hr : Vp r) (hk : ¬ r.kind = 0) (hl : M.length < 100000) : Calls Try.prog 81 #[.pointer (some ⟨F.g, 11, none⟩), v] w (AddY F KL L (M ++ [r]) p ps q qs O) := by
  obtain ⟨D, hD, ra, rb, bx, by_⟩ := h.box
  refine (implAddB P F.lo F.g 11 D M r v w ⟨⟨D, hD, by_, fun _ _ => rfl⟩, h.ge⟩ hv hr hk hl).mono ?_
  rintro e w' ⟨h1, O', h2, h3, h4⟩
  exact ⟨h1, O', h.bldY ra rb bx by_ h2 h3 h4⟩
theorem Xs.keepX {n : Int} (h : Xs F KL O P L M w p ps q qs) (h0 : 0 ≤ n) (hn : n ≤ 200) (hl : L.length < 100000) : Calls Try.prog 57 #[.pointer (some ⟨F.g, 8, none⟩), .int .i64 n] w (AddX F KL (L ++ [⟨1, n, []⟩]) M p ps q qs P) := by
  obtain ⟨D, hD, ra, rb, bx, by_⟩ := h.box
  refine (implKeepB O F.lo F.g 8 D L n w ⟨⟨D, hD, bx, fun _ _ => rfl⟩, h.ge⟩ h0 hn hl).mono ?_
  rintro e w' ⟨h1, O', h2, h3, h4⟩
  exact ⟨h1, O', h.bldX ra rb bx by_ h2 h3 h4⟩
theorem Xs.keepY {n : Int} (h : Xs F KL O P L M w p ps q qs) (h0 : 0 ≤ n) (hn : n ≤ 200) (hl : M.length < 100000) : Calls Try.prog 57 #[.pointer (some ⟨F.g, 11, none⟩), .int .i64 n] w (AddY F KL L (M ++ [⟨1, n, []⟩]) p ps q qs O) := by
  obtain ⟨D, hD, ra, rb, bx, by_⟩ := h.box
  refine (implKeepB P F.lo F.g 11 D M n w ⟨⟨D, hD, by_, fun _ _ => rfl⟩, h.ge⟩ h0 hn hl).mono ?_
  rintro e w' ⟨h1, O', h2, h3, h4⟩
  exact ⟨h1, O', h.bldY ra rb bx by_ h2 h3 h4⟩
theorem Xs.dropX {n : Int} (h : Xs F KL O P L M w p ps q qs) (h0 : 0 ≤ n) (hn : n ≤ 200) (hl : L.length < 100000) : Calls Try.prog 75 #[.pointer (some ⟨F.g, 8, none⟩), .int .i64 n] w (AddX F KL (L ++ [⟨3, n, []⟩]) M p ps q qs P) := by
  obtain ⟨D, hD, ra, rb, bx, by_⟩ := h.box
  refine (implDropB O F.lo F.g 8 D L n w ⟨⟨D, hD, bx, fun _ _ => rfl⟩, h.ge⟩ h0 hn hl).mono ?_
  rintro e w' ⟨h1, O', h2, h3, h4⟩
  exact ⟨h1, O', h.bldX ra rb bx by_ h2 h3 h4⟩
theorem Xs.dropY {n : Int} (h : Xs F KL O P L M w p ps q qs) (h0 : 0 ≤ n) (hn : n ≤ 200) (hl : M.length < 100000) : Calls Try.prog 75 #[.pointer (some ⟨F.g, 11, none⟩), .int .i64 n] w (AddY F KL L (M ++ [⟨3, n, []⟩]) p ps q qs O) := by
  obtain ⟨D, hD, ra, rb, bx, by_⟩ := h.box
  refine (implDropB P F.lo F.g 11 D M n w ⟨⟨D, hD, by_, fun _ _ => rfl⟩, h.ge⟩ h0 hn hl).mono ?_
  rintro e w' ⟨h1, O', h2, h3, h4⟩
  exact ⟨h1, O', h.bldY ra rb bx by_ h2 h3 h4⟩
def SizeX (F : Fy) (KL : List (Nat × Obj)) (O P : Nat → Prop) (L M : List Pt) (p : Pt) (ps : List Pt) (q : Pt) (qs : List Pt) (n : Nat) (w : World) (e : Ending) (w' : World) : Prop := e = .returned (.int .i64 (n : Int)) ∧ Xs F KL O P L M w' p ps q qs ∧ Below w.heap.size w w'
theorem Xs.size {r : Pt} {A : Option Addr} {c : Nat} (h : Xs F KL O P L M w p ps q qs) (hr : Vp r) : Calls Try.prog 83 #[.agg #[.int .i64 r.kind, .int .i64 r.n, .slice A r.signs.length c]] w (SizeX F KL O P L M p ps q qs (sizeP r) w) := by
  have hz := hr.size
  refine (implSize_any r.kind r.n A r.signs.length c w (by omega) (by omega) (by omega)).mono ?_
  rintro e w' ⟨rfl, h2⟩
  exact ⟨by rw [hz.1], h.past h2, h2⟩
end
end Go.Proofs.Ytmlkeflnnaabeaa.low.xb


/-
  A range over a function whose iterator and body share memory: the statement's laws at the wide fence, in the words of the loop's record; a round out of its body's walk; a region that draws its order, in a round; a loop whose measure is said by its invariant.
-/
namespace Go.Proofs.Ytmlkeflnnaabeaa.low
open Go.RowKit
set_option linter.unusedVariables false

section
variable {P : Program} {ops : Array Oper} {Q : Exit → Act → World → Prop} {n l : Nat} {md : Region.Mode}

theorem rowsIn_wide {row : String} {args : Array Value} {w : World} {R : Value → World → Prop} (h : Rows P row args w R) : RowsIn (Fence.wide.inRound l) n P row args w R :=
  fun c cs _ => let ⟨v, w', r, s⟩ := h c cs; ⟨v, w', r, stepsIn_wide.2 s⟩
theorem callsIn_round {f : FuncId} {args : Array Value} {w : World} {R : Ending → World → Prop} (h : Calls P f args w R) : CallsIn (Fence.wide.inRound l) n P f args w R := CallsIn.inRound l (callsIn_wide.2 h)
/-- an operation's walk goes into a round as it is -/
theorem operIn_of {o : Oper} {a : Act} {w : World} {K : Act → World → Prop} (hd : ∀ c, o.op ≠ .defer c) (h : o.wp P a w K Q) : o.wpIn (Fence.wide.inRound l) n P a w K Q := by
  unfold Oper.wp at h
  refine ⟨fun _ _ => trivial, ?_⟩
  rw [Fence.inRound_round, Oper.semAt_some l a.eval o hd]
  generalize (execOp a.eval o).run P w = r at *
  cases r with
  | ok x w' =>
    cases x with
    | enter f args => exact ⟨(fun h => by cases h), callsIn_round h⟩
    | row r args => exact ⟨(fun h => by cases h), rowsIn_wide h⟩
    | value v => exact h
    | skip => exact h
    | defer d => exact h
    | _ => exact h.elim
  | halt x w' => cases x <;> first | exact h | exact h.elim
def NoDefer (ops : Array Oper) : Prop := ∀ (i : Nat) (o : Oper), ops[i]? = some o → ∀ c, o.op ≠ .defer c
theorem wpOpIn_of {i : Nat} {a : Act} {w : World} {K : Act → World → Prop} (hd : NoDefer ops) (hL : ¬ LetsOut Q) (h : wpOp P ops Q i K a w) : wpOpIn (Fence.wide.inRound l) n P ops Q i K a w := by
  unfold wpOp at h
  unfold wpOpIn
  cases ho : ops[i]? with
  | none => simp only [ho] at h; exact h
  | some o =>
    simp only [ho] at h
    split at h
    · rename_i hw
      simp only [hw, if_true]
      rcases h with h | h
      · exact operIn_of (hd i o ho) h
      · exact absurd h.2 hL
    · rename_i hw
      simp only [hw]
      exact ⟨fun _ _ => trivial, h⟩
theorem wpAnyIn_of (hd : NoDefer ops) (hL : ¬ LetsOut Q) : ∀ (fuel : Nat) (listed : Array Bool) (a : Act) (w : World), wpAny P md ops Q fuel listed a w → wpAnyIn (Fence.wide.inRound l) n P md ops Q fuel listed a w
  | 0, _, _, _, h => h
  | fuel + 1, _, _, _, h => ⟨h.1, fun i hi => wpOpIn_mono (fun a' w' h' => wpAnyIn_of hd hL fuel _ a' w' h') (wpOpIn_of hd hL (h.2 i hi))⟩
/-- a region that draws its order, in a round -/
theorem wpIn_region_held {S : World → Prop} {id : Nat} {a : Act} {w : World} (hm : P.follows .mixedOrders = true) (hd : NoDefer ops) (hL : ¬ LetsOut Q)
    (h : wpAnyH P .any ops Q S ops.size (Array.replicate ops.size false) a w.drew) : (Code.region id ops true).wpIn (Fence.wide.inRound l) n P Q a w :=
  wpIn_region_any hm (wpAnyIn_of hd hL _ _ _ _ (wpAny_of_held _ _ _ _ h))
end
/-- a post that lets nothing through but what falls off the end -/
def Fall (K : Act → World → Prop) : Exit → Act → World → Prop
  | .normal, a, w => K a w
  | _, _, _ => False
theorem Fall.out (K : Act → World → Prop) : ¬ LetsOut (Fall K) := fun ⟨_, _, h⟩ => h
theorem wpIn_fall {F : Fence} {n : Nat} {P : Program} {c : Code} {K : Act → World → Prop} {Q : Exit → Act → World → Prop} {a : Act} {w : World} (h : c.wpIn F n P (Fall K) a w) (hk : ∀ a w, K a w → Q .normal a w) : c.wpIn F n P Q a w :=
  wpIn_mono h fun e a w he => by cases e <;> first | exact hk _ _ he | exact he.elim
theorem wpIn_seq_fall {F : Fence} {n : Nat} {P : Program} {x y : Code} {K : Act → World → Prop} {Q : Exit → Act → World → Prop} {a : Act} {w : World} (h : x.wpIn F n P (Fall K) a w) (hk : ∀ a w, K a w → y.wpIn F n P Q a w) : (Code.seq x y).wpIn F n P Q a w :=
  wpIn_seq (wpIn_fall h hk)

/-- a loop whose measure is said by its invariant -/
theorem wpIn_loop_by {F : Fence} {n : Nat} {P : Program} {Q : Exit → Act → World → Prop} {a : Act} {w : World} {c : Code} (I : Nat → Act → World → Prop) (m : Nat) (h0 : I m a w)
    (round : ∀ m a w, I m a w → c.wpIn F n P (Exit.then (fun a' w' => ∃ m', m' < m ∧ I m' a' w') Q) a w) : (Code.loop c).wpIn F n P Q a w := by
  have ex : ∀ a w, ∃ k : Nat, (∃ m, I m a w) → I k a w ∧ ∀ m, I m a w → k ≤ m := fun a w => by
    by_cases h : ∃ m, I m a w
    · obtain ⟨m, hm⟩ := h
      induction m using Nat.strongRecOn with
      | _ m ih =>
        by_cases hs : ∃ m', m' < m ∧ I m' a w
        · obtain ⟨m', h1, h2⟩ := hs
          exact ih m' h1 h2
        · refine ⟨m, fun _ => ⟨hm, fun q hq => ?_⟩⟩
          rcases Nat.lt_or_ge q m with h | h
          · exact absurd ⟨q, h, hq⟩ hs
          · exact h
    · exact ⟨0, fun h' => absurd h' h⟩
  refine wpIn_loop (fun a w => ∃ m, I m a w) (fun a w => Classical.choose (ex a w)) ⟨m, h0⟩ (fun a w hI => ?_)
  have hs := Classical.choose_spec (ex a w) hI
  refine wpIn_mono (round _ a w hs.1) (fun e a' w' hq => ?_)
  cases e with
  | normal =>
    obtain ⟨m', hlt, hm'⟩ := hq
    exact ⟨⟨m', hm'⟩, Nat.lt_of_le_of_lt ((Classical.choose_spec (ex a' w') ⟨m', hm'⟩).2 m' hm') hlt⟩
  | _ => exact hq

section
variable {P : Program} {n : Nat} {w : World}
/-- what a round's body must come to -/
def RP (l : Nat) (r : Loop) (R : Ending → World → Prop) : Exit → Act → World → Prop
  | .normal, _, W => W.heap[l]? = some (.loop { r with state := .busy }) ∧ R (.returned (.bool true)) (W.putObj l (.loop { r with state := .ready, pending := none }))
  | .exit id, _, W => W.heap[l]? = some (.loop { r with state := .busy }) ∧ R (.returned (.bool false)) (W.putObj l (.loop { r with state := .done, pending := some (.exit id) }))
  | _, _, _ => False
/-- a call of yield, out of the walks of the assignment and of the body -/
theorem yield_of {l : Nat} {r : Loop} {args : Array Value} {R : Ending → World → Prop} {K : Act → World → Prop} (hl : w.heap[l]? = some (.loop r)) (hr : r.state = .ready) (hs : args.size = r.params.size)
    (hassign : r.assign.wpIn (Fence.wide.inRound l) n P (Exit.then K (fun _ _ _ => False)) { tmps := (r.params.zip args).foldl (fun t (p, v) => t.setIfInBounds p v) r.tmps, defers := [] } w)
    (hbody : ∀ a₁ w₁, K a₁ w₁ → w₁.heap[l]? = some (.loop r) ∧ r.body.wpIn (Fence.wide.inRound l) n P (RP l r R) a₁ (w₁.putObj l (.loop { r with state := .busy }))) :
    YieldAt Fence.wide n P l args w R := by
  refine ⟨r.fn, _, r.assign, r.body, run_yield hl hs, roundIn_of_wpIn trivial (wpIn_mono hassign (fun e a₁ w₁ hq => ?_))⟩
  cases e with
  | normal =>
    obtain ⟨h1, h2⟩ := hbody a₁ w₁ hq
    refine ⟨_, run_beginRound h1 hr, wpIn_mono h2 (fun e a₂ w₂ hp => ?_)⟩
    cases e with
    | normal => exact ⟨_, _, run_endRound none hp.1, hp.2⟩
    | exit id => exact ⟨_, _, run_endRound (some (.exit id)) hp.1, hp.2⟩
    | _ => exact hp.elim
  | _ => exact hq.elim
/-- the loop's record -/
def recOf (fn : FuncId) (tmps : Array Value) (ps : Array Tmp) (assign body : Code) (D : Nat) : Loop := { state := .ready, pending := none, fn := fn, tmps := tmps, params := ps, assign := assign, body := body, defers := D }
/-- behind the iterator: all have come, or a round has left -/
def Over (l : Nat) (r : Loop) (Jd : World → Prop) (Jx : Code → World → Prop) (e : Ending) (W : World) : Prop :=
  (∃ v, e = .returned v) ∧ ((W.heap[l]? = some (.loop r) ∧ Jd W) ∨ ∃ c, W.heap[l]? = some (.loop { r with state := .done, pending := some c }) ∧ Jx c W)
/-- the statement, outermost -/
theorem rf_outer {g : Operand} {ps : Array Tmp} {assign body : Code} {Q : Exit → Act → World → Prop} {a : Act} {gf : Nat} {b : Array Value} {Jd : World → Prop} {Jx : Code → World → Prop}
    (hg : a.eval g = .func (.func gf) b #[]) (eg : ∀ args w, (callFunc gf args).run P w = .ok (.enter gf args) w)
    (hcall : ∀ fn, CallsIn Fence.wide (n - 1) P gf (b ++ #[.func (.yield (w.heap.size + 1)) #[] #[]]) ((w.alloc (.deferred (some []))).alloc (.loop (recOf fn a.tmps ps assign body w.heap.size))) (Over (w.heap.size + 1) (recOf fn a.tmps ps assign body w.heap.size) Jd Jx))
    (hdone : ∀ fn W, W.heap[w.heap.size + 1]? = some (.loop (recOf fn a.tmps ps assign body w.heap.size)) → Jd W → Q .normal { a with defers := { target := .collected w.heap.size, args := #[] } :: a.defers } (W.putObj (w.heap.size + 1) (.loop { recOf fn a.tmps ps assign body w.heap.size with state := .exhausted })))
    (hx : ∀ c W, ¬ Jx c W) : (Code.rangeFunc g ps assign body).wpIn Fence.wide n P Q a w := by
  refine wpIn_rangeFunc ?_
  intro fn hfn
  obtain ⟨W1, hW1⟩ : ∃ W1, (w.alloc (.deferred (some []))).alloc (.loop (recOf fn a.tmps ps assign body w.heap.size)) = W1 := ⟨_, rfl⟩
  have hc := hcall fn
  rw [hW1] at hc
  refine ⟨w.heap.size + 1, [{ target := .collected w.heap.size, args := #[] }], W1, { target := .fn (.func gf) #[], args := b ++ #[.func (.yield (w.heap.size + 1)) #[] #[]] }, W1, gf, b ++ #[.func (.yield (w.heap.size + 1)) #[] #[]], W1, by rw [← hW1]; exact run_enterLoop_outer _ _ _ _ _, ?_, fun _ _ => trivial, ?_, (fun h => by cases h), ?_⟩
  · simp only [resolve, hg]
    simp [go_sem, Deferred.ofValue]
  · simp [invoke, go_sem, eg]
  · refine hc.mono ?_
    rintro e W ⟨⟨v, rfl⟩, (⟨h1, h2⟩ | ⟨c, h1, h2⟩)⟩
    · exact ⟨none, _, run_endLoop h1 (by simp [recOf]), hdone fn W h1 h2⟩
    · exact absurd h2 (hx c W)
/-- the statement in a round -/
theorem rf_inner {l₀ : Nat} {r₀ : Loop} {g : Operand} {ps : Array Tmp} {assign body : Code} {Q : Exit → Act → World → Prop} {a : Act} {gf : Nat} {b : Array Value} {Jd : World → Prop} {Jx : Code → World → Prop}
    (hl₀ : w.heap[l₀]? = some (.loop r₀)) (hg : a.eval g = .func (.func gf) b #[]) (eg : ∀ args w, (callFunc gf args).run P w = .ok (.enter gf args) w)
    (hcall : ∀ fn, CallsIn Fence.wide (n - 1) P gf (b ++ #[.func (.yield w.heap.size) #[] #[]]) (w.alloc (.loop (recOf fn a.tmps ps assign body r₀.defers))) (Over w.heap.size (recOf fn a.tmps ps assign body r₀.defers) Jd Jx))
    (hdone : ∀ W, ¬ Jd W)
    (hx : ∀ fn c W, W.heap[w.heap.size]? = some (.loop { recOf fn a.tmps ps assign body r₀.defers with state := .done, pending := some c }) → Jx c W → c.wpIn (Fence.wide.inRound l₀) n P Q a (W.putObj w.heap.size (.loop { recOf fn a.tmps ps assign body r₀.defers with state := .exhausted, pending := some c }))) :
    (Code.rangeFunc g ps assign body).wpIn (Fence.wide.inRound l₀) n P Q a w := by
  refine wpIn_rangeFunc ?_
  intro fn hfn
  obtain ⟨W1, hW1⟩ : ∃ W1, w.alloc (.loop (recOf fn a.tmps ps assign body r₀.defers)) = W1 := ⟨_, rfl⟩
  have hc := hcall fn
  rw [hW1] at hc
  refine ⟨w.heap.size, [], W1, { target := .fn (.func gf) #[], args := b ++ #[.func (.yield w.heap.size) #[] #[]] }, W1, gf, b ++ #[.func (.yield w.heap.size) #[] #[]], W1, by rw [← hW1]; exact run_enterLoop_inner hl₀ _ _ _ _ _, ?_, fun _ _ => trivial, ?_, (fun h => by cases h), ?_⟩
  · simp only [resolve, hg]
    simp [go_sem, Deferred.ofValue]
  · simp [invoke, go_sem, eg]
  · refine CallsIn.inRound l₀ (hc.mono ?_)
    rintro e W ⟨⟨v, rfl⟩, (⟨h1, h2⟩ | ⟨c, h1, h2⟩)⟩
    · exact absurd h2 (hdone W)
    · exact ⟨some c, _, run_endLoop h1 (by simp), hx fn c W h1 h2⟩
end
end Go.Proofs.Ytmlkeflnnaabeaa.low


/-
  The program's iterator over what is left of an operation: opReader.remaining, for whatever body; a call in a region that draws its order.
-/
namespace Go.Proofs.Ytmlkeflnnaabeaa.low
open Go.RowKit
set_option linter.unusedVariables false
attribute [local go_sem] Oper.semAt_some

/-- the least number that a family of conditions bears at a world -/
theorem least_ex (J : Nat → World → Prop) (w : World) : ∃ k : Nat, (∃ m, J m w) → J k w ∧ ∀ m, J m w → k ≤ m := by
  by_cases h : ∃ m, J m w
  · obtain ⟨m, hm⟩ := h
    induction m using Nat.strongRecOn with
    | _ m ih =>
      by_cases hs : ∃ m', m' < m ∧ J m' w
      · obtain ⟨m', h1, h2⟩ := hs
        exact ih m' h1 h2
      · refine ⟨m, fun _ => ⟨hm, fun q hq => ?_⟩⟩
        rcases Nat.lt_or_ge q m with h | h
        · exact absurd ⟨q, h, hq⟩ hs
        · exact h
  · exact ⟨0, fun h' => absurd h' h⟩
noncomputable def leastOf (J : Nat → World → Prop) (w : World) : Nat := Classical.choose (least_ex J w)
theorem leastOf_at {J : Nat → World → Prop} {w : World} (h : ∃ m, J m w) : J (leastOf J w) w := (Classical.choose_spec (least_ex J w) h).1
theorem leastOf_le {J : Nat → World → Prop} {w : World} {m : Nat} (h : J m w) : leastOf J w ≤ m := (Classical.choose_spec (least_ex J w) ⟨m, h⟩).2 m h
/-- there is a round of the loop to be had: the number is hidden -/
def SomeM (J : Nat → World → Prop) (w : World) : Prop := ∃ m, J m w

/-- behind a look for more, in a body's words -/
def MoreJ (g : Nat) (JY : Pt → Value → World → Prop) (Jd : World → Prop) (e : Ending) (w' : World) : Prop :=
  (∃ p A c, e = .returned (.bool true) ∧ w'.cell? ⟨g, 0, none⟩ = some (.int .i64 p.kind) ∧ w'.cell? ⟨g, 1, none⟩ = some (.int .i64 p.n) ∧ w'.cell? ⟨g, 2, none⟩ = some (.slice A p.signs.length c) ∧ JY p (.agg #[.int .i64 p.kind, .int .i64 p.n, .slice A p.signs.length c]) w') ∨ (e = .returned (.bool false) ∧ Jd w')
/-- behind a round -/
def RoundJ (J : Nat → World → Prop) (m : Nat) (Jx : World → Prop) (e : Ending) (w' : World) : Prop :=
  (e = .returned (.bool true) ∧ ∃ m', m' < m ∧ J m' w') ∨ (e = .returned (.bool false) ∧ Jx w')
/-- behind the iterator -/
def OverJ (Jd Jx : World → Prop) (e : Ending) (w' : World) : Prop := (∃ v, e = .returned v) ∧ (Jd w' ∨ Jx w')

end Go.Proofs.Ytmlkeflnnaabeaa.low


/-
  The program's composition: its state (two readers, a builder, blocks that stay), and the contracts of what it calls in the words of that state; a region that draws its order, in a round: a call that alone may come up.
-/
namespace Go.Proofs.Ytmlkeflnnaabeaa.low
open Go.RowKit
set_option linter.unusedVariables false

/-- what stays: the readers' blocks, the builder's, the world at the start, the part of the memory that is the caller's -/
structure Fz where
  lo : Nat
  gx : Nat
  gy : Nat
  go : Nat
  w0 : World
/-- the state: the readers stand at p, ps and q, qs; the builder holds L; the blocks of KL hold what KL says -/
structure Co (F : Fz) (KL : List (Nat × Obj)) (O : Nat → Prop) (L : List Pt) (w : World) (p : Pt) (ps : List Pt) (q : Pt) (qs : List Pt) : Prop where
  ox : Orr F.lo F.gx w p ps
  oy : Orr F.lo F.gy w q qs
  bd : Bld O F.lo F.go 76 w L
  ne : ¬ F.gx = F.gy
  nx : ¬ O F.gx
  ny : ¬ O F.gy
  kp : ∀ x ∈ KL, w.heap[x.1]? = some x.2 ∧ F.lo ≤ x.1 ∧ ¬ x.1 = F.gx ∧ ¬ x.1 = F.gy ∧ ¬ O x.1
  bl : Below F.lo F.w0 w
section
variable {F : Fz} {KL : List (Nat × Obj)} {O O' : Nat → Prop} {L L' : List Pt} {w w' : World} {p p' : Pt} {ps ps' : List Pt} {q q' : Pt} {qs qs' : List Pt}
theorem Co.low (h : Co F KL O L w p ps q qs) : F.lo ≤ w.heap.size := h.bd.low
theorem Co.past (h : Co F KL O L w p ps q qs) (hb : Below w.heap.size w w') : Co F KL O L w' p ps q qs :=
  ⟨h.ox.past hb, h.oy.past hb, h.bd.past hb, h.ne, h.nx, h.ny, fun x hx => let ⟨h1, h2⟩ := h.kp x hx; ⟨(hb.block _ (lt_of_some h1)).trans h1, h2⟩, h.bl.trans (hb.mono h.low)⟩
theorem Co.drew (h : Co F KL O L w p ps q qs) : Co F KL O L w.drew p ps q qs := h.past ((Below.refl _ _).drew)
theorem Co.movx (h : Co F KL O L w p ps q qs) (ho : Orr F.lo F.gx w' p' ps') (hb : Below F.lo w w') (hf : Fr (fun b => b = F.gx) w w') : Co F KL O L w' p' ps' q qs :=
  ⟨ho, h.oy.keep (hf.block _ h.oy.lt (fun e => h.ne e.symm)) hb, h.bd.keep hf.size (fun b hlt ho => hf.block b hlt (fun e => h.nx (by have e' : b = F.gx := e; rw [← e']; exact ho))), h.ne, h.nx, h.ny, fun x hx => let ⟨h1, h2, h3, h4⟩ := h.kp x hx; ⟨(hf.block _ (lt_of_some h1) h3).trans h1, h2, h3, h4⟩, h.bl.trans hb⟩
theorem Co.movy (h : Co F KL O L w p ps q qs) (ho : Orr F.lo F.gy w' q' qs') (hb : Below F.lo w w') (hf : Fr (fun b => b = F.gy) w w') : Co F KL O L w' p ps q' qs' :=
  ⟨h.ox.keep (hf.block _ h.ox.lt h.ne) hb, ho, h.bd.keep hf.size (fun b hlt ho => hf.block b hlt (fun e => h.ny (by have e' : b = F.gy := e; rw [← e']; exact ho))), h.ne, h.nx, h.ny, fun x hx => let ⟨h1, h2, h3, h4, h5⟩ := h.kp x hx; ⟨(hf.block _ (lt_of_some h1) h4).trans h1, h2, h3, h4, h5⟩, h.bl.trans hb⟩
theorem Co.bldr (h : Co F KL O L w p ps q qs) (hd : Bld O' F.lo F.go 76 w' L') (hb : Below F.lo w w') (hg : Grew O O' w w') : Co F KL O' L' w' p ps q qs := by
  have out : ∀ b, b < w.heap.size → ¬ O b → ¬ O' b := fun b hlt hn ho => by
    rcases hg.more b ho with h1 | h1
    · exact hn h1
    · omega
  exact ⟨h.ox.keep (hg.block _ h.ox.lt h.nx) hb, h.oy.keep (hg.block _ h.oy.lt h.ny) hb, hd, h.ne, out _ h.ox.lt h.nx, out _ h.oy.lt h.ny, fun x hx => let ⟨h1, h2, h3, h4, h5⟩ := h.kp x hx; ⟨(hg.block _ (lt_of_some h1) h5).trans h1, h2, h3, h4, out _ (lt_of_some h1) h5⟩, h.bl.trans hb⟩
/-- a block more that stays: one that lies beyond all blocks that stood -/
theorem Co.also (h : Co F KL O L w p ps q qs) (hb : Below w.heap.size w w') {b : Nat} {o : Obj} (hbl : w.heap.size ≤ b) (ho : w'.heap[b]? = some o) : Co F ((b, o) :: KL) O L w' p ps q qs := by
  have h' := h.past hb
  refine ⟨h'.ox, h'.oy, h'.bd, h'.ne, h'.nx, h'.ny, fun x hx => ?_, h'.bl⟩
  rcases List.mem_cons.1 hx with rfl | hx
  · exact ⟨ho, Nat.le_trans h.low hbl, by have := h.ox.lt; show ¬ b = F.gx; omega, by have := h.oy.lt; show ¬ b = F.gy; omega, fun hO => by have := h.bd.old _ hO; simp at this; omega⟩
  · exact h'.kp x hx
theorem Co.less {KM : List (Nat × Obj)} (h : Co F KL O L w p ps q qs) (hs : ∀ x ∈ KM, x ∈ KL) : Co F KM O L w p ps q qs := ⟨h.ox, h.oy, h.bd, h.ne, h.nx, h.ny, fun x hx => h.kp x (hs x hx), h.bl⟩
theorem put_below {lo l : Nat} {o : Obj} (hl : lo ≤ l) (hz : l < w.heap.size) : Below lo w (w.putObj l o) :=
  (Below.refl lo w).grown (grownBy_putObj' w l o) (by omega) (fun k e => by cases e; exact hl)
/-- a block that stays is written whole -/
theorem Co.put {l : Nat} {o o' : Obj} (h : Co F ((l, o) :: KL) O L w p ps q qs) (hn : ∀ x ∈ KL, ¬ x.1 = l) : Co F ((l, o') :: KL) O L (w.putObj l o') p ps q qs := by
  obtain ⟨h1, h2, h3, h4, h5⟩ := h.kp (l, o) (by simp)
  simp only at h1 h2 h3 h4 h5
  have hz := lt_of_some h1
  have hb := put_below (o := o') h2 hz
  have other : ∀ b, ¬ b = l → (w.putObj l o').heap[b]? = w.heap[b]? := fun b hb => World.putObj_heap_other hb
  refine ⟨h.ox.keep (other _ (fun e => h3 e.symm)) hb, h.oy.keep (other _ (fun e => h4 e.symm)) hb, h.bd.keep (by simp) (fun b _ ho => other b (fun e => h5 (by rw [← e]; exact ho))), h.ne, h.nx, h.ny, fun x hx => ?_, h.bl.trans hb⟩
  rcases List.mem_cons.1 hx with rfl | hx
  · exact ⟨World.putObj_heap_same hz, h2, h3, h4, h5⟩
  · obtain ⟨k1, k2⟩ := h.kp x (by simp [hx])
    exact ⟨(other _ (hn x hx)).trans k1, k2⟩
/-- a look for more -/
theorem Co.morex (h : Co F KL O L w p ps q qs) : Calls Try.prog 100 #[.pointer (some ⟨F.gx, 0, none⟩)] w (fun e w' => ∃ p' ps', e = .returned (.bool (decide (0 < sizeP p'))) ∧ Co F KL O L w' p' ps' q qs ∧ unitsP p' ++ units ps' = unitsP p ++ units ps ∧ (sizeP p' = 0 → ps' = [])) := by
  refine (implMore F.lo F.gx p ps w h.ox).mono ?_
  rintro e w' ⟨p', ps', h1, h2, h3, h4, h5, h6⟩
  exact ⟨p', ps', h1, h.movx h2 h5 h6, h3, h4⟩
theorem Co.morey (h : Co F KL O L w p ps q qs) : Calls Try.prog 100 #[.pointer (some ⟨F.gy, 0, none⟩)] w (fun e w' => ∃ q' qs', e = .returned (.bool (decide (0 < sizeP q'))) ∧ Co F KL O L w' p ps q' qs' ∧ unitsP q' ++ units qs' = unitsP q ++ units qs ∧ (sizeP q' = 0 → qs' = [])) := by
  refine (implMore F.lo F.gy q qs w h.oy).mono ?_
  rintro e w' ⟨p', ps', h1, h2, h3, h4, h5, h6⟩
  exact ⟨p', ps', h1, h.movy h2 h5 h6, h3, h4⟩
def TakeX (F : Fz) (KL : List (Nat × Obj)) (O : Nat → Prop) (L : List Pt) (p : Pt) (ps : List Pt) (q : Pt) (qs : List Pt) (n : Nat) (e : Ending) (w' : World) : Prop := ∃ v, e = .returned v ∧ PtV F.lo w' (cutL p n) v ∧ Co F KL O L w' (cutR p n) ps q qs
def TakeY (F : Fz) (KL : List (Nat × Obj)) (O : Nat → Prop) (L : List Pt) (p : Pt) (ps : List Pt) (q : Pt) (qs : List Pt) (n : Nat) (e : Ending) (w' : World) : Prop := ∃ v, e = .returned v ∧ PtV F.lo w' (cutL q n) v ∧ Co F KL O L w' p ps (cutR q n) qs
theorem Co.takex {n : Nat} (h : Co F KL O L w p ps q qs) (h0 : 0 < n) (hn : n ≤ sizeP p) : Calls Try.prog 106 #[.pointer (some ⟨F.gx, 0, none⟩), .int .i64 (n : Int)] w (TakeX F KL O L p ps q qs n) := by
  refine (implTake F.lo F.gx p ps n w h.ox h0 hn).mono ?_
  rintro e w' ⟨v, h1, h2, h3, h4, h5⟩
  exact ⟨v, h1, h2, h.movx h3 h4 h5⟩
theorem Co.takey {n : Nat} (h : Co F KL O L w p ps q qs) (h0 : 0 < n) (hn : n ≤ sizeP q) : Calls Try.prog 106 #[.pointer (some ⟨F.gy, 0, none⟩), .int .i64 (n : Int)] w (TakeY F KL O L p ps q qs n) := by
  refine (implTake F.lo F.gy q qs n w h.oy h0 hn).mono ?_
  rintro e w' ⟨v, h1, h2, h3, h4, h5⟩
  exact ⟨v, h1, h2, h.movy h3 h4 h5⟩
theorem Co.takeyb {n : Nat} (h : Co F KL O L w p ps q qs) (h0 : 0 < n) (hn : n ≤ sizeP q) : Calls Try.prog 106 #[.pointer (some ⟨F.gy, 0, none⟩), .int .i64 (n : Int)] w (fun e w' => ∃ v, e = .returned v ∧ PtV F.lo w' (cutL q n) v ∧ Co F KL O L w' p ps (cutR q n) qs ∧ Below F.lo w w') := by
  refine (implTake F.lo F.gy q qs n w h.oy h0 hn).mono ?_
  rintro e w' ⟨v, h1, h2, h3, h4, h5⟩
  exact ⟨v, h1, h2, h.movy h3 h4 h5, h4⟩
theorem cutL_kind {n : Nat} (h : ¬ p.kind = 0) : ¬ (cutL p n).kind = 0 := by
  unfold cutL
  split
  · simp
  · exact h
def AddC (F : Fz) (KL : List (Nat × Obj)) (L : List Pt) (p : Pt) (ps : List Pt) (q : Pt) (qs : List Pt) (e : Ending) (w' : World) : Prop := e = .returned (.tuple #[]) ∧ ∃ O, Co F KL O L w' p ps q qs
theorem Co.add {r : Pt} {v : Value} (h : Co F KL O L w p ps q qs) (hv : PtV F.lo w r v) (hr : Vp r) (hk : ¬ r.kind = 0) (hl : L.length < 100000) : Calls Try.prog 81 #[.pointer (some ⟨F.go, 0, none⟩), v] w (AddC F KL (L ++ [r]) p ps q qs) := by
  refine (implAddB O F.lo F.go L r v w h.bd hv hr hk hl).mono ?_
  rintro e w' ⟨h1, O', h2, h3, h4⟩
  exact ⟨h1, O', h.bldr h2 h3 h4⟩
def SizeC (F : Fz) (KL : List (Nat × Obj)) (O : Nat → Prop) (L : List Pt) (p : Pt) (ps : List Pt) (q : Pt) (qs : List Pt) (n : Nat) (w : World) (e : Ending) (w' : World) : Prop := e = .returned (.int .i64 (n : Int)) ∧ Co F KL O L w' p ps q qs ∧ Below w.heap.size w w'
theorem Co.size {r : Pt} {v : Value} (h : Co F KL O L w p ps q qs) (hv : PtV F.lo w r v) (hr : Vp r) : Calls Try.prog 83 #[v] w (SizeC F KL O L p ps q qs (sizeP r) w) := by
  obtain ⟨A, c, rfl, _⟩ := hv
  have hz := hr.size
  refine (implSize_any r.kind r.n A r.signs.length c w (by omega) (by omega) (by omega)).mono ?_
  rintro e w' ⟨rfl, h2⟩
  exact ⟨by rw [hz.1], h.past h2, h2⟩
end

/-- the blocks of KL, in the world at hand -/
def Ks (KL : List (Nat × Obj)) (w : World) : Prop := ∀ x ∈ KL, w.heap[x.1]? = some x.2
theorem Co.ks {F : Fz} {KL : List (Nat × Obj)} {O : Nat → Prop} {L : List Pt} {w : World} {p : Pt} {ps : List Pt} {q : Pt} {qs : List Pt} (h : Co F KL O L w p ps q qs) : Ks KL w := fun x hx => (h.kp x hx).1
theorem Ks.cell {KL : List (Nat × Obj)} {w : World} {b : Nat} {xs : Array Value} {T : TypeId} {i : Nat} {v : Value} (h : Ks KL w) (hm : (b, Obj.cells xs T (0, 0)) ∈ KL) (hv : xs[i]? = some v) : w.cell? ⟨b, i, none⟩ = some v := (cell_of_row _ _ i _ _ _ (h _ hm)).trans hv

section
variable {P : Program} {ops : Array Oper} {Q : Exit → Act → World → Prop} {md : Region.Mode} {S : World → Prop}
/-- in a region that draws its order: a call of a function that alone may come up -/
theorem wpAnyH_call {i : Nat} {o : Oper} {fuel : Nat} {listed : Array Bool} {a : Act} {w : World} {f : FuncId} {args : Array Value} (hi : ops[i]? = some o) (hr : Region.ready md ops listed = [i]) (hw : Region.wanted o (yielded ops a.tmps) = true)
    (hrun : (execOp a.eval o).run P w = .ok (.enter f args) w) (hc : Calls P f args w (fun e w' => ∃ v, e = .returned v ∧ S w' ∧ wpAnyH P md ops Q S fuel (listed.setIfInBounds i true) (a.put o.dst v) w')) : wpAnyH P md ops Q S (fuel + 1) listed a w := by
  refine wpAnyH_all hr (by simp) (fun j hj => ?_)
  obtain rfl : j = i := by simpa using hj
  unfold wpOp
  simp only [hi, hw, if_true, Oper.wp, hrun, Oper.upon]
  refine .inl (hc.mono ?_)
  rintro e w' ⟨v, rfl, h1, h2⟩
  exact ⟨h1, h2⟩
theorem fall_n {K : Act → World → Prop} {a : Act} {w : World} (h : K a w) : Fall K .normal a w := h
def noDeferB (ops : Array Oper) : Bool := ops.toList.all (fun o => match o.op with | .defer _ => false | _ => true)
theorem noDefer_of {ops : Array Oper} (h : noDeferB ops = true) : NoDefer ops := fun i o ho c e => by
  have := List.all_eq_true.1 h o (by rw [← Array.getElem?_toList] at ho; exact List.mem_of_getElem? ho)
  rw [e] at this
  simp at this
end
end Go.Proofs.Ytmlkeflnnaabeaa.low


/-
  The program's composition: what its rounds do to the units that are left (the composition's invariant).
-/
namespace Go.Proofs.Ytmlkeflnnaabeaa.low
open Go.RowKit
set_option linter.unusedVariables false

theorem Vp.form {p : Pt} (h : Vp p) (h0 : 0 < sizeP p) : (p.kind = 1 ∧ p = ⟨1, (sizeP p : Int), []⟩ ∧ unitsP p = List.replicate (sizeP p) .k) ∨ (p.kind = 3 ∧ p = ⟨3, (sizeP p : Int), []⟩ ∧ unitsP p = List.replicate (sizeP p) .d) ∨ (p.kind = 2 ∧ p = ⟨2, 0, p.signs⟩ ∧ sizeP p = p.signs.length ∧ unitsP p = p.signs.map .p) := by
  obtain ⟨k, m, zs⟩ := p
  rcases h with ⟨h1, h2, h3, h4⟩ | ⟨h1, h2, h3⟩ | ⟨h1, h2, h3⟩ <;> simp only at * <;> subst_vars
  · rcases h1 with rfl | rfl
    · exact .inl ⟨rfl, by simp [sizeP, Int.toNat_of_nonneg h2], by simp [sizeP, unitsP]⟩
    · exact .inr (.inl ⟨rfl, by simp [sizeP, Int.toNat_of_nonneg h2], by simp [sizeP, unitsP]⟩)
  · exact .inr (.inr ⟨rfl, rfl, by simp [sizeP], by simp [unitsP]⟩)
  · simp [sizeP] at h0
theorem Vp.kind_ne {p : Pt} (h : Vp p) (h0 : 0 < sizeP p) : ¬ p.kind = 0 := by
  rcases h.form h0 with h | h | h <;> omega
theorem units_cut {p : Pt} {n : Nat} (h : Vp p) (hn : n ≤ sizeP p) : unitsP p = unitsP (cutL p n) ++ unitsP (cutR p n) := by
  obtain ⟨k, m, zs⟩ := p
  rcases h with ⟨h1, h2, h3, h4⟩ | ⟨h1, h2, h3⟩ | ⟨h1, h2, h3⟩ <;> simp only at * <;> subst_vars
  · rcases h1 with rfl | rfl
    · simp [sizeP] at hn
      simp [unitsP, cutL, cutR]
      congr 1
      omega
    · simp [sizeP] at hn
      simp [unitsP, cutL, cutR]
      congr 1
      omega
  · simp [unitsP, cutL, cutR]
  · simp [sizeP] at hn
    subst hn
    simp [unitsP, cutL, cutR]
theorem units_cutR_all {p : Pt} (h : Vp p) : unitsP (cutR p (sizeP p)) = [] := by
  have e := congrArg List.length (units_cut h (Nat.le_refl (sizeP p)))
  rw [List.length_append, unitsP_len, unitsP_len (cutL p (sizeP p))] at e
  have : sizeP (cutL p (sizeP p)) = sizeP p := by
    obtain ⟨k, m, zs⟩ := p
    rcases h with ⟨h1, h2, h3, h4⟩ | ⟨h1, h2, h3⟩ | ⟨h1, h2, h3⟩ <;> simp only at * <;> subst_vars
    · have hk : ¬ k = 2 := by omega
      simp [sizeP, cutL, hk]
      omega
    · simp [sizeP, cutL]
    · simp [sizeP, cutL]
  exact List.eq_nil_of_length_eq_zero (by omega)
theorem sizeP_nil {p : Pt} (h : sizeP p = 0) : unitsP p = [] := List.eq_nil_of_length_eq_zero (by rw [unitsP_len, h])
theorem noD_of {p : Pt} {R : List U} (h : Vp p) (h0 : 0 < sizeP p) (hk : ¬ p.kind = 3) : noD (unitsP p ++ R) := by
  rcases h.form h0 with ⟨_, _, e⟩ | ⟨k, _⟩ | ⟨_, _, l, e⟩
  · rw [e]
    obtain ⟨m, hm⟩ : ∃ m, sizeP p = m + 1 := ⟨sizeP p - 1, by omega⟩
    rw [hm, List.replicate_succ]
    trivial
  · exact absurd k hk
  · rw [e]
    cases hz : p.signs with
    | nil => rw [hz] at l; simp at l; omega
    | cons z zs => trivial
theorem tgt_pos {p : Pt} {R : List U} (h : Vp p) (h0 : 0 < sizeP p) (hk : ¬ p.kind = 3) : 0 < tgt (unitsP p ++ R) := by
  rw [tgt_app]
  rcases h.form h0 with ⟨_, _, e⟩ | ⟨k, _⟩ | ⟨_, _, l, e⟩
  · rw [e, (src_rk _).2]; omega
  · exact absurd k hk
  · rw [e, (src_mp _).2]; omega
theorem src_pos {p : Pt} {R : List U} (h : Vp p) (h0 : 0 < sizeP p) (hk : ¬ p.kind = 2) : 0 < src (unitsP p ++ R) := by
  rw [src_app]
  rcases h.form h0 with ⟨_, _, e⟩ | ⟨k, _, e⟩ | ⟨k, _⟩
  · rw [e, (src_rk _).1]; omega
  · rw [e, (src_rd _).1]; omega
  · exact absurd k hk
section
variable {a b L : List Pt} {p q : Pt} {R S RX RY : List U}
theorem CInv.eD (h : CInv a b (unitsP p ++ R) RY L) (hv : Vp p) (h0 : 0 < sizeP p) (hk : p.kind = 3) : CInv a b (unitsP (cutR p (sizeP p)) ++ R) RY (L ++ [p]) := by
  rw [units_cutR_all hv, List.nil_append]
  rcases hv.form h0 with ⟨k, _⟩ | ⟨_, e1, e2⟩ | ⟨k, _⟩
  · omega
  · rw [e2] at h
    rw [e1]
    exact h.drop h0
  · omega
theorem CInv.eP (h : CInv a b RX (unitsP q ++ S) L) (hd : noD RX) (hv : Vp q) (h0 : 0 < sizeP q) (hk : q.kind = 2) : CInv a b RX (unitsP (cutR q (sizeP q)) ++ S) (L ++ [q]) := by
  rw [units_cutR_all hv, List.nil_append]
  rcases hv.form h0 with ⟨k, _⟩ | ⟨k, _⟩ | ⟨_, e1, l, e2⟩
  · omega
  · omega
  · rw [e2] at h
    rw [e1]
    exact h.put hd (by omega)
theorem cutL_n {n : Nat} (hk : ¬ p.kind = 2) : cutL p n = ⟨p.kind, (n : Int), []⟩ := by simp [cutL, hk]
theorem cutL_p {n : Nat} (hk : p.kind = 2) : cutL p n = ⟨2, 0, p.signs.take n⟩ := by simp [cutL, hk]
theorem CInv.eB {m : Nat} (h : CInv a b (unitsP p ++ R) (unitsP q ++ S) L) (hv : Vp p) (hw : Vp q) (h0 : 0 < m) (h1 : m ≤ sizeP p) (h2 : m ≤ sizeP q) (hk : ¬ p.kind = 3) (hk' : ¬ q.kind = 2) : CInv a b (unitsP (cutR p m) ++ R) (unitsP (cutR q m) ++ S) (bothL L (cutL p m) (cutL q m)) := by
  rw [units_cut hv h1, units_cut hw h2, List.append_assoc, List.append_assoc] at h
  rcases hv.form (by omega) with ⟨kp, _⟩ | ⟨kp, _⟩ | ⟨kp, _, lp, _⟩
  · have ep := cutL_n (p := p) (n := m) (by omega)
    rw [kp] at ep
    have up : unitsP (cutL p m) = List.replicate m .k := by rw [ep]; simp [unitsP]
    rcases hw.form (by omega) with ⟨kq, _⟩ | ⟨kq, _⟩ | ⟨kq, _⟩
    · have eq := cutL_n (p := q) (n := m) (by omega)
      rw [kq] at eq
      have uq : unitsP (cutL q m) = List.replicate m .k := by rw [eq]; simp [unitsP]
      rw [up, uq] at h
      rw [ep, eq]
      simpa [bothL] using h.kk h0
    · have eq := cutL_n (p := q) (n := m) (by omega)
      rw [kq] at eq
      have uq : unitsP (cutL q m) = List.replicate m .d := by rw [eq]; simp [unitsP]
      rw [up, uq] at h
      rw [ep, eq]
      simpa [bothL] using h.kd h0
    · omega
  · omega
  · have ep := cutL_p (p := p) (n := m) kp
    have lz : (p.signs.take m).length = m := by rw [List.length_take]; omega
    have up : unitsP (cutL p m) = (p.signs.take m).map .p := by rw [ep]; simp [unitsP]
    rcases hw.form (by omega) with ⟨kq, _⟩ | ⟨kq, _⟩ | ⟨kq, _⟩
    · have eq := cutL_n (p := q) (n := m) (by omega)
      rw [kq] at eq
      have uq : unitsP (cutL q m) = List.replicate (p.signs.take m).length .k := by rw [eq, lz]; simp [unitsP]
      rw [up, uq] at h
      rw [ep, eq]
      simpa [bothL] using h.pk (by omega)
    · have eq := cutL_n (p := q) (n := m) (by omega)
      rw [kq] at eq
      have uq : unitsP (cutL q m) = List.replicate (p.signs.take m).length .d := by rw [eq, lz]; simp [unitsP]
      rw [up, uq] at h
      rw [ep, eq]
      simpa [bothL] using h.pd
    · omega
end
theorem cutR_len {p : Pt} {n : Nat} (h : Vp p) (hn : n ≤ sizeP p) (h0 : 0 < n) : (unitsP (cutR p n)).length < (unitsP p).length := by
  have e := congrArg List.length (units_cut h hn)
  have l : (unitsP (cutL p n)).length = n := by
    obtain ⟨k, m, zs⟩ := p
    rcases h with ⟨h1, h2, h3, h4⟩ | ⟨h1, h2, h3⟩ | ⟨h1, h2, h3⟩ <;> simp only at * <;> subst_vars
    · have hk : ¬ k = 2 := by omega
      rw [unitsP_len]
      simp [sizeP, cutL, hk]
    · simp [sizeP] at hn
      rw [unitsP_len]
      simp [sizeP, cutL]
      omega
    · simp [sizeP] at hn
      omega
  rw [List.length_append, l] at e
  omega
/-- what lies below F.lo reads the same in two worlds of the state -/
theorem Co.rd {F : Fz} {KL KM : List (Nat × Obj)} {O O' : Nat → Prop} {L L' : List Pt} {w w' : World} {p p' : Pt} {ps ps' : List Pt} {q q' : Pt} {qs qs' : List Pt} (h : Co F KL O L w p ps q qs) (h' : Co F KM O' L' w' p' ps' q' qs') {d : Dat} {v : Value} (hr : RdC w F.lo d v) : RdC w' F.lo d v :=
  RdC.keep (fun _ hp => (h'.bl.cell hp).trans (h.bl.cell hp).symm) d v hr
end Go.Proofs.Ytmlkeflnnaabeaa.low


/-
  The rounds of impl.composed's ranges over functions: their codes, taken out of the translation; each round a theorem over the frame.
-/
namespace Go.Proofs.Ytmlkeflnnaabeaa.low
open Go.RowKit
set_option linter.unusedVariables false
attribute [local go_sem] Oper.semAt_some

/-- the ranges over functions in a piece of code: what is assigned, and the body -/
def rfs : Code → List (Code × Code)
  | .rangeFunc _ _ a b => (a, b) :: rfs b
  | .seq a b => rfs a ++ rfs b
  | .cond _ a b => rfs a ++ rfs b
  | .block _ c => rfs c
  | .scope c => rfs c
  | _ => []
theorem cutL_all {p : Pt} (h : Vp p) (hk : ¬ p.kind = 0) : cutL p (sizeP p) = p := by
  obtain ⟨k, m, zs⟩ := p
  rcases h with ⟨h1, h2, h3, h4⟩ | ⟨h1, h2, h3⟩ | ⟨h1, h2, h3⟩ <;> simp only at * <;> subst_vars
  · have hk : ¬ k = 2 := by omega
    simp only [cutL, sizeP, if_neg hk]
    rw [Int.toNat_of_nonneg h2]
  · simp [cutL, sizeP]
  · exact absurd rfl hk
end Go.Proofs.Ytmlkeflnnaabeaa.low


/-
  The program's transformation: pass, and the effects of each kind on each other kind.
-/
namespace Go.Proofs.Ytmlkeflnnaabeaa.low.xb
open Go.RowKit
set_option linter.unusedVariables false

theorem szD (r : Pt) (A : Option Addr) (c : Nat) (w : World) (hr : Vp r) : Calls Try.prog 83 #[.agg #[.int .i64 r.kind, .int .i64 r.n, .slice A r.signs.length c]] w (fun e w' => e = .returned (.int .i64 (sizeP r : Int)) ∧ Below w.heap.size w w') := by
  have hz := hr.size
  refine (implSize_any r.kind r.n A r.signs.length c w (by omega) (by omega) (by omega)).mono ?_
  rintro e w' ⟨rfl, h2⟩
  exact ⟨by rw [hz.1], h2⟩
theorem s_past {F : Fy} {KL : List (Nat × Obj)} {O P : Nat → Prop} {L M : List Pt} {W W' : World} {p : Pt} {ps : List Pt} {q : Pt} {qs : List Pt} {v0 v1 v2 u0 u1 u2 : Value}
    (h : W.cell? ⟨F.g, 0, none⟩ = some v0 ∧ W.cell? ⟨F.g, 1, none⟩ = some v1 ∧ W.cell? ⟨F.g, 2, none⟩ = some v2 ∧ W.cell? ⟨F.g, 4, none⟩ = some u0 ∧ W.cell? ⟨F.g, 5, none⟩ = some u1 ∧ W.cell? ⟨F.g, 6, none⟩ = some u2 ∧ Xs F KL O P L M W p ps q qs) (h2 : Below W.heap.size W W') :
    W'.cell? ⟨F.g, 0, none⟩ = some v0 ∧ W'.cell? ⟨F.g, 1, none⟩ = some v1 ∧ W'.cell? ⟨F.g, 2, none⟩ = some v2 ∧ W'.cell? ⟨F.g, 4, none⟩ = some u0 ∧ W'.cell? ⟨F.g, 5, none⟩ = some u1 ∧ W'.cell? ⟨F.g, 6, none⟩ = some u2 ∧ Xs F KL O P L M W' p ps q qs := by
  obtain ⟨a0, a1, a2, c0, c1, c2, hk⟩ := h
  have g' := hk.lt
  exact ⟨(h2.cell (p := ⟨F.g, 0, none⟩) g').trans a0, (h2.cell (p := ⟨F.g, 1, none⟩) g').trans a1, (h2.cell (p := ⟨F.g, 2, none⟩) g').trans a2, (h2.cell (p := ⟨F.g, 4, none⟩) g').trans c0, (h2.cell (p := ⟨F.g, 5, none⟩) g').trans c1, (h2.cell (p := ⟨F.g, 6, none⟩) g').trans c2, hk.past h2⟩
def PassP (F : Fy) (KL : List (Nat × Obj)) (O P : Nat → Prop) (L M : List Pt) (p : Pt) (ps : List Pt) (q : Pt) (qs : List Pt) (m : Nat) (e : Ending) (w' : World) : Prop := e = .returned (.int .i64 (m : Int)) ∧ Xs F KL O P L M w' (cutR p m) ps (cutR q m) qs
section
variable {F : Fy} {KL : List (Nat × Obj)} {O P : Nat → Prop} {L M : List Pt} {w : World} {p : Pt} {ps : List Pt} {q : Pt} {qs : List Pt} {m : Nat}
set_option maxRecDepth 100000 in
set_option maxHeartbeats 1600000 in
theorem Xs.pass (h : Xs F KL O P L M w p ps q qs) (h0 : 0 < m) (hp : m ≤ sizeP p) (hq : m ≤ sizeP q) (hm : m = sizeP p ∨ m = sizeP q) : Calls Try.prog 107 #[.pointer (some ⟨F.g, 0, none⟩)] w (PassP F KL O P L M p ps q qs m) := by
  have hvp := h.vp
  have hvq := h.vq
  obtain ⟨A, ca, a0, a1, a2, ra⟩ := h.drew.cellsA
  obtain ⟨B, cb, c0, c1, c2, rb⟩ := h.drew.cellsB
  have hS0 := And.intro a0 (And.intro a1 (And.intro a2 (And.intro c0 (And.intro c1 (And.intro c2 h.drew)))))
  have HM := Lib.hid hm
  have HMm := Lib.hid (show (if sizeP q < sizeP p then ((sizeP q : Nat) : Int) else ((sizeP p : Nat) : Int)) = (m : Int) by split <;> omega)
  clear h ra rb hm a0 a1 a2 c0 c1 c2
  go_enter Try.func107, Try.ntmps107
  go_wp2
  go_region_held3 (fun W => W.cell? ⟨F.g, 0, none⟩ = some (.int .i64 p.kind) ∧ W.cell? ⟨F.g, 1, none⟩ = some (.int .i64 p.n) ∧ W.cell? ⟨F.g, 2, none⟩ = some (.slice A p.signs.length ca) ∧ W.cell? ⟨F.g, 4, none⟩ = some (.int .i64 q.kind) ∧ W.cell? ⟨F.g, 5, none⟩ = some (.int .i64 q.n) ∧ W.cell? ⟨F.g, 6, none⟩ = some (.slice B q.signs.length cb) ∧ Xs F KL O P L M W p ps q qs)
    (first | assumption | exact hS0 | (exact s_past (by assumption) b2))
    (first | (go_at_call 83; ((with_reducible refine (szD p A ca _ hvp).mono ?_); rintro e w2 ⟨rfl, b2⟩)) | (go_at_call 83; ((with_reducible refine (szD q B cb _ hvq).mono ?_); rintro e w2 ⟨rfl, b2⟩)))
  rename_i hS2
  have HS := Lib.hid hS2.2.2.2.2.2.2
  clear hS2 hS0
  rw [HMm.out]
  clear HMm
  go_wp2_with fail
  refine (HS.out.takeA h0 hp).mono ?_
  rintro e w3 ⟨v3, rfl, _, h3⟩
  have HS3 := Lib.hid h3
  clear h3
  go_wp2_with fail
  refine (HS3.out.takeB h0 hq).mono ?_
  rintro e w4 ⟨v4, rfl, _, h4⟩
  have HS4 := Lib.hid h4
  clear h4
  go_wp2
  go_ret
  exact ⟨rfl, HS4.out⟩
def EffP (F : Fy) (KL : List (Nat × Obj)) (L M : List Pt) (p : Pt) (ps : List Pt) (q : Pt) (qs : List Pt) (e : Ending) (w' : World) : Prop := e = .returned (.tuple #[]) ∧ ∃ O P, Xs F KL O P L M w' p ps q qs
set_option maxRecDepth 100000 in
set_option maxHeartbeats 1600000 in
theorem Xs.keepBoth (h : Xs F KL O P L M w p ps q qs) (h0 : 0 < m) (hp : m ≤ sizeP p) (hq : m ≤ sizeP q) (hm : m = sizeP p ∨ m = sizeP q) (hL : L.length < 100000) (hM : M.length < 100000) : Calls Try.prog 95 #[.pointer (some ⟨F.g, 0, none⟩)] w (EffP F KL (L ++ [⟨1, (m : Int), []⟩]) (M ++ [⟨1, (m : Int), []⟩]) (cutR p m) ps (cutR q m) qs) := by
  have hs := h.vp.size
  go_enter Try.func95, Try.ntmps95
  go_wp2_with fail
  refine (h.pass h0 hp hq hm).mono ?_
  rintro e w1 ⟨rfl, h1⟩
  have H1 := Lib.hid h1
  clear h1 h
  go_wp2_with fail
  refine (H1.out.keepX (by omega) (by omega) hL).mono ?_
  rintro e w2 ⟨rfl, O2, h2⟩
  have H2 := Lib.hid h2
  clear h2 H1
  go_wp2_with fail
  refine (H2.out.keepY (by omega) (by omega) hM).mono ?_
  rintro e w3 ⟨rfl, P3, h3⟩
  have H3 := Lib.hid h3
  clear h3 H2
  go_wp2
  go_end0
  exact ⟨rfl, _, _, H3.out⟩
set_option maxRecDepth 100000 in
set_option maxHeartbeats 1600000 in
theorem Xs.dropBoth (h : Xs F KL O P L M w p ps q qs) (h0 : 0 < m) (hp : m ≤ sizeP p) (hq : m ≤ sizeP q) (hm : m = sizeP p ∨ m = sizeP q) : Calls Try.prog 99 #[.pointer (some ⟨F.g, 0, none⟩)] w (EffP F KL L M (cutR p m) ps (cutR q m) qs) := by
  go_enter Try.func99, Try.ntmps99
  go_wp2_with fail
  refine (h.pass h0 hp hq hm).mono ?_
  rintro e w1 ⟨rfl, h1⟩
  have H1 := Lib.hid h1
  clear h1 h
  go_wp2
  go_end0
  exact ⟨rfl, _, _, H1.out⟩
set_option maxRecDepth 100000 in
set_option maxHeartbeats 1600000 in
theorem Xs.dropFirst (h : Xs F KL O P L M w p ps q qs) (h0 : 0 < m) (hp : m ≤ sizeP p) (hq : m ≤ sizeP q) (hm : m = sizeP p ∨ m = sizeP q) (hL : L.length < 100000) : Calls Try.prog 98 #[.pointer (some ⟨F.g, 0, none⟩)] w (EffP F KL (L ++ [⟨3, (m : Int), []⟩]) M (cutR p m) ps (cutR q m) qs) := by
  have hs := h.vp.size
  have HS := Lib.hid h.drew
  have HM := Lib.hid hm
  clear h hm
  go_enter Try.func98, Try.ntmps98
  go_wp2
  go_region_held3 (fun _ => True) (trivial)
    (first | (go_at_call 107; ((refine (HS.out.pass h0 hp hq HM.out).mono ?_); rintro e w1 ⟨rfl, h1⟩; have H1 := Lib.hid h1; clear h1)) | (go_at_call 75; ((refine (H1.out.dropX (by omega) (by omega) hL).mono ?_); rintro e w2 ⟨rfl, O2, h2⟩; have H2 := Lib.hid h2; clear h2)))
  go_wp2
  go_end0
  exact ⟨rfl, _, _, H2.out⟩
set_option maxRecDepth 100000 in
set_option maxHeartbeats 1600000 in
theorem Xs.dropSecond (h : Xs F KL O P L M w p ps q qs) (h0 : 0 < m) (hp : m ≤ sizeP p) (hq : m ≤ sizeP q) (hm : m = sizeP p ∨ m = sizeP q) (hM : M.length < 100000) : Calls Try.prog 96 #[.pointer (some ⟨F.g, 0, none⟩)] w (EffP F KL L (M ++ [⟨3, (m : Int), []⟩]) (cutR p m) ps (cutR q m) qs) := by
  have hs := h.vp.size
  have HS := Lib.hid h.drew
  have HM := Lib.hid hm
  clear h hm
  go_enter Try.func96, Try.ntmps96
  go_wp2
  go_region_held3 (fun _ => True) (trivial)
    (first | (go_at_call 107; ((refine (HS.out.pass h0 hp hq HM.out).mono ?_); rintro e w1 ⟨rfl, h1⟩; have H1 := Lib.hid h1; clear h1)) | (go_at_call 75; ((refine (H1.out.dropY (by omega) (by omega) hM).mono ?_); rintro e w2 ⟨rfl, O2, h2⟩; have H2 := Lib.hid h2; clear h2)))
  go_wp2
  go_end0
  exact ⟨rfl, _, _, H2.out⟩
end
end Go.Proofs.Ytmlkeflnnaabeaa.low.xb

