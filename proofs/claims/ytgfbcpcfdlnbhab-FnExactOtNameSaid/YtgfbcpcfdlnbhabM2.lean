/-
  Texts that the proofs over this seat rest on, one behind the other (2 of 2).
-/
import Derived.Test.YtgfbcpcfdlnbhabM1
import Derived.Deep.AppendLies
import Derived.Maps.RangeWalk
import Derived.Shelf.SlSortCmp.WholeK
import Derived.Deep.RegionHeld
import Derived.Test.YtgfbcpcfdlnbhabProg
import Derived.Laws.BytesArg

/-
  Contract of spec.DocSame. Written by mkdoc5.py.
-/
namespace Go.Proofs.Ytgfbcpcfdlnbhab.low
open Go.RowKit
set_option linter.unusedVariables false

def entriesB : List En → List En → Bool
  | [], [] => true
  | e :: l, e' :: l' => entrySameB e e' && entriesB l l'
  | _, _ => false
theorem entriesB_step {l l' : List En} {j : Nat} {e e' : En} (h : l[j]? = some e) (h' : l'[j]? = some e') : entriesB (l.drop j) (l'.drop j) = (entrySameB e e' && entriesB (l.drop (j + 1)) (l'.drop (j + 1))) := by
  obtain ⟨h1, e1⟩ := List.getElem?_eq_some_iff.1 h
  obtain ⟨h2, e2⟩ := List.getElem?_eq_some_iff.1 h'
  rw [List.drop_eq_getElem_cons h1, List.drop_eq_getElem_cons h2, e1, e2]
  rfl
def seSameB (s s' : Se) : Bool := decide (s.client = s'.client) && decide (s.seq = s'.seq) && decide (s.rev = s'.rev)
def seensB : List Se → List Se → Bool
  | [], [] => true
  | e :: l, e' :: l' => seSameB e e' && seensB l l'
  | _, _ => false
theorem seensB_step {l l' : List Se} {j : Nat} {e e' : Se} (h : l[j]? = some e) (h' : l'[j]? = some e') : seensB (l.drop j) (l'.drop j) = (seSameB e e' && seensB (l.drop (j + 1)) (l'.drop (j + 1))) := by
  obtain ⟨h1, e1⟩ := List.getElem?_eq_some_iff.1 h
  obtain ⟨h2, e2⟩ := List.getElem?_eq_some_iff.1 h'
  rw [List.drop_eq_getElem_cons h1, List.drop_eq_getElem_cons h2, e1, e2]
  rfl
/-- two documents are the same -/
def docSameB (x y : Do) : Bool := (x.name.toList == y.name.toList) && decide (x.from_ = y.from_) && sameB x.text y.text && decide (x.list.length = y.list.length) && decide (x.seen.length = y.seen.length) && entriesB x.list y.list && seensB x.seen y.seen
set_option maxRecDepth 100000 in
set_option maxHeartbeats 3200000 in
theorem specDocSame_d (v v' : Value) (x y : Do) (w : World) (h : RdC w w.heap.size (datDo x) v) (h' : RdC w w.heap.size (datDo y) v') (hs : SmDo x) (hs' : SmDo y) : Calls Try.prog 12 #[v, v'] w (Tells (docSameB x y) w) := by
  obtain ⟨A2, c2, A3, c3, A4, c4, rfl, r2, r3, r4⟩ := aggDo h
  obtain ⟨B2, d2, B3, d3, B4, d4, rfl, s2, s3, s4⟩ := aggDo h'
  obtain ⟨g1, g2, b0⟩ := two_boxes w #[.string x.name, .int .i64 x.from_, .slice A2 x.text.length c2, .slice A3 x.list.length c3, .slice A4 x.seen.length c4] #[.string y.name, .int .i64 y.from_, .slice B2 y.text.length d2, .slice B3 y.list.length d3, .slice B4 y.seen.length d4] 35
  have bx : Bx ((w.alloc (.cells #[.string x.name, .int .i64 x.from_, .slice A2 x.text.length c2, .slice A3 x.list.length c3, .slice A4 x.seen.length c4] 35)).alloc (.cells #[.string y.name, .int .i64 y.from_, .slice B2 y.text.length d2, .slice B3 y.list.length d3, .slice B4 y.seen.length d4] 35)) w.heap.size #[.string x.name, .int .i64 x.from_, .slice A2 x.text.length c2, .slice A3 x.list.length c3, .slice A4 x.seen.length c4] 35 := g1
  have by_ : Bx ((w.alloc (.cells #[.string x.name, .int .i64 x.from_, .slice A2 x.text.length c2, .slice A3 x.list.length c3, .slice A4 x.seen.length c4] 35)).alloc (.cells #[.string y.name, .int .i64 y.from_, .slice B2 y.text.length d2, .slice B3 y.list.length d3, .slice B4 y.seen.length d4] 35)) (w.heap.size + 1) #[.string y.name, .int .i64 y.from_, .slice B2 y.text.length d2, .slice B3 y.list.length d3, .slice B4 y.seen.length d4] 35 := g2
  clear g1 g2
  have HD := Lib.hid (show docSameB x y = ((x.name.toList == y.name.toList) && decide (x.from_ = y.from_) && sameB x.text y.text && decide (x.list.length = y.list.length) && decide (x.seen.length = y.seen.length) && entriesB x.list y.list && seensB x.seen y.seen) from rfl)
  have hl3 := hs.list.len
  have hl4 := hs.seen.len
  have hm3 := hs'.list.len
  have hm4 := hs'.seen.len
  have ht1 : x.text.length ≤ 1048576 := hs.text
  have ht2 : y.text.length ≤ 1048576 := hs'.text
  cases hn : (x.name.toList == y.name.toList)
  · go_enter Try.func12, Try.ntmps12
    go_wp2
    go_ret
    exact ⟨ret_b (by rw [HD.out, hn]; rfl), b0⟩
  by_cases hf : x.from_ = y.from_
  case neg =>
    have gf : (x.from_ != y.from_) = true := by simp [hf]
    have HF := Lib.hid hf
    clear hf
    go_enter Try.func12, Try.ntmps12
    go_wp2
    go_ret
    exact ⟨ret_b (by rw [HD.out, hn, decide_eq_false HF.out]; rfl), b0⟩
  have gf : (x.from_ != y.from_) = false := by simp [hf]
  have HF := Lib.hid hf
  clear hf
  obtain ⟨_, _, e2, hr2, _⟩ := ints_rd (r2.past b0)
  injection e2 with e2 _ e3
  subst e2 e3
  obtain ⟨_, _, e2, hq2, _⟩ := ints_rd (s2.past b0)
  injection e2 with e2 _ e3
  subst e2 e3
  go_enter Try.func12, Try.ntmps12
  go_wp2_with fail
  generalize ((w.alloc (.cells #[.string x.name, .int .i64 x.from_, .slice A2 x.text.length c2, .slice A3 x.list.length c3, .slice A4 x.seen.length c4] 35)).alloc (.cells #[.string y.name, .int .i64 y.from_, .slice B2 y.text.length d2, .slice B3 y.list.length d3, .slice B4 y.seen.length d4] 35)) = W0 at b0 bx by_ hr2 hq2 ⊢
  refine (specSignsSame_any A2 B2 c2 d2 x.text y.text _ hr2 hq2 (by omega) (by omega)).mono ?_
  intro e w1 hsay
  obtain ⟨rfl, k1⟩ := says_tells hsay
  clear hsay hr2 hq2
  have bx := bx.past k1
  have by_ := by_.past k1
  have d1 := b0.trans (k1.mono b0.size)
  clear k1 b0
  cases ht : sameB x.text y.text
  · go_wp2
    go_ret
    exact ⟨ret_b (by rw [HD.out, hn, decide_eq_true HF.out, ht]; rfl), d1⟩
  have y3 : w1.cell? ⟨w.heap.size, 3, none⟩ = some (.slice A3 x.list.length c3) := bx.cell rfl
  have z3 : w1.cell? ⟨w.heap.size + 1, 3, none⟩ = some (.slice B3 y.list.length d3) := by_.cell rfl
  have y4 : w1.cell? ⟨w.heap.size, 4, none⟩ = some (.slice A4 x.seen.length c4) := bx.cell rfl
  have z4 : w1.cell? ⟨w.heap.size + 1, 4, none⟩ = some (.slice B4 y.seen.length d4) := by_.cell rfl
  by_cases h3 : x.list.length = y.list.length
  case neg =>
    have g3 : ((x.list.length : Int) != (y.list.length : Int)) = true := by simp; omega
    have H3 := Lib.hid h3
    clear h3
    go_wp2
    go_ret
    exact ⟨ret_b (by rw [HD.out, hn, decide_eq_true HF.out, ht, decide_eq_false H3.out]; rfl), d1⟩
  have g3 : ((x.list.length : Int) != (y.list.length : Int)) = false := by simp; omega
  by_cases h4 : x.seen.length = y.seen.length
  case neg =>
    have g4 : ((x.seen.length : Int) != (y.seen.length : Int)) = true := by simp; omega
    have H3 := Lib.hid h3
    have H4 := Lib.hid h4
    clear h4 h3
    go_wp2
    go_ret
    exact ⟨ret_b (by rw [HD.out, hn, decide_eq_true HF.out, ht, decide_eq_true H3.out, decide_eq_false H4.out]; rfl), d1⟩
  have g4 : ((x.seen.length : Int) != (y.seen.length : Int)) = false := by simp; omega
  have HD2 := Lib.hid (show docSameB x y = (entriesB x.list y.list && seensB x.seen y.seen) by rw [HD.out, hn, decide_eq_true HF.out, ht, decide_eq_true h3, decide_eq_true h4]; rfl)
  have H3 := Lib.hid h3
  have H4 := Lib.hid h4
  have BX := Lib.hid bx
  have BY := Lib.hid by_
  clear h3 h4 bx by_ HD hn ht HF gf
  go_wp2
  go_loopw [50] (fun i wr => ∃ j : Nat, j ≤ x.list.length ∧ i = .int .i64 (j : Int) ∧ docSameB x y = (entriesB (x.list.drop j) (y.list.drop j) && seensB x.seen y.seen) ∧ Bx wr w.heap.size #[.string x.name, .int .i64 x.from_, .slice A2 x.text.length c2, .slice A3 x.list.length c3, .slice A4 x.seen.length c4] 35 ∧ Bx wr (w.heap.size + 1) #[.string y.name, .int .i64 y.from_, .slice B2 y.text.length d2, .slice B3 y.list.length d3, .slice B4 y.seen.length d4] 35 ∧ Below w.heap.size w wr) (fun i _ => x.list.length - (intOf i).toNat)
  case atStart => exact ⟨0, Nat.zero_le _, rfl, by simpa using HD2.out, BX.out, BY.out, d1⟩
  case round =>
    obtain ⟨j, hj, rfl, hdc, hbx, hby, hbel⟩ := hrel
    clear BX BY d1 y3 z3 y4 z4 g3 g4
    have HDC := Lib.hid hdc
    have HBX := Lib.hid hbx
    have HBY := Lib.hid hby
    clear hdc hbx hby
    by_cases hlt : j < x.list.length
    · obtain ⟨b, off, e, A5, c5, rfl, hbb, hp, x0, x1, x2, q2⟩ := atEns (r3.below hbel) hlt
      obtain ⟨b', off', e', B5, d5, rfl, hbb', hp', x0', x1', x2', p2⟩ := atEns (s3.below hbel) (i := j) (by rw [← H3.out]; exact hlt)
      have HS := Lib.hid (entriesB_step hp hp')
      have hse := hs.list.at_ (List.mem_of_getElem? hp)
      have hse' := hs'.list.at_ (List.mem_of_getElem? hp')
      have hj2 : j < y.list.length := by rw [← H3.out]; exact hlt
      clear hp hp'
      have bA := alloc_below wr (.cells #[.int .i64 e.client, .int .i64 e.seq, .slice A5 e.o.length c5] 57)
      have bxE := Bx.new wr #[.int .i64 e.client, .int .i64 e.seq, .slice A5 e.o.length c5] 57
      have bY := HBY.out.past bA
      have q2 := RdC.more hbel.size _ _ q2
      have p2 := RdC.more hbel.size _ _ p2
      have hbq : b' < wr.heap.size := Nat.lt_of_lt_of_le hbb' hbel.size
      go_wp2
      generalize wr.alloc (.cells #[.int .i64 e.client, .int .i64 e.seq, .slice A5 e.o.length c5] 57) = W1 at bA bxE bY ⊢
      have w0 : W1.cell? ⟨wr.heap.size, 0, none⟩ = some (.int .i64 e.client) := bxE.cell rfl
      have w1 : W1.cell? ⟨wr.heap.size, 1, none⟩ = some (.int .i64 e.seq) := bxE.cell rfl
      have w2 : W1.cell? ⟨wr.heap.size, 2, none⟩ = some (.slice A5 e.o.length c5) := bxE.cell rfl
      have w3 : W1.cell? ⟨w.heap.size + 1, 3, none⟩ = some (.slice (some ⟨b', off', none⟩) y.list.length d3) := bY.cell rfl
      have w4 : W1.cell? ⟨b', off' + j * 3, none⟩ = some (.int .i64 e'.client) := (bA.cell (p := ⟨b', off' + j * 3, none⟩) hbq).trans x0'
      have w5 : W1.cell? ⟨b', off' + j * 3 + 1, none⟩ = some (.int .i64 e'.seq) := (bA.cell (p := ⟨b', off' + j * 3 + 1, none⟩) hbq).trans x1'
      have w6 : W1.cell? ⟨b', off' + j * 3 + 2, none⟩ = some (.slice B5 e'.o.length d5) := (bA.cell (p := ⟨b', off' + j * 3 + 2, none⟩) hbq).trans x2'
      have lE := bxE.lt
      have lY := bY.lt
      have lQ : b' < W1.heap.size := Nat.lt_of_lt_of_le hbq bA.size
      have SX := Lib.hid (show ∀ (W W' : World), (W.cell? ⟨wr.heap.size, 0, none⟩ = some (.int .i64 e.client) ∧ W.cell? ⟨wr.heap.size, 1, none⟩ = some (.int .i64 e.seq) ∧ W.cell? ⟨wr.heap.size, 2, none⟩ = some (.slice A5 e.o.length c5) ∧ W.cell? ⟨w.heap.size + 1, 3, none⟩ = some (.slice (some ⟨b', off', none⟩) y.list.length d3) ∧ W.cell? ⟨b', off' + j * 3, none⟩ = some (.int .i64 e'.client) ∧ W.cell? ⟨b', off' + j * 3 + 1, none⟩ = some (.int .i64 e'.seq) ∧ W.cell? ⟨b', off' + j * 3 + 2, none⟩ = some (.slice B5 e'.o.length d5) ∧ KS W1 W) → Below W.heap.size W W' → (W'.cell? ⟨wr.heap.size, 0, none⟩ = some (.int .i64 e.client) ∧ W'.cell? ⟨wr.heap.size, 1, none⟩ = some (.int .i64 e.seq) ∧ W'.cell? ⟨wr.heap.size, 2, none⟩ = some (.slice A5 e.o.length c5) ∧ W'.cell? ⟨w.heap.size + 1, 3, none⟩ = some (.slice (some ⟨b', off', none⟩) y.list.length d3) ∧ W'.cell? ⟨b', off' + j * 3, none⟩ = some (.int .i64 e'.client) ∧ W'.cell? ⟨b', off' + j * 3 + 1, none⟩ = some (.int .i64 e'.seq) ∧ W'.cell? ⟨b', off' + j * 3 + 2, none⟩ = some (.slice B5 e'.o.length d5) ∧ KS W1 W') from fun W W' h hb => by have hk := h.2.2.2.2.2.2.2; have hkk : KS W1 W' := hk.trans (hb.mono hk.size); exact ⟨(hkk.cell (p := ⟨wr.heap.size, 0, none⟩) lE).trans w0, (hkk.cell (p := ⟨wr.heap.size, 1, none⟩) lE).trans w1, (hkk.cell (p := ⟨wr.heap.size, 2, none⟩) lE).trans w2, (hkk.cell (p := ⟨w.heap.size + 1, 3, none⟩) lY).trans w3, (hkk.cell (p := ⟨b', off' + j * 3, none⟩) lQ).trans w4, (hkk.cell (p := ⟨b', off' + j * 3 + 1, none⟩) lQ).trans w5, (hkk.cell (p := ⟨b', off' + j * 3 + 2, none⟩) lQ).trans w6, hkk⟩)
      have hS0 : W1.drew.cell? ⟨wr.heap.size, 0, none⟩ = some (.int .i64 e.client) ∧ W1.drew.cell? ⟨wr.heap.size, 1, none⟩ = some (.int .i64 e.seq) ∧ W1.drew.cell? ⟨wr.heap.size, 2, none⟩ = some (.slice A5 e.o.length c5) ∧ W1.drew.cell? ⟨w.heap.size + 1, 3, none⟩ = some (.slice (some ⟨b', off', none⟩) y.list.length d3) ∧ W1.drew.cell? ⟨b', off' + j * 3, none⟩ = some (.int .i64 e'.client) ∧ W1.drew.cell? ⟨b', off' + j * 3 + 1, none⟩ = some (.int .i64 e'.seq) ∧ W1.drew.cell? ⟨b', off' + j * 3 + 2, none⟩ = some (.slice B5 e'.o.length d5) ∧ KS W1 W1.drew := ⟨w0, w1, w2, w3, w4, w5, w6, KS.start _⟩
      clear w0 w1 w2 w3 w4 w5 w6
      have R1 := Lib.hid (show ∀ W : World, (W.cell? ⟨wr.heap.size, 0, none⟩ = some (.int .i64 e.client) ∧ W.cell? ⟨wr.heap.size, 1, none⟩ = some (.int .i64 e.seq) ∧ W.cell? ⟨wr.heap.size, 2, none⟩ = some (.slice A5 e.o.length c5) ∧ W.cell? ⟨w.heap.size + 1, 3, none⟩ = some (.slice (some ⟨b', off', none⟩) y.list.length d3) ∧ W.cell? ⟨b', off' + j * 3, none⟩ = some (.int .i64 e'.client) ∧ W.cell? ⟨b', off' + j * 3 + 1, none⟩ = some (.int .i64 e'.seq) ∧ W.cell? ⟨b', off' + j * 3 + 2, none⟩ = some (.slice B5 e'.o.length d5) ∧ KS W1 W) → RdC W W.heap.size (datEn e) (.agg #[.int .i64 e.client, .int .i64 e.seq, .slice A5 e.o.length c5]) from fun W h => by have hk : Below W1.heap.size W1 W := h.2.2.2.2.2.2.2; exact rdEn e ((q2.past bA).past hk))
      have R2 := Lib.hid (show ∀ W : World, (W.cell? ⟨wr.heap.size, 0, none⟩ = some (.int .i64 e.client) ∧ W.cell? ⟨wr.heap.size, 1, none⟩ = some (.int .i64 e.seq) ∧ W.cell? ⟨wr.heap.size, 2, none⟩ = some (.slice A5 e.o.length c5) ∧ W.cell? ⟨w.heap.size + 1, 3, none⟩ = some (.slice (some ⟨b', off', none⟩) y.list.length d3) ∧ W.cell? ⟨b', off' + j * 3, none⟩ = some (.int .i64 e'.client) ∧ W.cell? ⟨b', off' + j * 3 + 1, none⟩ = some (.int .i64 e'.seq) ∧ W.cell? ⟨b', off' + j * 3 + 2, none⟩ = some (.slice B5 e'.o.length d5) ∧ KS W1 W) → RdC W W.heap.size (datEn e') (.agg #[.int .i64 e'.client, .int .i64 e'.seq, .slice B5 e'.o.length d5]) from fun W h => by have hk : Below W1.heap.size W1 W := h.2.2.2.2.2.2.2; exact rdEn e' ((p2.past bA).past hk))
      go_region_held3 (fun W => W.cell? ⟨wr.heap.size, 0, none⟩ = some (.int .i64 e.client) ∧ W.cell? ⟨wr.heap.size, 1, none⟩ = some (.int .i64 e.seq) ∧ W.cell? ⟨wr.heap.size, 2, none⟩ = some (.slice A5 e.o.length c5) ∧ W.cell? ⟨w.heap.size + 1, 3, none⟩ = some (.slice (some ⟨b', off', none⟩) y.list.length d3) ∧ W.cell? ⟨b', off' + j * 3, none⟩ = some (.int .i64 e'.client) ∧ W.cell? ⟨b', off' + j * 3 + 1, none⟩ = some (.int .i64 e'.seq) ∧ W.cell? ⟨b', off' + j * 3 + 2, none⟩ = some (.slice B5 e'.o.length d5) ∧ KS W1 W)
        (first | assumption | exact hS0 | (exact SX.out _ _ (by assumption) b2))
        (first | (go_at_call 27; refine (specEntrySame_d _ _ e e' _ (by exact R1.out _ (by assumption)) (by exact R2.out _ (by assumption)) hse hse').mono ?_; rintro e_ w2 ⟨rfl, b2⟩))
      rename_i hS2
      have HK := Lib.hid (bA.trans (hS2.2.2.2.2.2.2.2.mono bA.size))
      clear hS2 hS0 SX R1 R2
      cases hee : entrySameB e e'
      · go_wp2
        go_ret
        exact ⟨ret_b (by rw [HDC.out, HS.out, hee]; rfl), hbel.trans (HK.out.mono hbel.size)⟩
      · have HN := Lib.hid (show docSameB x y = (entriesB (x.list.drop (j + 1)) (y.list.drop (j + 1)) && seensB x.seen y.seen) by rw [HDC.out, HS.out, hee]; rfl)
        go_wp2
        go_roundw
        case rel => exact ⟨j + 1, by omega, by go_num, HN.out, HBX.out.past HK.out, HBY.out.past HK.out, hbel.trans (HK.out.mono hbel.size)⟩
        case measure => simp [intOf]; omega
    · have HD3 := Lib.hid (show docSameB x y = seensB x.seen y.seen by rw [HDC.out, List.drop_eq_nil_of_le (by omega), List.drop_eq_nil_of_le (by rw [← H3.out]; omega)]; rfl)
      have y4 : wr.cell? ⟨w.heap.size, 4, none⟩ = some (.slice A4 x.seen.length c4) := HBX.out.cell rfl
      have HBE := Lib.hid hbel
      go_wp2
      go_loopw [67] (fun i wr => ∃ j : Nat, j ≤ x.seen.length ∧ i = .int .i64 (j : Int) ∧ docSameB x y = seensB (x.seen.drop j) (y.seen.drop j) ∧ Bx wr (w.heap.size + 1) #[.string y.name, .int .i64 y.from_, .slice B2 y.text.length d2, .slice B3 y.list.length d3, .slice B4 y.seen.length d4] 35 ∧ Below w.heap.size w wr) (fun i _ => x.seen.length - (intOf i).toNat)
      case atStart => exact ⟨0, Nat.zero_le _, rfl, by simpa using HD3.out, HBY.out, HBE.out⟩
      case round =>
        obtain ⟨j, hj, rfl, hdc, hby, hbel⟩ := hrel
        clear HBX HBY HBE HD3 y4
        have HDC := Lib.hid hdc
        have HBY := Lib.hid hby
        clear hdc hby
        by_cases hlt : j < x.seen.length
        · obtain ⟨b, off, s, rfl, hbb, hp, x0, x1, x2⟩ := atSes (r4.below hbel) hlt
          obtain ⟨b', off', s', rfl, hbb', hp', x0', x1', x2'⟩ := atSes (s4.below hbel) (i := j) (by rw [← H4.out]; exact hlt)
          have HS := Lib.hid (seensB_step hp hp')
          have hj2 : j < y.seen.length := by rw [← H4.out]; exact hlt
          clear hp hp'
          have bA := alloc_below wr (.cells #[.int .i64 s.client, .int .i64 s.seq, .int .i64 s.rev] 29)
          have bxE := Bx.new wr #[.int .i64 s.client, .int .i64 s.seq, .int .i64 s.rev] 29
          have bY := HBY.out.past bA
          have hbq : b' < wr.heap.size := Nat.lt_of_lt_of_le hbb' hbel.size
          go_wp2
          generalize wr.alloc (.cells #[.int .i64 s.client, .int .i64 s.seq, .int .i64 s.rev] 29) = W1 at bA bxE bY ⊢
          have w0 : W1.cell? ⟨wr.heap.size, 0, none⟩ = some (.int .i64 s.client) := bxE.cell rfl
          have w1 : W1.cell? ⟨wr.heap.size, 1, none⟩ = some (.int .i64 s.seq) := bxE.cell rfl
          have w2 : W1.cell? ⟨wr.heap.size, 2, none⟩ = some (.int .i64 s.rev) := bxE.cell rfl
          have w3 : W1.cell? ⟨w.heap.size + 1, 4, none⟩ = some (.slice (some ⟨b', off', none⟩) y.seen.length d4) := bY.cell rfl
          have w4 : W1.cell? ⟨b', off' + j * 3, none⟩ = some (.int .i64 s'.client) := (bA.cell (p := ⟨b', off' + j * 3, none⟩) hbq).trans x0'
          have w5 : W1.cell? ⟨b', off' + j * 3 + 1, none⟩ = some (.int .i64 s'.seq) := (bA.cell (p := ⟨b', off' + j * 3 + 1, none⟩) hbq).trans x1'
          have w6 : W1.cell? ⟨b', off' + j * 3 + 2, none⟩ = some (.int .i64 s'.rev) := (bA.cell (p := ⟨b', off' + j * 3 + 2, none⟩) hbq).trans x2'
          have lE := bxE.lt
          have lY := bY.lt
          have lQ : b' < W1.heap.size := Nat.lt_of_lt_of_le hbq bA.size
          have SX := Lib.hid (show ∀ (W W' : World), (W.cell? ⟨wr.heap.size, 0, none⟩ = some (.int .i64 s.client) ∧ W.cell? ⟨wr.heap.size, 1, none⟩ = some (.int .i64 s.seq) ∧ W.cell? ⟨wr.heap.size, 2, none⟩ = some (.int .i64 s.rev) ∧ W.cell? ⟨w.heap.size + 1, 4, none⟩ = some (.slice (some ⟨b', off', none⟩) y.seen.length d4) ∧ W.cell? ⟨b', off' + j * 3, none⟩ = some (.int .i64 s'.client) ∧ W.cell? ⟨b', off' + j * 3 + 1, none⟩ = some (.int .i64 s'.seq) ∧ W.cell? ⟨b', off' + j * 3 + 2, none⟩ = some (.int .i64 s'.rev) ∧ KS W1 W) → Below W.heap.size W W' → (W'.cell? ⟨wr.heap.size, 0, none⟩ = some (.int .i64 s.client) ∧ W'.cell? ⟨wr.heap.size, 1, none⟩ = some (.int .i64 s.seq) ∧ W'.cell? ⟨wr.heap.size, 2, none⟩ = some (.int .i64 s.rev) ∧ W'.cell? ⟨w.heap.size + 1, 4, none⟩ = some (.slice (some ⟨b', off', none⟩) y.seen.length d4) ∧ W'.cell? ⟨b', off' + j * 3, none⟩ = some (.int .i64 s'.client) ∧ W'.cell? ⟨b', off' + j * 3 + 1, none⟩ = some (.int .i64 s'.seq) ∧ W'.cell? ⟨b', off' + j * 3 + 2, none⟩ = some (.int .i64 s'.rev) ∧ KS W1 W') from fun W W' h hb => by have hk := h.2.2.2.2.2.2.2; have hkk : KS W1 W' := hk.trans (hb.mono hk.size); exact ⟨(hkk.cell (p := ⟨wr.heap.size, 0, none⟩) lE).trans w0, (hkk.cell (p := ⟨wr.heap.size, 1, none⟩) lE).trans w1, (hkk.cell (p := ⟨wr.heap.size, 2, none⟩) lE).trans w2, (hkk.cell (p := ⟨w.heap.size + 1, 4, none⟩) lY).trans w3, (hkk.cell (p := ⟨b', off' + j * 3, none⟩) lQ).trans w4, (hkk.cell (p := ⟨b', off' + j * 3 + 1, none⟩) lQ).trans w5, (hkk.cell (p := ⟨b', off' + j * 3 + 2, none⟩) lQ).trans w6, hkk⟩)
          have hS0 : W1.drew.cell? ⟨wr.heap.size, 0, none⟩ = some (.int .i64 s.client) ∧ W1.drew.cell? ⟨wr.heap.size, 1, none⟩ = some (.int .i64 s.seq) ∧ W1.drew.cell? ⟨wr.heap.size, 2, none⟩ = some (.int .i64 s.rev) ∧ W1.drew.cell? ⟨w.heap.size + 1, 4, none⟩ = some (.slice (some ⟨b', off', none⟩) y.seen.length d4) ∧ W1.drew.cell? ⟨b', off' + j * 3, none⟩ = some (.int .i64 s'.client) ∧ W1.drew.cell? ⟨b', off' + j * 3 + 1, none⟩ = some (.int .i64 s'.seq) ∧ W1.drew.cell? ⟨b', off' + j * 3 + 2, none⟩ = some (.int .i64 s'.rev) ∧ KS W1 W1.drew := ⟨w0, w1, w2, w3, w4, w5, w6, KS.start _⟩
          clear w0 w1 w2 w3 w4 w5 w6
          by_cases h_client : s.client = s'.client
          case neg =>
            have c_client : (s.client == s'.client) = false := by simp [h_client]
            have H_client := Lib.hid h_client
            clear h_client
            go_region_held3 (fun W => W.cell? ⟨wr.heap.size, 0, none⟩ = some (.int .i64 s.client) ∧ W.cell? ⟨wr.heap.size, 1, none⟩ = some (.int .i64 s.seq) ∧ W.cell? ⟨wr.heap.size, 2, none⟩ = some (.int .i64 s.rev) ∧ W.cell? ⟨w.heap.size + 1, 4, none⟩ = some (.slice (some ⟨b', off', none⟩) y.seen.length d4) ∧ W.cell? ⟨b', off' + j * 3, none⟩ = some (.int .i64 s'.client) ∧ W.cell? ⟨b', off' + j * 3 + 1, none⟩ = some (.int .i64 s'.seq) ∧ W.cell? ⟨b', off' + j * 3 + 2, none⟩ = some (.int .i64 s'.rev) ∧ KS W1 W)
              (first | assumption | exact hS0)
              (fail)
            rename_i hS2
            have HK := Lib.hid (bA.trans (hS2.2.2.2.2.2.2.2.mono bA.size))
            clear hS2 hS0 SX
            go_wp2
            go_ret
            exact ⟨ret_b (by rw [HDC.out, HS.out]; unfold seSameB; rw [decide_eq_false H_client.out]; rfl), hbel.trans (HK.out.mono hbel.size)⟩
          by_cases h_seq : s.seq = s'.seq
          case neg =>
            have c_client : (s.client == s'.client) = true := by simp [h_client]
            have H_client := Lib.hid h_client
            clear h_client
            have c_seq : (s.seq == s'.seq) = false := by simp [h_seq]
            have H_seq := Lib.hid h_seq
            clear h_seq
            go_region_held3 (fun W => W.cell? ⟨wr.heap.size, 0, none⟩ = some (.int .i64 s.client) ∧ W.cell? ⟨wr.heap.size, 1, none⟩ = some (.int .i64 s.seq) ∧ W.cell? ⟨wr.heap.size, 2, none⟩ = some (.int .i64 s.rev) ∧ W.cell? ⟨w.heap.size + 1, 4, none⟩ = some (.slice (some ⟨b', off', none⟩) y.seen.length d4) ∧ W.cell? ⟨b', off' + j * 3, none⟩ = some (.int .i64 s'.client) ∧ W.cell? ⟨b', off' + j * 3 + 1, none⟩ = some (.int .i64 s'.seq) ∧ W.cell? ⟨b', off' + j * 3 + 2, none⟩ = some (.int .i64 s'.rev) ∧ KS W1 W)
              (first | assumption | exact hS0)
              (fail)
            rename_i hS2
            have HK := Lib.hid (bA.trans (hS2.2.2.2.2.2.2.2.mono bA.size))
            clear hS2 hS0 SX
            go_wp2
            go_ret
            exact ⟨ret_b (by rw [HDC.out, HS.out]; unfold seSameB; rw [decide_eq_true H_client.out, decide_eq_false H_seq.out]; rfl), hbel.trans (HK.out.mono hbel.size)⟩
          by_cases h_rev : s.rev = s'.rev
          case neg =>
            have c_client : (s.client == s'.client) = true := by simp [h_client]
            have H_client := Lib.hid h_client
            clear h_client
            have c_seq : (s.seq == s'.seq) = true := by simp [h_seq]
            have H_seq := Lib.hid h_seq
            clear h_seq
            have c_rev : (s.rev == s'.rev) = false := by simp [h_rev]
            have H_rev := Lib.hid h_rev
            clear h_rev
            go_region_held3 (fun W => W.cell? ⟨wr.heap.size, 0, none⟩ = some (.int .i64 s.client) ∧ W.cell? ⟨wr.heap.size, 1, none⟩ = some (.int .i64 s.seq) ∧ W.cell? ⟨wr.heap.size, 2, none⟩ = some (.int .i64 s.rev) ∧ W.cell? ⟨w.heap.size + 1, 4, none⟩ = some (.slice (some ⟨b', off', none⟩) y.seen.length d4) ∧ W.cell? ⟨b', off' + j * 3, none⟩ = some (.int .i64 s'.client) ∧ W.cell? ⟨b', off' + j * 3 + 1, none⟩ = some (.int .i64 s'.seq) ∧ W.cell? ⟨b', off' + j * 3 + 2, none⟩ = some (.int .i64 s'.rev) ∧ KS W1 W)
              (first | assumption | exact hS0)
              (fail)
            rename_i hS2
            have HK := Lib.hid (bA.trans (hS2.2.2.2.2.2.2.2.mono bA.size))
            clear hS2 hS0 SX
            go_wp2
            go_ret
            exact ⟨ret_b (by rw [HDC.out, HS.out]; unfold seSameB; rw [decide_eq_true H_client.out, decide_eq_true H_seq.out, decide_eq_false H_rev.out]; rfl), hbel.trans (HK.out.mono hbel.size)⟩
          have c_client : (s.client == s'.client) = true := by simp [h_client]
          have H_client := Lib.hid h_client
          clear h_client
          have c_seq : (s.seq == s'.seq) = true := by simp [h_seq]
          have H_seq := Lib.hid h_seq
          clear h_seq
          have c_rev : (s.rev == s'.rev) = true := by simp [h_rev]
          have H_rev := Lib.hid h_rev
          clear h_rev
          go_region_held3 (fun W => W.cell? ⟨wr.heap.size, 0, none⟩ = some (.int .i64 s.client) ∧ W.cell? ⟨wr.heap.size, 1, none⟩ = some (.int .i64 s.seq) ∧ W.cell? ⟨wr.heap.size, 2, none⟩ = some (.int .i64 s.rev) ∧ W.cell? ⟨w.heap.size + 1, 4, none⟩ = some (.slice (some ⟨b', off', none⟩) y.seen.length d4) ∧ W.cell? ⟨b', off' + j * 3, none⟩ = some (.int .i64 s'.client) ∧ W.cell? ⟨b', off' + j * 3 + 1, none⟩ = some (.int .i64 s'.seq) ∧ W.cell? ⟨b', off' + j * 3 + 2, none⟩ = some (.int .i64 s'.rev) ∧ KS W1 W)
            (first | assumption | exact hS0)
            (fail)
          rename_i hS2
          have HK := Lib.hid (bA.trans (hS2.2.2.2.2.2.2.2.mono bA.size))
          clear hS2 hS0 SX
          have HN := Lib.hid (show docSameB x y = seensB (x.seen.drop (j + 1)) (y.seen.drop (j + 1)) by rw [HDC.out, HS.out]; unfold seSameB; rw [decide_eq_true H_client.out, decide_eq_true H_seq.out, decide_eq_true H_rev.out]; rfl)
          go_wp2
          go_roundw
          case rel => exact ⟨j + 1, by omega, by go_num, HN.out, HBY.out.past HK.out, hbel.trans (HK.out.mono hbel.size)⟩
          case measure => simp [intOf]; omega
        · have HE := Lib.hid (show docSameB x y = true by rw [HDC.out, List.drop_eq_nil_of_le (by omega), List.drop_eq_nil_of_le (by rw [← H4.out]; omega)]; rfl)
          go_wp2
          go_ret
          exact ⟨ret_b HE.out.symm, hbel⟩
end Go.Proofs.Ytgfbcpcfdlnbhab.low


/-
  The normal form is a function of what the units do to a text of marks; hence composition is associative up to the normal form, and so on.
-/
namespace Go.Proofs.Ytgfbcpcfdlnbhab.low
open Go.RowKit
set_option linter.unusedVariables false

end Go.Proofs.Ytgfbcpcfdlnbhab.low


/-
  Composition and transformation, several units at once.
-/
namespace Go.Proofs.Ytgfbcpcfdlnbhab.low
open Go.RowKit
set_option linter.unusedVariables false

/-- the list does not begin with a deletion, with an insertion -/
def noD : List U → Prop
  | .d :: _ => False
  | _ => True
def noP : List U → Prop
  | .p _ :: _ => False
  | _ => True
theorem comp_ds : ∀ (n : Nat) (a b : List U), comp (List.replicate n .d ++ a) b = List.replicate n .d ++ comp a b
  | 0, a, b => rfl
  | n + 1, a, b => by rw [List.replicate_succ, List.cons_append, comp, comp_ds n a b]; rfl
theorem comp_put1 (a b : List U) (x : Int) (h : noD a) : comp a (.p x :: b) = .p x :: comp a b := by
  cases a with
  | nil => rw [comp]
  | cons u a =>
    cases u with
    | k => rw [comp]
    | p y => rw [comp]
    | d => exact absurd h (by simp [noD])
theorem comp_puts : ∀ (zs : List Int) (a b : List U), noD a → comp a (zs.map .p ++ b) = zs.map .p ++ comp a b
  | [], a, b, _ => rfl
  | z :: zs, a, b, h => by rw [List.map_cons, List.cons_append, comp_put1 a _ z h, comp_puts zs a b h]; rfl
theorem comp_pk : ∀ (zs : List Int) (a b : List U), comp (zs.map .p ++ a) (List.replicate zs.length .k ++ b) = zs.map .p ++ comp a b
  | [], a, b => rfl
  | z :: zs, a, b => by rw [List.map_cons, List.length_cons, List.replicate_succ, List.cons_append, List.cons_append, comp, comp_pk zs a b]; rfl
theorem xf_puts : ∀ (zs : List Int) (a b : List U), xf (zs.map .p ++ a) b = (zs.map .p ++ (xf a b).1, List.replicate zs.length .k ++ (xf a b).2)
  | [], a, b => rfl
  | z :: zs, a, b => by rw [List.map_cons, List.cons_append, xf, xf_puts zs a b]; rfl
theorem xf_put1 (a b : List U) (x : Int) (h : noP a) : xf a (.p x :: b) = (.k :: (xf a b).1, .p x :: (xf a b).2) := by
  cases a with
  | nil => rw [xf]
  | cons u a =>
    cases u with
    | k => rw [xf]
    | p y => exact absurd h (by simp [noP])
    | d => rw [xf]
theorem xf_putsB : ∀ (zs : List Int) (a b : List U), noP a → xf a (zs.map .p ++ b) = (List.replicate zs.length .k ++ (xf a b).1, zs.map .p ++ (xf a b).2)
  | [], a, b, _ => rfl
  | z :: zs, a, b, h => by rw [List.map_cons, List.cons_append, xf_put1 a _ z h, xf_putsB zs a b h]; rfl
end Go.Proofs.Ytgfbcpcfdlnbhab.low


/-
  The specification's cursor: l04Left, l04Take, l04Min.
-/
namespace Go.Proofs.Ytgfbcpcfdlnbhab.low
open Go.RowKit
set_option linter.unusedVariables false

end Go.Proofs.Ytgfbcpcfdlnbhab.low


/-
  The specification's builder in one word each: keep, put, drop, done.
-/
namespace Go.Proofs.Ytgfbcpcfdlnbhab.low
open Go.RowKit
set_option linter.unusedVariables false

end Go.Proofs.Ytgfbcpcfdlnbhab.low


/-
  The inverse of an operation: the function on lists, and the contract of spec.Invert.
-/
namespace Go.Proofs.Ytgfbcpcfdlnbhab.low
open Go.RowKit
set_option linter.unusedVariables false

end Go.Proofs.Ytgfbcpcfdlnbhab.low


/-
  spec.Compose: the function on lists, and the contract.
-/
namespace Go.Proofs.Ytgfbcpcfdlnbhab.low
open Go.RowKit
set_option linter.unusedVariables false

def kindOf : List U → Int
  | [] => 0
  | .k :: _ => 1
  | .p _ :: _ => 2
  | .d :: _ => 3
end Go.Proofs.Ytgfbcpcfdlnbhab.low


/-
  Composition: the loop's invariant on units, how a round goes on, what a chunk of units is.
-/
namespace Go.Proofs.Ytgfbcpcfdlnbhab.low
open Go.RowKit
set_option linter.unusedVariables false

/-- the loop's invariant -/
structure CInv (a b : List Pt) (RX RY : List U) (L : List Pt) : Prop where
  eq : units L ++ comp RX RY = comp (units a) (units b)
  bal : tgt RX = src RY
  len : L.length + RX.length + RY.length ≤ 2000
theorem CInv.drop {a b : List Pt} {n : Nat} {RX RY : List U} {L : List Pt} (h : CInv a b (List.replicate n .d ++ RX) RY L) (hn : 0 < n) : CInv a b RX RY (L ++ [⟨3, (n : Int), []⟩]) := by
  refine ⟨?_, ?_, ?_⟩
  · rw [← h.eq, comp_ds, units_app]
    simp [units, unitsP]
  · have := h.bal; rwa [tgt_app, (src_rd n).2, Nat.zero_add] at this
  · have := h.len; simp at this ⊢; omega
theorem CInv.put {a b : List Pt} {zs : List Int} {RX RY : List U} {L : List Pt} (h : CInv a b RX (zs.map .p ++ RY) L) (hd : noD RX) (hn : 0 < zs.length) : CInv a b RX RY (L ++ [⟨2, 0, zs⟩]) := by
  refine ⟨?_, ?_, ?_⟩
  · rw [← h.eq, comp_puts zs _ _ hd, units_app]
    simp [units, unitsP]
  · have := h.bal; rwa [src_app, (src_mp zs).1, Nat.zero_add] at this
  · have := h.len; simp at this ⊢; omega
theorem CInv.pk {a b : List Pt} {zs : List Int} {RX RY : List U} {L : List Pt} (h : CInv a b (zs.map .p ++ RX) (List.replicate zs.length .k ++ RY) L) (hn : 0 < zs.length) : CInv a b RX RY (L ++ [⟨2, 0, zs⟩]) := by
  refine ⟨?_, ?_, ?_⟩
  · rw [← h.eq, comp_pk, units_app]
    simp [units, unitsP]
  · have := h.bal; rw [tgt_app, src_app, (src_mp zs).2, (src_rk zs.length).1] at this; omega
  · have := h.len; simp at this ⊢; omega
/-- m units of the part at which a cursor stands are left: the first m units of R are of one kind -/
def Lead (R : List U) (m : Nat) : Prop := (R = [] ∧ m = 0) ∨ (0 < m ∧ m ≤ 200 ∧ m ≤ R.length ∧ ((kindOf R = 1 ∧ R.take m = List.replicate m .k) ∨ (kindOf R = 3 ∧ R.take m = List.replicate m .d) ∨ (kindOf R = 2 ∧ ∃ zs : List Int, R.take m = zs.map .p)))
theorem take_rep {R : List U} {u : U} {m n : Nat} (h : R.take m = List.replicate m u) (hn : n ≤ m) : R = List.replicate n u ++ R.drop n := by
  have e : R.take n = List.replicate n u := by
    have := congrArg (List.take n) h
    rwa [List.take_take, Nat.min_eq_left hn, List.take_replicate, Nat.min_eq_left hn] at this
  rw [← e, List.take_append_drop]
theorem Lead.k {R : List U} {m n : Nat} (h : Lead R m) (hk : kindOf R = 1) (hn : n ≤ m) : R = List.replicate n .k ++ R.drop n := by
  rcases h with ⟨rfl, rfl⟩ | ⟨_, _, _, ⟨_, h⟩ | ⟨h, _⟩ | ⟨h, _⟩⟩
  · obtain rfl : n = 0 := by omega
    rfl
  · exact take_rep h hn
  · omega
  · omega
theorem Lead.d {R : List U} {m n : Nat} (h : Lead R m) (hk : kindOf R = 3) (hn : n ≤ m) : R = List.replicate n .d ++ R.drop n := by
  rcases h with ⟨rfl, rfl⟩ | ⟨_, _, _, ⟨h, _⟩ | ⟨_, h⟩ | ⟨h, _⟩⟩
  · obtain rfl : n = 0 := by omega
    rfl
  · omega
  · exact take_rep h hn
  · omega
theorem Lead.p {R : List U} {m n : Nat} (h : Lead R m) (hk : kindOf R = 2) (hn : n ≤ m) : ∃ zs : List Int, zs.length = n ∧ R = zs.map .p ++ R.drop n := by
  rcases h with ⟨rfl, rfl⟩ | ⟨_, _, hl, ⟨h, _⟩ | ⟨h, _⟩ | ⟨_, zs, h⟩⟩
  · obtain rfl : n = 0 := by omega
    exact ⟨[], rfl, rfl⟩
  · omega
  · omega
  · have e : R.take n = (zs.take n).map .p := by
      have := congrArg (List.take n) h
      rwa [List.take_take, Nat.min_eq_left hn, ← List.map_take] at this
    have l := congrArg List.length e
    rw [List.length_take, List.length_map] at l
    exact ⟨zs.take n, by omega, by rw [← e, List.take_append_drop]⟩
end Go.Proofs.Ytgfbcpcfdlnbhab.low


/-
  Two cursors of the specification over two operations (Cs), in the words of the units that are left: what each call makes of them.
-/
namespace Go.Proofs.Ytgfbcpcfdlnbhab.low
open Go.RowKit
set_option linter.unusedVariables false

/-- what stays: where the cursors lie, and the operations -/
structure Fx where
  lo : Nat
  gx : Nat
  gy : Nat
  TC : TypeId
  A : Option Addr
  ca : Nat
  a : List Pt
  B : Option Addr
  cb : Nat
  b : List Pt
def Fx.swap (K : Fx) : Fx := ⟨K.lo, K.gy, K.gx, K.TC, K.B, K.cb, K.b, K.A, K.ca, K.a⟩
/-- the cursor stands at a part of which m units are left, or at the end -/
def Sett (ps : List Pt) (at_ done : Nat) : Option Nat → Prop
  | none => True
  | some m => (at_ = ps.length ∧ m = 0) ∨ ∃ p, ps[at_]? = some p ∧ done < sizeP p ∧ m = sizeP p - done
structure Cs (K : Fx) (w : World) (sx sy : Option Nat) (RX RY : List U) : Prop where
  ex : ∃ i d, Cur K.gx K.TC w K.A K.ca K.a i d ∧ rem K.a i d = RX ∧ Sett K.a i d sx
  ey : ∃ i d, Cur K.gy K.TC w K.B K.cb K.b i d ∧ rem K.b i d = RY ∧ Sett K.b i d sy
  ra : RdC w K.lo (encPs K.a) (.slice K.A K.a.length K.ca)
  rb : RdC w K.lo (encPs K.b) (.slice K.B K.b.length K.cb)
  ne : ¬ K.gx = K.gy
  lx : K.lo ≤ K.gx
  ly : K.lo ≤ K.gy
  sa : ∀ p ∈ K.a, szP_ p
  sb : ∀ p ∈ K.b, szP_ p
  na : K.a.length ≤ 1048576
  nb : K.b.length ≤ 1048576
section
variable {K : Fx} {w w' : World} {sx sy : Option Nat} {RX RY : List U}
theorem Cs.swap (h : Cs K w sx sy RX RY) : Cs K.swap w sy sx RY RX := ⟨h.ey, h.ex, h.rb, h.ra, fun e => h.ne e.symm, h.ly, h.lx, h.sb, h.sa, h.nb, h.na⟩
theorem Cs.xlt (h : Cs K w sx sy RX RY) : K.gx < w.heap.size := by obtain ⟨_, _, hc, _⟩ := h.ex; exact hc.lt
theorem Cs.ylt (h : Cs K w sx sy RX RY) : K.gy < w.heap.size := by obtain ⟨_, _, hc, _⟩ := h.ey; exact hc.lt
theorem Cs.keep (h : Cs K w sx sy RX RY) (hx : w'.heap[K.gx]? = w.heap[K.gx]?) (hy : w'.heap[K.gy]? = w.heap[K.gy]?) (hb : Below K.lo w w') : Cs K w' sx sy RX RY := by
  obtain ⟨i, d, h1, h2, h3⟩ := h.ex
  obtain ⟨j, e, k1, k2, k3⟩ := h.ey
  exact ⟨⟨i, d, h1.keep hx, h2, h3⟩, ⟨j, e, k1.keep hy, k2, k3⟩, h.ra.below hb, h.rb.below hb, h.ne, h.lx, h.ly, h.sa, h.sb, h.na, h.nb⟩
theorem Cs.past (h : Cs K w sx sy RX RY) (hb : Below w.heap.size w w') : Cs K w' sx sy RX RY :=
  h.keep (hb.block _ h.xlt) (hb.block _ h.ylt) (hb.mono (Nat.le_trans h.lx (Nat.le_of_lt h.xlt)))
end
end Go.Proofs.Ytgfbcpcfdlnbhab.low


/-
  Two cursors and a builder (CB): what each call of the specification makes of them.
-/
namespace Go.Proofs.Ytgfbcpcfdlnbhab.low
open Go.RowKit
set_option linter.unusedVariables false

structure CB (K : Fx) (go : Nat) (TB : TypeId) (O : Nat → Prop) (L : List Pt) (w : World) (sx sy : Option Nat) (RX RY : List U) : Prop where
  cs : Cs K w sx sy RX RY
  bd : Bld O K.lo go TB w L
  ox : ¬ O K.gx
  oy : ¬ O K.gy
section
variable {K : Fx} {go : Nat} {TB : TypeId} {O O' : Nat → Prop} {L L' : List Pt} {w w' : World} {sx sy sx' sy' : Option Nat} {RX RY RX' RY' : List U}
theorem CB.past (h : CB K go TB O L w sx sy RX RY) (hb : Below w.heap.size w w') : CB K go TB O L w' sx sy RX RY := ⟨h.cs.past hb, h.bd.past hb, h.ox, h.oy⟩
end
section
variable {K : Fx} {go : Nat} {TB : TypeId} {O : Nat → Prop} {L : List Pt} {w : World} {sx sy : Option Nat} {RX RY : List U}
end
end Go.Proofs.Ytgfbcpcfdlnbhab.low


/-
  Transformation: the loop's invariant on units, how a round goes on; the results.
-/
namespace Go.Proofs.Ytgfbcpcfdlnbhab.low
open Go.RowKit
set_option linter.unusedVariables false

structure XInv (a b : List Pt) (RX RY : List U) (L M : List Pt) : Prop where
  eq1 : units L ++ (xf RX RY).1 = (xf (units a) (units b)).1
  eq2 : units M ++ (xf RX RY).2 = (xf (units a) (units b)).2
  bal : src RX = src RY
  len : L.length + M.length + 2 * RX.length + 2 * RY.length ≤ 4000
section
variable {a b : List Pt} {RX RY : List U} {L M : List Pt}
theorem XInv.px {zs : List Int} (h : XInv a b (zs.map .p ++ RX) RY L M) (hn : 0 < zs.length) : XInv a b RX RY (L ++ [⟨2, 0, zs⟩]) (M ++ [⟨1, (zs.length : Int), []⟩]) := by
  refine ⟨?_, ?_, ?_, ?_⟩
  · rw [← h.eq1, xf_puts, units_app]; simp [units, unitsP]
  · rw [← h.eq2, xf_puts, units_app]; simp [units, unitsP]
  · have := h.bal; rw [src_app, (src_mp zs).1] at this; omega
  · have := h.len; simp at this ⊢; omega
theorem XInv.py {zs : List Int} (h : XInv a b RX (zs.map .p ++ RY) L M) (hp : noP RX) (hn : 0 < zs.length) : XInv a b RX RY (L ++ [⟨1, (zs.length : Int), []⟩]) (M ++ [⟨2, 0, zs⟩]) := by
  refine ⟨?_, ?_, ?_, ?_⟩
  · rw [← h.eq1, xf_putsB _ _ _ hp, units_app]; simp [units, unitsP]
  · rw [← h.eq2, xf_putsB _ _ _ hp, units_app]; simp [units, unitsP]
  · have := h.bal; rw [src_app, (src_mp zs).1] at this; omega
  · have := h.len; simp at this ⊢; omega
end
/-- two cursors and two builders -/
structure TT (K : Fx) (g1 g2 : Nat) (TB : TypeId) (O P : Nat → Prop) (L M : List Pt) (w : World) (sx sy : Option Nat) (RX RY : List U) : Prop where
  cs : Cs K w sx sy RX RY
  b1 : Bld O K.lo g1 TB w L
  b2 : Bld P K.lo g2 TB w M
  ox : ¬ O K.gx
  oy : ¬ O K.gy
  px : ¬ P K.gx
  py : ¬ P K.gy
  dis : ∀ q, O q → ¬ P q
section
variable {K : Fx} {g1 g2 : Nat} {TB : TypeId} {O O' P P' : Nat → Prop} {L L' M M' : List Pt} {w w' : World} {sx sy sx' sy' : Option Nat} {RX RY RX' RY' : List U}
theorem TT.one (h : TT K g1 g2 TB O P L M w sx sy RX RY) : CB K g1 TB O L w sx sy RX RY := ⟨h.cs, h.b1, h.ox, h.oy⟩
theorem TT.past (h : TT K g1 g2 TB O P L M w sx sy RX RY) (hb : Below w.heap.size w w') : TT K g1 g2 TB O P L M w' sx sy RX RY := ⟨h.cs.past hb, h.b1.past hb, h.b2.past hb, h.ox, h.oy, h.px, h.py, h.dis⟩
end
section
variable {K : Fx} {g1 g2 : Nat} {TB : TypeId} {O P : Nat → Prop} {L M : List Pt} {w : World} {sx sy : Option Nat} {RX RY : List U}
end
end Go.Proofs.Ytgfbcpcfdlnbhab.low


/-
  append(out, x) where out is an owned slice of whatever rows and x is one row of data of the caller's own.
-/
namespace Go.Proofs.Ytgfbcpcfdlnbhab.low
open Go.RowKit
set_option linter.unusedVariables false

end Go.Proofs.Ytgfbcpcfdlnbhab.low


/-
  Contract of spec.l02Copy, and the laws of append in a region that draws its order. Written by mkdoc6.py.
-/
namespace Go.Proofs.Ytgfbcpcfdlnbhab.low
open Go.RowKit
set_option linter.unusedVariables false

end Go.Proofs.Ytgfbcpcfdlnbhab.low


/-
  Contract of spec.OpsSince. Written by mkdoc7.py.
-/
namespace Go.Proofs.Ytgfbcpcfdlnbhab.low
open Go.RowKit
set_option linter.unusedVariables false

end Go.Proofs.Ytgfbcpcfdlnbhab.low


/-
  The specification's side of stage 8 (documents), gathered; spec.Forget is wanted.
-/
namespace Go.Proofs.Ytgfbcpcfdlnbhab.low
set_option linter.unusedVariables false
theorem seenOf_small {x : Do} {r : Int} (hs : SmDo x) : SmSe (seenOfT x r) := by
  have e : totSe (seenOfT x r) = 0 := rfl
  unfold SmSe
  rw [e]
  omega
end Go.Proofs.Ytgfbcpcfdlnbhab.low


/-
  Contracts of the program's builder: endRun, drop, put, done, keep.
-/
namespace Go.Proofs.Ytgfbcpcfdlnbhab.low
open Go.RowKit
set_option linter.unusedVariables false

end Go.Proofs.Ytgfbcpcfdlnbhab.low


/-
  Contracts of the program's functions on operations that only read: impl.PartOk, partsOk, size, sizeOf, OpFrom, OpTo, OpOk, Puts, Drops.
-/
namespace Go.Proofs.Ytgfbcpcfdlnbhab.low
open Go.RowKit
set_option linter.unusedVariables false

end Go.Proofs.Ytgfbcpcfdlnbhab.low


/-
  Contracts of impl.partSame, of the library's slices.EqualFunc at parts with impl.partSame, and of impl.OpSame.
-/
namespace Go.Proofs.Ytgfbcpcfdlnbhab.low
open Go.RowKit
set_option linter.unusedVariables false

set_option maxHeartbeats 800000 in
theorem implPartSame_any (p q : Pt) (A A' : Option Addr) (c c' : Nat) (w : World) (hp : Row (Value.int .i64) w w.heap.size A p.signs) (hq : Row (Value.int .i64) w w.heap.size A' q.signs) (h1 : p.signs.length ≤ 4294967296) (h2 : q.signs.length ≤ 4294967296) :
    Calls Try.prog 44 #[.agg #[.int .i64 p.kind, .int .i64 p.n, .slice A p.signs.length c], .agg #[.int .i64 q.kind, .int .i64 q.n, .slice A' q.signs.length c']] w (Tells (samePt p q) w) := by
  obtain ⟨k, n, zs⟩ := p
  obtain ⟨k', n', zs'⟩ := q
  have hbb : ∀ o o' : Obj, Below w.heap.size w ((w.alloc o).alloc o') := fun o o' => ((Below.refl _ _).alloc (Nat.le_refl _) _).alloc (by simp) _
  by_cases hk : k = k'
  · by_cases hn : n = n'
    · have HS := Lib.hid (show samePt ⟨k, n, zs⟩ ⟨k', n', zs'⟩ = sameB zs zs' by unfold samePt; simp [hk, hn])
      have hk1 : (k == k') = true := by simp [hk]
      have hn1 : (n == n') = true := by simp [hn]
      clear hk hn
      go_enter Try.func44, Try.ntmps44
      go_wp2_with fail
      refine (implSignsSame_any A A' c c' zs zs' _ ((hp.past_alloc _).past_alloc _) ((hq.past_alloc _).past_alloc _) h1 h2).mono ?_
      intro e w1 hsay
      obtain ⟨rfl, b1⟩ := says_tells hsay
      go_wp2
      go_ret
      refine ⟨ret_bool (by rw [HS.out]), (hbb _ _).trans (b1.mono (by simp; omega))⟩
    · have HS := Lib.hid (show samePt ⟨k, n, zs⟩ ⟨k', n', zs'⟩ = false by unfold samePt; simp [hn])
      have hk1 : (k == k') = true := by simp [hk]
      have hn1 : (n == n') = false := by simp [hn]
      clear hk hn
      go_enter Try.func44, Try.ntmps44
      go_wp2
      go_ret
      exact ⟨ret_bool (by rw [HS.out]), hbb _ _⟩
  · have HS := Lib.hid (show samePt ⟨k, n, zs⟩ ⟨k', n', zs'⟩ = false by unfold samePt; simp [hk])
    have hk1 : (k == k') = false := by simp [hk]
    clear hk
    go_enter Try.func44, Try.ntmps44
    go_wp2
    go_ret
    exact ⟨ret_bool (by rw [HS.out]), hbb _ _⟩

set_option maxRecDepth 100000 in
set_option maxHeartbeats 1600000 in
theorem equalFunc_any (A B : Option Addr) (c d : Nat) (ps qs : List Pt) (w : World) (hx : PRow w w.heap.size A ps) (hy : PRow w w.heap.size B qs)
    (hl : ps.length ≤ 4294967296) (hl2 : qs.length ≤ 4294967296) (hs : ∀ p ∈ ps, p.signs.length ≤ 4294967296) (hs2 : ∀ p ∈ qs, p.signs.length ≤ 4294967296) :
    Calls Try.prog 43 #[.slice A ps.length c, .slice B qs.length d, .func (.func 44) #[] #[]] w (Tells (samePs ps qs) w) := by
  by_cases hlen : ps.length = qs.length
  · have HL := Lib.hid hlen
    have hb : ((ps.length : Int) != (qs.length : Int)) = false := by simp [hlen]
    clear hlen
    go_enter Try.func43, Try.ntmps43
    go_wp2
    go_loopw [17] (fun i wr => ∃ k : Nat, k ≤ ps.length ∧ i = .int .i64 k ∧ samePs (ps.take k) (qs.take k) = true ∧ Below w.heap.size w wr) (fun i _ => ps.length - (intOf i).toNat)
    case atStart => exact ⟨0, Nat.zero_le _, rfl, rfl, Below.refl _ _⟩
    case round =>
      obtain ⟨k, hk, rfl, ht, hbel⟩ := hrel
      have HT := Lib.hid ht
      clear ht
      by_cases hlt : k < ps.length
      · have hlt2 : k < qs.length := by have := HL.out; omega
        obtain ⟨b1, o1, p, rfl, hb1, hp, hc1⟩ := hx.at_ hlt
        obtain ⟨b2, o2, q, rfl, hb2, hq, hc2⟩ := hy.at_ (k := k) hlt2
        obtain ⟨x0, x1, A1, e1, x2, r1⟩ := hc1.keep (w' := wr) hb1 (fun _ hq => hbel.cell hq)
        have hsp := hs p (List.mem_of_getElem? hp)
        have hsq := hs2 q (List.mem_of_getElem? hq)
        have HP := Lib.hid hp
        have HQ := Lib.hid hq
        clear hp hq hc1
        have bW := alloc_below wr (.cells #[.int .i64 p.kind, .int .i64 p.n, .slice A1 p.signs.length e1] 74)
        have dW := hbel.trans (bW.mono hbel.size)
        obtain ⟨y0, y1, A2, e2, y2, r2⟩ := hc2.keep (w' := wr.alloc (.cells #[.int .i64 p.kind, .int .i64 p.n, .slice A1 p.signs.length e1] 74)) hb2 (fun _ hq => dW.cell hq)
        have dV := dW.trans ((alloc_below (wr.alloc (.cells #[.int .i64 p.kind, .int .i64 p.n, .slice A1 p.signs.length e1] 74)) (.cells #[.int .i64 q.kind, .int .i64 q.n, .slice A2 q.signs.length e2] 74)).mono dW.size)
        have R1 := Lib.hid (Row.past_alloc ((r1.more hbel.size).past bW) (.cells #[.int .i64 q.kind, .int .i64 q.n, .slice A2 q.signs.length e2] 74))
        have R2 := Lib.hid (Row.past_alloc (r2.more dW.size) (.cells #[.int .i64 q.kind, .int .i64 q.n, .slice A2 q.signs.length e2] 74))
        clear hc2 r1 r2
        cases hsame : samePt p q
        · go_wp2_with fail
          refine (implPartSame_any p q A1 A2 e1 e2 _ R1.out R2.out hsp hsq).mono ?_
          rintro e w2 ⟨rfl, b2⟩
          go_wp2
          go_ret
          exact ⟨ret_bool (by rw [samePs_at ps qs k p q HP.out HQ.out hsame]), dV.trans (b2.mono dV.size)⟩
        · go_wp2_with fail
          refine (implPartSame_any p q A1 A2 e1 e2 _ R1.out R2.out hsp hsq).mono ?_
          rintro e w2 ⟨rfl, b2⟩
          go_wp2
          go_roundw
          case rel => exact ⟨k + 1, by omega, by go_num, samePs_snoc ps qs k p q HP.out HQ.out hsame HT.out, dV.trans (b2.mono dV.size)⟩
          case measure => simp [intOf]; omega
      · have H := Lib.hid (show samePs ps qs = true by have := HT.out; rwa [List.take_of_length_le (by omega), List.take_of_length_le (by have := HL.out; omega)] at this)
        go_wp2
        go_ret
        exact ⟨ret_bool (by rw [H.out]), hbel⟩
  · have hb : ((ps.length : Int) != (qs.length : Int)) = true := by simp; omega
    have H := Lib.hid (show samePs ps qs = false by cases h : samePs ps qs; rfl; exact absurd (samePs_len ps qs h) hlen)
    clear hlen
    go_enter Try.func43, Try.ntmps43
    go_wp2
    go_ret
    exact ⟨ret_bool (by rw [H.out]), Below.refl _ _⟩

set_option maxHeartbeats 400000 in
theorem implOpSame_any (A B : Option Addr) (c d : Nat) (ps qs : List Pt) (w : World) (hx : PRow w w.heap.size A ps) (hy : PRow w w.heap.size B qs)
    (hl : ps.length ≤ 4294967296) (hl2 : qs.length ≤ 4294967296) (hs : ∀ p ∈ ps, p.signs.length ≤ 4294967296) (hs2 : ∀ p ∈ qs, p.signs.length ≤ 4294967296) :
    Calls Try.prog 39 #[.slice A ps.length c, .slice B qs.length d] w (Tells (samePs ps qs) w) := by
  go_enter Try.func39, Try.ntmps39
  go_wp2_with fail
  refine (equalFunc_any A B c d ps qs _ hx hy hl hl2 hs hs2).mono ?_
  rintro e w1 ⟨rfl, b1⟩
  go_wp2
  go_ret
  exact ⟨rfl, b1⟩
end Go.Proofs.Ytgfbcpcfdlnbhab.low


/-
  Contracts of the program's add, of impl.OpNorm, impl.IsNorm and impl.Keeping.
-/
namespace Go.Proofs.Ytgfbcpcfdlnbhab.low
open Go.RowKit
set_option linter.unusedVariables false

end Go.Proofs.Ytgfbcpcfdlnbhab.low


/-
  Contracts of impl.NameOk, EntryOk, EntrySame, HeadRev, entriesOk.
-/
namespace Go.Proofs.Ytgfbcpcfdlnbhab.low
open Go.RowKit
set_option linter.unusedVariables false

set_option maxRecDepth 100000 in
set_option maxHeartbeats 1600000 in
theorem implEntrySame_d (v v' : Value) (x y : En) (w : World) (h : RdC w w.heap.size (datEn x) v) (h' : RdC w w.heap.size (datEn y) v') (hs : SmEn x) (hs' : SmEn y) : Calls Try.prog 30 #[v, v'] w (Tells (entrySameB x y) w) := by
  obtain ⟨A2, c2, rfl, r2⟩ := aggEn h
  obtain ⟨B2, d2, rfl, s2⟩ := aggEn h'
  obtain ⟨_, _, b0⟩ := two_boxes w #[.int .i64 x.client, .int .i64 x.seq, .slice A2 x.o.length c2] #[.int .i64 y.client, .int .i64 y.seq, .slice B2 y.o.length d2] 57
  have HE := Lib.hid (show entrySameB x y = (decide (x.client = y.client) && decide (x.seq = y.seq) && samePs x.o y.o) from rfl)
  by_cases h1 : x.client = y.client
  · have g1 : (x.client == y.client) = true := by simp [h1]
    by_cases h2 : x.seq = y.seq
    · have g2 : (x.seq == y.seq) = true := by simp [h2]
      obtain ⟨A, c, e2, hr, _⟩ := parts_rd r2
      injection e2 with e2 _ e3
      subst e2 e3
      obtain ⟨B, d, e2, hr', _⟩ := parts_rd s2
      injection e2 with e2 _ e3
      subst e2 e3
      have q1 := hs.o.1
      have q2 := hs'.o.1
      have H12 := Lib.hid (And.intro h1 h2)
      clear h1 h2
      go_enter Try.func30, Try.ntmps30
      go_wp2_with fail
      refine (implOpSame_any A2 B2 c2 d2 x.o y.o _ (hr.past b0) (hr'.past b0) (by omega) (by omega) hs.o.all4 hs'.o.all4).mono ?_
      rintro e w1 ⟨rfl, b1⟩
      go_wp2
      go_ret
      exact ⟨ret_b (by rw [HE.out, decide_eq_true H12.out.1, decide_eq_true H12.out.2]; rfl), b0.trans (b1.mono b0.size)⟩
    · have g2 : (x.seq == y.seq) = false := by simp [h2]
      have H12 := Lib.hid (And.intro h1 h2)
      clear h1 h2
      go_enter Try.func30, Try.ntmps30
      go_wp2
      go_ret
      exact ⟨ret_b (by rw [HE.out, decide_eq_true H12.out.1, decide_eq_false H12.out.2]; rfl), b0⟩
  · have g1 : (x.client == y.client) = false := by simp [h1]
    have H12 := Lib.hid h1
    clear h1
    go_enter Try.func30, Try.ntmps30
    go_wp2
    go_ret
    exact ⟨ret_b (by rw [HE.out, decide_eq_false H12.out]; rfl), b0⟩
end Go.Proofs.Ytgfbcpcfdlnbhab.low


/-
  Lists of rows of clients: the first row of each client, a row put in, rows in order.
-/
namespace Go.Proofs.Ytgfbcpcfdlnbhab.low
open Go.RowKit
set_option linter.unusedVariables false

def putSe : List Se → Se → List Se
  | [], s => [s]
  | t :: l, s => if t.client = s.client then s :: l else t :: putSe l s
def OneSe (l : List Se) : Prop := (l.map (·.client)).Nodup
theorem seenGo_none {k : Int} : ∀ {l : List Se}, seenGo k l = none ↔ ∀ s ∈ l, ¬ s.client = k
  | [] => by simp [seenGo]
  | t :: l => by
    unfold seenGo
    by_cases h : t.client = k
    · simp [h]
    · rw [if_neg h, seenGo_none (l := l)]
      simp [h]
theorem seenGo_at {k : Int} {s : Se} : ∀ {l : List Se} {j : Nat}, OneSe l → l[j]? = some s → s.client = k → seenGo k l = some s ∧ ∀ s', s'.client = k → putSe l s' = l.set j s'
  | [], j, _, h, _ => by simp at h
  | t :: l, 0, hn, h, e => by
    obtain rfl : t = s := by simpa using h
    refine ⟨by unfold seenGo; rw [if_pos e], fun s' h' => ?_⟩
    unfold putSe
    rw [if_pos (by rw [e, h'])]
    rfl
  | t :: l, j + 1, hn, h, e => by
    unfold OneSe at hn
    rw [List.map_cons, List.nodup_cons] at hn
    have h1 : l[j]? = some s := by simpa using h
    have hne : ¬ t.client = k := fun h2 => hn.1 (by rw [h2, ← e]; exact List.mem_map.2 ⟨s, List.mem_of_getElem? h1, rfl⟩)
    have ih := seenGo_at (l := l) hn.2 h1 e
    refine ⟨by unfold seenGo; rw [if_neg hne]; exact ih.1, fun s' h' => ?_⟩
    unfold putSe
    rw [if_neg (by rw [h']; exact hne), ih.2 s' h']
    rfl
theorem putSe_new {s : Se} : ∀ {l : List Se}, (∀ t ∈ l, ¬ t.client = s.client) → putSe l s = l ++ [s]
  | [], _ => rfl
  | t :: l, h => by
    unfold putSe
    rw [if_neg (h t (by simp)), putSe_new (fun u hu => h u (by simp [hu]))]
    rfl
theorem putSe_clients {s : Se} : ∀ {l : List Se}, (putSe l s).map (·.client) = if s.client ∈ l.map (·.client) then l.map (·.client) else l.map (·.client) ++ [s.client]
  | [] => by simp [putSe]
  | u :: l => by
    unfold putSe
    by_cases e : u.client = s.client
    · rw [if_pos e]
      simp [e]
    · rw [if_neg e, List.map_cons, putSe_clients (l := l), List.map_cons]
      have e' : ¬ s.client = u.client := fun h => e h.symm
      by_cases h : s.client ∈ l.map (·.client)
      · rw [if_pos h, if_pos (List.mem_cons_of_mem _ h)]
      · rw [if_neg h, if_neg (by simp only [List.mem_cons, not_or]; exact ⟨e', h⟩)]
        rfl
theorem OneSe.put {l : List Se} (h : OneSe l) (s : Se) : OneSe (putSe l s) := by
  unfold OneSe at *
  rw [putSe_clients]
  split
  · exact h
  · rename_i hn
    rw [List.nodup_append]
    refine ⟨h, by simp, fun a ha b hb e => ?_⟩
    obtain rfl : b = s.client := by simpa using hb
    exact hn (e ▸ ha)
/-- the first row of each client -/
def firstSe (m : List Se) (s : Se) : List Se := if (seenGo s.client m).isSome then m else putSe m s
def dedSe (l : List Se) : List Se := l.foldl firstSe []
theorem OneSe.nil : OneSe [] := by simp [OneSe]
theorem OneSe.first {l : List Se} (h : OneSe l) (s : Se) : OneSe (firstSe l s) := by
  unfold firstSe
  split
  · exact h
  · exact h.put s
theorem ded_snoc {l : List Se} {j : Nat} {s : Se} (h : l[j]? = some s) : dedSe (l.take (j + 1)) = firstSe (dedSe (l.take j)) s := by
  obtain ⟨hlt, e⟩ := List.getElem?_eq_some_iff.1 h
  rw [List.take_succ_eq_append_getElem hlt, e, dedSe, List.foldl_append]
  rfl
theorem seenGo_append {k : Int} : ∀ {l m : List Se}, seenGo k (l ++ m) = (seenGo k l).or (seenGo k m)
  | [], m => rfl
  | t :: l, m => by
    show (if t.client = k then some t else seenGo k (l ++ m)) = ((if t.client = k then some t else seenGo k l).or (seenGo k m))
    by_cases e : t.client = k
    · simp [e]
    · rw [if_neg e, if_neg e, seenGo_append]
theorem seenGo_first {k : Int} (m : List Se) (s : Se) : seenGo k (firstSe m s) = (seenGo k m).or (seenGo k [s]) := by
  unfold firstSe
  cases h : seenGo s.client m with
  | some t =>
    rw [if_pos (by simp)]
    by_cases e : s.client = k
    · subst e
      rw [h]
      rfl
    · have : seenGo k [s] = none := by simp [seenGo, e]
      rw [this]
      cases seenGo k m <;> rfl
  | none =>
    rw [if_neg (by simp), putSe_new (seenGo_none.1 h), seenGo_append]
theorem seenGo_fold {k : Int} : ∀ {l m : List Se}, seenGo k (l.foldl firstSe m) = (seenGo k m).or (seenGo k l)
  | [], m => by cases h : seenGo k m <;> simp [seenGo, h]
  | s :: l, m => by
    rw [List.foldl_cons, seenGo_fold (l := l), seenGo_first, show s :: l = [s] ++ l from rfl, seenGo_append]
    cases seenGo k m <;> simp
theorem seenGo_ded {k : Int} {l : List Se} : seenGo k (dedSe l) = seenGo k l := by
  rw [dedSe, seenGo_fold]
  rfl
/-- rows in the order of their clients -/
def AscSe (l : List Se) : Prop := l.Pairwise (fun a b => a.client < b.client)
theorem AscSe.one {l : List Se} (h : AscSe l) : OneSe l := by
  unfold OneSe List.Nodup
  rw [List.pairwise_map]
  exact List.Pairwise.imp (fun h => by omega) h
end Go.Proofs.Ytgfbcpcfdlnbhab.low


/-
  One word for the memory that a function has made so far: a list of items, each a block of its own (a variable's box) or a datum of its own with its blocks, all apart; the caller's memory is as it was.
-/
namespace Go.Proofs.Ytgfbcpcfdlnbhab.low
open Go.RowKit
set_option linter.unusedVariables false

inductive It where
  | bx (g : Nat) (o : Obj)
  | dt (d : Dat) (v : Value) (b : List Nat)
  | rd (d : Dat) (v : Value) (b : List Nat)
def It.bs : It → List Nat
  | .bx g _ => [g]
  | .dt _ _ b => b
  | .rd _ _ b => b
/-- a box holds its object; a datum is owned; the third kind: a value that reads as a datum out of these blocks alone -/
def It.ok (W : World) : It → Prop
  | .bx g o => W.heap[g]? = some o
  | .dt d v b => OwC W d v b
  | .rd d v b => (∀ q ∈ b, q < W.heap.size) ∧ ∀ W' : World, (∀ q ∈ b, W'.heap[q]? = W.heap[q]?) → ∀ B, (∀ q ∈ b, q < B) → RdC W' B d v
theorem It.keep {W W' : World} {x : It} (h : x.ok W) (hk : ∀ q ∈ x.bs, W'.heap[q]? = W.heap[q]?) : x.ok W' := by
  cases x with
  | bx g o => exact (hk g (by simp [It.bs])).trans h
  | dt d v b => exact OwC.keep d v b h hk
  | rd d v b =>
    refine ⟨fun q hq => ?_, fun W2 h2 => h.2 W2 (fun q hq => (h2 q hq).trans (hk q hq))⟩
    have h1 := h.1 q hq
    rcases Nat.lt_or_ge q W'.heap.size with h3 | h3
    · exact h3
    · have h4 := hk q hq
      rw [Array.getElem?_eq_none h3, Array.getElem?_eq_getElem h1] at h4
      cases h4
theorem It.lt {W : World} {x : It} (h : x.ok W) {q : Nat} (hq : q ∈ x.bs) : q < W.heap.size := by
  cases x with
  | bx g o => obtain rfl : q = g := by simpa [It.bs] using hq
              exact lt_of_some h
  | dt d v b => exact OwC.lt d v b h q hq
  | rd d v b => exact h.1 q hq
/-- the memory made since w0 -/
structure Ms (w0 : World) (L : List It) (W : World) : Prop where
  ok : ∀ x ∈ L, x.ok W
  nd : (L.flatMap It.bs).Nodup
  rg : ∀ q ∈ L.flatMap It.bs, w0.heap.size ≤ q
  bl : Below w0.heap.size w0 W
section
variable {w0 W W' : World} {L L' : List It} {x y : It}
theorem Ms.start (w : World) : Ms w [] w := ⟨fun x hx => (by simp at hx), by simp, fun q hq => (by simp at hq), Below.refl _ _⟩
theorem Ms.size (h : Ms w0 L W) : w0.heap.size ≤ W.heap.size := h.bl.size
theorem Ms.blt (h : Ms w0 L W) : ∀ q ∈ L.flatMap It.bs, q < W.heap.size := fun q hq => by
  obtain ⟨x, hx, hq⟩ := List.mem_flatMap.1 hq
  exact It.lt (h.ok x hx) hq
/-- all items' blocks unchanged -/
theorem Ms.keep (h : Ms w0 L W) (hk : ∀ q ∈ L.flatMap It.bs, W'.heap[q]? = W.heap[q]?) (hb : Below w0.heap.size w0 W') : Ms w0 L W' :=
  ⟨fun x hx => It.keep (h.ok x hx) (fun q hq => hk q (List.mem_flatMap.2 ⟨x, hx, hq⟩)), h.nd, h.rg, hb⟩
theorem Ms.past (h : Ms w0 L W) (hb : Below W.heap.size W W') : Ms w0 L W' := h.keep (fun q hq => hb.block q (h.blt q hq)) (h.bl.trans (hb.mono h.size))
theorem Ms.drew (h : Ms w0 L W) : Ms w0 L W.drew := h.past (Below.refl _ _).drew
theorem Ms.drewN (h : Ms w0 L W) (n : Nat) : Ms w0 L (W.drewN n) := h.past ⟨rfl, rfl, rfl, Nat.le_refl _, fun _ _ => rfl⟩
theorem Ms.arg (h : Ms w0 L W) {d : Dat} {v : Value} (hr : RdC w0 w0.heap.size d v) : RdC W W.heap.size d v := hr.past h.bl
theorem Ms.perm (h : Ms w0 L W) (hp : L.Perm L') : Ms w0 L' W :=
  ⟨fun x hx => h.ok x (hp.mem_iff.2 hx), (hp.flatMap_right It.bs).nodup_iff.1 h.nd, fun q hq => h.rg q ((hp.flatMap_right It.bs).mem_iff.2 hq), h.bl⟩
theorem Ms.tail (h : Ms w0 (x :: L) W) : Ms w0 L W :=
  ⟨fun y hy => h.ok y (by simp [hy]), by have := h.nd; rw [List.flatMap_cons, List.nodup_append] at this; exact this.2.1, fun q hq => h.rg q (by rw [List.flatMap_cons]; exact List.mem_append_right _ hq), h.bl⟩
theorem erase_perm : ∀ {L : List It} {i : Nat} {x : It}, L[i]? = some x → L.Perm (x :: L.eraseIdx i)
  | [], i, x, h => by simp at h
  | y :: L, 0, x, h => by
    simp at h
    subst h
    exact List.Perm.refl _
  | y :: L, i + 1, x, h => by
    have ih := erase_perm (L := L) (i := i) (x := x) (by simpa using h)
    exact (ih.cons y).trans (List.Perm.swap x y _)
/-- the i-th item in front -/
theorem Ms.pull (h : Ms w0 L W) {i : Nat} (hi : L[i]? = some x) (hL : x :: L.eraseIdx i = L') : Ms w0 L' W := by
  subst hL
  exact h.perm (erase_perm hi)
/-- items dropped -/
theorem Ms.drop (h : Ms w0 L W) (n : Nat) : Ms w0 (L.drop n) W := by
  induction n generalizing L with
  | zero => exact h
  | succ n ih =>
    cases L with
    | nil => exact h
    | cons x L => exact ih h.tail
theorem Ms.at_ (h : Ms w0 L W) {i : Nat} (hi : L[i]? = some x) : x.ok W := h.ok x (List.mem_of_getElem? hi)
theorem Ms.bsAt (h : Ms w0 L W) {i : Nat} (hi : L[i]? = some x) : ∀ q ∈ x.bs, w0.heap.size ≤ q ∧ q < W.heap.size := fun q hq =>
  ⟨h.rg q (List.mem_flatMap.2 ⟨x, List.mem_of_getElem? hi, hq⟩), It.lt (h.at_ hi) hq⟩
theorem Ms.ndAt (h : Ms w0 L W) {i : Nat} (hi : L[i]? = some x) : x.bs.Nodup := by
  have h2 := h.pull hi rfl
  have := h2.nd
  rw [List.flatMap_cons, List.nodup_append] at this
  exact this.1
theorem Ms.cell (h : Ms w0 L W) {i g j : Nat} {cs : Array Value} {T : TypeId} {u : Value} (hi : L[i]? = some (.bx g (.cells cs T (0, 0)))) (hu : cs[j]? = some u) : W.cell? ⟨g, j, none⟩ = some u := bxcell (h.at_ hi) hu
theorem Ms.free (h : Ms w0 L W) {i g j : Nat} {cs : Array Value} {T : TypeId} (hi : L[i]? = some (.bx g (.cells cs T (0, 0)))) : W.frozen? ⟨g, j, none⟩ = false := bxfree (h.at_ hi)
theorem Ms.glt (h : Ms w0 L W) {i g : Nat} {o : Obj} (hi : L[i]? = some (.bx g o)) : w0.heap.size ≤ g ∧ g < W.heap.size := h.bsAt hi g (by simp [It.bs])
theorem Ms.read (h : Ms w0 L W) {i : Nat} {d : Dat} {v : Value} {b : List Nat} (hi : L[i]? = some (.dt d v b)) : RdC W W.heap.size d v := OwC.read d v b (h.at_ hi) (fun q hq => (h.bsAt hi q hq).2)
theorem Ms.own (h : Ms w0 L W) {i : Nat} {d : Dat} {v : Value} {b : List Nat} (hi : L[i]? = some (.dt d v b)) : Own w0.heap.size W.heap.size W d v := ⟨b, h.at_ hi, h.ndAt hi, h.bsAt hi, Nat.le_refl _, h.size⟩
/-- an item more, of blocks that are new -/
theorem Ms.cons (h : Ms w0 L W) (hb : Below W.heap.size W W') (hx : x.ok W') (hn : x.bs.Nodup) (hq : ∀ q ∈ x.bs, W.heap.size ≤ q) : Ms w0 (x :: L) W' := by
  have h' := h.past hb
  refine ⟨fun y hy => ?_, ?_, fun q hq' => ?_, h'.bl⟩
  · rcases List.mem_cons.1 hy with rfl | hy
    · exact hx
    · exact h'.ok y hy
  · rw [List.flatMap_cons, List.nodup_append]
    exact ⟨hn, h.nd, fun a ha b hb e => by subst e; have := hq a ha; have := h.blt a hb; omega⟩
  · rw [List.flatMap_cons] at hq'
    rcases List.mem_append.1 hq' with hq' | hq'
    · exact Nat.le_trans h.size (hq q hq')
    · exact h.rg q hq'
theorem Ms.new (h : Ms w0 L W) (cs : Array Value) (T : TypeId) : Ms w0 (.bx W.heap.size (.cells cs T (0, 0)) :: L) (W.alloc (.cells cs T)) :=
  h.cons (alloc_below W _) (heap_alloc_new W _) (by simp [It.bs]) (fun q hq => by simp [It.bs] at hq; omega)
theorem Ms.nil (h : Ms w0 L W) (e : TypeId) (sz : Nat) : Ms w0 (.dt (.rows e sz []) (.slice none 0 0) [] :: L) W :=
  h.cons (Below.refl _ _) ⟨[], [], World.ownsRow_nil _ _ _ _, ⟨rfl, rfl⟩, rfl⟩ (by simp [It.bs]) (fun q hq => by simp [It.bs] at hq)
/-- the first item's blocks (and new ones) alone have changed: another item in its place -/
theorem Ms.turn (h : Ms w0 (x :: L) W) (hs : W.heap.size ≤ W'.heap.size) (hk : ∀ q, q < W.heap.size → q ∉ x.bs → W'.heap[q]? = W.heap[q]?) (hb : Below w0.heap.size w0 W') (hy : y.ok W') (hn : y.bs.Nodup) (hq : ∀ q ∈ y.bs, q ∈ x.bs ∨ W.heap.size ≤ q) : Ms w0 (y :: L) W' := by
  have hnd := h.nd
  rw [List.flatMap_cons, List.nodup_append] at hnd
  have hlt := h.tail.blt
  refine ⟨fun z hz => ?_, ?_, fun q hq' => ?_, hb⟩
  · rcases List.mem_cons.1 hz with rfl | hz
    · exact hy
    · exact It.keep (h.ok z (by simp [hz])) (fun q hq' => by
        have hm : q ∈ L.flatMap It.bs := List.mem_flatMap.2 ⟨z, hz, hq'⟩
        exact hk q (hlt q hm) (fun e => hnd.2.2 q e q hm rfl))
  · rw [List.flatMap_cons, List.nodup_append]
    refine ⟨hn, hnd.2.1, fun a ha b hb e => ?_⟩
    subst e
    rcases hq a ha with h1 | h1
    · exact hnd.2.2 a h1 a hb rfl
    · have := hlt a hb; omega
  · rw [List.flatMap_cons] at hq'
    rcases List.mem_append.1 hq' with hq' | hq'
    · rcases hq q hq' with h1 | h1
      · exact h.rg q (by rw [List.flatMap_cons]; exact List.mem_append_left _ h1)
      · exact Nat.le_trans h.size h1
    · exact h.tail.rg q hq'
/-- a box's cell written -/
theorem Ms.set {g j : Nat} {cs : Array Value} {T : TypeId} (h : Ms w0 (.bx g (.cells cs T (0, 0)) :: L) W) (u : Value) : Ms w0 (.bx g (.cells (cs.setIfInBounds j u) T (0, 0)) :: L) (W.setCell ⟨g, j, none⟩ u) := by
  have hg := h.glt (i := 0) rfl
  refine h.turn (by simp [World.setCell]) (fun q hq hn => Below.heap_setCell _ _ _ _ (fun e => hn (by simp [It.bs]; exact e))) (h.bl.setCell (p := ⟨g, j, none⟩) hg.1 u) (bxset (h.at_ (i := 0) rfl) u) (by simp [It.bs]) (fun q hq => .inl hq)
end
end Go.Proofs.Ytgfbcpcfdlnbhab.low


/-
  Appending in the words of Ms: rows added to an owned slice, the memory behind them handed over; in a plain region and in one that draws its order.
-/
namespace Go.Proofs.Ytgfbcpcfdlnbhab.low
open Go.RowKit
set_option linter.unusedVariables false
section
variable {w0 W W' : World} {L Y : List It}
end
section
variable {w0 W W' : World} {L Y : List It}
/-- rows without memory behind them: what a slice of such reads as, its cells hold -/
def FlatR (rs : List (List Dat)) (sz : Nat) : Prop := ∀ r ∈ rs, r.length = sz ∧ ∀ d ∈ r, ∃ u : Value, d.flat = some u ∧ u.oneCell' = true
theorem RdC.flatV {w : World} {B : Nat} {d : Dat} {u v : Value} (hf : d.flat = some u) (h : RdC w B d v) : v = u := by
  cases d with
  | int n => injection hf with hf; rw [← hf]; exact h
  | bool n => injection hf with hf; rw [← hf]; exact h
  | str n => injection hf with hf; rw [← hf]; exact h
  | rows e sz ds => cases hf
  | agg ds => cases hf
theorem RdL.flat {w : World} {B : Nat} {ad : Addr} : ∀ {r : List Dat} {o : Nat}, (∀ d ∈ r, ∃ u : Value, d.flat = some u ∧ u.oneCell' = true) → RdL w B ad o r → ∃ ys : List Value, ys.length = r.length ∧ OwL w r ys [] ∧ (∀ u ∈ ys, u.oneCell' = true) ∧ ∀ j u, ys[j]? = some u → w.cell? (ad.add (o + j)) = some u
  | [], o, _, _ => ⟨[], rfl, ⟨rfl, rfl⟩, by simp, fun j u h => by simp at h⟩
  | d :: r, o, hf, h => by
    obtain ⟨⟨v, hv, hd⟩, h2⟩ := h
    obtain ⟨u, hu, h1⟩ := hf d (by simp)
    obtain rfl := RdC.flatV hu hd
    obtain ⟨ys, k1, k2, k3, k4⟩ := RdL.flat (r := r) (o := o + 1) (fun d hd => hf d (by simp [hd])) h2
    refine ⟨v :: ys, by simp [k1], ⟨v, ys, [], [], rfl, rfl, OwC.of_flat hu, k2⟩, fun u hu => ?_, fun j u hj => ?_⟩
    · rcases List.mem_cons.1 hu with rfl | hu
      · exact h1
      · exact k3 u hu
    · cases j with
      | zero => simp at hj; subst hj; exact hv
      | succ j => have := k4 j u (by simpa using hj); rw [show o + (j + 1) = o + 1 + j by omega]; exact this
theorem RdR.flat {w : World} {B sz : Nat} {ad : Addr} : ∀ {rs : List (List Dat)} {o : Nat}, FlatR rs sz → RdR w B sz ad o rs → ∃ ys : List Value, ys.length = rs.length * sz ∧ OwR w sz rs ys [] ∧ (∀ u ∈ ys, u.oneCell' = true) ∧ ∀ j u, ys[j]? = some u → w.cell? (ad.add (o + j)) = some u
  | [], o, _, _ => ⟨[], by simp, ⟨rfl, rfl⟩, by simp, fun j u h => by simp at h⟩
  | r :: rs, o, hf, h => by
    obtain ⟨h1, h2⟩ := h
    have hl := (hf r (by simp)).1
    obtain ⟨y, k1, k2, k3, k4⟩ := RdL.flat (hf r (by simp)).2 h1
    obtain ⟨ys, l1, l2, l3, l4⟩ := RdR.flat (rs := rs) (o := o + sz) (fun q hq => hf q (by simp [hq])) h2
    refine ⟨y ++ ys, by rw [List.length_append, k1, l1, hl, List.length_cons, Nat.add_mul]; omega, ⟨y, ys, [], [], rfl, by rw [k1, hl], rfl, k2, l2⟩, fun u hu => ?_, fun j u hj => ?_⟩
    · rcases List.mem_append.1 hu with hu | hu
      · exact k3 u hu
      · exact l3 u hu
    · by_cases hlt : j < y.length
      · rw [List.getElem?_append_left hlt] at hj
        exact k4 j u hj
      · rw [List.getElem?_append_right (by omega)] at hj
        have := l4 _ u hj
        rw [show o + j = o + sz + (j - y.length) by omega]
        exact this
end
end Go.Proofs.Ytgfbcpcfdlnbhab.low


/-
  More of Ms: a box written whole, some of the items alone, what new memory is called.
-/
namespace Go.Proofs.Ytgfbcpcfdlnbhab.low
open Go.RowKit
set_option linter.unusedVariables false
section
variable {w0 W W' : World} {L L' : List It} {x y : It}
theorem putRow_cells {g : Nat} {T : TypeId} : ∀ {ys : List Value} {cs : Array Value} {o : Nat} {W : World}, o + ys.length = cs.size → W.heap[g]? = some (.cells cs T (0, 0)) → (putRow W g o ys).heap[g]? = some (.cells (cs.toList.take o ++ ys).toArray T (0, 0))
  | [], cs, o, W, hl, h => by
    rw [putRow, h]
    have e : cs.toList.take o = cs.toList := List.take_of_length_le (by simp at hl; simp; omega)
    simp [e]
  | y :: ys, cs, o, W, hl, h => by
    rw [putRow]
    simp only [List.length_cons] at hl
    have h1 := putRow_cells (ys := ys) (cs := cs.setIfInBounds o y) (o := o + 1) (by rw [Array.size_setIfInBounds]; omega) (bxset h y)
    rw [h1]
    have e : (cs.setIfInBounds o y).toList.take (o + 1) = cs.toList.take o ++ [y] := by
      rw [Array.toList_setIfInBounds, List.take_add_one, List.take_set_of_le (Nat.le_refl o)]
      congr 1
      rw [List.getElem?_set_self (by simp; omega)]
      rfl
    rw [e, List.append_assoc]
    rfl
/-- a box written whole -/
theorem Ms.putRow {g : Nat} {cs : Array Value} {T : TypeId} {ys : List Value} (h : Ms w0 (.bx g (.cells cs T (0, 0)) :: L) W) (hl : ys.length = cs.size) : Ms w0 (.bx g (.cells ys.toArray T (0, 0)) :: L) (low.putRow W g 0 ys) := by
  have hg := h.glt (i := 0) rfl
  have hk := putRow_cells (ys := ys) (o := 0) (by omega) (h.at_ (i := 0) (x := .bx g (.cells cs T (0, 0))) rfl)
  refine h.turn (Nat.le_of_eq (putRow_size g ys W 0).symm) (fun q hq hn => putRow_block g ys W 0 q (fun e => hn (by simp [It.bs]; exact e))) (putRow_below hg.1 ys W 0 h.bl) ?_ (by simp [It.bs]) (fun q hq => .inl hq)
  show (low.putRow W g 0 ys).heap[g]? = _
  simpa using hk
/-- two boxes are two blocks -/
theorem Ms.ne (h : Ms w0 L W) {i j g g' : Nat} {o o' : Obj} (hi : L[i]? = some (.bx g o)) (hj : L[j]? = some (.bx g' o')) (hij : i < j) : ¬ g = g' ∧ ¬ g' = g := by
  have key : ∀ (L : List It) (i j : Nat), i < j → (L.flatMap It.bs).Nodup → L[i]? = some (.bx g o) → L[j]? = some (.bx g' o') → ¬ g = g' := by
    intro L
    induction L with
    | nil => intro i j _ _ hi; simp at hi
    | cons x L ih =>
      intro i j hij hnd hi hj
      rw [List.flatMap_cons, List.nodup_append] at hnd
      cases j with
      | zero => omega
      | succ j =>
        simp only [List.getElem?_cons_succ] at hj
        cases i with
        | zero =>
          simp only [List.getElem?_cons_zero, Option.some.injEq] at hi
          subst hi
          intro e
          subst e
          exact hnd.2.2 g (by simp [It.bs]) g (List.mem_flatMap.2 ⟨_, List.mem_of_getElem? hj, by simp [It.bs]⟩) rfl
        | succ i =>
          simp only [List.getElem?_cons_succ] at hi
          exact ih i j (by omega) hnd.2.1 hi hj
  have := key L i j hij h.nd hi hj
  exact ⟨this, fun e => this e.symm⟩
/-- the items at these places, in this order (each place at most once) -/
theorem Ms.pick (h : Ms w0 L W) : ∀ {ks : List Nat} {L' : List It}, ks.Nodup → ks.map (fun k => L[k]?) = L'.map some → Ms w0 L' W := fun {ks L'} hn hm => by
  have hmem : ∀ x ∈ L', x ∈ L := fun x hx => by
    have : some x ∈ ks.map (fun k => L[k]?) := by rw [hm]; exact List.mem_map_of_mem hx
    obtain ⟨k, _, hk⟩ := List.mem_map.1 this
    exact List.mem_of_getElem? hk
  refine ⟨fun x hx => h.ok x (hmem x hx), ?_, fun q hq => ?_, h.bl⟩
  · have key : ∀ (L : List It) (ks : List Nat) (L' : List It), (L.flatMap It.bs).Nodup → ks.Nodup → ks.map (fun k => L[k]?) = L'.map some → (L'.flatMap It.bs).Nodup := by
      intro L ks
      induction ks with
      | nil => intro L' _ _ hm; cases L' with | nil => simp | cons _ _ => simp at hm
      | cons k ks ih =>
        intro L' hnd hn hm
        cases L' with
        | nil => simp at hm
        | cons x L' =>
          simp only [List.map_cons, List.cons.injEq] at hm
          obtain ⟨hk, hm⟩ := hm
          have hn' := List.nodup_cons.1 hn
          have ih' := ih L' hnd hn'.2 hm
          rw [List.flatMap_cons, List.nodup_append]
          have hp := erase_perm hk
          have hnd2 := (hp.flatMap_right It.bs).nodup_iff.1 hnd
          rw [List.flatMap_cons, List.nodup_append] at hnd2
          refine ⟨hnd2.1, ih', fun a ha b hb e => ?_⟩
          subst e
          obtain ⟨y, hy, hay⟩ := List.mem_flatMap.1 hb
          have : some y ∈ ks.map (fun k => L[k]?) := by rw [hm]; exact List.mem_map_of_mem hy
          obtain ⟨k2, hk2, hky⟩ := List.mem_map.1 this
          have hne : k2 ≠ k := fun e => hn'.1 (e ▸ hk2)
          have hmem2 : y ∈ L.eraseIdx k := by
            rw [List.mem_eraseIdx_iff_getElem?]
            exact ⟨k2, hne, hky⟩
          exact hnd2.2.2 a ha a (List.mem_flatMap.2 ⟨y, hmem2, hay⟩) rfl
    exact key L ks L' h.nd hn hm
  · obtain ⟨x, hx, hq⟩ := List.mem_flatMap.1 hq
    exact h.rg q (List.mem_flatMap.2 ⟨x, hmem x hx, hq⟩)
/-- the value owned comes with what else is known: an 'OwnPost' out of the first item -/
theorem Ms.post {d : Dat} {v : Value} {b : List Nat} (h : Ms w0 (.dt d v b :: L) W) : OwnPost d w0 (.returned v) W := ⟨v, rfl, h.own (i := 0) rfl, h.bl⟩
end
end Go.Proofs.Ytgfbcpcfdlnbhab.low


/-
  Maps from a client to its row: the map's block as a list in the order of its entries, and its operations.
-/
namespace Go.Proofs.Ytgfbcpcfdlnbhab.low
open Go.RowKit
open Go.ChangeMaps (setBlock)
set_option linter.unusedVariables false

def valSe (s : Se) : Value := .agg #[.int .i64 s.client, .int .i64 s.seq, .int .i64 s.rev]
def entSe (s : Se) : Value × Value := (.int .i64 s.client, valSe s)
def decSe : Value × Value → Se
  | (_, .agg ⟨[.int _ a, .int _ b, .int _ c]⟩) => ⟨a, b, c⟩
  | _ => ⟨0, 0, 0⟩
theorem dec_ent (s : Se) : decSe (entSe s) = s := rfl
structure MapO (l : List Se) (es : Array MapEntry) (clock : Nat) : Prop where
  ents : es.toList.map (fun e => (e.key, e.val)) = l.map entSe
  old : ∀ x ∈ es.toList, x.born < clock
  nd : (es.toList.map (·.born)).Nodup
  one : OneSe l
theorem MapO.new : MapO [] #[] 0 := ⟨rfl, by simp, by simp, OneSe.nil⟩
section
variable {P : Program} {T K E : TypeId} {w : World} {b c0 : Nat} {es : Array MapEntry} {l : List Se}
theorem MapO.at_ (h : MapO l es c0) {j : Nat} {e : MapEntry} (he : es.toList[j]? = some e) : ∃ s, l[j]? = some s ∧ e.key = .int .i64 s.client ∧ e.val = valSe s := by
  have h1 := congrArg (fun x => x[j]?) h.ents
  simp only [List.getElem?_map, he, Option.map_some] at h1
  cases hl : l[j]? with
  | none => rw [hl] at h1; cases h1
  | some s =>
    rw [hl] at h1
    simp only [Option.map_some, Option.some.injEq, entSe, Prod.mk.injEq] at h1
    exact ⟨s, rfl, h1.1, h1.2⟩
theorem MapO.find (h : MapO l es c0) (hk : P.underlying K = some (.int .i64)) (k : Int) :
    ((Instr.findKey K (.int .i64 k) es.toList).run P w = .ok none w ∧ seenGo k l = none ∧ ∀ s', s'.client = k → putSe l s' = l ++ [s']) ∨
    ∃ j s, (Instr.findKey K (.int .i64 k) es.toList).run P w = .ok (some (j, valSe s)) w ∧ l[j]? = some s ∧ s.client = k ∧ seenGo k l = some s ∧ ∀ s', s'.client = k → putSe l s' = l.set j s' := by
  have hkeys : ∀ x ∈ es.toList, MapKept.IsKey (.int .i64) x.key := fun x hx => by
    obtain ⟨j, hj⟩ := List.getElem?_of_mem hx
    obtain ⟨s, _, e, _⟩ := h.at_ hj
    rw [e]
    rfl
  rcases MapKept.findNow_spec (d := .int .i64) (k := .int .i64 k) rfl es.toList 0 hkeys with ⟨h1, h2⟩ | ⟨j, e, h1, h2, h3⟩
  · have hn : ∀ s ∈ l, ¬ s.client = k := fun s hs e => by
      obtain ⟨j, hj⟩ := List.getElem?_of_mem hs
      have h4 := congrArg (fun x => x[j]?) h.ents
      simp only [List.getElem?_map, hj, Option.map_some] at h4
      cases he : es.toList[j]? with
      | none => rw [he] at h4; cases h4
      | some x =>
        rw [he] at h4
        simp only [Option.map_some, Option.some.injEq, entSe, Prod.mk.injEq] at h4
        exact h2 x (List.mem_of_getElem? he) (by rw [h4.1, e])
    refine .inl ⟨by simp [Instr.findKey, run_underlying hk, h1], seenGo_none.2 hn, fun s' h' => putSe_new (fun t ht e => hn t ht (by rw [e, h']))⟩
  · obtain ⟨s, hs, e1, e2⟩ := h.at_ h2
    have hc : s.client = k := by
      rw [e1] at h3
      injection h3
    obtain ⟨h5, h6⟩ := seenGo_at h.one hs hc
    refine .inr ⟨j, s, ?_, hs, hc, h5, h6⟩
    rw [Nat.zero_add] at h1
    simp [Instr.findKey, run_underlying hk, h1, e2]
theorem run_lookup_se (hT : P.underlying T = some (.map K E)) (hk : P.underlying K = some (.int .i64)) (hz : ∀ w, (zeroValue E).run P w = .ok (valSe ⟨0, 0, 0⟩) w) (hb : w.heap[b]? = some (.map es c0)) (h : MapO l es c0) (k : Int) :
    (Instr.lookup T (.map (some b)) (.int .i64 k) true).run P w = .ok (.tuple #[valSe ((seenGo k l).getD ⟨0, 0, 0⟩), .bool (seenGo k l).isSome]) w := by
  have hck := MapKept.run_checkKey (w := w) hk (k := .int .i64 k) rfl es.isEmpty 9999
  rcases h.find (w := w) hk k with ⟨h1, h2, _⟩ | ⟨j, s, h1, _, _, h2, _⟩
  · simp [Instr.lookup, run_underlying hT, MapKept.run_getObj_map hb, hck, h1, h2, hz, Result.andThen]
  · simp [Instr.lookup, run_underlying hT, MapKept.run_getObj_map hb, hck, h1, h2, Result.andThen]
theorem map_modify (f : MapEntry → MapEntry) {j : Nat} {e' : Value × Value} (hf : ∀ e : MapEntry, ((f e).key, (f e).val) = e') (l : List MapEntry) : (l.modify j f).map (fun e => (e.key, e.val)) = (l.map (fun e => (e.key, e.val))).set j e' := by
  induction l generalizing j with
  | nil => simp
  | cons a l ih =>
    cases j with
    | zero => simp [hf]
    | succ j => simp [ih]
theorem born_modify (f : MapEntry → MapEntry) {j : Nat} (hf : ∀ e : MapEntry, (f e).born = e.born) (l : List MapEntry) : (l.modify j f).map (·.born) = l.map (·.born) := by
  induction l generalizing j with
  | nil => simp
  | cons a l ih =>
    cases j with
    | zero => simp [hf]
    | succ j => simp [ih]
theorem run_update_se (hT : P.underlying T = some (.map K E)) (hk : P.underlying K = some (.int .i64)) (hb : w.heap[b]? = some (.map es c0)) (h : MapO l es c0) (s : Se) :
    ∃ es' c', (Instr.mapUpdate T (.map (some b)) (.int .i64 s.client) (valSe s)).run P w = .ok () (setBlock w b (.map es' c')) ∧ MapO (putSe l s) es' c' := by
  have hck := MapKept.run_checkKey (w := w) hk (k := .int .i64 s.client) rfl false 9999
  rcases h.find (w := w) hk s.client with ⟨h1, h2, h3⟩ | ⟨j, t, h1, h4, h5, h2, h3⟩
  · refine ⟨es.push ⟨.int .i64 s.client, valSe s, c0⟩, c0 + 1, ?_, ?_, ?_, ?_, h.one.put s⟩
    · simp [Instr.mapUpdate, run_underlying hT, MapKept.run_getObj_map hb, hck, h1, MapKept.run_setObj_map _ hb, Result.andThen, setBlock]
    · rw [Array.toList_push, List.map_append, h.ents, h3 s rfl, List.map_append]
      rfl
    · intro x hx
      rw [Array.toList_push] at hx
      rcases List.mem_append.1 hx with hx | hx
      · have := h.old x hx; omega
      · obtain rfl := List.mem_singleton.1 hx
        exact Nat.lt_succ_self _
    · rw [Array.toList_push, List.map_append, List.nodup_append]
      refine ⟨h.nd, by simp, fun a ha b hb e => ?_⟩
      obtain ⟨x, hx, rfl⟩ := List.mem_map.1 ha
      have := h.old x hx
      simp at hb
      omega
  · have hlt : j < es.size := by
      have h6 : j < l.length := (List.getElem?_eq_some_iff.1 h4).1
      have h7 := congrArg List.length h.ents
      simp at h7
      omega
    obtain ⟨u, hu, e1, e2⟩ := h.at_ (j := j) (e := es[j]) (by simp [hlt])
    obtain rfl : t = u := by rw [h4] at hu; injection hu
    have hst : (Instr.keyThatStays (.int .i64 t.client) (.int .i64 s.client)).run P w = .ok (.int .i64 s.client) w := by
      rw [h5]
      simp [Instr.keyThatStays, Instr.sameBits]
    refine ⟨es.modify j (fun e => { e with key := .int .i64 s.client, val := valSe s }), c0, ?_, ?_, ?_, ?_, h.one.put s⟩
    · have e3 : ((es[j]?).map (·.key)).getD (.int .i64 s.client) = .int .i64 t.client := by
        rw [Array.getElem?_eq_getElem hlt]
        exact e1
      simp [Instr.mapUpdate, run_underlying hT, MapKept.run_getObj_map hb, hck, h1, MapKept.run_setObj_map _ hb, Result.andThen, setBlock, e1, hlt, hst]
    · rw [Array.toList_modify, map_modify (e' := entSe s) _ (fun e => rfl), h.ents, h3 s rfl, List.map_set]
    · intro x hx
      have h8 : x.born ∈ (es.modify j (fun e => { e with key := .int .i64 s.client, val := valSe s })).toList.map (·.born) := List.mem_map.2 ⟨x, hx, rfl⟩
      rw [Array.toList_modify, born_modify (fun e => { e with key := .int .i64 s.client, val := valSe s }) (fun e => rfl)] at h8
      obtain ⟨y, hy, e⟩ := List.mem_map.1 h8
      rw [← e]
      exact h.old y hy
    · rw [Array.toList_modify, born_modify (fun e => { e with key := .int .i64 s.client, val := valSe s }) (fun e => rfl)]
      exact h.nd
variable {ops : Array Oper} {rest : List Oper} {o : Oper} {a : Act} {Q : Exit → Act → World → Prop}
theorem wpList_lookup_se (hg : o.guard = none) (m x : Operand) (T : TypeId) (hop : o.op = Op.lookup T m x true) (K E : TypeId) (hT : P.underlying T = some (.map K E)) (hk : P.underlying K = some (.int .i64)) (hz : ∀ w, (zeroValue E).run P w = .ok (valSe ⟨0, 0, 0⟩) w)
    (b : Nat) (hm : a.eval m = .map (some b)) (k : Int) (hx : a.eval x = .int .i64 k) (hb : w.heap[b]? = some (.map es c0)) (h : MapO l es c0)
    (hK : wpList P ops Q rest (a.put o.dst (.tuple #[valSe ((seenGo k l).getD ⟨0, 0, 0⟩), .bool (seenGo k l).isSome])) w) : wpList P ops Q (o :: rest) a w := by
  refine wpList_plain hg fun K' hK' => ?_
  have hrun := run_lookup_se hT hk hz hb h k
  unfold Oper.wp
  simp [execOp, hop, hm, hx, hrun, Result.andThen]
  exact hK' _ _ hK
theorem wpList_update_se (hg : o.guard = none) (m x v : Operand) (T : TypeId) (hop : o.op = Op.mapUpdate T m x v) (K E : TypeId) (hT : P.underlying T = some (.map K E)) (hk : P.underlying K = some (.int .i64))
    (b : Nat) (hm : a.eval m = .map (some b)) (s : Se) (hx : a.eval x = .int .i64 s.client) (hv : a.eval v = .agg #[.int .i64 s.client, .int .i64 s.seq, .int .i64 s.rev]) (hb : w.heap[b]? = some (.map es c0)) (h : MapO l es c0)
    (hK : ∀ es' c', MapO (putSe l s) es' c' → wpList P ops Q rest (a.put o.dst undef) (setBlock w b (.map es' c'))) : wpList P ops Q (o :: rest) a w := by
  refine wpList_plain hg fun K' hK' => ?_
  obtain ⟨es', c', hrun, h'⟩ := run_update_se hT hk hb h s
  unfold valSe at hrun
  unfold Oper.wp
  simp [execOp, hop, hm, hx, hv, hrun, Result.andThen]
  exact hK' _ _ (hK es' c' h')
theorem wpList_lookup_none (hg : o.guard = none) (m x : Operand) (T : TypeId) (hop : o.op = Op.lookup T m x true) (K E : TypeId) (hT : P.underlying T = some (.map K E)) (hk : P.underlying K = some (.int .i64)) (hz : ∀ w, (zeroValue E).run P w = .ok (valSe ⟨0, 0, 0⟩) w)
    (b : Nat) (hm : a.eval m = .map (some b)) (k : Int) (hx : a.eval x = .int .i64 k) (hb : w.heap[b]? = some (.map es c0)) (h : MapO l es c0) (hn : seenGo k l = none)
    (hK : wpList P ops Q rest (a.put o.dst (.tuple #[.agg #[.int .i64 0, .int .i64 0, .int .i64 0], .bool false])) w) : wpList P ops Q (o :: rest) a w :=
  wpList_lookup_se hg m x T hop K E hT hk hz b hm k hx hb h (by rw [hn]; exact hK)
theorem wpList_lookup_hit {s : Se} (hg : o.guard = none) (m x : Operand) (T : TypeId) (hop : o.op = Op.lookup T m x true) (K E : TypeId) (hT : P.underlying T = some (.map K E)) (hk : P.underlying K = some (.int .i64)) (hz : ∀ w, (zeroValue E).run P w = .ok (valSe ⟨0, 0, 0⟩) w)
    (b : Nat) (hm : a.eval m = .map (some b)) (k : Int) (hx : a.eval x = .int .i64 k) (hb : w.heap[b]? = some (.map es c0)) (h : MapO l es c0) (hn : seenGo k l = some s)
    (hK : wpList P ops Q rest (a.put o.dst (.tuple #[.agg #[.int .i64 s.client, .int .i64 s.seq, .int .i64 s.rev], .bool true])) w) : wpList P ops Q (o :: rest) a w :=
  wpList_lookup_se hg m x T hop K E hT hk hz b hm k hx hb h (by rw [hn]; exact hK)
/-- what a range over the map has given so far -/
def Seen_ (es : Array MapEntry) (seen : Array Nat) (c : List Se) : Prop := ∃ ds : List MapEntry, seen.toList = ds.map (·.born) ∧ (∀ e ∈ ds, e ∈ es.toList) ∧ ds.Nodup ∧ ds.map (fun e => (e.key, e.val)) = c.map entSe
theorem Seen_.nil (es : Array MapEntry) : Seen_ es #[] [] := ⟨[], rfl, by simp, by simp, rfl⟩
theorem born_one : ∀ {l : List MapEntry}, (l.map (·.born)).Nodup → ∀ {x y : MapEntry}, x ∈ l → y ∈ l → x.born = y.born → x = y
  | [], _, x, y, hx, _, _ => by simp at hx
  | a :: l, h, x, y, hx, hy, e => by
    rw [List.map_cons, List.nodup_cons] at h
    rcases List.mem_cons.1 hx with e1 | hx
    · rcases List.mem_cons.1 hy with e2 | hy
      · rw [e1, e2]
      · exact absurd (by rw [← e1, e]; exact List.mem_map.2 ⟨y, hy, rfl⟩) h.1
    · rcases List.mem_cons.1 hy with e2 | hy
      · exact absurd (by rw [← e2, ← e]; exact List.mem_map.2 ⟨x, hx, rfl⟩) h.1
      · exact born_one h.2 hx hy e
theorem Seen_.all {seen : Array Nat} {c : List Se} (h : Seen_ es seen c) (hm : MapO l es c0) (h0 : (leftOf es seen).size = 0) : c.Perm l := by
  obtain ⟨ds, d1, d2, d3, d4⟩ := h
  have hn : es.toList.Nodup := (List.pairwise_map.1 hm.nd).imp (fun h e => h (by rw [e]))
  have hp : ds.Perm es.toList := by
    rw [List.perm_ext_iff_of_nodup d3 hn]
    refine fun e => ⟨d2 e, fun he => ?_⟩
    have h1 := all_seen es seen h0 e he
    have h2 : e.born ∈ seen.toList := by simpa using h1
    rw [d1] at h2
    obtain ⟨d, hd, e1⟩ := List.mem_map.1 h2
    rw [← born_one hm.nd (d2 d hd) he e1]
    exact hd
  have h3 := (hp.map (fun e => (e.key, e.val))).map decSe
  rw [d4, hm.ents, List.map_map, List.map_map] at h3
  have h4 : (decSe ∘ entSe) = id := by funext s; exact dec_ent s
  rwa [h4, List.map_id, List.map_id] at h3
end
section
variable {w0 W : World} {L : List It}
theorem Ms.obj {g : Nat} {o o' : Obj} (h : Ms w0 (.bx g o :: L) W) : Ms w0 (.bx g o' :: L) (setBlock W g o') := by
  have hg := h.glt (i := 0) rfl
  have hset := MapKept.heap_set (o' := o') (show W.heap[g]? = some o from h.at_ (i := 0) rfl)
  refine h.turn (by simp [setBlock]) (fun q hq hn => hset.2 q (fun e => hn (by simp [It.bs]; exact e))) ⟨h.bl.os, h.bl.tape, h.bl.output, by simp [setBlock]; exact h.bl.size, fun q hq => (hset.2 q (by omega)).trans (h.bl.block q hq)⟩ hset.1 (by simp [It.bs]) (fun q hq => .inl hq)
theorem Ms.newO (h : Ms w0 L W) (o : Obj) : Ms w0 (.bx W.heap.size o :: L) (W.alloc o) :=
  h.cons (alloc_below W _) (heap_alloc_new W _) (by simp [It.bs]) (fun q hq => by simp [It.bs] at hq; omega)
end
end Go.Proofs.Ytgfbcpcfdlnbhab.low


/-
  Rows of clients sorted: the library's words of a sorted row in the words of Ms.
-/
namespace Go.Proofs.Ytgfbcpcfdlnbhab.low
open Go.RowKit Go.Sort
set_option linter.unusedVariables false

instance : Inhabited Se := ⟨⟨0, 0, 0⟩⟩
section
variable {w0 W : World} {L : List It}
end
end Go.Proofs.Ytgfbcpcfdlnbhab.low


/-
  Short words for a walk through a region that draws its order: an operation taken first, one that is passed over, one that alone may come up.
-/
namespace Go.Proofs.Ytgfbcpcfdlnbhab.low
open Go.RowKit
set_option linter.unusedVariables false
section
variable {P : Program} {ops : Array Oper} {Q : Exit → Act → World → Prop} {md : Region.Mode} {S : World → Prop} {fuel : Nat} {listed : Array Bool} {a : Act} {w : World}
theorem r1 (i : Nat) (d : Option Nat) {o : Op} {t : TypeId} {p : String} {af : Array Edge} {gd : Option (Nat × Bool)} (hi : ops[i]? = some ⟨d, o, t, p, af, gd⟩)
    (h : ∀ K' : Act → World → Prop, Shut (∀ a w, S w → (S w → wpAnyH P md ops Q S fuel (listed.setIfInBounds i true) a w) → K' a w) → if Region.wanted ⟨d, o, t, p, af, gd⟩ (yielded ops a.tmps) = true then Oper.wp P ⟨d, o, t, p, af, gd⟩ a w K' Q else K' (a.put d undef) w)
    (hr : Region.ready md ops listed = [i] := by kernel_rfl) : wpAnyH P md ops Q S (fuel + 1) listed a w := wpAnyH_ready hr (by simp) (AllReadyH.cons hi h AllReadyH.nil)
end
section
variable {w0 W : World} {L : List It}
def pk (L : List It) : List Nat → List It
  | [] => []
  | k :: ks => match L[k]? with | some x => x :: pk L ks | none => pk L ks
theorem pk_ok {L : List It} : ∀ {ks : List Nat}, (∀ k ∈ ks, k < L.length) → ks.map (fun k => L[k]?) = (pk L ks).map some
  | [], _ => rfl
  | k :: ks, h => by
    have hk := h k (by simp)
    rw [pk, List.getElem?_eq_getElem hk]
    simp only [List.map_cons, List.getElem?_eq_getElem hk]
    rw [pk_ok (fun q hq => h q (by simp [hq]))]
theorem Ms.pk (h : Ms w0 L W) (ks : List Nat) (hn : ks.Nodup) (hl : ∀ k ∈ ks, k < L.length) : Ms w0 (low.pk L ks) W := h.pick hn (pk_ok hl)
theorem Ms.c1 {g : Nat} {T : TypeId} {a : Value} (h : Ms w0 L W) (i : Nat) (hi : L[i]? = some (.bx g (.cells #[a] T (0, 0)))) : W.cell? ⟨g, 0, none⟩ = some a := h.cell (j := 0) hi rfl
theorem Ms.f1 {g : Nat} {T : TypeId} {a : Value} (h : Ms w0 L W) (i : Nat) (hi : L[i]? = some (.bx g (.cells #[a] T (0, 0)))) : W.frozen? ⟨g, 0, none⟩ = false := h.free (j := 0) hi
theorem Ms.c2 {g : Nat} {T : TypeId} {a b : Value} (h : Ms w0 L W) (i : Nat) (hi : L[i]? = some (.bx g (.cells #[a, b] T (0, 0)))) : W.cell? ⟨g, 0, none⟩ = some a ∧ W.cell? ⟨g, 1, none⟩ = some b := ⟨h.cell (j := 0) hi rfl, h.cell (j := 1) hi rfl⟩
theorem Ms.f2 {g : Nat} {T : TypeId} {a b : Value} (h : Ms w0 L W) (i : Nat) (hi : L[i]? = some (.bx g (.cells #[a, b] T (0, 0)))) : W.frozen? ⟨g, 0, none⟩ = false ∧ W.frozen? ⟨g, 1, none⟩ = false := ⟨h.free (j := 0) hi, h.free (j := 1) hi⟩
theorem Ms.c3 {g : Nat} {T : TypeId} {a b c : Value} (h : Ms w0 L W) (i : Nat) (hi : L[i]? = some (.bx g (.cells #[a, b, c] T (0, 0)))) : W.cell? ⟨g, 0, none⟩ = some a ∧ W.cell? ⟨g, 1, none⟩ = some b ∧ W.cell? ⟨g, 2, none⟩ = some c := ⟨h.cell (j := 0) hi rfl, h.cell (j := 1) hi rfl, h.cell (j := 2) hi rfl⟩
theorem Ms.f3 {g : Nat} {T : TypeId} {a b c : Value} (h : Ms w0 L W) (i : Nat) (hi : L[i]? = some (.bx g (.cells #[a, b, c] T (0, 0)))) : W.frozen? ⟨g, 0, none⟩ = false ∧ W.frozen? ⟨g, 1, none⟩ = false ∧ W.frozen? ⟨g, 2, none⟩ = false := ⟨h.free (j := 0) hi, h.free (j := 1) hi, h.free (j := 2) hi⟩
theorem Ms.c4 {g : Nat} {T : TypeId} {a b c d : Value} (h : Ms w0 L W) (i : Nat) (hi : L[i]? = some (.bx g (.cells #[a, b, c, d] T (0, 0)))) : W.cell? ⟨g, 0, none⟩ = some a ∧ W.cell? ⟨g, 1, none⟩ = some b ∧ W.cell? ⟨g, 2, none⟩ = some c ∧ W.cell? ⟨g, 3, none⟩ = some d := ⟨h.cell (j := 0) hi rfl, h.cell (j := 1) hi rfl, h.cell (j := 2) hi rfl, h.cell (j := 3) hi rfl⟩
theorem Ms.f4 {g : Nat} {T : TypeId} {a b c d : Value} (h : Ms w0 L W) (i : Nat) (hi : L[i]? = some (.bx g (.cells #[a, b, c, d] T (0, 0)))) : W.frozen? ⟨g, 0, none⟩ = false ∧ W.frozen? ⟨g, 1, none⟩ = false ∧ W.frozen? ⟨g, 2, none⟩ = false ∧ W.frozen? ⟨g, 3, none⟩ = false := ⟨h.free (j := 0) hi, h.free (j := 1) hi, h.free (j := 2) hi, h.free (j := 3) hi⟩
theorem Ms.c5 {g : Nat} {T : TypeId} {a b c d e : Value} (h : Ms w0 L W) (i : Nat) (hi : L[i]? = some (.bx g (.cells #[a, b, c, d, e] T (0, 0)))) : W.cell? ⟨g, 0, none⟩ = some a ∧ W.cell? ⟨g, 1, none⟩ = some b ∧ W.cell? ⟨g, 2, none⟩ = some c ∧ W.cell? ⟨g, 3, none⟩ = some d ∧ W.cell? ⟨g, 4, none⟩ = some e := ⟨h.cell (j := 0) hi rfl, h.cell (j := 1) hi rfl, h.cell (j := 2) hi rfl, h.cell (j := 3) hi rfl, h.cell (j := 4) hi rfl⟩
theorem Ms.f5 {g : Nat} {T : TypeId} {a b c d e : Value} (h : Ms w0 L W) (i : Nat) (hi : L[i]? = some (.bx g (.cells #[a, b, c, d, e] T (0, 0)))) : W.frozen? ⟨g, 0, none⟩ = false ∧ W.frozen? ⟨g, 1, none⟩ = false ∧ W.frozen? ⟨g, 2, none⟩ = false ∧ W.frozen? ⟨g, 3, none⟩ = false ∧ W.frozen? ⟨g, 4, none⟩ = false := ⟨h.free (j := 0) hi, h.free (j := 1) hi, h.free (j := 2) hi, h.free (j := 3) hi, h.free (j := 4) hi⟩
theorem Ms.c6 {g : Nat} {T : TypeId} {a b c d e f : Value} (h : Ms w0 L W) (i : Nat) (hi : L[i]? = some (.bx g (.cells #[a, b, c, d, e, f] T (0, 0)))) : W.cell? ⟨g, 0, none⟩ = some a ∧ W.cell? ⟨g, 1, none⟩ = some b ∧ W.cell? ⟨g, 2, none⟩ = some c ∧ W.cell? ⟨g, 3, none⟩ = some d ∧ W.cell? ⟨g, 4, none⟩ = some e ∧ W.cell? ⟨g, 5, none⟩ = some f := ⟨h.cell (j := 0) hi rfl, h.cell (j := 1) hi rfl, h.cell (j := 2) hi rfl, h.cell (j := 3) hi rfl, h.cell (j := 4) hi rfl, h.cell (j := 5) hi rfl⟩
/-- the world at hand gets a name -/
theorem Ms.name (h : Ms w0 L W) : ∃ W', W' = W ∧ Ms w0 L W' := ⟨W, rfl, h⟩
end
end Go.Proofs.Ytgfbcpcfdlnbhab.low


/-
  The loop of spec.Compose: its body, taken out of the translation; its invariant over the frame.
-/
namespace Go.Proofs.Ytgfbcpcfdlnbhab.low
open Go.RowKit
set_option linter.unusedVariables false

end Go.Proofs.Ytgfbcpcfdlnbhab.low


/-
  The loop of spec.Compose: the cases of a round, each a theorem over the frame; the round; the loop.
-/
namespace Go.Proofs.Ytgfbcpcfdlnbhab.low
open Go.RowKit
set_option linter.unusedVariables false

end Go.Proofs.Ytgfbcpcfdlnbhab.low


/-
  Contract of spec.Compose.
-/
namespace Go.Proofs.Ytgfbcpcfdlnbhab.low
open Go.RowKit
set_option linter.unusedVariables false

theorem heap_old (w : World) (o : Obj) {g : Nat} {x : Obj} (h : w.heap[g]? = some x) : (w.alloc o).heap[g]? = some x := by
  rw [Below.heap_alloc _ _ _ (lt_of_some h)]
  exact h
theorem cur_new {w : World} {g : Nat} {T : TypeId} {A : Option Addr} {c : Nat} {ps : List Pt} (h : w.heap[g]? = some (.cells #[.slice A ps.length c, .int .i64 0, .int .i64 0] T (0, 0))) : ∃ i d, Cur g T w A c ps i d ∧ rem ps i d = units ps ∧ Sett ps i d none :=
  ⟨0, 0, ⟨h, Nat.zero_le _, fun _ _ => Nat.zero_le _, fun _ => rfl⟩, by simp [rem], trivial⟩
/-- two cursors as they are made, at w.heap.size and behind it -/
theorem Cs.new {w w' : World} {A B : Option Addr} {ca cb lo : Nat} {a b : List Pt} {TC : TypeId} (hlo : lo ≤ w.heap.size) (ra : RdC w lo (encPs a) (.slice A a.length ca)) (rb : RdC w lo (encPs b) (.slice B b.length cb)) (sa : ∀ p ∈ a, szP_ p) (sb : ∀ p ∈ b, szP_ p) (na : a.length ≤ 1048576) (nb : b.length ≤ 1048576)
    (hx : w'.heap[w.heap.size]? = some (.cells #[.slice A a.length ca, .int .i64 0, .int .i64 0] TC (0, 0))) (hy : w'.heap[w.heap.size + 1]? = some (.cells #[.slice B b.length cb, .int .i64 0, .int .i64 0] TC (0, 0))) (hb : Below lo w w') : Cs ⟨lo, w.heap.size, w.heap.size + 1, TC, A, ca, a, B, cb, b⟩ w' none none (units a) (units b) :=
  ⟨cur_new hx, cur_new hy, ra.below hb, rb.below hb, by simp, hlo, Nat.le_succ_of_le hlo, sa, sb, na, nb⟩

theorem CB.new {w : World} {A B : Option Addr} {ca cb lo : Nat} {a b : List Pt} {TC TB : TypeId} (hlo : lo ≤ w.heap.size) (ra : RdC w lo (encPs a) (.slice A a.length ca)) (rb : RdC w lo (encPs b) (.slice B b.length cb)) (sa : ∀ p ∈ a, szP_ p) (sb : ∀ p ∈ b, szP_ p) (na : a.length ≤ 1048576) (nb : b.length ≤ 1048576) :
    CB ⟨lo, w.heap.size, w.heap.size + 1, TC, A, ca, a, B, cb, b⟩ (w.heap.size + 1 + 1) TB (fun q => q = w.heap.size + 1 + 1) [] (((w.alloc (.cells #[.slice A a.length ca, .int .i64 0, .int .i64 0] TC)).alloc (.cells #[.slice B b.length cb, .int .i64 0, .int .i64 0] TC)).alloc (.cells #[.slice none 0 0, .slice none 0 0, .int .i64 0] TB)) none none (units a) (units b) ∧
    Below lo w (((w.alloc (.cells #[.slice A a.length ca, .int .i64 0, .int .i64 0] TC)).alloc (.cells #[.slice B b.length cb, .int .i64 0, .int .i64 0] TC)).alloc (.cells #[.slice none 0 0, .slice none 0 0, .int .i64 0] TB)) := by
  have s1 : (w.alloc (.cells #[.slice A a.length ca, .int .i64 0, .int .i64 0] TC)).heap.size = w.heap.size + 1 := Array.size_push ..
  have s2 : ((w.alloc (.cells #[.slice A a.length ca, .int .i64 0, .int .i64 0] TC)).alloc (.cells #[.slice B b.length cb, .int .i64 0, .int .i64 0] TC)).heap.size = w.heap.size + 1 + 1 := by rw [← s1]; exact Array.size_push ..
  have b1 := (((alloc_below w (.cells #[.slice A a.length ca, .int .i64 0, .int .i64 0] TC)).mono hlo).alloc (by rw [s1]; omega) (.cells #[.slice B b.length cb, .int .i64 0, .int .i64 0] TC)).alloc (by rw [s2]; omega) (.cells #[.slice none 0 0, .slice none 0 0, .int .i64 0] TB)
  have hb := Bld.new lo TB ((w.alloc (.cells #[.slice A a.length ca, .int .i64 0, .int .i64 0] TC)).alloc (.cells #[.slice B b.length cb, .int .i64 0, .int .i64 0] TC)) (by rw [s2]; omega)
  rw [s2] at hb
  exact ⟨⟨Cs.new hlo ra rb sa sb na nb (heap_old _ _ (heap_old _ _ (heap_alloc_new w _))) (heap_old _ _ (by rw [← s1]; exact heap_alloc_new _ _)) b1, hb, by show ¬ w.heap.size = _; omega, by show ¬ w.heap.size + 1 = _; omega⟩, b1⟩
end Go.Proofs.Ytgfbcpcfdlnbhab.low


/-
  Composing several operations, and counting parts: the functions on lists, and the contracts of spec.ComposeAll and spec.PartCount.
-/
namespace Go.Proofs.Ytgfbcpcfdlnbhab.low
open Go.RowKit
set_option linter.unusedVariables false

end Go.Proofs.Ytgfbcpcfdlnbhab.low


/-
  The algebra of operations: what is made of units is valid and normal; applying, composing, inverting and transforming valid operations, in the words of the contracts.
-/
namespace Go.Proofs.Ytgfbcpcfdlnbhab.low
open Go.RowKit
set_option linter.unusedVariables false

end Go.Proofs.Ytgfbcpcfdlnbhab.low


/-
  A valid document is small: bounds read off its validity.
-/
namespace Go.Proofs.Ytgfbcpcfdlnbhab.low
open Go.RowKit
set_option linter.unusedVariables false

structure DocIn (x : Do) : Prop where
  name : x.name.size ≤ 8
  from0 : 0 ≤ x.from_
  from1 : x.from_ ≤ 999999000
  text : x.text.length ≤ 200
  list : x.list.length ≤ 8
  ops : sumN totEn x.list ≤ 6400
  seen : x.seen.length ≤ 8
  head : headRevT x = x.from_ + (x.list.length : Int)
end Go.Proofs.Ytgfbcpcfdlnbhab.low


/-
  Contracts of spec.l08Entry, l08Entries, l08Copy and Forget, in the words of Ms. Written by mkdoc8.py.
-/
namespace Go.Proofs.Ytgfbcpcfdlnbhab.low
open Go.RowKit
set_option linter.unusedVariables false

end Go.Proofs.Ytgfbcpcfdlnbhab.low

/-
  No contract of the library is wanted here.
-/
namespace Go.Proofs
end Go.Proofs


/-
  Contracts of impl.requestsOf and of a map's rows in order. Written by mkimp8.py.
-/
namespace Go.Proofs.Ytgfbcpcfdlnbhab.low
open Go.RowKit Go.Sort
set_option linter.unusedVariables false

theorem rqT : Try.prog.underlying 50 = some (.map 3 29) := by kernel_rfl
theorem rqK : Try.prog.underlying 3 = some (.int .i64) := by kernel_rfl
theorem rqZ (w : World) : (zeroValue 29).run Try.prog w = .ok (valSe ⟨0, 0, 0⟩) w := by kernel_rfl
/-- a map of one's own -/
def MapPost (l : List Se) (w : World) (e : Ending) (w' : World) : Prop := ∃ (g : Nat) (es : Array MapEntry) (c0 : Nat), e = .returned (.map (some g)) ∧ MapO l es c0 ∧ w'.heap[g]? = some (.map es c0) ∧ w.heap.size ≤ g ∧ Below w.heap.size w w'
set_option maxRecDepth 100000 in
set_option maxHeartbeats 3200000 in
theorem implRequestsOf_d (v : Value) (l : List Se) (w : World) (h : RdC w w.heap.size (encSes l) v) (hs : SmSes l) : Calls Try.prog 22 #[v] w (MapPost (dedSe l) w) := by
  obtain ⟨A, c, rfl⟩ := sliceSes h
  have hl := hs.len
  have HR := Lib.hid h
  clear h
  have HM := Lib.hid (Ms.start w)
  replace HM := Lib.hid (show Ms w [.bx w.heap.size (.map #[] 0)] (w.alloc (.map #[] 0)) from HM.out.newO _)
  have hmm := @run_makeMap Try.prog
  go_enter Try.func22, Try.ntmps22
  go_wp2
  clear hmm
  go_loopw [11] (fun i wr => ∃ (j : Nat) (es : Array MapEntry) (c0 : Nat), j ≤ l.length ∧ i = .int .i64 (j : Int) ∧ MapO (dedSe (l.take j)) es c0 ∧ Ms w [.bx w.heap.size (.map es c0)] wr) (fun i _ => l.length - (intOf i).toNat)
  case atStart => exact ⟨0, _, _, Nat.zero_le _, rfl, MapO.new, HM.out⟩
  case round =>
    obtain ⟨j, es, c0, hj, rfl, hm0, hm⟩ := hrel
    clear HM
    have HM := Lib.hid hm
    have HO := Lib.hid hm0
    clear hm hm0
    by_cases hlt : j < l.length
    · obtain ⟨b, off, s, rfl, hbb, hp, y0, y1, y2⟩ := atSes HR.out hlt
      have x0 := (HM.out.bl.cell (p := ⟨b, off + j * 3, none⟩) hbb).trans y0
      have x1 := (HM.out.bl.cell (p := ⟨b, off + j * 3 + 1, none⟩) hbb).trans y1
      have x2 := (HM.out.bl.cell (p := ⟨b, off + j * 3 + 2, none⟩) hbb).trans y2
      clear y0 y1 y2
      have HD := Lib.hid (ded_snoc hp)
      clear hp
      replace HM := Lib.hid (HM.out.new #[.int .i64 s.client, .int .i64 s.seq, .int .i64 s.rev] 29)
      cases hg : seenGo s.client (dedSe (l.take j)) with
      | none =>
        have HG := Lib.hid hg
        clear hg
        have HM1 := HM
        have hm := HM.out.new #[.int .i64 0, .int .i64 0, .int .i64 0] 29
        simp only [World.size_alloc] at hm
        replace HM := Lib.hid hm
        clear hm
        have HD2 := Lib.hid (show dedSe (l.take (j + 1)) = putSe (dedSe (l.take j)) s by rw [HD.out]; unfold firstSe; rw [HG.out]; rfl)
        go_wp2_with (first | (at_lookup; refine wpList_lookup_none rfl (.tmp 16) (.tmp 18) 50 rfl 3 29 rqT rqK rqZ w.heap.size rfl s.client rfl (HM1.out.at_ (i := 1) rfl) HO.out HG.out ?_) | (at_mapUpdate; refine wpList_update_se rfl (.tmp 24) (.tmp 26) (.tmp 27) 50 rfl 3 29 rqT rqK w.heap.size rfl s rfl rfl (HM.out.at_ (i := 2) rfl) HO.out ?_; intro es' c' hm1))
        clear HM1
        have hm := HM.out.pk [2, 0, 1] (by decide) (by simp)
        simp only [low.pk, List.getElem?_cons_zero, List.getElem?_cons_succ] at hm
        replace HM := Lib.hid hm
        clear hm
        have hm := HM.out.obj (o' := .map es' c')
        go_roundw
        case rel => exact ⟨j + 1, es', c', by omega, by go_num, by rw [HD2.out]; exact hm1, hm.pick (ks := [0]) (by decide) rfl⟩
        case measure => simp [intOf]; omega
      | some u =>
        have HG := Lib.hid hg
        clear hg
        have HM1 := HM
        have hm := HM.out.new #[.int .i64 u.client, .int .i64 u.seq, .int .i64 u.rev] 29
        simp only [World.size_alloc] at hm
        replace HM := Lib.hid hm
        clear hm
        have HD2 := Lib.hid (show dedSe (l.take (j + 1)) = dedSe (l.take j) by rw [HD.out]; unfold firstSe; rw [HG.out]; rfl)
        go_wp2_with (at_lookup; refine wpList_lookup_hit rfl (.tmp 16) (.tmp 18) 50 rfl 3 29 rqT rqK rqZ w.heap.size rfl s.client rfl (HM1.out.at_ (i := 1) rfl) HO.out HG.out ?_)
        clear HM1
        go_roundw
        case rel => exact ⟨j + 1, es, c0, by omega, by go_num, by rw [HD2.out]; exact HO.out, HM.out.pick (ks := [2]) (by decide) rfl⟩
        case measure => simp [intOf]; omega
    · obtain rfl : j = l.length := by omega
      have hm0 := HO.out
      rw [List.take_length] at hm0
      have HO2 := Lib.hid hm0
      clear hm0 HO
      go_wp2
      go_ret
      exact ⟨_, es, c0, rfl, HO2.out, HM.out.at_ (i := 0) rfl, Nat.le_refl _, HM.out.bl⟩
end Go.Proofs.Ytgfbcpcfdlnbhab.low


/-
  What the program asks of a document is what the specification asks.
-/
namespace Go.Proofs.Ytgfbcpcfdlnbhab.low
open Go.RowKit
set_option linter.unusedVariables false

theorem seSame_eq {a b : Se} : seSameB a b = true ↔ a = b := by
  obtain ⟨a1, a2, a3⟩ := a
  obtain ⟨b1, b2, b3⟩ := b
  simp [seSameB, and_assoc]
end Go.Proofs.Ytgfbcpcfdlnbhab.low


/-
  A slice cloned, its rows then made the caller's own one by one: the first rows are owned, the cells behind them are known.
-/
namespace Go.Proofs.Ytgfbcpcfdlnbhab.low
open Go.RowKit
set_option linter.unusedVariables false

/-- the cells from k on are those of the list -/
def Raw (W : World) (g k : Nat) (raw : List Value) : Prop := ∃ cur T, W.heap[g]? = some (.cells cur T (0, 0)) ∧ ∀ t u, k ≤ t → raw[t]? = some u → cur[t]? = some u
theorem Raw.cell {W : World} {g k t : Nat} {raw : List Value} {u : Value} (h : Raw W g k raw) (hk : k ≤ t) (hu : raw[t]? = some u) : W.cell? ⟨g, t, none⟩ = some u := by
  obtain ⟨cur, T, hh, hc⟩ := h
  exact bxcell hh (hc t u hk hu)
theorem Raw.free {W : World} {g k t : Nat} {raw : List Value} (h : Raw W g k raw) : W.frozen? ⟨g, t, none⟩ = false := by
  obtain ⟨cur, T, hh, hc⟩ := h
  exact bxfree hh
theorem Raw.keep {W W' : World} {g k : Nat} {raw : List Value} (h : Raw W g k raw) (hk : W'.heap[g]? = W.heap[g]?) : Raw W' g k raw := by
  obtain ⟨cur, T, hh, hc⟩ := h
  exact ⟨cur, T, hk.trans hh, hc⟩
theorem Raw.lt {W : World} {g k : Nat} {raw : List Value} (h : Raw W g k raw) : g < W.heap.size := by
  obtain ⟨cur, T, hh, hc⟩ := h
  exact lt_of_some hh
theorem Raw.past {W W' : World} {g k : Nat} {raw : List Value} (h : Raw W g k raw) (hb : Below W.heap.size W W') : Raw W' g k raw := h.keep (hb.block g h.lt)
theorem Raw.set {W : World} {g k k' : Nat} {raw : List Value} (h : Raw W g k raw) (o : Nat) (u : Value) (h1 : k ≤ k') (h2 : o < k') : Raw (W.setCell ⟨g, o, none⟩ u) g k' raw := by
  obtain ⟨cur, T, hh, hc⟩ := h
  refine ⟨_, T, bxset (j := o) hh u, fun t v ht hv => ?_⟩
  rw [Array.getElem?_setIfInBounds_ne (by omega)]
  exact hc t v (by omega) hv
section
variable {w0 W : World} {L : List It}
end
/-- a value without parts fills one cell -/
def Dat.one : Dat → Bool
  | .agg _ => false
  | _ => true
section
variable {w0 W : World} {L : List It}
end
end Go.Proofs.Ytgfbcpcfdlnbhab.low


/-
  Contracts of impl.seenOk, entriesOk, copyOp and opsOf. Written by mkimp8b.py.
-/
namespace Go.Proofs.Ytgfbcpcfdlnbhab.low
open Go.RowKit
set_option linter.unusedVariables false

theorem seens_len : ∀ {l m : List Se}, ¬ l.length = m.length → seensB l m = false
  | [], [], h => absurd rfl h
  | [], _ :: _, _ => rfl
  | _ :: _, [], _ => rfl
  | a :: l, b :: m, h => by
    rw [seensB, seens_len (l := l) (m := m) (by simpa using h), Bool.and_false]
set_option maxRecDepth 100000 in
set_option maxHeartbeats 3200000 in
theorem equalSe_d (v v' : Value) (l m : List Se) (w : World) (h : RdC w w.heap.size (encSes l) v) (h' : RdC w w.heap.size (encSes m) v') (hl : l.length ≤ 1048576) (hm : m.length ≤ 1048577) : Calls Try.prog 31 #[v, v'] w (Tells (seensB l m) w) := by
  obtain ⟨A, c, rfl⟩ := sliceSes h
  obtain ⟨A', c', rfl⟩ := sliceSes h'
  have HR := Lib.hid h
  have HR' := Lib.hid h'
  clear h h'
  by_cases hlen : l.length = m.length
  · have gl : (((l.length : Int)) != (m.length : Int)) = false := by simp [hlen]
    have HL := Lib.hid hlen
    clear hlen
    go_enter Try.func31, Try.ntmps31
    go_wp2
    go_loopw [13] (fun i wr => ∃ j : Nat, j ≤ l.length ∧ i = .int .i64 (j : Int) ∧ seensB l m = seensB (l.drop j) (m.drop j) ∧ Below w.heap.size w wr) (fun i _ => l.length - (intOf i).toNat)
    case atStart => exact ⟨0, Nat.zero_le _, rfl, by simp, Below.refl _ _⟩
    case round =>
      obtain ⟨j, hj, rfl, hi, hbel⟩ := hrel
      have HI := Lib.hid hi
      clear hi
      by_cases hlt : j < l.length
      · have hlt2 : j < m.length := by have := HL.out; omega
        obtain ⟨b, off, s, rfl, hbb, hp, x0, x1, x2⟩ := atSes (HR.out.below hbel) hlt
        obtain ⟨b', off', u, rfl, hbb', hp', y0, y1, y2⟩ := atSes (HR'.out.below hbel) hlt2
        have HS := Lib.hid (seensB_step hp hp')
        clear hp hp'
        by_cases h1 : s = u
        · subst h1
          have HS2 := Lib.hid (show seensB l m = seensB (l.drop (j + 1)) (m.drop (j + 1)) by rw [HI.out, HS.out, seSame_eq.2 rfl, Bool.true_and])
          go_wp2
          go_quiet (fail)
          go_wp2
          go_roundw
          case rel => exact ⟨j + 1, by omega, by go_num, HS2.out, hbel.trans ⟨rfl, rfl, rfl, Nat.le_refl _, fun _ _ => rfl⟩⟩
          case measure => simp [intOf]; omega
        · have HS2 := Lib.hid (show seensB l m = false by rw [HI.out, HS.out, Bool.eq_false_iff.2 (fun e => h1 (seSame_eq.1 e)), Bool.false_and])
          have h2 : ((s.client == u.client) && ((s.seq == u.seq) && (s.rev == u.rev))) = false := by rw [Bool.eq_false_iff]; intro e; simp at e; obtain ⟨s1, s2, s3⟩ := s; obtain ⟨u1, u2, u3⟩ := u; simp at e; obtain ⟨rfl, rfl, rfl⟩ := e; exact h1 rfl
          clear h1
          cases q1 : s.client == u.client
          · clear h2
            go_wp2
            go_quiet (fail)
            go_wp2
            go_ret
            exact ⟨ret_b HS2.out.symm, hbel.trans ⟨rfl, rfl, rfl, Nat.le_refl _, fun _ _ => rfl⟩⟩
          cases q2 : s.seq == u.seq
          · clear h2
            go_wp2
            go_quiet (fail)
            go_wp2
            go_ret
            exact ⟨ret_b HS2.out.symm, hbel.trans ⟨rfl, rfl, rfl, Nat.le_refl _, fun _ _ => rfl⟩⟩
          have q3 : (s.rev == u.rev) = false := by simpa [q1, q2] using h2
          clear h2
          go_wp2
          go_quiet (fail)
          go_wp2
          go_ret
          exact ⟨ret_b HS2.out.symm, hbel.trans ⟨rfl, rfl, rfl, Nat.le_refl _, fun _ _ => rfl⟩⟩
      · have h9 : l.drop j = [] := List.drop_eq_nil_of_le (by omega)
        have h8 : m.drop j = [] := List.drop_eq_nil_of_le (by have := HL.out; omega)
        have HS2 := Lib.hid (show seensB l m = true by rw [HI.out, h9, h8]; rfl)
        clear h9 h8
        go_wp2
        go_ret
        exact ⟨ret_b HS2.out.symm, hbel⟩
  · have gl : (((l.length : Int)) != (m.length : Int)) = true := by simp; omega
    have HS2 := Lib.hid (seens_len hlen)
    clear hlen
    go_enter Try.func31, Try.ntmps31
    go_wp2
    go_ret
    exact ⟨ret_b HS2.out.symm, Below.refl _ _⟩
end Go.Proofs.Ytgfbcpcfdlnbhab.low


/-
  Contracts of impl.SeenOf and DocSame. Written by mkimp8e.py.
-/
namespace Go.Proofs.Ytgfbcpcfdlnbhab.low
open Go.RowKit
set_option linter.unusedVariables false

theorem entriesB_len : ∀ {l m : List En}, ¬ l.length = m.length → entriesB l m = false
  | [], [], h => absurd rfl h
  | [], _ :: _, _ => rfl
  | _ :: _, [], _ => rfl
  | a :: l, b :: m, h => by
    rw [entriesB, entriesB_len (l := l) (m := m) (by simpa using h), Bool.and_false]
theorem docSame_eq (x y : Do) : docSameB x y = ((x.name.toList == y.name.toList) && decide (x.from_ = y.from_) && sameB x.text y.text && entriesB x.list y.list && seensB x.seen y.seen) := by
  unfold docSameB
  by_cases h1 : x.list.length = y.list.length
  · by_cases h2 : x.seen.length = y.seen.length
    · rw [decide_eq_true h1, decide_eq_true h2, Bool.and_true, Bool.and_true]
    · rw [seens_len h2, Bool.and_false, Bool.and_false]
  · rw [entriesB_len h1, Bool.and_false, Bool.and_false, Bool.false_and]
set_option maxRecDepth 100000 in
set_option maxHeartbeats 3200000 in
theorem implSeenOf_d (v : Value) (x : Do) (r : Int) (w : World) (h : RdC w w.heap.size (datDo x) v) (hs : SmDo x) : Calls Try.prog 9 #[v, .int .i64 r] w (ResB (datSe (seenOfT x r)) (seenOfB x r) w) := by
  have HR := Lib.hid h
  obtain ⟨A2, c2, A3, c3, A4, c4, rfl, -, -, r4⟩ := aggDo h
  have R4 := Lib.hid r4
  clear h r4
  have HM := Lib.hid (Ms.start w)
  replace HM := Lib.hid (HM.out.new #[.string x.name, .int .i64 x.from_, .slice A2 x.text.length c2, .slice A3 x.list.length c3, .slice A4 x.seen.length c4] 35)
  have hm := HM.out.new #[.int .i64 0, .int .i64 0, .int .i64 0] 29
  simp only [World.size_alloc] at hm
  replace HM := Lib.hid hm
  clear hm
  go_enter Try.func9, Try.ntmps9
  go_wp2_with fail
  obtain ⟨W1, hW, hm⟩ := HM.out.name
  rw [← hW]
  replace HM := Lib.hid hm
  clear hm hW
  refine (implRequestsOf_d _ x.seen _ (HM.out.arg R4.out) hs.seen).mono ?_
  rintro e' W2 ⟨g, es, c0, rfl, ho, hb, hg, b'⟩
  have HO := Lib.hid ho
  have HB := Lib.hid hb
  clear ho hb hg
  replace HM := Lib.hid (HM.out.past b')
  clear b'
  have zr : w.heap.size + 1 < W2.heap.size := (HM.out.glt (i := 0) rfl).2
  have zr2 : ¬ w.heap.size + 1 = W2.heap.size := by omega
  cases hg2 : seenGo r (dedSe x.seen) with
  | none =>
    have HG := Lib.hid hg2
    clear hg2
    obtain ⟨kr0, kr1, kr2⟩ := HM.out.c3 0 rfl
    obtain ⟨fr0, fr1, fr2⟩ := HM.out.f3 0 rfl
    have HN := Lib.hid (show seenOfB x r = false ∧ seenOfT x r = ⟨0, 0, 0⟩ by have h9 := HG.out; rw [seenGo_ded] at h9; unfold seenOfB seenOfT; rw [h9]; exact ⟨rfl, rfl⟩)
    go_wp2_with (at_lookup; refine wpList_lookup_none rfl (.tmp 11) (.tmp 12) 50 rfl 3 29 rqT rqK rqZ g rfl r rfl HB.out HO.out HG.out ?_)
    clear kr0 kr1 kr2 fr0 fr1 fr2
    have hm := HM.out.putRow (ys := [.int .i64 0, .int .i64 0, .int .i64 0]) rfl
    simp only [low.putRow, Nat.zero_add, Nat.reduceAdd] at hm
    replace HM := Lib.hid hm
    clear hm
    replace HM := Lib.hid (HM.out.past (alloc_below _ (.cells #[.int .i64 0, .int .i64 0, .int .i64 0] 29)))
    obtain ⟨W3, hW, hm⟩ := HM.out.name
    rw [← hW]
    replace HM := Lib.hid hm
    clear hm hW
    obtain ⟨kr0, kr1, kr2⟩ := HM.out.c3 0 rfl
    rw [HN.out.1, HN.out.2]
    exact bodyPost_ret (v := .tuple #[.agg #[.int .i64 0, .int .i64 0, .int .i64 0], .bool false]) (by simp [results, Try.results9, go_sem, kr0, kr1, kr2]) rfl ⟨_, rfl, own_se ⟨0, 0, 0⟩ HM.out.size, HM.out.bl⟩
  | some u =>
    have HG := Lib.hid hg2
    clear hg2
    obtain ⟨kr0, kr1, kr2⟩ := HM.out.c3 0 rfl
    obtain ⟨fr0, fr1, fr2⟩ := HM.out.f3 0 rfl
    have HN := Lib.hid (show seenOfB x r = true ∧ seenOfT x r = u by have h9 := HG.out; rw [seenGo_ded] at h9; unfold seenOfB seenOfT; rw [h9]; exact ⟨rfl, rfl⟩)
    go_wp2_with (at_lookup; refine wpList_lookup_hit rfl (.tmp 11) (.tmp 12) 50 rfl 3 29 rqT rqK rqZ g rfl r rfl HB.out HO.out HG.out ?_)
    clear kr0 kr1 kr2 fr0 fr1 fr2
    have hm := HM.out.putRow (ys := [.int .i64 u.client, .int .i64 u.seq, .int .i64 u.rev]) rfl
    simp only [low.putRow, Nat.zero_add, Nat.reduceAdd] at hm
    replace HM := Lib.hid hm
    clear hm
    replace HM := Lib.hid (HM.out.past (alloc_below _ (.cells #[.int .i64 u.client, .int .i64 u.seq, .int .i64 u.rev] 29)))
    obtain ⟨W4, hW, hm⟩ := HM.out.name
    rw [← hW]
    replace HM := Lib.hid hm
    clear hm hW
    obtain ⟨kr0, kr1, kr2⟩ := HM.out.c3 0 rfl
    rw [HN.out.1, HN.out.2]
    exact bodyPost_ret (v := .tuple #[.agg #[.int .i64 u.client, .int .i64 u.seq, .int .i64 u.rev], .bool true]) (by simp [results, Try.results9, go_sem, kr0, kr1, kr2]) rfl ⟨_, rfl, own_se u HM.out.size, HM.out.bl⟩
set_option maxRecDepth 100000 in
set_option maxHeartbeats 3200000 in
theorem equalEn_d (v v' : Value) (l m : List En) (w : World) (h : RdC w w.heap.size (encEns l) v) (h' : RdC w w.heap.size (encEns m) v') (hs : SmEns l) (hs' : SmEns m) : Calls Try.prog 29 #[v, v', .func (.func 30) #[] #[]] w (Tells (entriesB l m) w) := by
  obtain ⟨A, c, rfl⟩ := sliceEns h
  obtain ⟨A', c', rfl⟩ := sliceEns h'
  have hl := hs.len
  have hl2 := hs'.len
  have HR := Lib.hid h
  have HR' := Lib.hid h'
  clear h h'
  by_cases hlen : l.length = m.length
  · have HM := Lib.hid (Ms.start w)
    have gl : (((l.length : Int)) != (m.length : Int)) = false := by simp [hlen]
    have HL := Lib.hid hlen
    clear hlen
    go_enter Try.func29, Try.ntmps29
    go_wp2
    go_loopw [17] (fun i wr => ∃ j : Nat, j ≤ l.length ∧ i = .int .i64 (j : Int) ∧ entriesB l m = entriesB (l.drop j) (m.drop j) ∧ Ms w [] wr) (fun i _ => l.length - (intOf i).toNat)
    case atStart => exact ⟨0, Nat.zero_le _, rfl, by simp, HM.out⟩
    case round =>
      obtain ⟨j, hj, rfl, hi, hm⟩ := hrel
      clear HM
      have HM := Lib.hid hm
      have HI := Lib.hid hi
      clear hm hi
      by_cases hlt : j < l.length
      · have hlt2 : j < m.length := by have := HL.out; omega
        obtain ⟨b, off, e, A5, c5, rfl, hbb, hp, y0, y1, y2, q2⟩ := atEns HR.out hlt
        obtain ⟨b', off', u, A6, c6, rfl, hbb', hp', z0, z1, z2, q3⟩ := atEns HR'.out hlt2
        have x0 := (HM.out.bl.cell (p := ⟨b, off + j * 3, none⟩) hbb).trans y0
        have t0 := (HM.out.bl.cell (p := ⟨b', off' + j * 3, none⟩) hbb').trans z0
        have x1 := (HM.out.bl.cell (p := ⟨b, off + j * 3 + 1, none⟩) hbb).trans y1
        have t1 := (HM.out.bl.cell (p := ⟨b', off' + j * 3 + 1, none⟩) hbb').trans z1
        have x2 := (HM.out.bl.cell (p := ⟨b, off + j * 3 + 2, none⟩) hbb).trans y2
        have t2 := (HM.out.bl.cell (p := ⟨b', off' + j * 3 + 2, none⟩) hbb').trans z2
        have hbw : b < wr.heap.size := Nat.lt_of_lt_of_le hbb HM.out.size
        have hbw' : b' < wr.heap.size := Nat.lt_of_lt_of_le hbb' HM.out.size
        have u0 : (wr.alloc (.cells #[.int .i64 e.client, .int .i64 e.seq, .slice A5 e.o.length c5] 57)).cell? ⟨b', off' + j * 3, none⟩ = some (.int .i64 u.client) := ((alloc_below wr _).cell (p := ⟨b', off' + j * 3, none⟩) hbw').trans t0
        have u1 : (wr.alloc (.cells #[.int .i64 e.client, .int .i64 e.seq, .slice A5 e.o.length c5] 57)).cell? ⟨b', off' + j * 3 + 1, none⟩ = some (.int .i64 u.seq) := ((alloc_below wr _).cell (p := ⟨b', off' + j * 3 + 1, none⟩) hbw').trans t1
        have u2 : (wr.alloc (.cells #[.int .i64 e.client, .int .i64 e.seq, .slice A5 e.o.length c5] 57)).cell? ⟨b', off' + j * 3 + 2, none⟩ = some (.slice A6 u.o.length c6) := ((alloc_below wr _).cell (p := ⟨b', off' + j * 3 + 2, none⟩) hbw').trans t2
        clear y0 y1 y2 z0 z1 z2 t0 t1 t2
        have hse := hs.at_ (List.mem_of_getElem? hp)
        have hsu := hs'.at_ (List.mem_of_getElem? hp')
        have HS := Lib.hid (entriesB_step hp hp')
        have Q2 := Lib.hid q2
        have Q3 := Lib.hid q3
        clear hp hp' q2 q3
        replace HM := Lib.hid (HM.out.new #[.int .i64 e.client, .int .i64 e.seq, .slice A5 e.o.length c5] 57)
        have hm := HM.out.new #[.int .i64 u.client, .int .i64 u.seq, .slice A6 u.o.length c6] 57
        simp only [World.size_alloc] at hm
        replace HM := Lib.hid hm
        clear hm
        go_wp2_with fail
        obtain ⟨W1, hW, hm⟩ := HM.out.name
        rw [← hW]
        replace HM := Lib.hid hm
        clear hm hW
        refine (implEntrySame_d _ _ e u _ (rdEn e (HM.out.arg Q2.out)) (rdEn u (HM.out.arg Q3.out)) hse hsu).mono ?_
        rintro e' W2 ⟨rfl, b'⟩
        replace HM := Lib.hid (HM.out.past b')
        clear b'
        clear x0 x1 x2 u0 u1 u2 hbw hbw'
        cases h1 : entrySameB e u
        · have HE := Lib.hid (show entriesB l m = false by rw [HI.out, HS.out, h1, Bool.false_and])
          go_wp2
          go_ret
          exact ⟨ret_b HE.out.symm, HM.out.bl⟩
        have HE := Lib.hid (show entriesB l m = entriesB (l.drop (j + 1)) (m.drop (j + 1)) by rw [HI.out, HS.out, h1, Bool.true_and])
        go_wp2
        go_roundw
        case rel => exact ⟨j + 1, by omega, by go_num, HE.out, HM.out.pick (ks := []) (by decide) rfl⟩
        case measure => simp [intOf]; omega
      · have h9 : l.drop j = [] := List.drop_eq_nil_of_le (by omega)
        have h8 : m.drop j = [] := List.drop_eq_nil_of_le (by have := HL.out; omega)
        have HE := Lib.hid (show entriesB l m = true by rw [HI.out, h9, h8]; rfl)
        clear h9 h8
        go_wp2
        go_ret
        exact ⟨ret_b HE.out.symm, HM.out.bl⟩
  · have gl : (((l.length : Int)) != (m.length : Int)) = true := by simp; omega
    have HS2 := Lib.hid (entriesB_len hlen)
    clear hlen
    go_enter Try.func29, Try.ntmps29
    go_wp2
    go_ret
    exact ⟨ret_b HS2.out.symm, Below.refl _ _⟩
theorem implSignsSame_r (v v' : Value) (t t' : List Int) (w : World) (h : RdC w w.heap.size (encInts t) v) (h' : RdC w w.heap.size (encInts t') v') (hs : SmI t) (hs' : SmI t') : Calls Try.prog 28 #[v, v'] w (Tells (sameB t t') w) := by
  obtain ⟨A, c, rfl, hr, _⟩ := ints_rd h
  obtain ⟨B, d, rfl, hr', _⟩ := ints_rd h'
  exact (implSignsSame_any A B c d t t' w hr hr' (by unfold SmI at hs; omega) (by unfold SmI at hs'; omega)).mono fun _ _ h9 => says_tells h9
set_option maxRecDepth 100000 in
set_option maxHeartbeats 3200000 in
theorem implDocSame_d (v v' : Value) (x y : Do) (w : World) (h : RdC w w.heap.size (datDo x) v) (h' : RdC w w.heap.size (datDo y) v') (hs : SmDo x) (hs' : SmDo y) : Calls Try.prog 13 #[v, v'] w (Tells (docSameB x y) w) := by
  have HR := Lib.hid h
  have HR' := Lib.hid h'
  obtain ⟨A2, c2, A3, c3, A4, c4, rfl, r2, r3, r4⟩ := aggDo h
  obtain ⟨B2, d2, B3, d3, B4, d4, rfl, s2, s3, s4⟩ := aggDo h'
  have R2 := Lib.hid r2
  have R3 := Lib.hid r3
  have R4 := Lib.hid r4
  have S2 := Lib.hid s2
  have S3 := Lib.hid s3
  have S4 := Lib.hid s4
  have HD := Lib.hid (docSame_eq x y)
  clear h h' r2 r3 r4 s2 s3 s4
  have HM := Lib.hid (Ms.start w)
  replace HM := Lib.hid (HM.out.new #[.string x.name, .int .i64 x.from_, .slice A2 x.text.length c2, .slice A3 x.list.length c3, .slice A4 x.seen.length c4] 35)
  have hm := HM.out.new #[.string y.name, .int .i64 y.from_, .slice B2 y.text.length d2, .slice B3 y.list.length d3, .slice B4 y.seen.length d4] 35
  simp only [World.size_alloc] at hm
  replace HM := Lib.hid hm
  clear hm
  cases h1 : x.name.toList == y.name.toList
  · go_enter Try.func13, Try.ntmps13
    go_wp2
    go_ret
    exact ⟨ret_b (by rw [HD.out, h1]; rfl), HM.out.bl⟩
  cases h2 : x.from_ == y.from_
  · have G2 := Lib.hid (show decide (x.from_ = y.from_) = false by simpa using h2)
    go_enter Try.func13, Try.ntmps13
    go_wp2
    go_ret
    exact ⟨ret_b (by rw [HD.out, h1, G2.out]; rfl), HM.out.bl⟩
  have G2 := Lib.hid (show decide (x.from_ = y.from_) = true by simpa using h2)
  go_enter Try.func13, Try.ntmps13
  go_wp2_with fail
  obtain ⟨W1, hW, hm⟩ := HM.out.name
  rw [← hW]
  replace HM := Lib.hid hm
  clear hm hW
  refine (implSignsSame_r _ _ x.text y.text _ (HM.out.arg R2.out) (HM.out.arg S2.out) hs.text hs'.text).mono ?_
  rintro e' W2 ⟨rfl, b'⟩
  replace HM := Lib.hid (HM.out.past b')
  clear b'
  cases h3 : sameB x.text y.text
  · obtain ⟨kx0, kx1, kx2, kx3, kx4⟩ := HM.out.c5 1 rfl
    obtain ⟨ky0, ky1, ky2, ky3, ky4⟩ := HM.out.c5 0 rfl
    go_wp2
    go_ret
    exact ⟨ret_b (by rw [HD.out, h1, G2.out, h3]; rfl), HM.out.bl⟩
  obtain ⟨kx0, kx1, kx2, kx3, kx4⟩ := HM.out.c5 1 rfl
  obtain ⟨ky0, ky1, ky2, ky3, ky4⟩ := HM.out.c5 0 rfl
  go_wp2_with fail
  clear kx0 kx1 kx2 kx3 kx4 ky0 ky1 ky2 ky3 ky4
  refine (equalEn_d _ _ x.list y.list _ (HM.out.arg R3.out) (HM.out.arg S3.out) hs.list hs'.list).mono ?_
  rintro e' W3 ⟨rfl, b'⟩
  replace HM := Lib.hid (HM.out.past b')
  clear b'
  cases h4 : entriesB x.list y.list
  · obtain ⟨kx0, kx1, kx2, kx3, kx4⟩ := HM.out.c5 1 rfl
    obtain ⟨ky0, ky1, ky2, ky3, ky4⟩ := HM.out.c5 0 rfl
    go_wp2
    go_ret
    exact ⟨ret_b (by rw [HD.out, h1, G2.out, h3, h4]; rfl), HM.out.bl⟩
  obtain ⟨kx0, kx1, kx2, kx3, kx4⟩ := HM.out.c5 1 rfl
  obtain ⟨ky0, ky1, ky2, ky3, ky4⟩ := HM.out.c5 0 rfl
  go_wp2_with fail
  clear kx0 kx1 kx2 kx3 kx4 ky0 ky1 ky2 ky3 ky4
  refine (equalSe_d _ _ x.seen y.seen _ (HM.out.arg R4.out) (HM.out.arg S4.out) hs.seen.len (by have := hs'.seen.len; omega)).mono ?_
  rintro e' W4 ⟨rfl, b'⟩
  replace HM := Lib.hid (HM.out.past b')
  clear b'
  go_wp2
  go_ret
  exact ⟨ret_b (by rw [HD.out, h1, G2.out, h3, h4]; rfl), HM.out.bl⟩
end Go.Proofs.Ytgfbcpcfdlnbhab.low


/-
  Contracts of spec.l01Put, impl.further, impl.addBytes and impl.addSign: the encoding of one character is appended to a row of bytes of the caller's own.
-/
namespace Go.Proofs.Ytgfbcpcfdlnbhab.low
open Go.RowKit
set_option linter.unusedVariables false

/-- v is a row of bytes of the caller's own (blocks from base on) that holds bs -/
def Buf (base : Nat) (w : World) (v : Value) (bs : List Int) : Prop := w.ownsRow base 5 1 v bs.length (bs.map (Value.int .u8)) ∧ base ≤ w.heap.size
theorem Buf.alloc {base : Nat} {w : World} {v : Value} {bs : List Int} (h : Buf base w v bs) (o : Obj) : Buf base (w.alloc o) v bs := ⟨h.1.alloc o, by have := h.2; simp; omega⟩

/-- block g is just these numbers -/
def Nums (w : World) (g : Nat) (is : List Int) : Prop := w.heap[g]? = some (.cells (is.map (Value.int .i64)).toArray 3 (0, 0))
theorem Nums.new (w : World) (is : List Int) : Nums (w.alloc (.cells (is.map (Value.int .i64)).toArray 3)) w.heap.size is := heap_alloc_new w _
theorem Nums.lt {w : World} {g : Nat} {is : List Int} (h : Nums w g is) : g < w.heap.size := by
  rcases Nat.lt_or_ge g w.heap.size with hlt | hge
  · exact hlt
  · unfold Nums at h; rw [Array.getElem?_eq_none hge] at h; cases h
theorem Nums.cell {w : World} {g : Nat} {is : List Int} (h : Nums w g is) {k : Nat} {i : Int} (hi : is[k]? = some i) : w.cell? ⟨g, k, none⟩ = some (.int .i64 i) := by
  unfold Nums at h
  simp [World.cell?, h, hi]
theorem Nums.alloc {w : World} {g : Nat} {is : List Int} (h : Nums w g is) (o : Obj) : Nums (w.alloc o) g is := (Below.heap_alloc w o g h.lt).trans h
theorem Nums.grown {w w' : World} {g base : Nat} {is bs : List Int} {v : Value} (h : Nums w g is) (hb : Buf base w v bs) (hg : w.grownBy w' v.ownBlock) : Nums w' g is := by
  refine (hg.block g h.lt ?_).trans h
  rcases hb.1.2 with ⟨rfl, _⟩ | ⟨g', cap, cur, rfl, _, hh, _⟩
  · simp [Value.ownBlock]
  · intro he
    have : g = g' := by simpa [Value.ownBlock] using he
    subst this
    unfold Nums at h
    rw [h] at hh
    injection hh with hh
    injection hh with _ ht
    exact absurd ht (by decide)
end Go.Proofs.Ytgfbcpcfdlnbhab.low


/-
  Contracts of impl.addSign, spec.Bytes and impl.Bytes: the UTF-8 encoding of a list of characters, or the empty string where one is no character.
-/
namespace Go.Proofs.Ytgfbcpcfdlnbhab.low
open Go.RowKit
set_option linter.unusedVariables false

/-- a call that returns this string and has made memory alone -/
def Strs (s : ByteArray) (w : World) (e : Ending) (w' : World) : Prop := e = .returned (.string s) ∧ Below w.heap.size w w'

end Go.Proofs.Ytgfbcpcfdlnbhab.low


/-
  Contracts of spec.OtName and impl.OtName: the names of the codes. Written by mkimp8e.py.
-/
namespace Go.Proofs.Ytgfbcpcfdlnbhab.low
open Go.RowKit
set_option linter.unusedVariables false
/-- the names of the codes -/
def otT (n : Int) : ByteArray := if n = 0 then ⟨#[111, 107]⟩ else if n = 1 then ⟨#[105, 110, 118, 97, 108, 105, 100]⟩ else if n = 2 then ⟨#[102, 117, 116, 117, 114, 101]⟩ else if n = 3 then ⟨#[111, 108, 100]⟩ else if n = 4 then ⟨#[115, 101, 113]⟩ else if n = 5 then ⟨#[108, 97, 114, 103, 101]⟩ else if n = 6 then ⟨#[110, 111, 100, 111, 99]⟩ else if n = 7 then ⟨#[104, 97, 118, 101]⟩ else if n = 8 then ⟨#[110, 111, 115, 117, 98]⟩ else if n = 9 then ⟨#[101, 118, 105, 99, 116, 101, 100]⟩ else if n = 10 then ⟨#[102, 117, 108, 108]⟩ else if n = 11 then ⟨#[98, 117, 115, 121]⟩ else if n = 12 then ⟨#[99, 108, 111, 115, 101, 100]⟩ else ⟨#[]⟩
theorem ot_cases (n : Int) : (n < 0 ∨ 12 < n) ∨ n = 0 ∨ n = 1 ∨ n = 2 ∨ n = 3 ∨ n = 4 ∨ n = 5 ∨ n = 6 ∨ n = 7 ∨ n = 8 ∨ n = 9 ∨ n = 10 ∨ n = 11 ∨ n = 12 := by omega
theorem ot_none {n : Int} (h : n < 0 ∨ 12 < n) : otT n = ⟨#[]⟩ := by
  unfold otT
  rw [if_neg (by omega)]
  rw [if_neg (by omega)]
  rw [if_neg (by omega)]
  rw [if_neg (by omega)]
  rw [if_neg (by omega)]
  rw [if_neg (by omega)]
  rw [if_neg (by omega)]
  rw [if_neg (by omega)]
  rw [if_neg (by omega)]
  rw [if_neg (by omega)]
  rw [if_neg (by omega)]
  rw [if_neg (by omega)]
  rw [if_neg (by omega)]
set_option maxRecDepth 100000 in
set_option maxHeartbeats 3200000 in
theorem specOtName_d (n : Int) (w : World) : Calls Try.prog 14 #[.int .i64 n] w (Strs (otT n) w) := by
  rcases ot_cases n with h | h
  · have HN := Lib.hid (ot_none h)
    have hi : inB n 0 12 = false := inB_f (by omega)
    go_enter Try.func14, Try.ntmps14
    go_wp2_with (go_at_call 32; refine (in_any _ _ _ _).mono ?_; rintro e w1 ⟨rfl, rfl⟩; rw [hi])
    go_ret
    exact ⟨by rw [HN.out]; rfl, Below.refl _ _⟩
  rcases h with rfl | rfl | rfl | rfl | rfl | rfl | rfl | rfl | rfl | rfl | rfl | rfl | rfl
  · have hi : inB 0 0 12 = true := inB_t (by omega)
    go_enter Try.func14, Try.ntmps14
    go_wp2_with (go_at_call 32; refine (in_any _ _ _ _).mono ?_; rintro e w1 ⟨rfl, rfl⟩; rw [hi])
    go_ret
    exact ⟨rfl, (Below.refl _ _).alloc (Nat.le_refl _) _⟩
  · have hi : inB 1 0 12 = true := inB_t (by omega)
    go_enter Try.func14, Try.ntmps14
    go_wp2_with (go_at_call 32; refine (in_any _ _ _ _).mono ?_; rintro e w1 ⟨rfl, rfl⟩; rw [hi])
    go_ret
    exact ⟨rfl, (Below.refl _ _).alloc (Nat.le_refl _) _⟩
  · have hi : inB 2 0 12 = true := inB_t (by omega)
    go_enter Try.func14, Try.ntmps14
    go_wp2_with (go_at_call 32; refine (in_any _ _ _ _).mono ?_; rintro e w1 ⟨rfl, rfl⟩; rw [hi])
    go_ret
    exact ⟨rfl, (Below.refl _ _).alloc (Nat.le_refl _) _⟩
  · have hi : inB 3 0 12 = true := inB_t (by omega)
    go_enter Try.func14, Try.ntmps14
    go_wp2_with (go_at_call 32; refine (in_any _ _ _ _).mono ?_; rintro e w1 ⟨rfl, rfl⟩; rw [hi])
    go_ret
    exact ⟨rfl, (Below.refl _ _).alloc (Nat.le_refl _) _⟩
  · have hi : inB 4 0 12 = true := inB_t (by omega)
    go_enter Try.func14, Try.ntmps14
    go_wp2_with (go_at_call 32; refine (in_any _ _ _ _).mono ?_; rintro e w1 ⟨rfl, rfl⟩; rw [hi])
    go_ret
    exact ⟨rfl, (Below.refl _ _).alloc (Nat.le_refl _) _⟩
  · have hi : inB 5 0 12 = true := inB_t (by omega)
    go_enter Try.func14, Try.ntmps14
    go_wp2_with (go_at_call 32; refine (in_any _ _ _ _).mono ?_; rintro e w1 ⟨rfl, rfl⟩; rw [hi])
    go_ret
    exact ⟨rfl, (Below.refl _ _).alloc (Nat.le_refl _) _⟩
  · have hi : inB 6 0 12 = true := inB_t (by omega)
    go_enter Try.func14, Try.ntmps14
    go_wp2_with (go_at_call 32; refine (in_any _ _ _ _).mono ?_; rintro e w1 ⟨rfl, rfl⟩; rw [hi])
    go_ret
    exact ⟨rfl, (Below.refl _ _).alloc (Nat.le_refl _) _⟩
  · have hi : inB 7 0 12 = true := inB_t (by omega)
    go_enter Try.func14, Try.ntmps14
    go_wp2_with (go_at_call 32; refine (in_any _ _ _ _).mono ?_; rintro e w1 ⟨rfl, rfl⟩; rw [hi])
    go_ret
    exact ⟨rfl, (Below.refl _ _).alloc (Nat.le_refl _) _⟩
  · have hi : inB 8 0 12 = true := inB_t (by omega)
    go_enter Try.func14, Try.ntmps14
    go_wp2_with (go_at_call 32; refine (in_any _ _ _ _).mono ?_; rintro e w1 ⟨rfl, rfl⟩; rw [hi])
    go_ret
    exact ⟨rfl, (Below.refl _ _).alloc (Nat.le_refl _) _⟩
  · have hi : inB 9 0 12 = true := inB_t (by omega)
    go_enter Try.func14, Try.ntmps14
    go_wp2_with (go_at_call 32; refine (in_any _ _ _ _).mono ?_; rintro e w1 ⟨rfl, rfl⟩; rw [hi])
    go_ret
    exact ⟨rfl, (Below.refl _ _).alloc (Nat.le_refl _) _⟩
  · have hi : inB 10 0 12 = true := inB_t (by omega)
    go_enter Try.func14, Try.ntmps14
    go_wp2_with (go_at_call 32; refine (in_any _ _ _ _).mono ?_; rintro e w1 ⟨rfl, rfl⟩; rw [hi])
    go_ret
    exact ⟨rfl, (Below.refl _ _).alloc (Nat.le_refl _) _⟩
  · have hi : inB 11 0 12 = true := inB_t (by omega)
    go_enter Try.func14, Try.ntmps14
    go_wp2_with (go_at_call 32; refine (in_any _ _ _ _).mono ?_; rintro e w1 ⟨rfl, rfl⟩; rw [hi])
    go_ret
    exact ⟨rfl, (Below.refl _ _).alloc (Nat.le_refl _) _⟩
  · have hi : inB 12 0 12 = true := inB_t (by omega)
    go_enter Try.func14, Try.ntmps14
    go_wp2_with (go_at_call 32; refine (in_any _ _ _ _).mono ?_; rintro e w1 ⟨rfl, rfl⟩; rw [hi])
    go_ret
    exact ⟨rfl, (Below.refl _ _).alloc (Nat.le_refl _) _⟩
set_option maxRecDepth 100000 in
set_option maxHeartbeats 3200000 in
theorem implOtName_d (n : Int) (w : World) : Calls Try.prog 15 #[.int .i64 n] w (Strs (otT n) w) := by
  rcases ot_cases n with h | h
  · have HN := Lib.hid (ot_none h)
    rcases h with h | h
    · have g : decide (n < 0) = true := decide_eq_true h
      go_enter Try.func15, Try.ntmps15
      go_wp2
      go_ret
      exact ⟨by rw [HN.out]; rfl, (Below.refl _ _).alloc (Nat.le_refl _) _⟩
    · have g : decide (n < 0) = false := decide_eq_false (by omega)
      have g2 : decide (13 ≤ n) = true := decide_eq_true (by omega)
      go_enter Try.func15, Try.ntmps15
      go_wp2
      go_ret
      exact ⟨by rw [HN.out]; rfl, (Below.refl _ _).alloc (Nat.le_refl _) _⟩
  rcases h with rfl | rfl | rfl | rfl | rfl | rfl | rfl | rfl | rfl | rfl | rfl | rfl | rfl
  · go_enter Try.func15, Try.ntmps15
    go_wp2
    go_ret
    exact ⟨rfl, (Below.refl _ _).alloc (Nat.le_refl _) _⟩
  · go_enter Try.func15, Try.ntmps15
    go_wp2
    go_ret
    exact ⟨rfl, (Below.refl _ _).alloc (Nat.le_refl _) _⟩
  · go_enter Try.func15, Try.ntmps15
    go_wp2
    go_ret
    exact ⟨rfl, (Below.refl _ _).alloc (Nat.le_refl _) _⟩
  · go_enter Try.func15, Try.ntmps15
    go_wp2
    go_ret
    exact ⟨rfl, (Below.refl _ _).alloc (Nat.le_refl _) _⟩
  · go_enter Try.func15, Try.ntmps15
    go_wp2
    go_ret
    exact ⟨rfl, (Below.refl _ _).alloc (Nat.le_refl _) _⟩
  · go_enter Try.func15, Try.ntmps15
    go_wp2
    go_ret
    exact ⟨rfl, (Below.refl _ _).alloc (Nat.le_refl _) _⟩
  · go_enter Try.func15, Try.ntmps15
    go_wp2
    go_ret
    exact ⟨rfl, (Below.refl _ _).alloc (Nat.le_refl _) _⟩
  · go_enter Try.func15, Try.ntmps15
    go_wp2
    go_ret
    exact ⟨rfl, (Below.refl _ _).alloc (Nat.le_refl _) _⟩
  · go_enter Try.func15, Try.ntmps15
    go_wp2
    go_ret
    exact ⟨rfl, (Below.refl _ _).alloc (Nat.le_refl _) _⟩
  · go_enter Try.func15, Try.ntmps15
    go_wp2
    go_ret
    exact ⟨rfl, (Below.refl _ _).alloc (Nat.le_refl _) _⟩
  · go_enter Try.func15, Try.ntmps15
    go_wp2
    go_ret
    exact ⟨rfl, (Below.refl _ _).alloc (Nat.le_refl _) _⟩
  · go_enter Try.func15, Try.ntmps15
    go_wp2
    go_ret
    exact ⟨rfl, (Below.refl _ _).alloc (Nat.le_refl _) _⟩
  · go_enter Try.func15, Try.ntmps15
    go_wp2
    go_ret
    exact ⟨rfl, (Below.refl _ _).alloc (Nat.le_refl _) _⟩
end Go.Proofs.Ytgfbcpcfdlnbhab.low

