/-
  Texts that the proofs over this seat rest on, one behind the other (2 of 6).
-/
import Derived.Test.YtamainhocghlgaaGreatDoorM1
import Derived.Deep.RegionLaw
import Derived.StillTailTactics
import Derived.Deep.RegionHeld3
import Derived.Deep.AppendLies
import Derived.Deep.RegionHeld

/-
  The struct type Doc of the laws: its words, and the laws' own functions on it and on slices of it. Written by mkty.py.
-/
namespace Go.Proofs.YtamainhocghlgaaGreatDoor.low
open Go.RowKit
set_option linter.unusedVariables false

structure Do where
  name : ByteArray
  from_ : Int
  text : List Int
  list : List En
  seen : List Se
def encDo (x : Do) : List Dat := [.str x.name, .int x.from_, encInts x.text, encEns x.list, encSes x.seen]
def datDo (x : Do) : Dat := .agg (encDo x)
def encDos (l : List Do) : Dat := .rows 75 5 (l.map encDo)
def totDo (x : Do) : Nat := x.name.size + totI x.text + totEns x.list + totSes x.seen
def LimDo (x : Do) : Prop := x.name.size ≤ maxLen ∧ LimI x.text ∧ LimEns x.list ∧ LimSes x.seen
def SmDo (x : Do) : Prop := totDo x ≤ 1048576
def totDos (l : List Do) : Nat := l.length + sumN totDo l
def LimDos (l : List Do) : Prop := l.length ≤ maxLen ∧ ∀ x ∈ l, LimDo x
def SmDos (l : List Do) : Prop := totDos l ≤ 1048576
theorem smDos_of {l : List Do} (h : totDos l ≤ 1048576) : SmDos l := h
theorem SmDos.len {l : List Do} (h : SmDos l) : l.length ≤ 1048576 := by unfold SmDos totDos at h; omega
theorem SmDos.at_ {l : List Do} (h : SmDos l) {x : Do} (hx : x ∈ l) : SmDo x := by
  unfold SmDos totDos at h
  have := sumN_at (f := totDo) hx
  unfold SmDo
  omega
theorem SmDo.text {x : Do} (h : SmDo x) : SmI x.text := smI_of (by unfold SmDo totDo at h; omega)
theorem SmDo.list {x : Do} (h : SmDo x) : SmEns x.list := smEns_of (by unfold SmDo totDo at h; omega)
theorem SmDo.seen {x : Do} (h : SmDo x) : SmSes x.seen := smSes_of (by unfold SmDo totDo at h; omega)
theorem aggDo {w : World} {B : Nat} {x : Do} {v : Value} (h : RdC w B (datDo x) v) : ∃ (A2 : Option Addr) (c2 : Nat) (A3 : Option Addr) (c3 : Nat) (A4 : Option Addr) (c4 : Nat), v = .agg #[.string x.name, .int .i64 x.from_, .slice A2 x.text.length c2, .slice A3 x.list.length c3, .slice A4 x.seen.length c4] ∧ RdC w B (encInts x.text) (.slice A2 x.text.length c2) ∧ RdC w B (encEns x.list) (.slice A3 x.list.length c3) ∧ RdC w B (encSes x.seen) (.slice A4 x.seen.length c4) := by
  obtain ⟨vs, rfl, v0, _, rfl, rfl, v1, _, rfl, rfl, v2, _, rfl, r2, v3, _, rfl, r3, v4, _, rfl, r4, rfl⟩ := h
  obtain ⟨A2, c2, rfl⟩ := sliceI r2
  obtain ⟨A3, c3, rfl⟩ := sliceEns r3
  obtain ⟨A4, c4, rfl⟩ := sliceSes r4
  exact ⟨A2, c2, A3, c3, A4, c4, rfl, r2, r3, r4⟩
theorem rdDo {w : World} {B : Nat} (x : Do) {v2 : Value} {v3 : Value} {v4 : Value} (r2 : RdC w B (encInts x.text) v2) (r3 : RdC w B (encEns x.list) v3) (r4 : RdC w B (encSes x.seen) v4) : RdC w B (datDo x) (.agg #[.string x.name, .int .i64 x.from_, v2, v3, v4]) := ⟨_, rfl, _, _, rfl, rfl, _, _, rfl, rfl, _, _, rfl, r2, _, _, rfl, r3, _, _, rfl, r4, rfl⟩
theorem sliceDos {w : World} {B : Nat} {l : List Do} {v : Value} (h : RdC w B (encDos l) v) : ∃ A c, v = .slice A l.length c := by
  obtain ⟨A, c, hv, _⟩ := RdC.len h
  exact ⟨A, c, by simpa using hv⟩
theorem atDos {w : World} {B : Nat} {A : Option Addr} {m c i : Nat} {l : List Do} (h : RdC w B (encDos l) (.slice A m c)) (hi : i < l.length) : ∃ (b off : Nat) (x : Do) (A2 : Option Addr) (c2 : Nat) (A3 : Option Addr) (c3 : Nat) (A4 : Option Addr) (c4 : Nat), A = some ⟨b, off, none⟩ ∧ b < B ∧ l[i]? = some x ∧ w.cell? ⟨b, off + i * 5, none⟩ = some (.string x.name) ∧ w.cell? ⟨b, off + i * 5 + 1, none⟩ = some (.int .i64 x.from_) ∧ w.cell? ⟨b, off + i * 5 + 2, none⟩ = some (.slice A2 x.text.length c2) ∧ w.cell? ⟨b, off + i * 5 + 3, none⟩ = some (.slice A3 x.list.length c3) ∧ w.cell? ⟨b, off + i * 5 + 4, none⟩ = some (.slice A4 x.seen.length c4) ∧ RdC w B (encInts x.text) (.slice A2 x.text.length c2) ∧ RdC w B (encEns x.list) (.slice A3 x.list.length c3) ∧ RdC w B (encSes x.seen) (.slice A4 x.seen.length c4) := by
  obtain ⟨ad, r, hA, hb, hs, hr, hl⟩ := RdC.at_ (ds := l.map encDo) h (by simpa using hi)
  rw [List.getElem?_map, List.getElem?_eq_getElem hi] at hr
  obtain rfl : encDo l[i] = r := by simpa using hr
  obtain ⟨b, off, spot⟩ := ad
  obtain rfl : spot = none := by
    rcases hs with hs | hs
    · cases hs
    · exact hs
  obtain ⟨⟨v0, x0, rfl⟩, ⟨v1, x1, rfl⟩, ⟨v2, x2, r2⟩, ⟨v3, x3, r3⟩, ⟨v4, x4, r4⟩, _⟩ := hl
  obtain ⟨A2, c2, rfl⟩ := sliceI r2
  obtain ⟨A3, c3, rfl⟩ := sliceEns r3
  obtain ⟨A4, c4, rfl⟩ := sliceSes r4
  rw [add_at] at x0 x1 x2 x3 x4
  exact ⟨b, off, l[i], A2, c2, A3, c3, A4, c4, hA, hb, List.getElem?_eq_getElem hi, by simpa [Nat.add_assoc] using x0, by simpa [Nat.add_assoc] using x1, by simpa [Nat.add_assoc] using x2, by simpa [Nat.add_assoc] using x3, by simpa [Nat.add_assoc] using x4, r2, r3, r4⟩
theorem cntDo_l (x : Do) : cntL (encDo x) = 1 + 1 + cntC (encInts x.text) + cntC (encEns x.list) + cntC (encSes x.seen) := by
  show cntL [.str x.name, .int x.from_, encInts x.text, encEns x.list, encSes x.seen] = _
  simp only [cntL, cntC]
  try omega
theorem cntDo_row (x : Do) : cntL (encDo x) ≤ 3 * (1 + totDo x) := by
  rw [cntDo_l]
  unfold totDo
  have h2 := cntI_le x.text
  have h3 := cntEns_le x.list
  have h4 := cntSes_le x.seen
  omega
theorem cntDos_le : ∀ l : List Do, cntC (encDos l) ≤ 3 * totDos l
  | [] => by simp [encDos, cntC, cntR]
  | x :: l => by
    have ih := cntDos_le l
    have h1 := cntDo_row x
    have e1 : cntC (encDos (x :: l)) = cntL (encDo x) + cntC (encDos l) := rfl
    rw [e1]
    unfold totDos at ih ⊢
    rw [sumN_cons, List.length_cons]
    omega
set_option maxRecDepth 100000 in
set_option maxHeartbeats 1600000 in
theorem szDo (v : Value) (x : Do) (left : Int) (w : World) (h : RdC w w.heap.size (datDo x) v) (h0 : 0 ≤ left) (h1 : left ≤ 1048576) (hl : LimDo x) : Calls Tryz.prog 28 #[v, .int .i64 left] w (Sized (totDo x) left w) := by
  obtain ⟨A2, c2, A3, c3, A4, c4, rfl, r2, r3, r4⟩ := aggDo h
  have b0 := alloc_below w (.cells #[.string x.name, .int .i64 x.from_, .slice A2 x.text.length c2, .slice A3 x.list.length c3, .slice A4 x.seen.length c4] 65)
  have hlt : w.heap.size < (w.alloc (.cells #[.string x.name, .int .i64 x.from_, .slice A2 x.text.length c2, .slice A3 x.list.length c3, .slice A4 x.seen.length c4] 65)).heap.size := by rw [World.size_alloc]; omega
  have D0 : Below (w.alloc (.cells #[.string x.name, .int .i64 x.from_, .slice A2 x.text.length c2, .slice A3 x.list.length c3, .slice A4 x.seen.length c4] 65)).heap.size (w.alloc (.cells #[.string x.name, .int .i64 x.from_, .slice A2 x.text.length c2, .slice A3 x.list.length c3, .slice A4 x.seen.length c4] 65)) (w.alloc (.cells #[.string x.name, .int .i64 x.from_, .slice A2 x.text.length c2, .slice A3 x.list.length c3, .slice A4 x.seen.length c4] 65)) := Below.refl _ _
  unfold LimDo at hl
  have HT := Lib.hid (show totDo x = x.name.size + totI x.text + totEns x.list + totSes x.seen from rfl)
  unfold maxLen at hl
  by_cases hn1 : (x.name.size : Int) ≤ left
  case neg =>
    have hn1' : left - (x.name.size : Int) < 0 := by omega
    go_enter Tryz.func28, Tryz.ntmps28
    go_wp2
    go_ret
    exact ⟨_, rfl, .inl rfl, b0⟩
  go_enter Tryz.func28, Tryz.ntmps28
  go_wp2_with fail
  refine (szI_ _ x.text (left - (x.name.size : Int)) _ ((r2.past b0).past D0) (by omega) (by omega) hl.2.1).mono ?_
  rintro e w2 ⟨e2, rfl, hr2, k2⟩
  have D2 := D0.trans (k2.mono D0.size)
  rcases hr2 with rfl | ⟨p2, q2⟩
  · go_wp2
    go_ret
    exact ⟨_, rfl, .inl rfl, b0.trans (D2.mono b0.size)⟩
  have t2 : e2 ≤ 1048576 := by omega
  have Q2 := Lib.hid q2
  clear q2 k2
  have y3 := (D2.cell (p := ⟨w.heap.size, 3, none⟩) hlt).trans (bxnew (w := w) (cs := #[.string x.name, .int .i64 x.from_, .slice A2 x.text.length c2, .slice A3 x.list.length c3, .slice A4 x.seen.length c4]) (j := 3) rfl)
  go_wp2_with fail
  refine (szEns _ x.list e2 _ ((r3.past b0).past D2) (by omega) (by omega) hl.2.2.1).mono ?_
  rintro e w3 ⟨e3, rfl, hr3, k3⟩
  have D3 := D2.trans (k3.mono D2.size)
  rcases hr3 with rfl | ⟨p3, q3⟩
  · go_wp2
    go_ret
    exact ⟨_, rfl, .inl rfl, b0.trans (D3.mono b0.size)⟩
  have t3 : e3 ≤ 1048576 := by omega
  have Q3 := Lib.hid q3
  clear q3 k3
  have y4 := (D3.cell (p := ⟨w.heap.size, 4, none⟩) hlt).trans (bxnew (w := w) (cs := #[.string x.name, .int .i64 x.from_, .slice A2 x.text.length c2, .slice A3 x.list.length c3, .slice A4 x.seen.length c4]) (j := 4) rfl)
  go_wp2_with fail
  refine (szSes _ x.seen e3 _ ((r4.past b0).past D3) (by omega) (by omega) hl.2.2.2).mono ?_
  rintro e w4 ⟨e4, rfl, hr4, k4⟩
  have D4 := D3.trans (k4.mono D3.size)
  rcases hr4 with rfl | ⟨p4, q4⟩
  · go_wp2
    go_ret
    exact ⟨_, rfl, .inl rfl, b0.trans (D4.mono b0.size)⟩
  have t4 : e4 ≤ 1048576 := by omega
  have Q4 := Lib.hid q4
  clear q4 k4
  go_wp2
  go_ret
  refine ⟨_, rfl, .inr ⟨by omega, ?_⟩, b0.trans (D4.mono b0.size)⟩
  rw [HT.out]
  have := Q2.out
  have := Q3.out
  have := Q4.out
  omega

set_option maxRecDepth 100000 in
set_option maxHeartbeats 1600000 in
theorem toDo (v : Value) (x : Do) (w : World) (h : RdC w w.heap.size (datDo x) v) (hs : SmDo x) : Calls Tryz.prog 37 #[v] w (OwnPost (datDo x) w) := by
  obtain ⟨A2, c2, A3, c3, A4, c4, rfl, r2, r3, r4⟩ := aggDo h
  go_enter Tryz.func37, Tryz.ntmps37
  have s0 := ToS.start w #[.string x.name, .int .i64 x.from_, .slice A2 x.text.length c2, .slice A3 x.list.length c3, .slice A4 x.seen.length c4] 65 #[.string ⟨#[]⟩, .int .i64 0, .slice none 0 0, .slice none 0 0, .slice none 0 0] 75 #[.string x.name, .int .i64 x.from_, .slice none 0 0, .slice none 0 0, .slice none 0 0]
  go_wp2_with fail
  generalize hW0 : (((w.alloc (.cells #[.string x.name, .int .i64 x.from_, .slice A2 x.text.length c2, .slice A3 x.list.length c3, .slice A4 x.seen.length c4] 65)).alloc (.cells #[.string ⟨#[]⟩, .int .i64 0, .slice none 0 0, .slice none 0 0, .slice none 0 0] 75)).alloc (.cells #[.string x.name, .int .i64 x.from_, .slice none 0 0, .slice none 0 0, .slice none 0 0] 75)) = W0 at s0 ⊢
  clear hW0
  have l0 := s0.lt
  refine (toI _ x.text W0 (r2.past s0.bel) hs.text).mono ?_
  rintro e w1 ⟨v1, rfl, o1, k1⟩
  obtain ⟨B2, d2, rfl⟩ := sliceI o1.read
  have zk1 := k1.size
  have u1 := s0.past k1
  have y2 : w1.cell? ⟨w.heap.size + 1 + 1, 2, none⟩ = some (.slice none 0 0) := bxcell u1.b2 rfl
  have f2 : w1.frozen? ⟨w.heap.size + 1 + 1, 2, none⟩ = false := bxfree u1.b2
  have z3 : w1.cell? ⟨w.heap.size, 3, none⟩ = some (.slice A3 x.list.length c3) := bxcell u1.b0 rfl
  have s1 : ToS w #[.string x.name, .int .i64 x.from_, .slice A2 x.text.length c2, .slice A3 x.list.length c3, .slice A4 x.seen.length c4] 65 #[.string ⟨#[]⟩, .int .i64 0, .slice none 0 0, .slice none 0 0, .slice none 0 0] 75 #[.string x.name, .int .i64 x.from_, .slice B2 x.text.length d2, .slice none 0 0, .slice none 0 0] (w1.setCell ⟨w.heap.size + 1 + 1, 2, none⟩ (.slice B2 x.text.length d2)) := u1.set 2 _
  clear u1
  go_wp2_with fail
  have o1 := o1.setUnder (g := w.heap.size + 1 + 1) (o := 2) (.inl (by omega)) (.slice B2 x.text.length d2)
  have zW1 : (w1.setCell ⟨w.heap.size + 1 + 1, 2, none⟩ (.slice B2 x.text.length d2)).heap.size = w1.heap.size := by simp [World.setCell]
  generalize w1.setCell ⟨w.heap.size + 1 + 1, 2, none⟩ (.slice B2 x.text.length d2) = W1 at s1 o1 zW1 ⊢
  have l1 := s1.lt
  refine (toEns _ x.list W1 (r3.past s1.bel) hs.list).mono ?_
  rintro e w2 ⟨v2, rfl, o2, k2⟩
  obtain ⟨B3, d3, rfl⟩ := sliceEns o2.read
  have o1 := o1.past k2
  have zk2 := k2.size
  have u2 := s1.past k2
  have y3 : w2.cell? ⟨w.heap.size + 1 + 1, 3, none⟩ = some (.slice none 0 0) := bxcell u2.b2 rfl
  have f3 : w2.frozen? ⟨w.heap.size + 1 + 1, 3, none⟩ = false := bxfree u2.b2
  have z4 : w2.cell? ⟨w.heap.size, 4, none⟩ = some (.slice A4 x.seen.length c4) := bxcell u2.b0 rfl
  have s2 : ToS w #[.string x.name, .int .i64 x.from_, .slice A2 x.text.length c2, .slice A3 x.list.length c3, .slice A4 x.seen.length c4] 65 #[.string ⟨#[]⟩, .int .i64 0, .slice none 0 0, .slice none 0 0, .slice none 0 0] 75 #[.string x.name, .int .i64 x.from_, .slice B2 x.text.length d2, .slice B3 x.list.length d3, .slice none 0 0] (w2.setCell ⟨w.heap.size + 1 + 1, 3, none⟩ (.slice B3 x.list.length d3)) := u2.set 3 _
  clear u2
  go_wp2_with fail
  have o1 := o1.setUnder (g := w.heap.size + 1 + 1) (o := 3) (.inl (by omega)) (.slice B3 x.list.length d3)
  have o2 := o2.setUnder (g := w.heap.size + 1 + 1) (o := 3) (.inl (by omega)) (.slice B3 x.list.length d3)
  have zW2 : (w2.setCell ⟨w.heap.size + 1 + 1, 3, none⟩ (.slice B3 x.list.length d3)).heap.size = w2.heap.size := by simp [World.setCell]
  generalize w2.setCell ⟨w.heap.size + 1 + 1, 3, none⟩ (.slice B3 x.list.length d3) = W2 at s2 o1 o2 zW2 ⊢
  have l2 := s2.lt
  refine (toSes _ x.seen W2 (r4.past s2.bel) hs.seen).mono ?_
  rintro e w3 ⟨v3, rfl, o3, k3⟩
  obtain ⟨B4, d4, rfl⟩ := sliceSes o3.read
  have o1 := o1.past k3
  have o2 := o2.past k3
  have zk3 := k3.size
  have u3 := s2.past k3
  have y4 : w3.cell? ⟨w.heap.size + 1 + 1, 4, none⟩ = some (.slice none 0 0) := bxcell u3.b2 rfl
  have f4 : w3.frozen? ⟨w.heap.size + 1 + 1, 4, none⟩ = false := bxfree u3.b2
  have t0 : w3.cell? ⟨w.heap.size + 1 + 1, 0, none⟩ = some (.string x.name) := bxcell u3.b2 rfl
  have q0 : w3.cell? ⟨w.heap.size + 1, 0, none⟩ = some (.string ⟨#[]⟩) := bxcell u3.b1 rfl
  have g0 : w3.frozen? ⟨w.heap.size + 1, 0, none⟩ = false := bxfree u3.b1
  have t1 : w3.cell? ⟨w.heap.size + 1 + 1, 1, none⟩ = some (.int .i64 x.from_) := bxcell u3.b2 rfl
  have q1 : w3.cell? ⟨w.heap.size + 1, 1, none⟩ = some (.int .i64 0) := bxcell u3.b1 rfl
  have g1 : w3.frozen? ⟨w.heap.size + 1, 1, none⟩ = false := bxfree u3.b1
  have t2 : w3.cell? ⟨w.heap.size + 1 + 1, 2, none⟩ = some (.slice B2 x.text.length d2) := bxcell u3.b2 rfl
  have q2 : w3.cell? ⟨w.heap.size + 1, 2, none⟩ = some (.slice none 0 0) := bxcell u3.b1 rfl
  have g2 : w3.frozen? ⟨w.heap.size + 1, 2, none⟩ = false := bxfree u3.b1
  have t3 : w3.cell? ⟨w.heap.size + 1 + 1, 3, none⟩ = some (.slice B3 x.list.length d3) := bxcell u3.b2 rfl
  have q3 : w3.cell? ⟨w.heap.size + 1, 3, none⟩ = some (.slice none 0 0) := bxcell u3.b1 rfl
  have g3 : w3.frozen? ⟨w.heap.size + 1, 3, none⟩ = false := bxfree u3.b1
  have q4 : w3.cell? ⟨w.heap.size + 1, 4, none⟩ = some (.slice none 0 0) := bxcell u3.b1 rfl
  have g4 : w3.frozen? ⟨w.heap.size + 1, 4, none⟩ = false := bxfree u3.b1
  have s3 : ToS w #[.string x.name, .int .i64 x.from_, .slice A2 x.text.length c2, .slice A3 x.list.length c3, .slice A4 x.seen.length c4] 65 #[.string ⟨#[]⟩, .int .i64 0, .slice none 0 0, .slice none 0 0, .slice none 0 0] 75 #[.string x.name, .int .i64 x.from_, .slice B2 x.text.length d2, .slice B3 x.list.length d3, .slice B4 x.seen.length d4] (w3.setCell ⟨w.heap.size + 1 + 1, 4, none⟩ (.slice B4 x.seen.length d4)) := u3.set 4 _
  clear u3
  have o1 := (o1.setUnder (g := w.heap.size + 1 + 1) (o := 4) (.inl (by omega)) (.slice B4 x.seen.length d4)).putRow (g := w.heap.size + 1) (.inl (by omega)) [.string x.name, .int .i64 x.from_, .slice B2 x.text.length d2, .slice B3 x.list.length d3, .slice B4 x.seen.length d4] _ 0
  have o2 := (o2.setUnder (g := w.heap.size + 1 + 1) (o := 4) (.inl (by omega)) (.slice B4 x.seen.length d4)).putRow (g := w.heap.size + 1) (.inl (by omega)) [.string x.name, .int .i64 x.from_, .slice B2 x.text.length d2, .slice B3 x.list.length d3, .slice B4 x.seen.length d4] _ 0
  have o3 := (o3.setUnder (g := w.heap.size + 1 + 1) (o := 4) (.inl (by omega)) (.slice B4 x.seen.length d4)).putRow (g := w.heap.size + 1) (.inl (by omega)) [.string x.name, .int .i64 x.from_, .slice B2 x.text.length d2, .slice B3 x.list.length d3, .slice B4 x.seen.length d4] _ 0
  have hB : Below w.heap.size w (putRow (w3.setCell ⟨w.heap.size + 1 + 1, 4, none⟩ (.slice B4 x.seen.length d4)) (w.heap.size + 1) 0 [.string x.name, .int .i64 x.from_, .slice B2 x.text.length d2, .slice B3 x.list.length d3, .slice B4 x.seen.length d4]) := putRow_below (by omega) _ _ _ s3.bel
  have hZ : (putRow (w3.setCell ⟨w.heap.size + 1 + 1, 4, none⟩ (.slice B4 x.seen.length d4)) (w.heap.size + 1) 0 [.string x.name, .int .i64 x.from_, .slice B2 x.text.length d2, .slice B3 x.list.length d3, .slice B4 x.seen.length d4]).heap.size = w3.heap.size := (putRow_size _ _ _ _).trans (by simp [World.setCell])
  have hF : ∀ m, m ≤ w3.heap.size → m ≤ (putRow (w3.setCell ⟨w.heap.size + 1 + 1, 4, none⟩ (.slice B4 x.seen.length d4)) (w.heap.size + 1) 0 [.string x.name, .int .i64 x.from_, .slice B2 x.text.length d2, .slice B3 x.list.length d3, .slice B4 x.seen.length d4]).heap.size := fun m hm => by rw [hZ]; exact hm
  go_wp2
  refine bodyPost_ret (v := .agg #[.string x.name, .int .i64 x.from_, .slice B2 x.text.length d2, .slice B3 x.list.length d3, .slice B4 x.seen.length d4]) (by simp [results, Tryz.results37, go_sem, q0, q1, q2, q3, q4]) rfl ⟨_, rfl, ?_, hB⟩
  exact OwnL.agg (OwnL.flat rfl (OwnL.flat rfl (OwnL.own (lo := w.heap.size) (mid := w1.heap.size) (o1.wide (by omega) (Nat.le_refl _) (hF _ (by omega))) (OwnL.own (lo := w1.heap.size) (mid := w2.heap.size) (o2.wide (by omega) (Nat.le_refl _) (hF _ (by omega))) (OwnL.own (lo := w2.heap.size) (mid := w3.heap.size) (o3.wide (by omega) (Nat.le_refl _) (hF _ (by omega))) (OwnL.nil (Nat.le_refl _) (hF _ (by omega))))))))

set_option maxRecDepth 100000 in
set_option maxHeartbeats 1600000 in
theorem eqDo (v v' : Value) (x : Do) (w : World) (h : RdC w w.heap.size (datDo x) v) (h' : RdC w w.heap.size (datDo x) v') (hs : SmDo x) : Calls Tryz.prog 45 #[v, v'] w (Tells true w) := by
  obtain ⟨A2, c2, A3, c3, A4, c4, rfl, r2, r3, r4⟩ := aggDo h
  obtain ⟨B2, d2, B3, d3, B4, d4, rfl, s2, s3, s4⟩ := aggDo h'
  obtain ⟨g1, g2, b0⟩ := two_boxes w #[.string x.name, .int .i64 x.from_, .slice A2 x.text.length c2, .slice A3 x.list.length c3, .slice A4 x.seen.length c4] #[.string x.name, .int .i64 x.from_, .slice B2 x.text.length d2, .slice B3 x.list.length d3, .slice B4 x.seen.length d4] 75
  have D0 : Below ((w.alloc (.cells #[.string x.name, .int .i64 x.from_, .slice A2 x.text.length c2, .slice A3 x.list.length c3, .slice A4 x.seen.length c4] 75)).alloc (.cells #[.string x.name, .int .i64 x.from_, .slice B2 x.text.length d2, .slice B3 x.list.length d3, .slice B4 x.seen.length d4] 75)).heap.size ((w.alloc (.cells #[.string x.name, .int .i64 x.from_, .slice A2 x.text.length c2, .slice A3 x.list.length c3, .slice A4 x.seen.length c4] 75)).alloc (.cells #[.string x.name, .int .i64 x.from_, .slice B2 x.text.length d2, .slice B3 x.list.length d3, .slice B4 x.seen.length d4] 75)) ((w.alloc (.cells #[.string x.name, .int .i64 x.from_, .slice A2 x.text.length c2, .slice A3 x.list.length c3, .slice A4 x.seen.length c4] 75)).alloc (.cells #[.string x.name, .int .i64 x.from_, .slice B2 x.text.length d2, .slice B3 x.list.length d3, .slice B4 x.seen.length d4] 75)) := Below.refl _ _
  have lt2 := lt_of_some g2
  have lt1 := lt_of_some g1
  have n0 : (x.name.toList == x.name.toList) = true := by simp
  have n1 : (x.from_ != x.from_) = false := by simp
  go_enter Tryz.func45, Tryz.ntmps45
  go_wp2_with fail
  refine (eqI _ _ x.text _ ((r2.past b0).past D0) ((s2.past b0).past D0) hs.text).mono ?_
  rintro e w1 ⟨rfl, k1⟩
  have D1 := D0.trans (k1.mono D0.size)
  clear k1
  have y3 : w1.cell? ⟨w.heap.size, 3, none⟩ = some (.slice A3 x.list.length c3) := (D1.cell (p := ⟨w.heap.size, 3, none⟩) lt1).trans (bxcell g1 rfl)
  have z3 : w1.cell? ⟨w.heap.size + 1, 3, none⟩ = some (.slice B3 x.list.length d3) := (D1.cell (p := ⟨w.heap.size + 1, 3, none⟩) lt2).trans (bxcell g2 rfl)
  go_wp2_with fail
  refine (eqEns _ _ x.list _ ((r3.past b0).past D1) ((s3.past b0).past D1) hs.list).mono ?_
  rintro e w2 ⟨rfl, k2⟩
  have D2 := D1.trans (k2.mono D1.size)
  clear k2
  have y4 : w2.cell? ⟨w.heap.size, 4, none⟩ = some (.slice A4 x.seen.length c4) := (D2.cell (p := ⟨w.heap.size, 4, none⟩) lt1).trans (bxcell g1 rfl)
  have z4 : w2.cell? ⟨w.heap.size + 1, 4, none⟩ = some (.slice B4 x.seen.length d4) := (D2.cell (p := ⟨w.heap.size + 1, 4, none⟩) lt2).trans (bxcell g2 rfl)
  go_wp2_with fail
  refine (eqSes _ _ x.seen _ ((r4.past b0).past D2) ((s4.past b0).past D2) hs.seen).mono ?_
  rintro e w3 ⟨rfl, k3⟩
  have D3 := D2.trans (k3.mono D2.size)
  clear k3
  go_wp2
  go_ret
  exact ⟨rfl, b0.trans (D3.mono b0.size)⟩

set_option maxRecDepth 100000 in
set_option maxHeartbeats 1600000 in
theorem szDos (v : Value) (l : List Do) (left : Int) (w : World) (h : RdC w w.heap.size (encDos l) v) (h0 : 0 ≤ left) (h1 : left ≤ 1048576) (hl : LimDos l) : Calls Tryz.prog 11 #[v, .int .i64 left] w (Sized (totDos l) left w) := by
  obtain ⟨A, c, rfl⟩ := sliceDos h
  have hl1 : l.length ≤ 9223372036854775807 := by have := hl.1; unfold maxLen at this; omega
  have HT := Lib.hid (show totDos l = l.length + sumN totDo l from rfl)
  by_cases hle : (l.length : Int) ≤ left
  · go_enter Tryz.func11, Tryz.ntmps11
    go_wp2
    go_loopw [1, 5] (fun x i wr => ∃ j : Nat, j ≤ l.length ∧ i = .int .i64 j ∧ x = .int .i64 (left - (l.length : Int) - (sumN totDo (l.take j) : Int)) ∧ 0 ≤ left - (l.length : Int) - (sumN totDo (l.take j) : Int) ∧ Below w.heap.size w wr) (fun _ i _ => l.length - (intOf i).toNat)
    case atStart => exact ⟨0, Nat.zero_le _, rfl, by simp [sumN], by simp [sumN]; omega, Below.refl _ _⟩
    case round =>
      obtain ⟨j, hj, rfl, rfl, hs, hbel⟩ := hrel
      by_cases hlt : j < l.length
      · obtain ⟨b, off, x, A2, c2, A3, c3, A4, c4, rfl, hb, hp, y0, y1, y2, y3, y4, r2, r3, r4⟩ := atDos (h.below hbel) hlt
        have HS := Lib.hid (sumN_snoc (f := totDo) hp)
        have hlp := hl.2 x (List.mem_of_getElem? hp)
        have hb1 : left - (l.length : Int) - (sumN totDo (l.take j) : Int) ≤ 1048576 := by omega
        clear hp
        generalize hq : left - (l.length : Int) - (sumN totDo (l.take j) : Int) = q at *
        have HQ := Lib.hid hq
        clear hq
        go_wp2_with fail
        refine (szDo _ x q _ (rdDo x (RdC.more hbel.size _ _ r2) (RdC.more hbel.size _ _ r3) (RdC.more hbel.size _ _ r4)) hs hb1 hlp).mono ?_
        rintro e w1 ⟨r, rfl, hr', b1⟩
        rcases hr' with rfl | ⟨hr0, hr1⟩
        · go_wp2
          go_ret
          exact ⟨_, rfl, .inl rfl, hbel.trans (b1.mono hbel.size)⟩
        · have HR := Lib.hid hr1
          clear hr1
          go_wp2
          go_roundw
          case rel =>
            have e1 : r = left - (l.length : Int) - (sumN totDo (l.take (j + 1)) : Int) := by rw [HR.out, HS.out, ← HQ.out]; omega
            exact ⟨j + 1, by omega, by go_num, by rw [e1], by rw [← e1]; exact hr0, hbel.trans (b1.mono hbel.size)⟩
          case measure => simp [intOf]; omega
      · have hke : l.take j = l := List.take_of_length_le (by omega)
        rw [hke] at hs ⊢
        go_wp2
        go_ret
        exact ⟨_, rfl, .inr ⟨hs, by rw [HT.out]; omega⟩, hbel⟩
  · have h' : left - (l.length : Int) < 0 := by omega
    go_enter Tryz.func11, Tryz.ntmps11
    go_wp2
    go_ret
    exact ⟨_, rfl, .inl rfl, Below.refl _ _⟩
theorem infoDo : (Tryz.prog.info? 75).map (fun i => (i.zero, i.size, i.bytes)) = some (some (.agg #[.string ⟨#[]⟩, .int .i64 0, .slice none 0 0, .slice none 0 0, .slice none 0 0]), 5, 96) := by kernel_rfl

set_option maxRecDepth 100000 in
set_option maxHeartbeats 1600000 in
theorem toDos (v : Value) (l : List Do) (w : World) (h : RdC w w.heap.size (encDos l) v) (hs : SmDos l) : Calls Tryz.prog 15 #[v] w (OwnPost (encDos l) w) := by
  obtain ⟨A, c, rfl⟩ := sliceDos h
  have hll := hs.len
  obtain ⟨i0, hi0, hz0, hz1, hz2⟩ := info_parts infoDo
  go_enter Tryz.func15, Tryz.ntmps15
  go_wp2_with (at_make; refine wpList_make_full _ rfl _ _ 27 rfl w.heap.size 75 i0 (.agg #[.string ⟨#[]⟩, .int .i64 0, .slice none 0 0, .slice none 0 0, .slice none 0 0]) 5 Tryz.underlying27 hi0 hz0 hz1 _ _ _ _ l.length rfl rfl (by omega) (by omega) (by rw [hz2]; omega) (by unfold maxLen; omega) (Nat.le_refl _) ?_; intro w1 hown hg)
  have hbel : Below w.heap.size w w1 := (Below.refl _ _).grown hg (Nat.le_refl _) (fun _ h => by cases h)
  have HF0 := Lib.hid (Fil.start hown)
  clear hown hg
  go_loopw [4] (fun i wr => ∃ j : Nat, j ≤ l.length ∧ i = .int .i64 j ∧ Fil w.heap.size 75 5 l.length ((l.take j).map encDo) wr ∧ Below w.heap.size w wr) (fun i _ => l.length - (intOf i).toNat)
  case atStart => exact ⟨0, Nat.zero_le _, rfl, by simpa using HF0.out, hbel⟩
  case round =>
    obtain ⟨j, hj, rfl, hf, hb⟩ := hrel
    clear HF0 hbel
    have HF := Lib.hid hf
    clear hf
    by_cases hlt : j < l.length
    · obtain ⟨b, off, x, A2, c2, A3, c3, A4, c4, rfl, hbb, hp, y0, y1, y2, y3, y4, r2, r3, r4⟩ := atDos (h.below hb) hlt
      have hsx := hs.at_ (List.mem_of_getElem? hp)
      have HP := Lib.hid hp
      clear hp
      go_wp2_with fail
      refine (toDo _ x wr (rdDo x (RdC.more hb.size _ _ r2) (RdC.more hb.size _ _ r3) (RdC.more hb.size _ _ r4)) hsx).mono ?_
      rintro e w2 ⟨v2, rfl, o2, b2⟩
      obtain ⟨B2, d2, B3, d3, B4, d4, rfl, _, _, _⟩ := aggDo o2.read
      have OL := Lib.hid (o2.aggV (vs := [.string x.name, .int .i64 x.from_, .slice B2 x.text.length d2, .slice B3 x.list.length d3, .slice B4 x.seen.length d4]))
      have F2 := HF.out.past b2
      obtain ⟨u0, hu0⟩ := F2.cell (o := j * 5) (by omega)
      have f0 := F2.free (j * 5)
      obtain ⟨u1, hu1⟩ := F2.cell (o := j * 5 + 1) (by omega)
      have f1 := F2.free (j * 5 + 1)
      obtain ⟨u2, hu2⟩ := F2.cell (o := j * 5 + 2) (by omega)
      have f2 := F2.free (j * 5 + 2)
      obtain ⟨u3, hu3⟩ := F2.cell (o := j * 5 + 3) (by omega)
      have f3 := F2.free (j * 5 + 3)
      obtain ⟨u4, hu4⟩ := F2.cell (o := j * 5 + 4) (by omega)
      have f4 := F2.free (j * 5 + 4)
      clear F2 o2
      go_wp2
      go_roundw
      case rel =>
        have key := HF.out.push (r := encDo x) (ys := [.string x.name, .int .i64 x.from_, .slice B2 x.text.length d2, .slice B3 x.list.length d3, .slice B4 x.seen.length d4]) (by simp; omega) rfl b2 OL.out
        have e1 : ((l.take j).map encDo).length = j := by simp; omega
        have e2 : (l.take (j + 1)).map encDo = (l.take j).map encDo ++ [encDo x] := by rw [List.take_add_one, HP.out]; simp
        rw [e1] at key
        refine ⟨j + 1, by omega, by go_num, by rw [e2]; exact key, ?_⟩
        exact putRow_below (Nat.le_refl _) [.string x.name, .int .i64 x.from_, .slice B2 x.text.length d2, .slice B3 x.list.length d3, .slice B4 x.seen.length d4] w2 (j * 5) (hb.trans (b2.mono hb.size))
      case measure => simp [intOf]; omega
    · obtain rfl : j = l.length := by omega
      go_wp2
      go_ret
      have k1 := HF.out
      rw [List.take_length] at k1
      exact ⟨_, rfl, by have := k1.done (by simp); exact this, hb⟩

set_option maxRecDepth 100000 in
set_option maxHeartbeats 1600000 in
theorem eqDos (v v' : Value) (l : List Do) (w : World) (h : RdC w w.heap.size (encDos l) v) (h' : RdC w w.heap.size (encDos l) v') (hs : SmDos l) : Calls Tryz.prog 22 #[v, v'] w (Tells true w) := by
  obtain ⟨A, c, rfl⟩ := sliceDos h
  obtain ⟨A', c', rfl⟩ := sliceDos h'
  have hll := hs.len
  go_enter Tryz.func22, Tryz.ntmps22
  have hb : ((l.length : Int) != (l.length : Int)) = false := by simp
  go_wp2
  go_loopw [5] (fun i wr => ∃ k : Nat, k ≤ l.length ∧ i = .int .i64 k ∧ Below w.heap.size w wr) (fun i _ => l.length - (intOf i).toNat)
  case atStart => exact ⟨0, Nat.zero_le _, rfl, Below.refl _ _⟩
  case round =>
    obtain ⟨k, hk, rfl, hbel⟩ := hrel
    by_cases hlt : k < l.length
    · obtain ⟨b, off, x, A2, c2, A3, c3, A4, c4, rfl, hb1, hp, y0, y1, y2, y3, y4, r2, r3, r4⟩ := atDos (h.below hbel) hlt
      obtain ⟨b', off', x', B2, d2, B3, d3, B4, d4, rfl, hb2, hq, z0, z1, z2, z3, z4, s2, s3, s4⟩ := atDos (h'.below hbel) hlt
      obtain rfl : x = x' := by rw [hp] at hq; injection hq
      have hsx := hs.at_ (List.mem_of_getElem? hp)
      clear hp hq
      have q1 := Lib.hid (show RdC wr.drew wr.drew.heap.size (datDo x) (.agg #[.string x.name, .int .i64 x.from_, .slice A2 x.text.length c2, .slice A3 x.list.length c3, .slice A4 x.seen.length c4]) from (rdDo x (RdC.more hbel.size _ _ r2) (RdC.more hbel.size _ _ r3) (RdC.more hbel.size _ _ r4)).drewS)
      have q2 := Lib.hid (show RdC wr.drew wr.drew.heap.size (datDo x) (.agg #[.string x.name, .int .i64 x.from_, .slice B2 x.text.length d2, .slice B3 x.list.length d3, .slice B4 x.seen.length d4]) from (rdDo x (RdC.more hbel.size _ _ s2) (RdC.more hbel.size _ _ s3) (RdC.more hbel.size _ _ s4)).drewS)
      clear r2 s2 r3 s3 r4 s4
      go_wp2
      go_region_with (go_at_call 45; refine (eqDo _ _ x _ (by exact q1.out) (by exact q2.out) hsx).mono ?_; rintro e w2 ⟨rfl, b2⟩)
      all_goals
        go_wp2
        go_roundw
        case rel => exact ⟨k + 1, by omega, by go_num, hbel.drew.trans (b2.mono hbel.size)⟩
        case measure => simp [intOf]; omega
    · go_wp2
      go_ret
      exact ⟨rfl, hbel⟩
theorem mklDos {w : World} {B : Nat} {k : Int} {l : List Do} {v : Value} (h : RdC w B (mkC k (encDos l)) v) : ∃ A c, v = .slice A l.length c := by
  have h' : RdC w B (.rows 75 5 (mkR k (l.map encDo))) v := h
  obtain ⟨A, c, hv, _⟩ := h'.len
  exact ⟨A, c, by simpa [mkR_len] using hv⟩
end Go.Proofs.YtamainhocghlgaaGreatDoor.low


/-
  The struct type Ring of the laws: its words, and the laws' own functions on it and on slices of it. Written by mkty.py.
-/
namespace Go.Proofs.YtamainhocghlgaaGreatDoor.low
open Go.RowKit
set_option linter.unusedVariables false

structure Ri where
  cap : Int
  next : Int
  out : Bool
  list : List En
def encRi (x : Ri) : List Dat := [.int x.cap, .int x.next, .bool x.out, encEns x.list]
def datRi (x : Ri) : Dat := .agg (encRi x)
def totRi (x : Ri) : Nat := totEns x.list
def LimRi (x : Ri) : Prop := LimEns x.list
def SmRi (x : Ri) : Prop := totRi x ≤ 1048576
def totRis (l : List Ri) : Nat := l.length + sumN totRi l
def SmRis (l : List Ri) : Prop := totRis l ≤ 1048576
theorem SmRis.len {l : List Ri} (h : SmRis l) : l.length ≤ 1048576 := by unfold SmRis totRis at h; omega
theorem SmRis.at_ {l : List Ri} (h : SmRis l) {x : Ri} (hx : x ∈ l) : SmRi x := by
  unfold SmRis totRis at h
  have := sumN_at (f := totRi) hx
  unfold SmRi
  omega
theorem SmRi.list {x : Ri} (h : SmRi x) : SmEns x.list := smEns_of (by unfold SmRi totRi at h; omega)
theorem aggRi {w : World} {B : Nat} {x : Ri} {v : Value} (h : RdC w B (datRi x) v) : ∃ (A3 : Option Addr) (c3 : Nat), v = .agg #[.int .i64 x.cap, .int .i64 x.next, .bool x.out, .slice A3 x.list.length c3] ∧ RdC w B (encEns x.list) (.slice A3 x.list.length c3) := by
  obtain ⟨vs, rfl, v0, _, rfl, rfl, v1, _, rfl, rfl, v2, _, rfl, rfl, v3, _, rfl, r3, rfl⟩ := h
  obtain ⟨A3, c3, rfl⟩ := sliceEns r3
  exact ⟨A3, c3, rfl, r3⟩
theorem rdRi {w : World} {B : Nat} (x : Ri) {v3 : Value} (r3 : RdC w B (encEns x.list) v3) : RdC w B (datRi x) (.agg #[.int .i64 x.cap, .int .i64 x.next, .bool x.out, v3]) := ⟨_, rfl, _, _, rfl, rfl, _, _, rfl, rfl, _, _, rfl, rfl, _, _, rfl, r3, rfl⟩
set_option maxRecDepth 100000 in
set_option maxHeartbeats 1600000 in
theorem szRi (v : Value) (x : Ri) (left : Int) (w : World) (h : RdC w w.heap.size (datRi x) v) (h0 : 0 ≤ left) (h1 : left ≤ 1048576) (hl : LimRi x) : Calls Tryz.prog 57 #[v, .int .i64 left] w (Sized (totRi x) left w) := by
  obtain ⟨A3, c3, rfl, r3⟩ := aggRi h
  have b0 := alloc_below w (.cells #[.int .i64 x.cap, .int .i64 x.next, .bool x.out, .slice A3 x.list.length c3] 68)
  have hlt : w.heap.size < (w.alloc (.cells #[.int .i64 x.cap, .int .i64 x.next, .bool x.out, .slice A3 x.list.length c3] 68)).heap.size := by rw [World.size_alloc]; omega
  have D0 : Below (w.alloc (.cells #[.int .i64 x.cap, .int .i64 x.next, .bool x.out, .slice A3 x.list.length c3] 68)).heap.size (w.alloc (.cells #[.int .i64 x.cap, .int .i64 x.next, .bool x.out, .slice A3 x.list.length c3] 68)) (w.alloc (.cells #[.int .i64 x.cap, .int .i64 x.next, .bool x.out, .slice A3 x.list.length c3] 68)) := Below.refl _ _
  unfold LimRi at hl
  have HT := Lib.hid (show totRi x = totEns x.list from rfl)
  go_enter Tryz.func57, Tryz.ntmps57
  go_wp2_with fail
  refine (szEns _ x.list left _ ((r3.past b0).past D0) (by omega) (by omega) hl).mono ?_
  rintro e w1 ⟨e1, rfl, hr1, k1⟩
  have D1 := D0.trans (k1.mono D0.size)
  rcases hr1 with rfl | ⟨p1, q1⟩
  · go_wp2
    go_ret
    exact ⟨_, rfl, .inl rfl, b0.trans (D1.mono b0.size)⟩
  have t1 : e1 ≤ 1048576 := by omega
  have Q1 := Lib.hid q1
  clear q1 k1
  go_wp2
  go_ret
  refine ⟨_, rfl, .inr ⟨by omega, ?_⟩, b0.trans (D1.mono b0.size)⟩
  rw [HT.out]
  have := Q1.out
  omega

set_option maxRecDepth 100000 in
set_option maxHeartbeats 1600000 in
theorem toRi (v : Value) (x : Ri) (w : World) (h : RdC w w.heap.size (datRi x) v) (hs : SmRi x) : Calls Tryz.prog 67 #[v] w (OwnPost (datRi x) w) := by
  obtain ⟨A3, c3, rfl, r3⟩ := aggRi h
  go_enter Tryz.func67, Tryz.ntmps67
  have s0 := ToS.start w #[.int .i64 x.cap, .int .i64 x.next, .bool x.out, .slice A3 x.list.length c3] 68 #[.int .i64 0, .int .i64 0, .bool false, .slice none 0 0] 78 #[.int .i64 x.cap, .int .i64 x.next, .bool x.out, .slice none 0 0]
  go_wp2_with fail
  generalize hW0 : (((w.alloc (.cells #[.int .i64 x.cap, .int .i64 x.next, .bool x.out, .slice A3 x.list.length c3] 68)).alloc (.cells #[.int .i64 0, .int .i64 0, .bool false, .slice none 0 0] 78)).alloc (.cells #[.int .i64 x.cap, .int .i64 x.next, .bool x.out, .slice none 0 0] 78)) = W0 at s0 ⊢
  clear hW0
  have l0 := s0.lt
  refine (toEns _ x.list W0 (r3.past s0.bel) hs.list).mono ?_
  rintro e w1 ⟨v1, rfl, o1, k1⟩
  obtain ⟨B3, d3, rfl⟩ := sliceEns o1.read
  have zk1 := k1.size
  have u1 := s0.past k1
  have y3 : w1.cell? ⟨w.heap.size + 1 + 1, 3, none⟩ = some (.slice none 0 0) := bxcell u1.b2 rfl
  have f3 : w1.frozen? ⟨w.heap.size + 1 + 1, 3, none⟩ = false := bxfree u1.b2
  have t0 : w1.cell? ⟨w.heap.size + 1 + 1, 0, none⟩ = some (.int .i64 x.cap) := bxcell u1.b2 rfl
  have q0 : w1.cell? ⟨w.heap.size + 1, 0, none⟩ = some (.int .i64 0) := bxcell u1.b1 rfl
  have g0 : w1.frozen? ⟨w.heap.size + 1, 0, none⟩ = false := bxfree u1.b1
  have t1 : w1.cell? ⟨w.heap.size + 1 + 1, 1, none⟩ = some (.int .i64 x.next) := bxcell u1.b2 rfl
  have q1 : w1.cell? ⟨w.heap.size + 1, 1, none⟩ = some (.int .i64 0) := bxcell u1.b1 rfl
  have g1 : w1.frozen? ⟨w.heap.size + 1, 1, none⟩ = false := bxfree u1.b1
  have t2 : w1.cell? ⟨w.heap.size + 1 + 1, 2, none⟩ = some (.bool x.out) := bxcell u1.b2 rfl
  have q2 : w1.cell? ⟨w.heap.size + 1, 2, none⟩ = some (.bool false) := bxcell u1.b1 rfl
  have g2 : w1.frozen? ⟨w.heap.size + 1, 2, none⟩ = false := bxfree u1.b1
  have q3 : w1.cell? ⟨w.heap.size + 1, 3, none⟩ = some (.slice none 0 0) := bxcell u1.b1 rfl
  have g3 : w1.frozen? ⟨w.heap.size + 1, 3, none⟩ = false := bxfree u1.b1
  have s1 : ToS w #[.int .i64 x.cap, .int .i64 x.next, .bool x.out, .slice A3 x.list.length c3] 68 #[.int .i64 0, .int .i64 0, .bool false, .slice none 0 0] 78 #[.int .i64 x.cap, .int .i64 x.next, .bool x.out, .slice B3 x.list.length d3] (w1.setCell ⟨w.heap.size + 1 + 1, 3, none⟩ (.slice B3 x.list.length d3)) := u1.set 3 _
  clear u1
  have o1 := (o1.setUnder (g := w.heap.size + 1 + 1) (o := 3) (.inl (by omega)) (.slice B3 x.list.length d3)).putRow (g := w.heap.size + 1) (.inl (by omega)) [.int .i64 x.cap, .int .i64 x.next, .bool x.out, .slice B3 x.list.length d3] _ 0
  have hB : Below w.heap.size w (putRow (w1.setCell ⟨w.heap.size + 1 + 1, 3, none⟩ (.slice B3 x.list.length d3)) (w.heap.size + 1) 0 [.int .i64 x.cap, .int .i64 x.next, .bool x.out, .slice B3 x.list.length d3]) := putRow_below (by omega) _ _ _ s1.bel
  have hZ : (putRow (w1.setCell ⟨w.heap.size + 1 + 1, 3, none⟩ (.slice B3 x.list.length d3)) (w.heap.size + 1) 0 [.int .i64 x.cap, .int .i64 x.next, .bool x.out, .slice B3 x.list.length d3]).heap.size = w1.heap.size := (putRow_size _ _ _ _).trans (by simp [World.setCell])
  have hF : ∀ m, m ≤ w1.heap.size → m ≤ (putRow (w1.setCell ⟨w.heap.size + 1 + 1, 3, none⟩ (.slice B3 x.list.length d3)) (w.heap.size + 1) 0 [.int .i64 x.cap, .int .i64 x.next, .bool x.out, .slice B3 x.list.length d3]).heap.size := fun m hm => by rw [hZ]; exact hm
  go_wp2
  refine bodyPost_ret (v := .agg #[.int .i64 x.cap, .int .i64 x.next, .bool x.out, .slice B3 x.list.length d3]) (by simp [results, Tryz.results67, go_sem, q0, q1, q2, q3]) rfl ⟨_, rfl, ?_, hB⟩
  exact OwnL.agg (OwnL.flat rfl (OwnL.flat rfl (OwnL.flat rfl (OwnL.own (lo := w.heap.size) (mid := w1.heap.size) (o1.wide (by omega) (Nat.le_refl _) (hF _ (by omega))) (OwnL.nil (Nat.le_refl _) (hF _ (by omega)))))))

set_option maxRecDepth 100000 in
set_option maxHeartbeats 1600000 in
theorem eqRi (v v' : Value) (x : Ri) (w : World) (h : RdC w w.heap.size (datRi x) v) (h' : RdC w w.heap.size (datRi x) v') (hs : SmRi x) : Calls Tryz.prog 83 #[v, v'] w (Tells true w) := by
  obtain ⟨A3, c3, rfl, r3⟩ := aggRi h
  obtain ⟨B3, d3, rfl, s3⟩ := aggRi h'
  obtain ⟨g1, g2, b0⟩ := two_boxes w #[.int .i64 x.cap, .int .i64 x.next, .bool x.out, .slice A3 x.list.length c3] #[.int .i64 x.cap, .int .i64 x.next, .bool x.out, .slice B3 x.list.length d3] 78
  have D0 : Below ((w.alloc (.cells #[.int .i64 x.cap, .int .i64 x.next, .bool x.out, .slice A3 x.list.length c3] 78)).alloc (.cells #[.int .i64 x.cap, .int .i64 x.next, .bool x.out, .slice B3 x.list.length d3] 78)).heap.size ((w.alloc (.cells #[.int .i64 x.cap, .int .i64 x.next, .bool x.out, .slice A3 x.list.length c3] 78)).alloc (.cells #[.int .i64 x.cap, .int .i64 x.next, .bool x.out, .slice B3 x.list.length d3] 78)) ((w.alloc (.cells #[.int .i64 x.cap, .int .i64 x.next, .bool x.out, .slice A3 x.list.length c3] 78)).alloc (.cells #[.int .i64 x.cap, .int .i64 x.next, .bool x.out, .slice B3 x.list.length d3] 78)) := Below.refl _ _
  have lt2 := lt_of_some g2
  have lt1 := lt_of_some g1
  have n0 : (x.cap != x.cap) = false := by simp
  have n1 : (x.next != x.next) = false := by simp
  have n2 : (x.out != x.out) = false := by simp
  go_enter Tryz.func83, Tryz.ntmps83
  go_wp2_with fail
  refine (eqEns _ _ x.list _ ((r3.past b0).past D0) ((s3.past b0).past D0) hs.list).mono ?_
  rintro e w1 ⟨rfl, k1⟩
  have D1 := D0.trans (k1.mono D0.size)
  clear k1
  go_wp2
  go_ret
  exact ⟨rfl, b0.trans (D1.mono b0.size)⟩

end Go.Proofs.YtamainhocghlgaaGreatDoor.low


/-
  Contracts of the specification's builder: spec.l02Flush, l02Keep, l02Put, l02Drop, l02Done.
-/
namespace Go.Proofs.YtamainhocghlgaaGreatDoor.low
open Go.RowKit
set_option linter.unusedVariables false

theorem free_grown {w w0 w1 : World} {g o : Nat} {cs : Array Value} {T : TypeId} {r : Option Nat} (hg : w.heap[g]? = some (.cells cs T (0, 0))) (h0 : Below w.heap.size w w0) (hgrow : w0.grownBy w1 r) (hne : ¬ r = some g) : w1.frozen? ⟨g, o, none⟩ = false := by
  have hlt := lt_of_some hg
  have : w1.heap[g]? = some (.cells cs T (0, 0)) := by rw [hgrow.block g (Nat.lt_of_lt_of_le hlt h0.size) (fun e => hne e.symm), h0.block g hlt]; exact hg
  simp [World.frozen?, this]
theorem below_made (w : World) (o : Obj) : Below w.heap.size w (w.alloc o).drew := ((Below.refl _ _).alloc (Nat.le_refl _) o).drew
theorem cell_grown {w w0 w1 : World} {g : Nat} {cs : Array Value} {T : TypeId} {r : Option Nat} (o : Nat) (hg : w.heap[g]? = some (.cells cs T (0, 0))) (h0 : Below w.heap.size w w0) (hgrow : w0.grownBy w1 r) (hne : ¬ r = some g) : w1.cell? ⟨g, o, none⟩ = cs[o]? := by
  have hlt := lt_of_some hg
  have : w1.heap[g]? = some (.cells cs T (0, 0)) := by rw [hgrow.block g (Nat.lt_of_lt_of_le hlt h0.size) (fun e => hne e.symm), h0.block g hlt]; exact hg
  exact cell_of_row _ _ o _ _ _ this
theorem Box.drew {lo g : Nat} {T : TypeId} {w : World} {v u : Value} {d : Int} {ps : List Pt} {us : List Value} (h : Box lo g T w v u d ps us) : Box lo g T w.drew v u d ps us := ⟨h.box, h.row.drew, h.len, h.low⟩
theorem Apart.drew {lo hi : Nat} {w : World} {ps : List Pt} {us : List Value} (h : Apart lo hi w ps us) : Apart lo hi w.drew ps us := h.keep (Nat.le_refl _) (fun _ _ _ _ _ _ => rfl)
theorem Apart.drewS {lo : Nat} {w : World} {ps : List Pt} {us : List Value} (h : Apart lo w.heap.size w ps us) : Apart lo w.drew.heap.size w.drew ps us := h.drew

def putL (put : List Int) : List Pt := if put.length = 0 then [] else [⟨2, 0, put⟩]
def dropL (d : Int) : List Pt := if 0 < d then [⟨3, d, []⟩] else []
/-- the builder: its parts, what is to be put, what is dropped -/
def BAt (lo g : Nat) (T : TypeId) (w : World) (ps : List Pt) (put : List Int) (d : Int) : Prop :=
  ∃ v u us, Box lo g T w v u d ps us ∧ Apart lo w.heap.size w (ps ++ [⟨2, 0, put⟩]) (us ++ [u])
/-- the function returns nothing and leaves the builder so -/
def Built (lo g : Nat) (T : TypeId) (w : World) (ps : List Pt) (put : List Int) (d : Int) (e : Ending) (w' : World) : Prop := e = .returned (.tuple #[]) ∧ BAt lo g T w' ps put d ∧ Below lo w w'

theorem Apart.init {lo hi : Nat} {w : World} {ps : List Pt} {us : List Value} {p : Pt} {u : Value} (h : Apart lo hi w (ps ++ [p]) (us ++ [u])) (hl : us.length = ps.length) : Apart lo hi w ps us := by
  obtain ⟨h1, h2, h3⟩ := h
  refine ⟨hl, fun i q x hq hx => h2 i q x ?_ ?_, fun i j k a b ha hb => h3 i j k a b ?_ ?_⟩
  · rw [List.getElem?_append_left (idx_lt hq)]; exact hq
  · rw [List.getElem?_append_left (idx_lt hx)]; exact hx
  · rw [List.getElem?_append_left (idx_lt ha)]; exact ha
  · rw [List.getElem?_append_left (idx_lt hb)]; exact hb
theorem Apart.last {lo hi : Nat} {w : World} {ps : List Pt} {us : List Value} {p : Pt} {u : Value} (h : Apart lo hi w (ps ++ [p]) (us ++ [u])) (hl : us.length = ps.length) : w.ownsRow lo 3 1 u p.signs.length (p.signs.map (Value.int .i64)) := by
  have := (h.2.1 ps.length p u (by simp) (by rw [← hl]; simp)).1
  exact this
theorem Apart.bare {lo hi : Nat} {w : World} {ps : List Pt} {us : List Value} (k n : Int) (h : Apart lo hi w ps us) : Apart lo hi w (ps ++ [⟨k, n, []⟩]) (us ++ [.slice none 0 0]) :=
  h.snoc (World.ownsRow_nil _ _ _ _) (fun k hk => by simp [Value.ownBlock] at hk) (fun i v k _ _ he => by simp [Value.ownBlock] at he)

/-- the builder with nothing pending -/
def BNil (lo g : Nat) (T : TypeId) (w : World) (ps : List Pt) : Prop := ∃ v us, Box lo g T w v (.slice none 0 0) 0 ps us ∧ Apart lo w.heap.size w ps us
theorem BNil.at_ {lo g : Nat} {T : TypeId} {w : World} {ps : List Pt} (h : BNil lo g T w ps) : BAt lo g T w ps [] 0 := by
  obtain ⟨v, us, hx, ha⟩ := h
  exact ⟨v, _, us, hx, Apart.bare 2 0 ha⟩
def Flushed (lo g : Nat) (T : TypeId) (w : World) (ps : List Pt) (e : Ending) (w' : World) : Prop := e = .returned (.tuple #[]) ∧ BNil lo g T w' ps ∧ Below lo w w'
theorem Box.clear {lo g : Nat} {T : TypeId} {w : World} {v u : Value} {d : Int} {ps : List Pt} {us : List Value} (h : Box lo g T w v u d ps us) (hT1 : ¬ T = 3) (hT2 : ¬ T = 145) (ha : Apart lo w.heap.size w ps us) :
    BNil lo g T ((w.setCell ⟨g, 1, none⟩ (.slice none 0 0)).setCell ⟨g, 2, none⟩ (.int .i64 0)) ps ∧ Below lo w ((w.setCell ⟨g, 1, none⟩ (.slice none 0 0)).setCell ⟨g, 2, none⟩ (.int .i64 0)) := by
  refine ⟨⟨v, us, ⟨?_, ?_, h.len, h.low⟩, ?_⟩, ((Below.refl _ _).setCell h.low _).setCell h.low _⟩
  · rw [heap_setCell_same _ _ _ _ _ _ (heap_setCell_same _ _ _ _ _ _ h.box)]; rfl
  · exact ownsRow_setCell_other (ownsRow_setCell_other h.row (own_far h.row h.box hT2) _) (own_far h.row h.box hT2) _
  · refine ha.keep (by simp) (fun i x k hx hk1 hk2 => ?_)
    obtain ⟨q, hq⟩ := idx_some (l := ps) (i := i) (by rw [← ha.1]; exact idx_lt hx)
    have hkg : ¬ k = g := fun e => own_far (ha.2.1 i q x hq hx).1 h.box hT1 (by rw [hk1, e])
    rw [Below.heap_setCell _ _ _ _ hkg, Below.heap_setCell _ _ _ _ hkg]

/-- the blocks of a builder lie in S -/
def OwnS (S : Nat → Prop) (g : Nat) (v : Value) (us : List Value) : Prop := S g ∧ (∀ k, v.ownBlock = some k → S k) ∧ ∀ (i k : Nat) (x : Value), us[i]? = some x → x.ownBlock = some k → S k
/-- blocks outside S are as they were -/
structure Fr (S : Nat → Prop) (w w' : World) : Prop where
  size : w.heap.size ≤ w'.heap.size
  block : ∀ b, b < w.heap.size → ¬ S b → w'.heap[b]? = w.heap[b]?
theorem Fr.refl (S : Nat → Prop) (w : World) : Fr S w w := ⟨Nat.le_refl _, fun _ _ _ => rfl⟩
theorem Fr.trans {S : Nat → Prop} {a b c : World} (h : Fr S a b) (k : Fr S b c) : Fr S a c := ⟨Nat.le_trans h.size k.size, fun i hi hs => (k.block i (Nat.lt_of_lt_of_le hi h.size) hs).trans (h.block i hi hs)⟩
theorem Fr.setCell {S : Nat → Prop} {a w : World} (h : Fr S a w) {p : Addr} (hp : S p.block) (u : Value) : Fr S a (w.setCell p u) :=
  h.trans ⟨by simp [World.setCell], fun b _ hb => Below.heap_setCell _ _ _ _ (fun e => hb (by rw [e]; exact hp))⟩
theorem Fr.drew {S : Nat → Prop} {a w : World} (h : Fr S a w) : Fr S a w.drew := h.trans ⟨Nat.le_refl _, fun _ _ _ => rfl⟩
theorem Fr.below {S : Nat → Prop} {w w' : World} (h : Below w.heap.size w w') : Fr S w w' := ⟨h.size, fun b hb _ => h.block b hb⟩
theorem Fr.grown {S : Nat → Prop} {a w w' : World} {r : Option Nat} (h : Fr S a w) (hg : w.grownBy w' r) (hr : ∀ k, r = some k → S k) : Fr S a w' :=
  h.trans ⟨hg.size, fun b hb hs => hg.block b hb (fun e => hs (hr b e.symm))⟩
theorem OwnS.push {S : Nat → Prop} {g gg cap n H : Nat} {v u' : Value} {us : List Value} (h : OwnS S g v us) (hu : ∀ k, u'.ownBlock = some k → S k) (hat : v.ownBlock = some gg ∨ gg = H) (hH : S H) : OwnS S g (.slice (some ⟨gg, 0, none⟩) n cap) (us ++ [u']) := by
  refine ⟨h.1, fun k hk => ?_, fun i k x hx hk => ?_⟩
  · have e : gg = k := by simpa [Value.ownBlock] using hk
    subst e
    rcases hat with e | e
    · exact h.2.1 _ e
    · rw [e]; exact hH
  · by_cases hi : i < us.length
    · rw [List.getElem?_append_left hi] at hx
      exact h.2.2 i k x hx hk
    · rw [List.getElem?_append_right (by omega)] at hx
      have hx' : i - us.length = 0 := by
        have := idx_lt hx
        simp at this
        omega
      rw [hx'] at hx
      simp at hx
      subst hx
      exact hu k hk
theorem OwnS.init {S : Nat → Prop} {g : Nat} {v u : Value} {us : List Value} (h : OwnS S g v (us ++ [u])) : OwnS S g v us := ⟨h.1, h.2.1, fun i k x hx hk => h.2.2 i k x (by rw [List.getElem?_append_left (idx_lt hx)]; exact hx) hk⟩
theorem OwnS.last {S : Nat → Prop} {g : Nat} {v u : Value} {us : List Value} (h : OwnS S g v (us ++ [u])) : ∀ k, u.ownBlock = some k → S k := fun k hk => h.2.2 us.length k u (by simp) hk
theorem nil_own {S : Nat → Prop} : ∀ k, (Value.slice none 0 0).ownBlock = some k → S k := fun k hk => by simp [Value.ownBlock] at hk
theorem push_fr {S : Nat → Prop} {g : Nat} {v : Value} {us : List Value} {w w0 w1 : World} (h : OwnS S g v us) (h0 : Below w.heap.size w w0) (hg : w0.grownBy w1 v.ownBlock) (x : Value) : Fr S w (w1.setCell ⟨g, 0, none⟩ x) :=
  ((Fr.below h0).grown hg (fun k hk => h.2.1 k hk)).setCell h.1 x
/-- the builder: its parts, what is to be put, what is dropped; its blocks lie in S -/
def BAtS (S : Nat → Prop) (lo g : Nat) (T : TypeId) (w : World) (ps : List Pt) (put : List Int) (d : Int) : Prop :=
  ∃ v u us, Box lo g T w v u d ps us ∧ Apart lo w.heap.size w (ps ++ [⟨2, 0, put⟩]) (us ++ [u]) ∧ OwnS S g v (us ++ [u])
def BNilS (S : Nat → Prop) (lo g : Nat) (T : TypeId) (w : World) (ps : List Pt) : Prop := ∃ v us, Box lo g T w v (.slice none 0 0) 0 ps us ∧ Apart lo w.heap.size w ps us ∧ OwnS S g v us
def FlushedS (S : Nat → Prop) (lo g : Nat) (T : TypeId) (w : World) (ps : List Pt) (e : Ending) (w' : World) : Prop := e = .returned (.tuple #[]) ∧ BNilS S lo g T w' ps ∧ Below lo w w' ∧ Fr S w w'
def BuiltS (S : Nat → Prop) (lo g : Nat) (T : TypeId) (w : World) (ps : List Pt) (put : List Int) (d : Int) (e : Ending) (w' : World) : Prop := e = .returned (.tuple #[]) ∧ BAtS S lo g T w' ps put d ∧ Below lo w w' ∧ Fr S w w'
theorem BAt.all {lo g : Nat} {T : TypeId} {w : World} {ps : List Pt} {put : List Int} {d : Int} (h : BAt lo g T w ps put d) : BAtS (fun _ => True) lo g T w ps put d := by
  obtain ⟨v, u, us, hx, ha⟩ := h
  exact ⟨v, u, us, hx, ha, trivial, fun _ _ => trivial, fun _ _ _ _ _ => trivial⟩
theorem BAtS.any {S : Nat → Prop} {lo g : Nat} {T : TypeId} {w : World} {ps : List Pt} {put : List Int} {d : Int} (h : BAtS S lo g T w ps put d) : BAt lo g T w ps put d := by
  obtain ⟨v, u, us, hx, ha, _⟩ := h
  exact ⟨v, u, us, hx, ha⟩
theorem FlushedS.any {S : Nat → Prop} {lo g : Nat} {T : TypeId} {w w' : World} {ps : List Pt} {e : Ending} (h : FlushedS S lo g T w ps e w') : Flushed lo g T w ps e w' := by
  obtain ⟨h1, ⟨v, us, hx, ha, _⟩, b, _⟩ := h
  exact ⟨h1, ⟨v, us, hx, ha⟩, b⟩
theorem BuiltS.any {S : Nat → Prop} {lo g : Nat} {T : TypeId} {w w' : World} {ps : List Pt} {put : List Int} {d : Int} {e : Ending} (h : BuiltS S lo g T w ps put d e w') : Built lo g T w ps put d e w' := ⟨h.1, h.2.1.any, h.2.2.1⟩
theorem BNilS.at_ {S : Nat → Prop} {lo g : Nat} {T : TypeId} {w : World} {ps : List Pt} (h : BNilS S lo g T w ps) : BAtS S lo g T w ps [] 0 := by
  obtain ⟨v, us, hx, ha, ho⟩ := h
  refine ⟨v, _, us, hx, Apart.bare 2 0 ha, ho.1, ho.2.1, fun i k x hxi hk => ?_⟩
  by_cases hi : i < us.length
  · rw [List.getElem?_append_left hi] at hxi
    exact ho.2.2 i k x hxi hk
  · rw [List.getElem?_append_right (by omega)] at hxi
    have hx' : i - us.length = 0 := by
      have := idx_lt hxi
      simp at this
      omega
    rw [hx'] at hxi
    simp at hxi
    subst hxi
    simp [Value.ownBlock] at hk
theorem Box.clearS {S : Nat → Prop} {lo g : Nat} {T : TypeId} {w : World} {v u : Value} {d : Int} {ps : List Pt} {us : List Value} (h : Box lo g T w v u d ps us) (hT1 : ¬ T = 3) (hT2 : ¬ T = 145) (ha : Apart lo w.heap.size w ps us) (ho : OwnS S g v us) :
    BNilS S lo g T ((w.setCell ⟨g, 1, none⟩ (.slice none 0 0)).setCell ⟨g, 2, none⟩ (.int .i64 0)) ps ∧ Below lo w ((w.setCell ⟨g, 1, none⟩ (.slice none 0 0)).setCell ⟨g, 2, none⟩ (.int .i64 0)) ∧ Fr S w ((w.setCell ⟨g, 1, none⟩ (.slice none 0 0)).setCell ⟨g, 2, none⟩ (.int .i64 0)) := by
  refine ⟨⟨v, us, ⟨?_, ?_, h.len, h.low⟩, ?_, ho⟩, ((Below.refl _ _).setCell h.low _).setCell h.low _, ((Fr.refl S w).setCell (p := ⟨g, 1, none⟩) ho.1 _).setCell (p := ⟨g, 2, none⟩) ho.1 _⟩
  · rw [heap_setCell_same _ _ _ _ _ _ (heap_setCell_same _ _ _ _ _ _ h.box)]; rfl
  · exact ownsRow_setCell_other (ownsRow_setCell_other h.row (own_far h.row h.box hT2) _) (own_far h.row h.box hT2) _
  · refine ha.keep (by simp) (fun i x k hx hk1 hk2 => ?_)
    obtain ⟨q, hq⟩ := idx_some (l := ps) (i := i) (by rw [← ha.1]; exact idx_lt hx)
    have hkg : ¬ k = g := fun e => own_far (ha.2.1 i q x hq hx).1 h.box hT1 (by rw [hk1, e])
    rw [Below.heap_setCell _ _ _ _ hkg, Below.heap_setCell _ _ _ _ hkg]

set_option maxRecDepth 100000 in
set_option maxHeartbeats 3200000 in
theorem specFlush_f (S : Nat → Prop) (lo g : Nat) (ps : List Pt) (put : List Int) (d : Int) (w : World) (hb : BAtS S lo g 189 w ps put d) (hS : ∀ b, w.heap.size ≤ b → S b) (hl : ps.length ≤ 4294967296) (hp : put.length ≤ 4294967296) :
    Calls Tryz.prog 143 #[.pointer (some ⟨g, 0, none⟩)] w (FlushedS S lo g 189 w (ps ++ putL put ++ dropL d)) := by
  obtain ⟨i0, hi0, hz0, hz1, hz2⟩ := info_parts part_info
  obtain ⟨v, u, us, hx, ha, hos⟩ := hb
  have HS := Lib.hid hS
  have HOS := Lib.hid hos
  clear hS hos
  have ha0 := ha.init hx.len
  obtain ⟨A, c, rfl⟩ := own_form (ha.last hx.len)
  have c0 := hx.cell0
  have c1 := hx.cell1
  have c2 := hx.cell2
  have f0 := hx.free 0
  have f1 := hx.free 1
  have f2 := hx.free 2
  have HX := Lib.hid hx
  have HA := Lib.hid ha
  have HA0 := Lib.hid ha0
  clear hx ha ha0
  by_cases hput : put.length = 0
  · have e1 : putL put = [] := by simp [putL, hput]
    rw [e1, List.append_nil]
    by_cases hd : 0 < d
    · have e2 : dropL d = [⟨3, d, []⟩] := by simp [dropL, hd]
      rw [e2]
      go_enter Tryz.func143, Tryz.ntmps143
      go_wp2_with fail
      have lg := HX.out.lt
      have hlo : lo ≤ w.heap.size := Nat.le_trans HX.out.low (Nat.le_of_lt lg)
      have hne := own_far HX.out.row HX.out.box (by decide)
      go_region_law ((refine step_append_lies _ (by rfl) (.tmp 31) (.tmp 37) 104 (by rfl) lo 145 i0 _ 3 40 Tryz.underlying104 hi0 hz0 hz1 hz2 rfl (by omega) v ps.length (cellsOf ps us) (by rfl) ((HX.out.row.alloc _).drew) ⟨w.heap.size, 0, none⟩ 1 1 [.int .i64 3, .int .i64 d, .slice none 0 0] (by rfl) (by rfl) (World.news_of_block (cs := #[.int .i64 3, .int .i64 d, .slice none 0 0]) (t := 145) (fr := (0, 0)) (heap_alloc_new w _)) (by simp [Value.oneCell']) (by omega) (by unfold maxLen; omega) (by omega) (by simp; omega) (w.heap.size + 1) (by simp) ?_; intro gg cap w1 hown1 hgrow hat hlt; have hf := free_grown (o := 0) HX.out.box (below_made w _) hgrow hne; have hf1 := free_grown (o := 1) HX.out.box (below_made w _) hgrow hne; have hf2 := free_grown (o := 2) HX.out.box (below_made w _) hgrow hne; have hc : w1.cell? ⟨g, 0, none⟩ = some v := cell_grown 0 HX.out.box (below_made w _) hgrow hne; have hc1 : w1.cell? ⟨g, 1, none⟩ = some (.slice A put.length c) := cell_grown 1 HX.out.box (below_made w _) hgrow hne; have hc2 : w1.cell? ⟨g, 2, none⟩ = some (.int .i64 d) := cell_grown 2 HX.out.box (below_made w _) hgrow hne))
      all_goals
        obtain ⟨hx2, ha2, b2⟩ := Box.push (p := ⟨3, d, []⟩) HX.out (by decide) (by decide) (Apart.bare 3 d HA0.out) (below_made w _) hown1 hgrow
        have HO2 := Lib.hid (HOS.out.init.push (n := ps.length + 1) (cap := cap) nil_own hat (HS.out _ (by omega)))
        have HR2 := Lib.hid (push_fr HOS.out.init (below_made w _) hgrow (.slice (some ⟨gg, 0, none⟩) (ps.length + 1) cap))
        have HX2 := Lib.hid hx2
        have HA2 := Lib.hid ha2
        have HB2 := Lib.hid b2
        clear hx2 ha2 b2
        go_wp2
        go_end0
        obtain ⟨r1, r2, r3⟩ := HX2.out.clearS (by decide) (by decide) HA2.out HO2.out
        exact ⟨rfl, r1, HB2.out.trans r2, HR2.out.trans r3⟩

    · have e2 : dropL d = [] := by simp [dropL]; omega
      rw [e2, List.append_nil]
      go_enter Tryz.func143, Tryz.ntmps143
      go_wp2_with fail
      go_end0
      obtain ⟨r1, r2, r3⟩ := HX.out.clearS (by decide) (by decide) HA0.out HOS.out.init
      exact ⟨rfl, r1, r2, r3⟩
  · have hput' : (0 : Int) < (put.length : Int) := by omega
    have e1 : putL put = [⟨2, 0, put⟩] := by simp [putL, hput]
    rw [e1]
    by_cases hd : 0 < d
    · have e2 : dropL d = [⟨3, d, []⟩] := by simp [dropL, hd]
      rw [e2]
      generalize hQ : ps ++ [⟨2, 0, put⟩] ++ [⟨3, d, []⟩] = Q
      have HQ := Lib.hid hQ
      clear hQ
      go_enter Tryz.func143, Tryz.ntmps143
      go_wp2_with fail
      have lg := HX.out.lt
      have hlo : lo ≤ w.heap.size := Nat.le_trans HX.out.low (Nat.le_of_lt lg)
      have hne := own_far HX.out.row HX.out.box (by decide)
      go_region_law ((refine step_append_lies _ (by rfl) (.tmp 12) (.tmp 18) 104 (by rfl) lo 145 i0 _ 3 40 Tryz.underlying104 hi0 hz0 hz1 hz2 rfl (by omega) v ps.length (cellsOf ps us) (by rfl) ((HX.out.row.alloc _).drew) ⟨w.heap.size, 0, none⟩ 1 1 [.int .i64 2, .int .i64 0, .slice A put.length c] (by rfl) (by rfl) (World.news_of_block (cs := #[.int .i64 2, .int .i64 0, .slice A put.length c]) (t := 145) (fr := (0, 0)) (heap_alloc_new w _)) (by simp [Value.oneCell']) (by omega) (by unfold maxLen; omega) (by omega) (by simp; omega) (w.heap.size + 1) (by simp) ?_; intro gg cap w1 hown1 hgrow hat hlt; have hf := free_grown (o := 0) HX.out.box (below_made w _) hgrow hne; have hf1 := free_grown (o := 1) HX.out.box (below_made w _) hgrow hne; have hf2 := free_grown (o := 2) HX.out.box (below_made w _) hgrow hne; have hc : w1.cell? ⟨g, 0, none⟩ = some v := cell_grown 0 HX.out.box (below_made w _) hgrow hne; have hc1 : w1.cell? ⟨g, 1, none⟩ = some (.slice A put.length c) := cell_grown 1 HX.out.box (below_made w _) hgrow hne; have hc2 : w1.cell? ⟨g, 2, none⟩ = some (.int .i64 d) := cell_grown 2 HX.out.box (below_made w _) hgrow hne))
      all_goals

        obtain ⟨hx1, ha1, b1⟩ := Box.push (p := ⟨2, 0, put⟩) HX.out (by decide) (by decide) HA.out (below_made w _) hown1 hgrow
        have HO1 := Lib.hid (HOS.out.init.push (n := ps.length + 1) (cap := cap) HOS.out.last hat (HS.out _ (by omega)))
        have HR1 := Lib.hid (push_fr HOS.out.init (below_made w _) hgrow (.slice (some ⟨gg, 0, none⟩) (ps.length + 1) cap))
        clear hown1 hgrow hat hlt hlo hne lg c0 c1 c2 f0 f1 f2
        have HX1 := Lib.hid hx1
        have HA1 := Lib.hid ha1
        have HB1 := Lib.hid b1
        clear hx1 ha1 b1
        go_wp2_with fail
        clear hf hf1 hf2 hc hc1 hc2
        generalize (Value.slice (some ⟨gg, 0, none⟩) (ps.length + 1) cap) = v1 at *
        generalize w1.setCell ⟨g, 0, none⟩ v1 = W1 at *
        have c0 := HX1.out.cell0
        have c1 := HX1.out.cell1
        have c2 := HX1.out.cell2
        have f0 := HX1.out.free 0
        have f1 := HX1.out.free 1
        have f2 := HX1.out.free 2
        generalize hps : ps ++ [⟨2, 0, put⟩] = ps1 at *
        have hl1 : ps1.length ≤ 4294967297 := by rw [← hps]; simp; omega
        clear hps
        generalize us ++ [Value.slice A put.length c] = us1 at *
        have lg := HX1.out.lt
        have hlo : lo ≤ W1.heap.size := Nat.le_trans HX1.out.low (Nat.le_of_lt lg)
        have hne := own_far HX1.out.row HX1.out.box (by decide)
        go_region_law ((refine step_append_lies _ (by rfl) (.tmp 31) (.tmp 37) 104 (by rfl) lo 145 i0 _ 3 40 Tryz.underlying104 hi0 hz0 hz1 hz2 rfl (by omega) v1 ps1.length (cellsOf ps1 us1) (by rfl) ((HX1.out.row.alloc _).drew) ⟨W1.heap.size, 0, none⟩ 1 1 [.int .i64 3, .int .i64 d, .slice none 0 0] (by rfl) (by rfl) (World.news_of_block (cs := #[.int .i64 3, .int .i64 d, .slice none 0 0]) (t := 145) (fr := (0, 0)) (heap_alloc_new W1 _)) (by simp [Value.oneCell']) (by omega) (by unfold maxLen; omega) (by omega) (by simp; omega) (W1.heap.size + 1) (by simp) ?_; intro gg cap w1 hown1 hgrow hat hlt; have hf := free_grown (o := 0) HX1.out.box (below_made W1 _) hgrow hne; have hf1 := free_grown (o := 1) HX1.out.box (below_made W1 _) hgrow hne; have hf2 := free_grown (o := 2) HX1.out.box (below_made W1 _) hgrow hne; have hc : w1.cell? ⟨g, 0, none⟩ = some v1 := cell_grown 0 HX1.out.box (below_made W1 _) hgrow hne; have hc1 : w1.cell? ⟨g, 1, none⟩ = some (.slice A put.length c) := cell_grown 1 HX1.out.box (below_made W1 _) hgrow hne; have hc2 : w1.cell? ⟨g, 2, none⟩ = some (.int .i64 d) := cell_grown 2 HX1.out.box (below_made W1 _) hgrow hne))
        all_goals
          obtain ⟨hx2, ha2, b2⟩ := Box.push (p := ⟨3, d, []⟩) HX1.out (by decide) (by decide) (Apart.bare 3 d HA1.out) (below_made W1 _) hown1 hgrow
          have HO2 := Lib.hid (HO1.out.push (n := ps1.length + 1) (cap := cap) nil_own hat (HS.out _ (by have := HR1.out.size; omega)))
          have HR2 := Lib.hid (push_fr HO1.out (below_made W1 _) hgrow (.slice (some ⟨gg, 0, none⟩) (ps1.length + 1) cap))
          have HX2 := Lib.hid hx2
          have HA2 := Lib.hid ha2
          have HB2 := Lib.hid b2
          clear hx2 ha2 b2
          go_wp2
          go_end0
          obtain ⟨r1, r2, r3⟩ := HX2.out.clearS (by decide) (by decide) HA2.out HO2.out
          exact ⟨rfl, by rw [← HQ.out]; exact r1, HB1.out.trans (HB2.out.trans r2), HR1.out.trans (HR2.out.trans r3)⟩

    · have e2 : dropL d = [] := by simp [dropL]; omega
      rw [e2, List.append_nil]
      go_enter Tryz.func143, Tryz.ntmps143
      go_wp2_with fail
      have lg := HX.out.lt
      have hlo : lo ≤ w.heap.size := Nat.le_trans HX.out.low (Nat.le_of_lt lg)
      have hne := own_far HX.out.row HX.out.box (by decide)
      go_region_law ((refine step_append_lies _ (by rfl) (.tmp 12) (.tmp 18) 104 (by rfl) lo 145 i0 _ 3 40 Tryz.underlying104 hi0 hz0 hz1 hz2 rfl (by omega) v ps.length (cellsOf ps us) (by rfl) ((HX.out.row.alloc _).drew) ⟨w.heap.size, 0, none⟩ 1 1 [.int .i64 2, .int .i64 0, .slice A put.length c] (by rfl) (by rfl) (World.news_of_block (cs := #[.int .i64 2, .int .i64 0, .slice A put.length c]) (t := 145) (fr := (0, 0)) (heap_alloc_new w _)) (by simp [Value.oneCell']) (by omega) (by unfold maxLen; omega) (by omega) (by simp; omega) (w.heap.size + 1) (by simp) ?_; intro gg cap w1 hown1 hgrow hat hlt; have hf := free_grown (o := 0) HX.out.box (below_made w _) hgrow hne; have hf1 := free_grown (o := 1) HX.out.box (below_made w _) hgrow hne; have hf2 := free_grown (o := 2) HX.out.box (below_made w _) hgrow hne; have hc : w1.cell? ⟨g, 0, none⟩ = some v := cell_grown 0 HX.out.box (below_made w _) hgrow hne; have hc1 : w1.cell? ⟨g, 1, none⟩ = some (.slice A put.length c) := cell_grown 1 HX.out.box (below_made w _) hgrow hne; have hc2 : w1.cell? ⟨g, 2, none⟩ = some (.int .i64 d) := cell_grown 2 HX.out.box (below_made w _) hgrow hne))
      all_goals

        obtain ⟨hx1, ha1, b1⟩ := Box.push (p := ⟨2, 0, put⟩) HX.out (by decide) (by decide) HA.out (below_made w _) hown1 hgrow
        have HO2 := Lib.hid (HOS.out.init.push (n := ps.length + 1) (cap := cap) HOS.out.last hat (HS.out _ (by omega)))
        have HR2 := Lib.hid (push_fr HOS.out.init (below_made w _) hgrow (.slice (some ⟨gg, 0, none⟩) (ps.length + 1) cap))
        have HX2 := Lib.hid hx1
        have HA2 := Lib.hid ha1
        have HB2 := Lib.hid b1
        clear hx1 ha1 b1
        go_wp2
        go_end0
        obtain ⟨r1, r2, r3⟩ := HX2.out.clearS (by decide) (by decide) HA2.out HO2.out
        exact ⟨rfl, r1, HB2.out.trans r2, HR2.out.trans r3⟩
end Go.Proofs.YtamainhocghlgaaGreatDoor.low


/-
  Contracts of the specification's builder: spec.l02Put, l02Drop.
-/
namespace Go.Proofs.YtamainhocghlgaaGreatDoor.low
open Go.RowKit
set_option linter.unusedVariables false

theorem run_append_zero {P : Program} {w : World} (base : Nat) (t ty e : TypeId) (i : TypeInfo) (size : Nat) (ht : P.underlying t = some (.slice e)) (hi : P.info? e = some i)
    (v : Value) (n : Nat) (xs : List Value) (hown : w.ownsRow base e size v n xs) (A : Option Addr) (c : Nat) :
    (Builtin.append_ #[t, t] ty #[v, .slice A 0 c]).run P w = .ok v w := by
  rcases hown.2 with ⟨rfl, rfl⟩ | ⟨g, cap, cur, rfl, _, _, hnc, _⟩
  · cases A <;> simp [Builtin.append_, run_underlying ht, sizeOf, typeInfo, hi, Builtin.lenOf, Builtin.firstCells, loadCells, loadCellsFrom]
  · cases A <;> simp [Builtin.append_, run_underlying ht, sizeOf, typeInfo, hi, Builtin.lenOf, Builtin.firstCells, loadCells, loadCellsFrom, hnc, storeCells]
theorem wpList_append_zero {P : Program} {w : World} {ops : Array Oper} {rest : List Oper} {o : Oper} {a : Act} {Q : Exit → Act → World → Prop} (hgd : o.guard = none) (s x : Operand) (t : TypeId)
    (ho : o.op = .call { callee := .builtin .append, args := #[s, x], argTypes := #[t, t] })
    (base : Nat) (e : TypeId) (i : TypeInfo) (size : Nat) (ht : P.underlying t = some (.slice e)) (hi : P.info? e = some i)
    (v : Value) (n : Nat) (xs : List Value) (hs : a.eval s = v) (hown : w.ownsRow base e size v n xs) (A : Option Addr) (c : Nat) (hx : a.eval x = .slice A 0 c)
    (h : wpList P ops Q rest (a.put o.dst v) w) : wpList P ops Q (o :: rest) a w := by
  refine wpList_plain hgd fun K hK => ?_
  have hrun := run_append_zero (P := P) (w := w) base t o.type e i size ht hi v n xs hown A c
  unfold Oper.wp
  simp [execOp, ho, resolve, invoke, builtin, hs, hx, hrun, Result.andThen]
  exact hK _ _ h

theorem Apart.far {lo hi : Nat} {w : World} {ps : List Pt} {us : List Value} {p : Pt} {u : Value} (h : Apart lo hi w (ps ++ [p]) (us ++ [u])) (hl : us.length = ps.length) {i k : Nat} {x : Value} (hx : us[i]? = some x) (hk : x.ownBlock = some k) : ¬ u.ownBlock = some k := fun hu => by
  have := h.2.2 i us.length k x u (by rw [List.getElem?_append_left (idx_lt hx)]; exact hx) (by simp) hk hu
  have := idx_lt hx
  omega
/-- more characters to be put: behind the append and the store -/
theorem Box.moreS {S : Nat → Prop} {lo g : Nat} {T : TypeId} {w w1 : World} {v u v' : Value} {d : Int} {ps : List Pt} {us : List Value} {put put' : List Int} (h : Box lo g T w v u d ps us) (hT1 : ¬ T = 3) (hT2 : ¬ T = 145)
    (ha : Apart lo w.heap.size w (ps ++ [⟨2, 0, put⟩]) (us ++ [u])) (hown : w1.ownsRow lo 3 1 v' put'.length (put'.map (Value.int .i64))) (hgrow : w.grownBy w1 u.ownBlock) (hat : v'.ownBlock = u.ownBlock ∨ v'.ownBlock = some w.heap.size) (hos : OwnS S g v (us ++ [u])) (hS : S w.heap.size) :
    BAtS S lo g T (w1.setCell ⟨g, 1, none⟩ v') ps put' d ∧ Below lo w (w1.setCell ⟨g, 1, none⟩ v') ∧ Fr S w (w1.setCell ⟨g, 1, none⟩ v') := by
  have hlt := h.lt
  have hu := ha.last h.len
  have ha0 := ha.init h.len
  have hold : ∀ k, k < w.heap.size → ¬ u.ownBlock = some k → w1.heap[k]? = w.heap[k]? := fun k hk hne => hgrow.block k hk (fun e => hne e.symm)
  have hg1 : w1.heap[g]? = some (.cells #[v, u, .int .i64 d] T (0, 0)) := by rw [hold g hlt (own_far hu h.box hT1)]; exact h.box
  have hvg := own_far hown hg1 hT1
  have hlow : lo ≤ w.heap.size := Nat.le_trans h.low (Nat.le_of_lt hlt)
  have hv' : ∀ k, v'.ownBlock = some k → S k := fun k hk => by
    rcases hat with e | e
    · exact hos.last k (by rw [← e]; exact hk)
    · rw [e] at hk
      injection hk with hk
      rw [← hk]; exact hS
  have hos' : OwnS S g v (us ++ [v']) := ⟨hos.1, hos.2.1, fun i k x hx hk => by
    by_cases hi : i < us.length
    · rw [List.getElem?_append_left hi] at hx
      exact hos.init.2.2 i k x hx hk
    · rw [List.getElem?_append_right (by omega)] at hx
      have hx' : i - us.length = 0 := by
        have := idx_lt hx
        simp at this
        omega
      rw [hx'] at hx
      simp at hx
      subst hx
      exact hv' k hk⟩
  have hfr : Fr S w (w1.setCell ⟨g, 1, none⟩ v') := ((Fr.refl S w).grown hgrow (fun k hk => hos.last k hk)).setCell (p := ⟨g, 1, none⟩) hos.1 _
  refine ⟨⟨v, v', us, ⟨?_, ?_, h.len, h.low⟩, ?_, hos'⟩, ?_, hfr⟩
  · rw [heap_setCell_same _ _ _ _ _ _ hg1]; rfl
  · refine own_keep h.row (fun k hk1 hk2 => ?_)
    have hkg : ¬ k = g := fun e => own_far h.row h.box hT2 (by rw [hk1, e])
    rw [Below.heap_setCell _ _ _ _ hkg]
    refine hold k hk2 (fun hk3 => ?_)
    obtain ⟨c1, e1⟩ := own_blk h.row hk1
    exact own_far hu e1 (by decide) hk3
  · have hkeep : Apart lo (w1.setCell ⟨g, 1, none⟩ v').heap.size (w1.setCell ⟨g, 1, none⟩ v') ps us := by
      refine ha0.keep (by simp; exact hgrow.size) (fun i x k hx hk1 hk2 => ?_)
      obtain ⟨q, hq⟩ := idx_some (l := ps) (i := i) (by rw [← h.len]; exact idx_lt hx)
      have hkg : ¬ k = g := fun e => own_far (ha0.2.1 i q x hq hx).1 h.box hT1 (by rw [hk1, e])
      rw [Below.heap_setCell _ _ _ _ hkg]
      exact hold k hk2 (ha.far h.len hx hk1)
    refine hkeep.snoc (ownsRow_setCell_other hown hvg _) (fun k hk => ?_) (fun i x k hx hk1 hk2 => ?_)
    · obtain ⟨c1, e1⟩ := own_blk hown hk
      have := lt_of_some e1
      simpa using this
    · obtain ⟨q, hq⟩ := idx_some (l := ps) (i := i) (by rw [← h.len]; exact idx_lt hx)
      rcases hat with e | e
      · exact ha.far h.len hx hk1 (by rw [← e]; exact hk2)
      · obtain ⟨c1, e1⟩ := own_blk (ha0.2.1 i q x hq hx).1 hk1
        have := lt_of_some e1
        rw [hk2] at e
        injection e with e
        omega
  · refine Below.setCell ?_ h.low _
    exact (Below.refl _ _).grown hgrow hlow (fun k hk => own_ge hu k hk)
theorem Box.dropS {S : Nat → Prop} {lo g : Nat} {T : TypeId} {w : World} {v u : Value} {d d' : Int} {ps : List Pt} {us : List Value} {put : List Int} (h : Box lo g T w v u d ps us) (hT1 : ¬ T = 3) (hT2 : ¬ T = 145)
    (ha : Apart lo w.heap.size w (ps ++ [⟨2, 0, put⟩]) (us ++ [u])) (hos : OwnS S g v (us ++ [u])) :
    BAtS S lo g T (w.setCell ⟨g, 2, none⟩ (.int .i64 d')) ps put d' ∧ Below lo w (w.setCell ⟨g, 2, none⟩ (.int .i64 d')) ∧ Fr S w (w.setCell ⟨g, 2, none⟩ (.int .i64 d')) := by
  refine ⟨⟨v, u, us, ⟨?_, ownsRow_setCell_other h.row (own_far h.row h.box hT2) _, h.len, h.low⟩, ha.keep (by simp) (fun i x k hx hk1 hk2 => ?_), hos⟩, (Below.refl _ _).setCell h.low _, (Fr.refl S w).setCell (p := ⟨g, 2, none⟩) hos.1 _⟩
  · rw [heap_setCell_same _ _ _ _ _ _ h.box]; rfl
  · obtain ⟨q, hq⟩ := idx_some (l := ps ++ [⟨2, 0, put⟩]) (i := i) (by rw [← ha.1]; exact idx_lt hx)
    have hkg : ¬ k = g := fun e => own_far (ha.2.1 i q x hq hx).1 h.box hT1 (by rw [hk1, e])
    rw [Below.heap_setCell _ _ _ _ hkg]

theorem ints_info : (Tryz.prog.info? 3).map (fun i => (i.zero, i.size, i.bytes)) = some (some (.int .i64 0), 1, 8) := by kernel_rfl

set_option maxHeartbeats 1600000 in
theorem specDrop_f (S : Nat → Prop) (lo g : Nat) (ps : List Pt) (put : List Int) (d n : Int) (w : World) (hb : BAtS S lo g 189 w ps put d) (hS : ∀ b, w.heap.size ≤ b → S b) (h0 : 0 ≤ d) (h1 : d ≤ 4611686018427387904) (h2 : 0 ≤ n) (h3 : n ≤ 1048576) :
    Calls Tryz.prog 129 #[.pointer (some ⟨g, 0, none⟩), .int .i64 n] w (BuiltS S lo g 189 w ps put (d + n)) := by
  obtain ⟨v, u, us, hx, ha, hos⟩ := hb
  have HS := Lib.hid hS
  have HOS := Lib.hid hos
  clear hS hos
  have c2 := hx.cell2
  have f2 := hx.free 2
  have HX := Lib.hid hx
  have HA := Lib.hid ha
  clear hx ha
  go_enter Tryz.func129, Tryz.ntmps129
  go_wp2
  go_end0
  obtain ⟨r1, r2, r3⟩ := HX.out.dropS (d' := d + n) (by decide) (by decide) HA.out HOS.out
  exact ⟨rfl, r1, r2, r3⟩

set_option maxHeartbeats 1600000 in
theorem specPut_f (S : Nat → Prop) (lo g : Nat) (ps : List Pt) (put : List Int) (d : Int) (A : Option Addr) (c : Nat) (zs : List Int) (w : World) (hb : BAtS S lo g 189 w ps put d) (hS : ∀ b, w.heap.size ≤ b → S b) (hr : Row (Value.int .i64) w w.heap.size A zs) (hp : put.length ≤ 4294967296) (hz : zs.length ≤ 4294967296) :
    Calls Tryz.prog 128 #[.pointer (some ⟨g, 0, none⟩), .slice A zs.length c] w (BuiltS S lo g 189 w ps (put ++ zs) d) := by
  obtain ⟨i0, hi0, hz0, hz1, hz2⟩ := info_parts ints_info
  obtain ⟨v, u, us, hx, ha, hos⟩ := hb
  have HS := Lib.hid hS
  have HOS := Lib.hid hos
  clear hS hos
  obtain ⟨Au, cu, rfl⟩ := own_form (ha.last hx.len)
  simp only at hx ha
  have c1 := hx.cell1
  have f1 := hx.free 1
  have ho := Lib.hid (ha.last hx.len)
  have hlo : lo ≤ w.heap.size := Nat.le_trans hx.low (Nat.le_of_lt hx.lt)
  have HX := Lib.hid hx
  have HA := Lib.hid ha
  clear hx ha
  by_cases hn : 0 < zs.length
  · obtain ⟨ad, rfl, hbk, hcs⟩ := hr hn
    have hcs' : ∀ j x, (zs.map (Value.int .i64))[j]? = some x → w.cell? (ad.add j) = some x := fun j x hx => by
      rw [List.getElem?_map] at hx
      obtain ⟨z, hz, rfl⟩ := Option.map_eq_some_iff.1 hx
      exact hcs j z hz
    have HC := Lib.hid hcs'
    clear hcs hcs' hr
    have hug := own_far ho.out HX.out.box (by decide)
    go_enter Tryz.func128, Tryz.ntmps128
    go_wp2_with (at_builtin; refine wpList_append_lies _ rfl (.tmp 8) (.tmp 9) 61 rfl lo 3 i0 (.int .i64 0) 1 8 Tryz.underlying61 hi0 hz0 hz1 hz2 rfl (by decide) (.slice Au put.length cu) put.length (put.map (Value.int .i64)) rfl ho.out ad zs.length c (zs.map (Value.int .i64)) rfl (by simp) HC.out (by simp [Value.oneCell']) (by omega) (by unfold maxLen; omega) (by omega) hlo w.heap.size rfl ?_; intro gg cap w1 hown1 hgrow hat hlt; have hf := free_grown (o := 1) HX.out.box (Below.refl _ _) hgrow hug; have hc : w1.cell? ⟨g, 1, none⟩ = some (.slice Au put.length cu) := cell_grown 1 HX.out.box (Below.refl _ _) hgrow hug)
    go_end0
    obtain ⟨r1, r2, r3⟩ := Box.moreS (put' := put ++ zs) HX.out (by decide) (by decide) HA.out (by simpa using hown1) hgrow (hat.elim (fun e => .inl (by rw [e]; rfl)) (fun e => .inr (by rw [← e]; rfl))) HOS.out (HS.out _ (Nat.le_refl _))
    exact ⟨rfl, r1, r2, r3⟩
  · have e0 : zs = [] := List.eq_nil_of_length_eq_zero (by omega)
    subst e0
    rw [List.append_nil]
    go_enter Tryz.func128, Tryz.ntmps128
    go_wp2_with (at_builtin; refine wpList_append_zero rfl (.tmp 8) (.tmp 9) 61 rfl lo 3 i0 1 Tryz.underlying61 hi0 (.slice Au put.length cu) put.length (put.map (Value.int .i64)) rfl ho.out A c rfl ?_)
    go_end0
    obtain ⟨r1, r2, r3⟩ := Box.moreS (put' := put) HX.out (by decide) (by decide) HA.out ho.out ⟨rfl, rfl, rfl, Nat.le_refl _, fun _ _ _ => rfl⟩ (.inl rfl) HOS.out (HS.out _ (Nat.le_refl _))
    exact ⟨rfl, r1, r2, r3⟩
theorem specDrop_any (lo g : Nat) (ps : List Pt) (put : List Int) (d n : Int) (w : World) (hb : BAt lo g 189 w ps put d) (h0 : 0 ≤ d) (h1 : d ≤ 4611686018427387904) (h2 : 0 ≤ n) (h3 : n ≤ 1048576) :
    Calls Tryz.prog 129 #[.pointer (some ⟨g, 0, none⟩), .int .i64 n] w (Built lo g 189 w ps put (d + n)) :=
  (specDrop_f (fun _ => True) lo g ps put d n w hb.all (fun _ _ => trivial) h0 h1 h2 h3).mono fun e w' h => h.any
theorem specPut_any (lo g : Nat) (ps : List Pt) (put : List Int) (d : Int) (A : Option Addr) (c : Nat) (zs : List Int) (w : World) (hb : BAt lo g 189 w ps put d) (hr : Row (Value.int .i64) w w.heap.size A zs) (hp : put.length ≤ 4294967296) (hz : zs.length ≤ 4294967296) :
    Calls Tryz.prog 128 #[.pointer (some ⟨g, 0, none⟩), .slice A zs.length c] w (Built lo g 189 w ps (put ++ zs) d) :=
  (specPut_f (fun _ => True) lo g ps put d A c zs w hb.all (fun _ _ => trivial) hr hp hz).mono fun e w' h => h.any
end Go.Proofs.YtamainhocghlgaaGreatDoor.low


/-
  Contracts of the specification's builder: spec.l02Keep, l02Done.
-/
namespace Go.Proofs.YtamainhocghlgaaGreatDoor.low
open Go.RowKit
set_option linter.unusedVariables false

theorem below_new (w : World) (o : Obj) : Below w.heap.size w (w.alloc o) := (Below.refl _ _).alloc (Nat.le_refl _) o
def keepTo (q : List Pt) (n : Int) : List Pt :=
  match q.getLast? with
  | some p => if p.kind = 1 then q.set (q.length - 1) ⟨p.kind, p.n + n, p.signs⟩ else q ++ [⟨1, n, []⟩]
  | none => q ++ [⟨1, n, []⟩]
theorem keepTo_nil (n : Int) : keepTo [] n = [⟨1, n, []⟩] := rfl
theorem keepTo_t {r : List Pt} {p : Pt} (n : Int) (h : p.kind = 1) : keepTo (r ++ [p]) n = r ++ [⟨p.kind, p.n + n, p.signs⟩] := by
  simp [keepTo, h]
theorem keepTo_f {r : List Pt} {p : Pt} (n : Int) (h : ¬ p.kind = 1) : keepTo (r ++ [p]) n = r ++ [p] ++ [⟨1, n, []⟩] := by
  simp [keepTo, h]

theorem cellsOf_setN : ∀ (ps : List Pt) (us : List Value) (i : Nat) (p : Pt) (b : Int), us.length = ps.length → ps[i]? = some p →
    (cellsOf ps us).set (i * 3 + 1) (.int .i64 b) = cellsOf (ps.set i ⟨p.kind, b, p.signs⟩) us
  | [], us, i, p, b, _, h => by simp at h
  | _ :: _, [], i, p, b, hl, _ => by simp at hl
  | x :: ps, u :: us, 0, p, b, hl, h => by
    simp at h
    subst h
    rfl
  | x :: ps, u :: us, i + 1, p, b, hl, h => by
    have e0 : (i + 1) * 3 + 1 = i * 3 + 1 + 1 + 1 + 1 := by omega
    rw [e0]
    show .int .i64 x.kind :: .int .i64 x.n :: u :: (cellsOf ps us).set (i * 3 + 1) (.int .i64 b) = .int .i64 x.kind :: .int .i64 x.n :: u :: cellsOf (ps.set i ⟨p.kind, b, p.signs⟩) us
    rw [cellsOf_setN ps us i p b (by simpa using hl) (by simpa using h)]
theorem Apart.setN {lo hi : Nat} {w : World} {r : List Pt} {p q : Pt} {us : List Value} (h : Apart lo hi w (r ++ [p]) us) (hq : q.signs = p.signs) : Apart lo hi w (r ++ [q]) us := by
  refine ⟨by simpa using h.1, fun i x u hx hu => ?_, h.2.2⟩
  by_cases hi' : i < r.length
  · rw [List.getElem?_append_left hi'] at hx
    exact h.2.1 i x u (by rw [List.getElem?_append_left hi']; exact hx) hu
  · have e : i = r.length := by have := idx_lt hx; simp at this; omega
    subst e
    simp at hx
    subst hx
    have := h.2.1 r.length p u (by simp) hu
    rw [hq]
    exact this

/-- the last part's number is changed in place -/
theorem Box.setN {lo g gv cap : Nat} {T : TypeId} {w : World} {u : Value} {d b : Int} {r : List Pt} {p : Pt} {us : List Value} (h : Box lo g T w (.slice (some ⟨gv, 0, none⟩) (r.length + 1) cap) u d (r ++ [p]) us) (hT1 : ¬ T = 3) (hT2 : ¬ T = 145)
    (ha : Apart lo w.heap.size w (r ++ [p]) us) :
    Box lo g T (w.setCell ⟨gv, r.length * 3 + 1, none⟩ (.int .i64 b)) (.slice (some ⟨gv, 0, none⟩) (r.length + 1) cap) u d (r ++ [⟨p.kind, b, p.signs⟩]) us ∧
    Apart lo (w.setCell ⟨gv, r.length * 3 + 1, none⟩ (.int .i64 b)).heap.size (w.setCell ⟨gv, r.length * 3 + 1, none⟩ (.int .i64 b)) (r ++ [⟨p.kind, b, p.signs⟩]) us ∧
    Below lo w (w.setCell ⟨gv, r.length * 3 + 1, none⟩ (.int .i64 b)) := by
  have hgv := own_far h.row h.box hT2
  have hge := own_ge h.row gv rfl
  have hl : us.length = (r ++ [p]).length := h.len
  refine ⟨⟨?_, ?_, by simpa using hl, h.low⟩, ?_, (Below.refl _ _).setCell hge _⟩
  · rw [Below.heap_setCell _ _ _ _ (fun e => hgv (by simp [Value.ownBlock]; exact e.symm))]; exact h.box
  · have e1 := cellsOf_setN (r ++ [p]) us r.length p b hl (by simp)
    have e2 : (r ++ [p]).set r.length ⟨p.kind, b, p.signs⟩ = r ++ [⟨p.kind, b, p.signs⟩] := by simp
    rw [e2] at e1
    rw [← e1]
    have := (World.ownsRow.stored (n := r.length + 1) (by simpa using h.row) (r.length * 3 + 1) (.int .i64 b)).1
    simpa using this
  · refine Apart.setN (p := p) (ha.keep (by simp) (fun i x k hx hk1 hk2 => ?_)) rfl
    obtain ⟨q, hq⟩ := idx_some (l := r ++ [p]) (i := i) (by rw [← hl]; exact idx_lt hx)
    obtain ⟨c1, e1⟩ := own_blk (ha.2.1 i q x hq hx).1 hk1
    have hne : ¬ k = gv := fun e => by
      subst e
      exact own_far h.row e1 (by decide) rfl
    rw [Below.heap_setCell _ _ _ _ hne]

theorem setN_fr {S : Nat → Prop} {g gv n cap o : Nat} {us : List Value} {w : World} (h : OwnS S g (.slice (some ⟨gv, 0, none⟩) n cap) us) (x : Value) : Fr S w (w.setCell ⟨gv, o, none⟩ x) := (Fr.refl S w).setCell (p := ⟨gv, o, none⟩) (h.2.1 gv rfl) x
/-- the builder's end: the parts -/
def Gone (lo : Nat) (ps : List Pt) (w : World) (e : Ending) (w' : World) : Prop := ∃ v, e = .returned v ∧ PBuf lo w'.heap.size w' v ps ∧ Below lo w w'
def GoneS (S : Nat → Prop) (lo : Nat) (ps : List Pt) (w : World) (e : Ending) (w' : World) : Prop := ∃ v us, e = .returned v ∧ PBuf lo w'.heap.size w' v ps ∧ Below lo w w' ∧ Fr S w w' ∧ w'.ownsRow lo 145 3 v ps.length (cellsOf ps us) ∧ us.length = ps.length ∧ (∀ k, v.ownBlock = some k → S k) ∧ ∀ (i k : Nat) (x : Value), us[i]? = some x → x.ownBlock = some k → S k
theorem Box.parts {lo g : Nat} {T : TypeId} {w : World} {v u : Value} {d : Int} {ps : List Pt} {us : List Value} (h : Box lo g T w v u d ps us) (ha : Apart lo w.heap.size w ps us) : PBuf lo w.heap.size w v ps :=
  ⟨us, h.row, ha, fun k hk => by obtain ⟨c1, e1⟩ := own_blk h.row hk; exact lt_of_some e1, Nat.le_refl _, Nat.le_trans h.low (Nat.le_of_lt h.lt)⟩

set_option maxHeartbeats 1600000 in
theorem specDone_f (S : Nat → Prop) (lo g : Nat) (ps : List Pt) (put : List Int) (d : Int) (w : World) (hb : BAtS S lo g 189 w ps put d) (hS : ∀ b, w.heap.size ≤ b → S b) (hl : ps.length ≤ 4294967296) (hp : put.length ≤ 4294967296) :
    Calls Tryz.prog 130 #[.pointer (some ⟨g, 0, none⟩)] w (GoneS S lo (ps ++ putL put ++ dropL d) w) := by
  go_enter Tryz.func130, Tryz.ntmps130
  go_wp2_with fail
  refine (specFlush_f S lo g ps put d w hb hS hl hp).mono ?_
  rintro e w1 ⟨rfl, ⟨v, us, hx, ha, hos⟩, b1, fr1⟩
  have HS := Lib.hid hS
  have HOS := Lib.hid hos
  have HR := Lib.hid fr1
  clear hS hos fr1
  obtain ⟨Av, cv, rfl⟩ := own_form hx.row
  have c0 := hx.cell0
  have HX := Lib.hid hx
  have HA := Lib.hid ha
  clear hx ha
  generalize ps ++ putL put ++ dropL d = q at *
  go_wp2
  go_ret
  exact ⟨_, us, rfl, HX.out.parts HA.out, b1, HR.out, HX.out.row, HX.out.len, HOS.out.2.1, HOS.out.2.2⟩

set_option maxRecDepth 100000 in
set_option maxHeartbeats 3200000 in
theorem specKeep_f (S : Nat → Prop) (lo g : Nat) (ps : List Pt) (put : List Int) (d n : Int) (w : World) (hb : BAtS S lo g 189 w ps put d) (hS : ∀ b, w.heap.size ≤ b → S b) (hl : ps.length ≤ 4294967296) (hp : put.length ≤ 4294967296) (hn : ¬ n = 0) (hn0 : 0 ≤ n) (hn1 : n ≤ 1048576)
    (hq : ∀ p ∈ ps ++ putL put ++ dropL d, 0 ≤ p.n ∧ p.n ≤ 4611686018427387904) (hql : (ps ++ putL put ++ dropL d).length ≤ 4294967298) :
    Calls Tryz.prog 127 #[.pointer (some ⟨g, 0, none⟩), .int .i64 n] w (FlushedS S lo g 189 w (keepTo (ps ++ putL put ++ dropL d) n)) := by
  obtain ⟨i0, hi0, hz0, hz1, hz2⟩ := info_parts part_info
  go_enter Tryz.func127, Tryz.ntmps127
  go_wp2_with fail
  refine (specFlush_f S lo g ps put d w hb hS hl hp).mono ?_
  rintro e w1 ⟨rfl, ⟨v, us, hx, ha, hos⟩, b1, fr1⟩
  have HS := Lib.hid hS
  have HOS := Lib.hid hos
  have HR := Lib.hid fr1
  clear hS hos fr1
  generalize ps ++ putL put ++ dropL d = q at *
  have c0 := hx.cell0
  have f0 := hx.free 0
  have hne := own_far hx.row hx.box (by decide)
  have hlo : lo ≤ w1.heap.size := Nat.le_trans hx.low (Nat.le_of_lt hx.lt)
  rcases q.eq_nil_or_concat with rfl | ⟨r, p, rfl⟩
  · obtain ⟨Av, cv, rfl⟩ := own_form hx.row
    have HX := Lib.hid hx
    have HA := Lib.hid ha
    clear hx ha
    go_wp2_with (at_builtin; refine wpList_append_lies _ rfl (.tmp 51) (.tmp 54) 104 rfl lo 145 i0 _ 3 40 Tryz.underlying104 hi0 hz0 hz1 hz2 rfl (by omega) (.slice Av 0 cv) 0 (cellsOf [] us) rfl (HX.out.row.alloc _) ⟨w1.heap.size, 0, none⟩ 1 1 [.int .i64 1, .int .i64 n, .slice none 0 0] rfl rfl (World.news_of_block (cs := #[.int .i64 1, .int .i64 n, .slice none 0 0]) (t := 145) (fr := (0, 0)) (heap_alloc_new w1 _)) (by simp [Value.oneCell']) (by omega) (by unfold maxLen; omega) (by omega) (by simp; omega) (w1.heap.size + 1) (by simp) ?_; intro gg cap w2 hown1 hgrow hat hlt; have hf := free_grown (o := 0) HX.out.box (below_new w1 _) hgrow hne; have hc : w2.cell? ⟨g, 0, none⟩ = some (.slice Av 0 cv) := cell_grown 0 HX.out.box (below_new w1 _) hgrow hne)
    go_end0
    obtain ⟨hx2, ha2, b2⟩ := Box.push (p := ⟨1, n, []⟩) HX.out (by decide) (by decide) (Apart.bare 1 n HA.out) (below_new w1 _) hown1 hgrow
    refine ⟨rfl, ?_, b1.trans b2, HR.out.trans (push_fr HOS.out (below_new w1 _) hgrow _)⟩
    rw [keepTo_nil]
    exact ⟨_, _, hx2, ha2, HOS.out.push nil_own hat (HS.out _ (by have := HR.out.size; omega))⟩
  · rw [List.concat_eq_append] at *
    have hrl : (r ++ [p]).length = r.length + 1 := by simp
    rw [hrl] at hql
    have hp0 := hq p (by simp)
    clear hq
    rcases hx.row.2 with ⟨_, h0⟩ | ⟨gv, cap0, cur, rfl, hgv, hhv, hcap, hcap2, _, _⟩
    · simp at h0
    rw [hrl] at c0 hne hcap hx
    have hrow : w1.ownsRow lo 145 3 (.slice (some ⟨gv, 0, none⟩) (r.length + 1) cap0) (r.length + 1) (cellsOf (r ++ [p]) us) := by have := hx.row; rwa [hrl] at this
    have k0 : w1.cell? ⟨gv, r.length * 3, none⟩ = some (.int .i64 p.kind) := by
      have := hrow.cellAt (r.length * 3) (by omega)
      obtain ⟨u, hu⟩ := idx_some (l := us) (i := r.length) (by rw [hx.len]; simp)
      rw [this, (cellsOf_at (r ++ [p]) us r.length p u (by simp) hu).1]
    have k1 : w1.cell? ⟨gv, r.length * 3 + 1, none⟩ = some (.int .i64 p.n) := by
      have := hrow.cellAt (r.length * 3 + 1) (by omega)
      obtain ⟨u, hu⟩ := idx_some (l := us) (i := r.length) (by rw [hx.len]; simp)
      rw [this, (cellsOf_at (r ++ [p]) us r.length p u (by simp) hu).2.1]
    have fv := hrow.frozenAt (r.length * 3 + 1)
    have HRW := Lib.hid hrow
    clear hrow
    have HX := Lib.hid hx
    have HA := Lib.hid ha
    clear hx ha hhv
    by_cases hk : p.kind = 1
    · go_wp2_with fail
      have dx := Lib.hid HX.out.drew
      have da := Lib.hid HA.out.drewS
      have hw1 : IntKind.i64.wrap (r.length : Int) = (r.length : Int) := by rw [IntKind.wrap_i64]; omega
      have hw2 : IntKind.i64.wrap (p.n + n) = p.n + n := by rw [IntKind.wrap_i64]; omega
      have hi1 : (r.length : Int) < (r.length : Int) + 1 := by omega
      go_still_tail 19, (by kernel_rfl)
      clear hw1 hw2
      go_wp2
      go_end0

      obtain ⟨hx2, ha2, b2⟩ := Box.setN (b := p.n + n) dx.out (by decide) (by decide) da.out
      refine ⟨rfl, ?_, b1.trans ((Below.refl _ _).drew.trans b2), HR.out.drew.trans (setN_fr HOS.out _)⟩
      rw [keepTo_t n hk]
      exact ⟨_, _, hx2, ha2, HOS.out⟩
    · go_wp2_with (at_builtin; refine wpList_append_lies _ rfl (.tmp 51) (.tmp 54) 104 rfl lo 145 i0 _ 3 40 Tryz.underlying104 hi0 hz0 hz1 hz2 rfl (by omega) (.slice (some ⟨gv, 0, none⟩) (r.length + 1) cap0) (r.length + 1) (cellsOf (r ++ [p]) us) rfl (HRW.out.alloc _) ⟨w1.heap.size, 0, none⟩ 1 1 [.int .i64 1, .int .i64 n, .slice none 0 0] rfl rfl (World.news_of_block (cs := #[.int .i64 1, .int .i64 n, .slice none 0 0]) (t := 145) (fr := (0, 0)) (heap_alloc_new w1 _)) (by simp [Value.oneCell']) (by omega) (by unfold maxLen; omega) (by omega) (by simp; omega) (w1.heap.size + 1) (by simp) ?_; intro gg cap w2 hown1 hgrow hat hlt; have hf := free_grown (o := 0) HX.out.box (below_new w1 _) hgrow hne; have hc : w2.cell? ⟨g, 0, none⟩ = some (.slice (some ⟨gv, 0, none⟩) (r.length + 1) cap0) := cell_grown 0 HX.out.box (below_new w1 _) hgrow hne)
      go_end0
      obtain ⟨hx2, ha2, b2⟩ := Box.push (p := ⟨1, n, []⟩) HX.out (by decide) (by decide) (Apart.bare 1 n HA.out) (below_new w1 _) (by rw [hrl]; exact hown1) hgrow
      rw [hrl] at hx2 ha2 b2
      refine ⟨rfl, ?_, b1.trans b2, HR.out.trans (push_fr HOS.out (below_new w1 _) hgrow _)⟩
      rw [keepTo_f n hk]
      exact ⟨_, _, hx2, ha2, HOS.out.push nil_own hat (HS.out _ (by have := HR.out.size; omega))⟩
theorem GoneS.any {S : Nat → Prop} {lo : Nat} {ps : List Pt} {w w' : World} {e : Ending} (h : GoneS S lo ps w e w') : Gone lo ps w e w' := by
  obtain ⟨v, us, h1, h2, h3, _⟩ := h
  exact ⟨v, h1, h2, h3⟩
theorem specDone_any (lo g : Nat) (ps : List Pt) (put : List Int) (d : Int) (w : World) (hb : BAt lo g 189 w ps put d) (hl : ps.length ≤ 4294967296) (hp : put.length ≤ 4294967296) :
    Calls Tryz.prog 130 #[.pointer (some ⟨g, 0, none⟩)] w (Gone lo (ps ++ putL put ++ dropL d) w) :=
  (specDone_f (fun _ => True) lo g ps put d w hb.all (fun _ _ => trivial) hl hp).mono fun e w' h => h.any
theorem specKeep_any (lo g : Nat) (ps : List Pt) (put : List Int) (d n : Int) (w : World) (hb : BAt lo g 189 w ps put d) (hl : ps.length ≤ 4294967296) (hp : put.length ≤ 4294967296) (hn : ¬ n = 0) (hn0 : 0 ≤ n) (hn1 : n ≤ 1048576)
    (hq : ∀ p ∈ ps ++ putL put ++ dropL d, 0 ≤ p.n ∧ p.n ≤ 4611686018427387904) (hql : (ps ++ putL put ++ dropL d).length ≤ 4294967298) :
    Calls Tryz.prog 127 #[.pointer (some ⟨g, 0, none⟩), .int .i64 n] w (Flushed lo g 189 w (keepTo (ps ++ putL put ++ dropL d) n)) :=
  (specKeep_f (fun _ => True) lo g ps put d n w hb.all (fun _ _ => trivial) hl hp hn hn0 hn1 hq hql).mono fun e w' h => h.any
end Go.Proofs.YtamainhocghlgaaGreatDoor.low


/-
  The normal form as a fold over a builder's state: parts so far, what is to be put, how many are dropped.
-/
namespace Go.Proofs.YtamainhocghlgaaGreatDoor.low
open Go.RowKit
set_option linter.unusedVariables false

def stepN (s : List Pt × List Int × Int) (p : Pt) : List Pt × List Int × Int :=
  if p.kind = 1 then (if p.n = 0 then s else (keepTo (s.1 ++ putL s.2.1 ++ dropL s.2.2) p.n, [], 0))
  else if p.kind = 2 then (s.1, s.2.1 ++ p.signs, s.2.2) else (s.1, s.2.1, s.2.2 + p.n)
def foldN (ps : List Pt) : List Pt × List Int × Int := ps.foldl stepN ([], [], 0)
def doneN (s : List Pt × List Int × Int) : List Pt := s.1 ++ putL s.2.1 ++ dropL s.2.2
/-- the normal form -/
def normL (ps : List Pt) : List Pt := if okOp ps = true then doneN (foldN ps) else []
theorem foldN_snoc {ps : List Pt} {k : Nat} {p : Pt} (h : ps[k]? = some p) : foldN (ps.take (k + 1)) = stepN (foldN (ps.take k)) p := by
  unfold foldN
  rw [List.take_add_one, h]
  simp

theorem signsIn_app (a b : List Pt) : signsIn (a ++ b) = signsIn a + signsIn b := by simp [signsIn]
theorem putL_len (z : List Int) : (putL z).length ≤ 1 ∧ signsIn (putL z) = z.length ∧ ∀ p ∈ putL z, p.n = 0 := by
  unfold putL
  split
  · rename_i h; simp [signsIn, h]
  · simp [signsIn]
theorem dropL_len (d : Int) : (dropL d).length ≤ 1 ∧ signsIn (dropL d) = 0 ∧ ∀ p ∈ dropL d, p.n = d ∧ 0 ≤ d := by
  unfold dropL
  split
  · rename_i h; simp [signsIn]; omega
  · simp [signsIn]

/-- the state behind j valid parts that hold m characters -/
structure Fit (j m : Nat) (s : List Pt × List Int × Int) : Prop where
  len : s.1.length ≤ 3 * j
  signs : signsIn s.1 + s.2.1.length ≤ m
  d0 : 0 ≤ s.2.2
  d1 : s.2.2 ≤ 200 * (j : Int)
  ns : ∀ p ∈ s.1, 0 ≤ p.n ∧ p.n ≤ 200 * (j : Int)
theorem Fit.done {j m : Nat} {s : List Pt × List Int × Int} (h : Fit j m s) : (doneN s).length ≤ 3 * j + 2 ∧ signsIn (doneN s) ≤ m ∧ ∀ p ∈ doneN s, 0 ≤ p.n ∧ p.n ≤ 200 * (j : Int) := by
  obtain ⟨a1, a2, a3⟩ := putL_len s.2.1
  obtain ⟨b1, b2, b3⟩ := dropL_len s.2.2
  have h1 := h.len
  have h2 := h.signs
  have h3 := h.d0
  have h4 := h.d1
  refine ⟨by unfold doneN; simp; omega, by unfold doneN; rw [signsIn_app, signsIn_app]; omega, fun p hp => ?_⟩
  unfold doneN at hp
  rcases List.mem_append.1 hp with hp | hp
  · rcases List.mem_append.1 hp with hp | hp
    · exact h.ns p hp
    · have := a3 p hp; omega
  · have := b3 p hp; omega
theorem keepTo_fit {q : List Pt} {n M : Int} (hn : 0 ≤ n) (hM : 0 ≤ M) (hq : ∀ p ∈ q, 0 ≤ p.n ∧ p.n ≤ M) : (keepTo q n).length ≤ q.length + 1 ∧ signsIn (keepTo q n) = signsIn q ∧ ∀ p ∈ keepTo q n, 0 ≤ p.n ∧ p.n ≤ M + n := by
  rcases q.eq_nil_or_concat with rfl | ⟨r, p, rfl⟩
  · rw [keepTo_nil]
    refine ⟨by simp, by simp [signsIn], fun x hx => ?_⟩
    simp at hx
    subst hx
    simp only
    omega
  · rw [List.concat_eq_append] at *
    have hp := hq p (by simp)
    by_cases hk : p.kind = 1
    · rw [keepTo_t n hk]
      refine ⟨by simp, by rw [signsIn_app, signsIn_app]; simp [signsIn], fun x hx => ?_⟩
      rcases List.mem_append.1 hx with hx | hx
      · have := hq x (by simp [hx]); omega
      · simp at hx
        subst hx
        simp only
        omega
    · rw [keepTo_f n hk]
      refine ⟨by simp, by rw [signsIn_app, signsIn_app]; simp [signsIn], fun x hx => ?_⟩
      rcases List.mem_append.1 hx with hx | hx
      · have := hq x hx; omega
      · simp at hx
        subst hx
        simp only
        omega
theorem Fit.step {j m : Nat} {s : List Pt × List Int × Int} {p : Pt} (h : Fit j m s) (hp : okPt p = true) : Fit (j + 1) (m + p.signs.length) (stepN s p) := by
  have hok := of_okPt hp
  obtain ⟨d1, d2, d3⟩ := h.done
  have h1 := h.len
  have h2 := h.signs
  have h3 := h.d0
  have h4 := h.d1
  have hns := h.ns
  unfold stepN
  split
  · rename_i hk
    have hn : 0 ≤ p.n ∧ p.n ≤ 200 := by omega
    split
    · exact ⟨by omega, by omega, h3, by omega, fun x hx => by have := hns x hx; omega⟩
    · have hM : p.n ≤ 200 * ((j : Int) + 1) := by omega
      obtain ⟨k1, k2, k3⟩ := keepTo_fit (q := doneN s) hn.1 (M := 200 * (j : Int)) (by omega) d3
      refine ⟨?_, ?_, by simp, by simp; omega, fun x hx => ?_⟩
      · show (keepTo (doneN s) p.n).length ≤ _; omega
      · show signsIn (keepTo (doneN s) p.n) + 0 ≤ _; omega
      · have := k3 x hx; omega
  · split
    · rename_i hk
      refine ⟨by simp; omega, by simp; omega, h3, by simp; omega, fun x hx => by have := hns x hx; omega⟩
    · have hn : 0 ≤ p.n ∧ p.n ≤ 200 := by omega
      refine ⟨by simp; omega, by simp; omega, by simp; omega, by simp; omega, fun x hx => by have := hns x hx; omega⟩
theorem Fit.start : Fit 0 0 ([], [], 0) := ⟨by simp, by simp [signsIn], by simp, by simp, fun p hp => by simp at hp⟩
theorem foldN_fit {ps : List Pt} (h : okPs ps = true) : ∀ k, k ≤ ps.length → Fit k (signsIn (ps.take k)) (foldN (ps.take k))
  | 0, _ => by simpa [foldN, signsIn] using Fit.start
  | k + 1, hk => by
    obtain ⟨p, hp⟩ := idx_some (l := ps) (i := k) (by omega)
    rw [foldN_snoc hp, signsIn_snoc hp]
    exact (foldN_fit h k (by omega)).step (okPs_at hp h)
end Go.Proofs.YtamainhocghlgaaGreatDoor.low


/-
  The contract of spec.OpSame: two lists of parts are equal.
-/
namespace Go.Proofs.YtamainhocghlgaaGreatDoor.low
open Go.RowKit
set_option linter.unusedVariables false

theorem drewN_below (w : World) (n : Nat) : Below w.heap.size w (w.drewN n) := ⟨rfl, rfl, rfl, Nat.le_refl _, fun _ _ => rfl⟩

set_option maxRecDepth 100000 in
set_option maxHeartbeats 3200000 in
theorem specOpSame_any (A B : Option Addr) (c d : Nat) (ps qs : List Pt) (w : World) (hx : PRow w w.heap.size A ps) (hy : PRow w w.heap.size B qs)
    (hl : ps.length ≤ 4294967296) (hl2 : qs.length ≤ 4294967296) (hs : ∀ p ∈ ps, p.signs.length ≤ 4294967296) (hs2 : ∀ p ∈ qs, p.signs.length ≤ 4294967296) :
    Calls Tryz.prog 109 #[.slice A ps.length c, .slice B qs.length d] w (Tells (samePs ps qs) w) := by
  by_cases hlen : ps.length = qs.length
  · have HL := Lib.hid hlen
    have hb : ((ps.length : Int) != (qs.length : Int)) = false := by simp [hlen]
    clear hlen
    go_enter Tryz.func109, Tryz.ntmps109
    go_wp2
    go_loopw [14] (fun i wr => ∃ k : Nat, k ≤ ps.length ∧ i = .int .i64 k ∧ samePs (ps.take k) (qs.take k) = true ∧ Below w.heap.size w wr) (fun i _ => ps.length - (intOf i).toNat)
    case atStart => exact ⟨0, Nat.zero_le _, rfl, rfl, Below.refl _ _⟩
    case round =>
      obtain ⟨k, hk, rfl, ht, hbel⟩ := hrel
      have HT := Lib.hid ht
      clear ht
      by_cases hlt : k < ps.length
      · have hlt2 : k < qs.length := by have := HL.out; omega
        obtain ⟨b1, o1, p, rfl, hb1, hp, hc1⟩ := hx.at_ hlt
        obtain ⟨b2, o2, q, rfl, hb2, hq, hc2⟩ := hy.at_ (k := k) hlt2
        obtain ⟨x0, x1, A1, e1, x2, r1⟩ := hc1.keep (w' := wr) hb1 (fun _ hq => hbel.cell hq)
        have hsp := hs p (List.mem_of_getElem? hp)
        have hsq := hs2 q (List.mem_of_getElem? hq)
        have HP := Lib.hid hp
        have HQ := Lib.hid hq
        clear hp hq hc1
        have bW := alloc_below wr (.cells #[.int .i64 p.kind, .int .i64 p.n, .slice A1 p.signs.length e1] 145)
        have dW := hbel.trans (bW.mono hbel.size)
        obtain ⟨y0, y1, A2, e2, y2, r2⟩ := hc2.keep (w' := wr.alloc (.cells #[.int .i64 p.kind, .int .i64 p.n, .slice A1 p.signs.length e1] 145)) hb2 (fun _ hq => dW.cell hq)
        have rr1 := (r1.more hbel.size).past bW
        have rr2 := r2.more dW.size
        have R1 := Lib.hid rr1
        have R2 := Lib.hid rr2
        clear hc2 r1 r2 rr1 rr2
        by_cases hk : p.kind = q.kind
        · by_cases hn : p.n = q.n
          · cases hss : sameB p.signs q.signs
            · have HS := Lib.hid (show samePt p q = false by unfold samePt; rw [hss]; simp)
              have hkb : (p.kind != q.kind) = false := by simp [hk]
              have hnb : (p.n != q.n) = false := by simp [hn]
              clear hk hn
              go_wp2
              go_quiet ((go_at_call 126; exact Calls.quiet_of (specSignsSame_any A1 A2 e1 e2 p.signs q.signs _ R1.out R2.out hsp hsq)))
              go_wp2
              go_ret
              exact ⟨ret_bool (by rw [samePs_at ps qs k p q HP.out HQ.out HS.out]), dW.trans ((drewN_below _ _).mono dW.size)⟩
            · have HS := Lib.hid (show samePt p q = true by unfold samePt; rw [hss]; simp [hk, hn])
              have hkb : (p.kind != q.kind) = false := by simp [hk]
              have hnb : (p.n != q.n) = false := by simp [hn]
              clear hk hn
              go_wp2
              go_quiet ((go_at_call 126; exact Calls.quiet_of (specSignsSame_any A1 A2 e1 e2 p.signs q.signs _ R1.out R2.out hsp hsq)))
              go_wp2
              go_roundw
              case rel => exact ⟨k + 1, by omega, by go_num, samePs_snoc ps qs k p q HP.out HQ.out HS.out HT.out, dW.trans ((drewN_below _ _).mono dW.size)⟩
              case measure => simp [intOf]; omega
          · have HS := Lib.hid (show samePt p q = false by unfold samePt; simp [hn])
            have hkb : (p.kind != q.kind) = false := by simp [hk]
            have hnb : (p.n != q.n) = true := by simp [hn]
            clear hk hn
            go_wp2
            go_quiet (fail)
            go_wp2
            go_ret
            exact ⟨ret_bool (by rw [samePs_at ps qs k p q HP.out HQ.out HS.out]), dW.trans ((drewN_below _ _).mono dW.size)⟩
        · have HS := Lib.hid (show samePt p q = false by unfold samePt; simp [hk])
          have hkb : (p.kind != q.kind) = true := by simp [hk]
          clear hk
          go_wp2
          go_quiet (fail)
          go_wp2
          go_ret
          exact ⟨ret_bool (by rw [samePs_at ps qs k p q HP.out HQ.out HS.out]), dW.trans ((drewN_below _ _).mono dW.size)⟩
      · have H := Lib.hid (show samePs ps qs = true by have := HT.out; rwa [List.take_of_length_le (by omega), List.take_of_length_le (by have := HL.out; omega)] at this)
        go_wp2
        go_ret
        exact ⟨ret_bool (by rw [H.out]), hbel⟩
  · have hb : ((ps.length : Int) != (qs.length : Int)) = true := by simp; omega
    have H := Lib.hid (show samePs ps qs = false by cases h : samePs ps qs; rfl; exact absurd (samePs_len ps qs h) hlen)
    clear hlen
    go_enter Tryz.func109, Tryz.ntmps109
    go_wp2
    go_ret
    exact ⟨ret_bool (by rw [H.out]), Below.refl _ _⟩
end Go.Proofs.YtamainhocghlgaaGreatDoor.low


/-
  Contracts of spec.OpNorm and spec.IsNorm.
-/
namespace Go.Proofs.YtamainhocghlgaaGreatDoor.low
open Go.RowKit
set_option linter.unusedVariables false

theorem BAt.past {lo g : Nat} {T : TypeId} {w w' : World} {ps : List Pt} {put : List Int} {d : Int} (h : BAt lo g T w ps put d) (hb : Below w.heap.size w w') : BAt lo g T w' ps put d := by
  obtain ⟨v, u, us, hx, ha⟩ := h
  exact ⟨v, u, us, ⟨(hb.block g hx.lt).trans hx.box, own_keep hx.row (fun k _ hk2 => hb.block k hk2), hx.len, hx.low⟩, ha.keep hb.size (fun i x k _ _ hk2 => hb.block k hk2)⟩
theorem BAt.new (lo : Nat) (T : TypeId) (w : World) (h : lo ≤ w.heap.size) : BAt lo w.heap.size T (w.alloc (.cells #[.slice none 0 0, .slice none 0 0, .int .i64 0] T)) [] [] 0 :=
  ⟨.slice none 0 0, .slice none 0 0, [], ⟨heap_alloc_new w _, World.ownsRow_nil _ _ _ _, rfl, h⟩, Apart.bare 2 0 ⟨rfl, fun i p u hp _ => by simp at hp, fun i j k u v hu _ _ _ => by simp at hu⟩⟩

set_option maxHeartbeats 1600000 in
theorem specKeep_zero (g : Nat) (w : World) : Calls Tryz.prog 127 #[.pointer (some ⟨g, 0, none⟩), .int .i64 0] w fun e w' => e = .returned (.tuple #[]) ∧ w = w' := by
  go_enter Tryz.func127, Tryz.ntmps127
  go_wp2
  first | go_end0 | (refine bodyPost_ret (results_none rfl _ _ _) rfl ?_)
  exact ⟨rfl, rfl⟩

set_option maxRecDepth 100000 in
set_option maxHeartbeats 3200000 in
theorem specOpNorm_any (A : Option Addr) (c : Nat) (ps : List Pt) (w : World) (hr : PRow w w.heap.size A ps) (hl : ps.length ≤ 4294967296) (hls : ∀ p ∈ ps, p.signs.length ≤ 4294967296) (hss : signsIn ps ≤ 1048576) :
    Calls Tryz.prog 110 #[.slice A ps.length c] w (PsPost (normL ps) w) := by
  cases hok : okOp ps
  · have e1 : normL ps = [] := by simp [normL, hok]
    rw [e1]
    go_enter Tryz.func110, Tryz.ntmps110
    go_wp2_with fail
    refine (specOpOk_any A c ps _ hr hl hls).mono ?_
    rintro e w1 ⟨rfl, b1⟩
    rw [hok] at *
    go_wp2
    go_ret
    refine ⟨_, rfl, ⟨[], World.ownsRow_nil _ _ _ _, ⟨rfl, fun i p u hp _ => by simp at hp, fun i j k u v hu _ _ _ => by simp at hu⟩, fun k hk => by simp [Value.ownBlock] at hk, Nat.le_refl _, b1.size⟩, b1⟩
  · have e1 : normL ps = doneN (foldN ps) := by simp [normL, hok]
    rw [e1]
    have hpb : partsB ps = true := by
      unfold okOp at hok
      cases h : partsB ps
      · rw [h] at hok; simp at hok
      · rfl
    have HPB := Lib.hid (partsB_of hpb)
    clear hpb
    go_enter Tryz.func110, Tryz.ntmps110
    go_wp2_with fail
    refine (specOpOk_any A c ps _ hr hl hls).mono ?_
    rintro e w1 ⟨rfl, b1⟩
    rw [hok] at *
    clear hok
    go_wp2
    have hnew := BAt.new w.heap.size 189 w1 b1.size
    have hbn := b1.trans ((alloc_below w1 (.cells #[.slice none 0 0, .slice none 0 0, .int .i64 0] 189)).mono b1.size)
    have hgl : w.heap.size ≤ w1.heap.size := b1.size
    generalize w1.alloc (.cells #[.slice none 0 0, .slice none 0 0, .int .i64 0] 189) = w2 at *
    generalize w1.heap.size = g at *
    clear b1
    go_loopw [13] (fun i wr => ∃ k : Nat, k ≤ ps.length ∧ i = .int .i64 k ∧ BAt w.heap.size g 189 wr (foldN (ps.take k)).1 (foldN (ps.take k)).2.1 (foldN (ps.take k)).2.2 ∧ Below w.heap.size w wr) (fun i _ => ps.length - (intOf i).toNat)
    case atStart => exact ⟨0, Nat.zero_le _, rfl, hnew, hbn⟩
    case round =>
      obtain ⟨k, hk, rfl, hat, hbel⟩ := hrel
      clear hnew hbn
      have hfit := foldN_fit HPB.out.1 k hk
      have hpl := HPB.out.2
      by_cases hlt : k < ps.length
      · obtain ⟨b, off, p, rfl, hb, hp, hc⟩ := hr.at_ hlt
        obtain ⟨x0, x1, A1, e1, x2, r1⟩ := hc.keep (w' := wr) hb (fun _ hq => hbel.cell hq)
        have hokp := okPs_at hp HPB.out.1
        have hok := of_okPt hokp
        have hsl := hls p (List.mem_of_getElem? hp)
        have K1 := Lib.hid (foldN_snoc hp)
        have hsg : signsIn (ps.take k) ≤ signsIn ps := signsIn_take ps k
        clear hp hc
        generalize foldN (ps.take k) = st at *
        obtain ⟨qs, put, d⟩ := st
        have hf1 := hfit.len
        have hf2 := hfit.signs
        have hf3 := hfit.d0
        have hf4 := hfit.d1
        have hdn := Lib.hid hfit.done
        simp only at hf1 hf2 hf3 hf4 hat
        obtain ⟨pk, pn, pz⟩ := p
        simp only at x0 x1 x2 hok r1 hsl
        rcases (show pk = 1 ∨ pk = 2 ∨ pk = 3 by omega) with rfl | rfl | rfl
        · have hn1 : 0 ≤ pn := by omega
          have hn2 : pn ≤ 200 := by omega
          clear hok
          by_cases hz : pn = 0
          · subst hz
            go_wp2_with fail
            refine (specKeep_zero g _).mono ?_
            rintro e w' ⟨rfl, rfl⟩
            go_wp2
            go_roundw
            case rel => exact ⟨k + 1, by omega, by go_num, by rw [K1.out]; exact hat.past (alloc_below wr _), hbel.trans ((alloc_below wr _).mono hbel.size)⟩
            case measure => simp [intOf]; omega
          · go_wp2_with fail
            refine (specKeep_any w.heap.size g qs put d pn _ (hat.past (alloc_below wr _)) (by omega) (by omega) hz hn1 (by omega) (fun p hp => by have := hdn.out.2.2 p hp; omega) (by have := hdn.out.1; exact Nat.le_trans this (by omega))).mono ?_
            rintro e w3 ⟨rfl, hn3, b3⟩
            go_wp2
            go_roundw
            case rel => exact ⟨k + 1, by omega, by go_num, by rw [K1.out]; simp only [stepN, if_neg hz]; exact hn3.at_, hbel.trans (((alloc_below wr _).mono hbel.size).trans b3)⟩
            case measure => simp [intOf]; omega
        · clear hok
          go_wp2_with fail
          refine (specPut_any w.heap.size g qs put d A1 e1 pz _ (hat.past (alloc_below wr _)) (Row.past_alloc (r1.more hbel.size) _) (by omega) (by omega)).mono ?_
          rintro e w3 ⟨rfl, hn3, b3⟩
          go_wp2
          go_roundw
          case rel => exact ⟨k + 1, by omega, by go_num, by rw [K1.out]; exact hn3, hbel.trans (((alloc_below wr _).mono hbel.size).trans b3)⟩
          case measure => simp [intOf]; omega
        · have hn1 : 0 ≤ pn := by omega
          have hn2 : pn ≤ 200 := by omega
          clear hok
          go_wp2_with fail
          refine (specDrop_any w.heap.size g qs put d pn _ (hat.past (alloc_below wr _)) (by omega) (by omega) (by omega) (by omega)).mono ?_
          rintro e w3 ⟨rfl, hn3, b3⟩
          go_wp2
          go_roundw
          case rel => exact ⟨k + 1, by omega, by go_num, by rw [K1.out]; exact hn3, hbel.trans (((alloc_below wr _).mono hbel.size).trans b3)⟩
          case measure => simp [intOf]; omega
      · have hke : ps.take k = ps := List.take_of_length_le (by omega)
        rw [hke] at hat hfit
        have hf1 := hfit.len
        have hf2 := hfit.signs
        go_wp2_with fail
        refine (specDone_any w.heap.size g _ _ _ _ hat (by omega) (by omega)).mono ?_
        rintro e w3 ⟨v, rfl, p3, b3⟩
        change PBuf _ _ _ _ (doneN (foldN ps)) at p3
        generalize doneN (foldN ps) = L at *
        obtain ⟨B3, d3, rfl, q3⟩ := p3.slice
        have HP3 := Lib.hid p3
        clear p3
        go_wp2
        go_ret
        exact ⟨_, rfl, HP3.out, hbel.trans b3⟩
theorem normL_fit {ps : List Pt} (hs : signsIn ps ≤ 1048576) : (normL ps).length ≤ 1802 ∧ signsIn (normL ps) ≤ 1048576 := by
  unfold normL
  split
  · rename_i hok
    have hpb : partsB ps = true := by
      unfold okOp at hok
      cases h : partsB ps
      · rw [h] at hok; simp at hok
      · rfl
    obtain ⟨h1, h2⟩ := partsB_of hpb
    have hf := (foldN_fit h1 ps.length (Nat.le_refl _)).done
    rw [List.take_length] at hf
    exact ⟨by have := hf.1; omega, Nat.le_trans hf.2.1 hs⟩
  · simp [signsIn]

/-- a normal operation -/
def isNormL (ps : List Pt) : Bool := okOp ps && samePs (normL ps) ps
set_option maxHeartbeats 1600000 in
theorem specIsNorm_any (A : Option Addr) (c : Nat) (ps : List Pt) (w : World) (hr : PRow w w.heap.size A ps) (hl : ps.length ≤ 4294967296) (hls : ∀ p ∈ ps, p.signs.length ≤ 4294967296) (hss : signsIn ps ≤ 1048576) :
    Calls Tryz.prog 89 #[.slice A ps.length c] w (Tells (isNormL ps) w) := by
  obtain ⟨n1, n2⟩ := normL_fit hss
  have hls' : ∀ p ∈ normL ps, p.signs.length ≤ 4294967296 := fun p hp => by
    obtain ⟨i, hi⟩ := List.getElem?_of_mem hp
    have := signsIn_at hi
    omega
  cases hok : okOp ps
  · have HS := Lib.hid (show isNormL ps = false by unfold isNormL; rw [hok]; rfl)
    go_enter Tryz.func89, Tryz.ntmps89
    go_wp2_with fail
    refine (specOpOk_any A c ps _ hr hl hls).mono ?_
    rintro e w1 ⟨rfl, b1⟩
    rw [hok] at *
    go_wp2
    go_ret
    exact ⟨ret_bool (by rw [HS.out]), b1⟩
  · have HS := Lib.hid (show isNormL ps = samePs (normL ps) ps by unfold isNormL; rw [hok]; rfl)
    go_enter Tryz.func89, Tryz.ntmps89
    go_wp2_with fail
    refine (specOpOk_any A c ps _ hr hl hls).mono ?_
    rintro e w1 ⟨rfl, b1⟩
    rw [hok] at *
    clear hok
    go_wp2_with fail
    refine (specOpNorm_any A c ps _ (hr.past b1) hl hls hss).mono ?_
    rintro e w2 ⟨v2, rfl, p2, b2⟩
    obtain ⟨B2, d2, rfl, q2⟩ := p2.slice
    have d2' := b1.trans (b2.mono b1.size)
    generalize normL ps = L at *
    go_wp2_with fail
    refine (specOpSame_any B2 A d2 c L ps _ q2 (hr.past d2') (by omega) hl hls' hls).mono ?_
    rintro e w3 ⟨rfl, b3⟩
    go_wp2
    go_ret
    exact ⟨ret_bool (by rw [HS.out]), d2'.trans (b3.mono d2'.size)⟩
end Go.Proofs.YtamainhocghlgaaGreatDoor.low


/-
  append(out, xs...) where out is a row of numbers of the caller's own and xs reads as numbers, nil and empty let in; a piece of a slice of numbers.
-/
namespace Go.Proofs.YtamainhocghlgaaGreatDoor.low
open Go.RowKit
set_option linter.unusedVariables false

theorem grown_refl (w : World) (r : Option Nat) : w.grownBy w r := ⟨rfl, rfl, rfl, Nat.le_refl _, fun _ _ _ => rfl⟩
theorem wpList_append_ints {w : World} {ops : Array Oper} {rest : List Oper} {o : Oper} {a : Act} {Q : Exit → Act → World → Prop} (hgd : o.guard = none) (s x : Operand)
    (ho : o.op = .call { callee := .builtin .append, args := #[s, x], argTypes := #[61, 61] })
    (base : Nat) (v : Value) (zs : List Int) (hs : a.eval s = v) (hown : w.ownsRow base 3 1 v zs.length (zs.map (Value.int .i64)))
    (A : Option Addr) (m c : Nat) (ys : List Int) (hx : a.eval x = .slice A m c) (hm : ys.length = m) (hr : Row (Value.int .i64) w w.heap.size A ys)
    (h63 : zs.length + m ≤ 1000000000) (hbase : base ≤ w.heap.size)
    (h : ∀ A' c' w', w'.ownsRow base 3 1 (.slice A' (zs.length + m) c') (zs ++ ys).length ((zs ++ ys).map (Value.int .i64)) → w.grownBy w' v.ownBlock → wpList Tryz.prog ops Q rest (a.put o.dst (.slice A' (zs.length + m) c')) w') : wpList Tryz.prog ops Q (o :: rest) a w := by
  obtain ⟨i0, hi0, hz0, hz1, hz2⟩ := info_parts ints_info
  by_cases h0 : 0 < m
  · obtain ⟨ad, rfl, hbk, hcs⟩ := hr (by omega)
    refine wpList_append_lies _ hgd s x 61 ho base 3 i0 (.int .i64 0) 1 8 Tryz.underlying61 hi0 hz0 hz1 hz2 rfl (by decide) v zs.length (zs.map (Value.int .i64)) hs hown ad m c (ys.map (Value.int .i64)) hx (by simp [hm]) (fun j u hu => ?_) (by simp [Value.oneCell']) h0 (by unfold maxLen; omega) (by omega) hbase w.heap.size rfl ?_
    · rw [List.getElem?_map] at hu
      obtain ⟨z, hz, rfl⟩ := Option.map_eq_some_iff.1 hu
      exact hcs j z hz
    · intro g cap w' hown' hg _ _
      exact h _ cap w' (by simpa [hm] using hown') hg
  · have e0 : ys = [] := List.eq_nil_of_length_eq_zero (by omega)
    subst e0
    obtain rfl : m = 0 := by omega
    refine wpList_append_zero hgd s x 61 ho base 3 i0 1 Tryz.underlying61 hi0 v zs.length (zs.map (Value.int .i64)) hs hown A c hx ?_
    obtain ⟨Av, cv, rfl⟩ := own_form hown
    exact h Av cv w (by simpa using hown) (grown_refl _ _)
theorem grown_cell {w w' : World} {r : Option Nat} {p : Addr} (h : w.grownBy w' r) (hb : p.block < w.heap.size) (hne : ¬ r = some p.block) : w'.cell? p = w.cell? p := World.cell?_of_block (w := w) (h.block p.block hb (fun e => hne e.symm))
/-- the box of a struct that was just made, behind a growth of an older row -/
theorem box_cell {w w' : World} {base n size : Nat} {v : Value} {e T : TypeId} {xs : List Value} {cs : Array Value} (ho : w.ownsRow base e size v n xs) (h : (w.alloc (.cells cs T)).grownBy w' v.ownBlock) (i : Nat) : w'.cell? ⟨w.heap.size, i, none⟩ = cs[i]? := by
  rw [grown_cell h (by simp) (fun e => by have := own_in ho e; simp at this)]
  exact cell_of_row _ _ i _ _ _ (heap_alloc_new w _)
/-- a piece of a slice of numbers -/
theorem Row.piece {w : World} {B : Nat} {ad : Addr} {zs : List Int} (h : Row (Value.int .i64) w B (some ad) zs) (at_ m : Nat) (hl : at_ + m ≤ zs.length) : Row (Value.int .i64) w B (some (ad.add at_)) ((zs.drop at_).take m) := fun hn => by
  have hlen : ((zs.drop at_).take m).length = m := by rw [List.length_take, List.length_drop]; omega
  obtain ⟨ad', e, hb, hc⟩ := h (by omega)
  injection e with e
  subst e
  refine ⟨_, rfl, by rw [block_of_add]; exact hb, fun k z hz => ?_⟩
  have hk : k < m := by have := idx_lt hz; omega
  rw [List.getElem?_take, if_pos hk, List.getElem?_drop] at hz
  have := hc (at_ + k) z hz
  rwa [show ∀ (p : Addr) (i j : Nat), (p.add i).add j = p.add (i + j) from fun p i j => by
    unfold Addr.add
    by_cases hi : i = 0
    · subst hi; simp
    · by_cases hj : j = 0
      · subst hj; simp [hi]
      · simp [hi, hj, Nat.add_assoc]]
theorem piece_len {zs : List Int} {at_ m : Nat} (hl : at_ + m ≤ zs.length) : ((zs.drop at_).take m).length = m := by rw [List.length_take, List.length_drop]; omega
end Go.Proofs.YtamainhocghlgaaGreatDoor.low


/-
  The builder in one word: Bld: at block g it holds what the parts L, added one by one, have made of it.
-/
namespace Go.Proofs.YtamainhocghlgaaGreatDoor.low
open Go.RowKit
set_option linter.unusedVariables false

/-- a part of bounded size -/
def szP_ (p : Pt) : Prop := (p.kind = 1 ∨ p.kind = 2 ∨ p.kind = 3) ∧ 0 ≤ p.n ∧ p.n ≤ 200 ∧ p.signs.length ≤ 200
theorem szP_of {p : Pt} (h : okPt p = true) : szP_ p := by
  have := of_okPt h
  unfold szP_
  omega
theorem foldN_app (L : List Pt) (p : Pt) : foldN (L ++ [p]) = stepN (foldN L) p := by unfold foldN; simp
theorem OwnS.mono {S S' : Nat → Prop} {g : Nat} {v : Value} {us : List Value} (h : OwnS S g v us) (hs : ∀ b, S b → S' b) : OwnS S' g v us := ⟨hs _ h.1, fun k hk => hs k (h.2.1 k hk), fun i k x hx hk => hs k (h.2.2 i k x hx hk)⟩
theorem BAtS.mono {S S' : Nat → Prop} {lo g : Nat} {T : TypeId} {w : World} {ps : List Pt} {put : List Int} {d : Int} (h : BAtS S lo g T w ps put d) (hs : ∀ b, S b → S' b) : BAtS S' lo g T w ps put d := by
  obtain ⟨v, u, us, hx, ha, ho⟩ := h
  exact ⟨v, u, us, hx, ha, ho.mono hs⟩
/-- the builder's blocks exist -/
theorem BAtS.shrink {S : Nat → Prop} {lo g : Nat} {T : TypeId} {w : World} {ps : List Pt} {put : List Int} {d : Int} (h : BAtS S lo g T w ps put d) : BAtS (fun b => S b ∧ b < w.heap.size) lo g T w ps put d := by
  obtain ⟨v, u, us, hx, ha, ho⟩ := h
  refine ⟨v, u, us, hx, ha, ⟨ho.1, hx.lt⟩, fun k hk => ⟨ho.2.1 k hk, own_in hx.row hk⟩, fun i k x hxi hk => ⟨ho.2.2 i k x hxi hk, ?_⟩⟩
  obtain ⟨q, hq⟩ := idx_some (l := ps ++ [⟨2, 0, put⟩]) (i := i) (by rw [← ha.1]; exact idx_lt hxi)
  exact own_in (ha.2.1 i q x hq hxi).1 hk
theorem BAtS.keep {S : Nat → Prop} {lo g : Nat} {T : TypeId} {w w' : World} {ps : List Pt} {put : List Int} {d : Int} (h : BAtS S lo g T w ps put d) (hsz : w.heap.size ≤ w'.heap.size) (hk : ∀ b, b < w.heap.size → S b → w'.heap[b]? = w.heap[b]?) : BAtS S lo g T w' ps put d := by
  obtain ⟨v, u, us, hx, ha, ho⟩ := h
  exact ⟨v, u, us, ⟨(hk g hx.lt ho.1).trans hx.box, own_keep hx.row (fun k h1 h2 => hk k h2 (ho.2.1 k h1)), hx.len, hx.low⟩, ha.keep hsz (fun i x k hxi h1 h2 => hk k h2 (ho.2.2 i k x hxi h1)), ho⟩
/-- the builder at block g holds what the parts L have made of it; O: its blocks -/
structure Bld (O : Nat → Prop) (lo g : Nat) (T : TypeId) (w : World) (L : List Pt) : Prop where
  at_ : BAtS O lo g T w (foldN L).1 (foldN L).2.1 (foldN L).2.2
  sz : ∀ p ∈ L, szP_ p
  len : L.length ≤ 100000
  old : ∀ b, O b → b < w.heap.size
/-- blocks outside O are as they were; O' is O and new blocks -/
structure Grew (O O' : Nat → Prop) (w w' : World) : Prop where
  size : w.heap.size ≤ w'.heap.size
  block : ∀ b, b < w.heap.size → ¬ O b → w'.heap[b]? = w.heap[b]?
  more : ∀ b, O' b → O b ∨ w.heap.size ≤ b
theorem Bld.keep {O : Nat → Prop} {lo g : Nat} {T : TypeId} {w w' : World} {L : List Pt} (h : Bld O lo g T w L) (hsz : w.heap.size ≤ w'.heap.size) (hk : ∀ b, b < w.heap.size → O b → w'.heap[b]? = w.heap[b]?) : Bld O lo g T w' L := ⟨h.at_.keep hsz hk, h.sz, h.len, fun b hb => Nat.lt_of_lt_of_le (h.old b hb) hsz⟩
theorem Bld.past {O : Nat → Prop} {lo g : Nat} {T : TypeId} {w w' : World} {L : List Pt} (h : Bld O lo g T w L) (hb : Below w.heap.size w w') : Bld O lo g T w' L := h.keep hb.size (fun b hlt _ => hb.block b hlt)
/-- another builder's growth leaves this one alone -/
theorem Bld.apart {O P P' : Nat → Prop} {lo g : Nat} {T : TypeId} {w w' : World} {L : List Pt} (h : Bld O lo g T w L) (hg : Grew P P' w w') (hd : ∀ b, O b → ¬ P b) : Bld O lo g T w' L ∧ ∀ b, O b → ¬ P' b :=
  ⟨h.keep hg.size (fun b hlt ho => hg.block b hlt (hd b ho)), fun b ho hp => by
    rcases hg.more b hp with h1 | h1
    · exact hd b ho h1
    · have := h.old b ho; omega⟩
theorem Bld.new (lo : Nat) (T : TypeId) (w : World) (h : lo ≤ w.heap.size) : Bld (fun b => b = w.heap.size) lo w.heap.size T (w.alloc (.cells #[.slice none 0 0, .slice none 0 0, .int .i64 0] T)) [] :=
  ⟨show BAtS (fun b => b = w.heap.size) lo w.heap.size T (w.alloc (.cells #[.slice none 0 0, .slice none 0 0, .int .i64 0] T)) [] [] 0 from ⟨.slice none 0 0, .slice none 0 0, [], ⟨heap_alloc_new w _, World.ownsRow_nil _ _ _ _, rfl, h⟩, Apart.bare 2 0 ⟨rfl, fun i p u hp _ => by simp at hp, fun i j k u v hu _ _ _ => by simp at hu⟩, rfl, fun k hk => by simp [Value.ownBlock] at hk, fun i k x hx hk => by
      cases i with
      | zero => simp at hx; subst hx; simp [Value.ownBlock] at hk
      | succ i => simp at hx⟩, fun p hp => by simp at hp, by simp, fun b hb => by
      have hb' : b = w.heap.size := hb
      rw [hb']
      exact lt_of_some (heap_alloc_new w _)⟩
theorem Bld.low {O : Nat → Prop} {lo g : Nat} {T : TypeId} {w : World} {L : List Pt} (h : Bld O lo g T w L) : lo ≤ w.heap.size := by
  obtain ⟨v, u, us, hx, _⟩ := h.at_
  exact Nat.le_trans hx.low (Nat.le_of_lt hx.lt)
/-- what the contracts with frames give, in one word -/
theorem Bld.add {O : Nat → Prop} {lo g : Nat} {T : TypeId} {w w' : World} {L : List Pt} {p : Pt} (h : Bld O lo g T w L) (hl : L.length < 100000) (hp : szP_ p) (hb : Below lo w w') (hf : Fr (fun b => O b ∨ w.heap.size ≤ b) w w') (ha : BAtS (fun b => O b ∨ w.heap.size ≤ b) lo g T w' (stepN (foldN L) p).1 (stepN (foldN L) p).2.1 (stepN (foldN L) p).2.2) : ∃ O', Bld O' lo g T w' (L ++ [p]) ∧ Below lo w w' ∧ Grew O O' w w' :=
  ⟨fun b => (O b ∨ w.heap.size ≤ b) ∧ b < w'.heap.size, ⟨by rw [foldN_app]; exact ha.shrink, fun q hq => by rcases List.mem_append.1 hq with hq | hq; exact h.sz q hq; simp at hq; subst hq; exact hp, by simp; omega, fun b hb => hb.2⟩, hb, hf.size, fun b hlt ho => hf.block b hlt (fun hs => by rcases hs with hs | hs; exact ho hs; omega), fun b hb => hb.1⟩
theorem Grew.out {O O' : Nat → Prop} {lo hi : Nat} {w w' : World} (hg : Grew O O' w w') (hO : ∀ x, O x → x < lo ∨ hi ≤ x) (hh : hi ≤ w.heap.size) : ∀ x, O' x → x < lo ∨ hi ≤ x := fun x hx => by
  rcases hg.more x hx with h | h
  · exact hO x h
  · exact .inr (Nat.le_trans hh h)
/-- it returns the built parts, in blocks of the builder or new ones -/
def DoneP (O : Nat → Prop) (lo : Nat) (L : List Pt) (w : World) (e : Ending) (w' : World) : Prop := ∃ v b, e = .returned v ∧ OwB lo w'.heap.size w' (encPs (doneN (foldN L))) v b ∧ (∀ x ∈ b, O x ∨ w.heap.size ≤ x) ∧ Below lo w w' ∧ Grew O (fun x => x ∈ b) w w'
theorem GoneS.done {O : Nat → Prop} {lo : Nat} {L : List Pt} {w w' : World} {e : Ending} (h : GoneS (fun b => O b ∨ w.heap.size ≤ b) lo (doneN (foldN L)) w e w') : DoneP O lo L w e w' := by
  obtain ⟨v, us, e1, p, b, fr, ho, hl, hv, hu⟩ := h
  have hp := p
  obtain ⟨us', ho', ha', _⟩ := p
  obtain ⟨bs, oc, nd, rng, top, le⟩ := own_parts hp
  have heq : ∀ x ∈ bs, O x ∨ w.heap.size ≤ x := fun x hx => by
    obtain ⟨xs, cs, hox, hor, hb⟩ := oc
    rw [hb] at hx
    rcases List.mem_append.1 hx with hx | hx
    · exact hv x (by simpa using hx)
    · obtain ⟨us2, k1, k2, k3, k4⟩ := owR_parts hor
      rw [k3] at hx
      obtain ⟨i, u, hui, hk⟩ := mem_blks.1 hx
      have e2 : cellsOf (doneN (foldN L)) us2 = cellsOf (doneN (foldN L)) us := by
        rw [← k2]
        rcases ho.2 with ⟨rfl, h0⟩ | ⟨g, cap, cur, rfl, _, hh, _, _, _, ht⟩
        · have : doneN (foldN L) = [] := List.eq_nil_of_length_eq_zero h0
          have l1 := hox.1
          have l2 := ho.1
          rw [this] at l1 l2 ⊢
          simp at l1
          rw [l1]
          rfl
        · rcases hox.2 with ⟨hn, _⟩ | ⟨g', cap', cur', hv', _, hh', _, _, _, ht'⟩
          · cases hn
          · injection hv' with q1 q2 q3
            injection q1 with q1
            injection q1 with q1
            subst q1
            rw [hh] at hh'
            injection hh' with hh'
            injection hh' with hc _ _
            subst hc
            rw [← ht', ← ht]
            simp
      have e3 : us2[i]? = us[i]? := by
        obtain ⟨q, hq⟩ := idx_some (l := doneN (foldN L)) (i := i) (by rw [← k1]; exact idx_lt hui)
        obtain ⟨u2, hu2⟩ := idx_some (l := us) (i := i) (by rw [hl, ← k1]; exact idx_lt hui)
        have a1 := (cellsOf_at _ us2 i q u hq hui).2.2
        have a2 := (cellsOf_at _ us i q u2 hq hu2).2.2
        rw [e2, a2] at a1
        rw [hui, hu2]
        exact a1.symm
      exact hu i x u (by rw [← e3]; exact hui) hk
  exact ⟨v, bs, e1, ⟨oc, nd, rng, top, le⟩, heq, b, fr.size, fun x hlt ho => fr.block x hlt (fun hs => by rcases hs with hs | hs; exact ho hs; omega), heq⟩
end Go.Proofs.YtamainhocghlgaaGreatDoor.low


/-
  The normal form as a function on lists: its sums are those of the operation, its parts are tidy and stand in order, it is no longer than the operation, and it is its own normal form.
-/
namespace Go.Proofs.YtamainhocghlgaaGreatDoor.low
open Go.RowKit
set_option linter.unusedVariables false

theorem sumOf_cons {f : Pt → Int} (p : Pt) (a : List Pt) : sumOf f (p :: a) = f p + sumOf f a := by unfold sumOf; simp
theorem sumOf_nil {f : Pt → Int} : sumOf f [] = 0 := rfl
/-- a valid operation: its parts and sums -/
theorem okOp_of {ps : List Pt} (h : okOp ps = true) : okPs ps = true ∧ ps.length ≤ 600 ∧ sumOf keepOf ps + sumOf dropOf ps ≤ 200 ∧ sumOf keepOf ps + sumOf putOf ps ≤ 200 ∧ 0 ≤ sumOf keepOf ps ∧ 0 ≤ sumOf putOf ps ∧ 0 ≤ sumOf dropOf ps := by
  unfold okOp at h
  rw [Bool.and_eq_true, Bool.and_eq_true] at h
  obtain ⟨⟨h4, h5⟩, h6⟩ := h
  have h7 := partsB_of h4
  obtain ⟨t1, t2, t3⟩ := sum_t h4
  have h5 := of_decide_eq_true h5
  have h6 := of_decide_eq_true h6
  rw [t1, t3] at h5
  rw [t1, t2] at h6
  have := sums_bd h7.1 h7.2
  exact ⟨h7.1, h7.2, h5, h6, this.1.1, this.2.1.1, this.2.2.1⟩
theorem okPs_sz {ps : List Pt} (h : okPs ps = true) : ∀ p ∈ ps, szP_ p := fun p hp => szP_of (by unfold okPs at h; exact List.all_eq_true.1 h p hp)
theorem okPs_allB {ps : List Pt} (h : okPs ps = true) : ∀ p ∈ ps, allB p.signs = true := fun p hp => by
  have := of_okPt (show okPt p = true by unfold okPs at h; exact List.all_eq_true.1 h p hp)
  rcases this with ⟨_, _, hz⟩ | ⟨_, _, ha, _⟩
  · rw [List.eq_nil_of_length_eq_zero hz]; rfl
  · exact ha
end Go.Proofs.YtamainhocghlgaaGreatDoor.low


/-
  An operation as a list of unit actions: retain one character, insert one, delete one. The normal form is a function of that list; what applying, composing and transforming do to it.
-/
namespace Go.Proofs.YtamainhocghlgaaGreatDoor.low
open Go.RowKit
set_option linter.unusedVariables false

inductive U where
  | k
  | p (x : Int)
  | d
def unitsP (p : Pt) : List U := if p.kind = 1 then List.replicate p.n.toNat .k else if p.kind = 2 then p.signs.map .p else List.replicate p.n.toNat .d
def units (L : List Pt) : List U := L.flatMap unitsP
theorem units_nil : units [] = [] := rfl
theorem units_cons (p : Pt) (L : List Pt) : units (p :: L) = unitsP p ++ units L := by simp [units]
theorem units_app (a b : List Pt) : units (a ++ b) = units a ++ units b := by simp [units]
/-- applying units to a text -/
def applyU : List U → List Int → List Int
  | [], _ => []
  | .k :: us, t => t.take 1 ++ applyU us (t.drop 1)
  | .p x :: us, t => x :: applyU us t
  | .d :: us, t => applyU us (t.drop 1)
theorem applyU_ps : ∀ (ps : List Int) (us : List U) (t : List Int), applyU (ps.map U.p ++ us) t = ps ++ applyU us t
  | [], us, t => rfl
  | x :: ps, us, t => by
    show x :: applyU (ps.map U.p ++ us) t = _
    rw [applyU_ps ps us t]
    rfl
theorem applyU_ds : ∀ (n : Nat) (us : List U) (t : List Int), applyU (List.replicate n U.d ++ us) t = applyU us (t.drop n)
  | 0, us, t => by simp
  | n + 1, us, t => by
    rw [List.replicate_succ]
    show applyU (List.replicate n U.d ++ us) (t.drop 1) = _
    rw [applyU_ds n us, List.drop_drop, Nat.add_comm]
theorem applyU_ks : ∀ (n : Nat) (us : List U) (t : List Int), applyU (List.replicate n U.k ++ us) t = t.take n ++ applyU us (t.drop n)
  | 0, us, t => by simp
  | n + 1, us, t => by
    rw [List.replicate_succ]
    show t.take 1 ++ applyU (List.replicate n U.k ++ us) (t.drop 1) = _
    rw [applyU_ks n us, List.drop_drop, ← List.append_assoc, Nat.add_comm 1 n]
    congr 1
    rw [← List.take_add, Nat.add_comm]
end Go.Proofs.YtamainhocghlgaaGreatDoor.low


/-
  Applying operations, as functions on lists: a valid text, whether an operation fits it, the result.
-/
namespace Go.Proofs.YtamainhocghlgaaGreatDoor.low
open Go.RowKit
set_option linter.unusedVariables false

/-- a valid text -/
def okText (t : List Int) : Bool := allB t && decide (t.length ≤ 200)
/-- the operation applies to the text -/
def fitsB (ps : List Pt) (t : List Int) : Bool := okOp ps && okText t && decide (sumK ps + sumD ps = (t.length : Int))
def stepA (t : List Int) (s : Nat × List Int) (p : Pt) : Nat × List Int :=
  if p.kind = 1 then (s.1 + p.n.toNat, s.2 ++ (t.drop s.1).take p.n.toNat) else if p.kind = 2 then (s.1, s.2 ++ p.signs) else (s.1 + p.n.toNat, s.2)
def foldA (t : List Int) (ps : List Pt) : Nat × List Int := ps.foldl (stepA t) (0, [])
def applyT (ps : List Pt) (t : List Int) : List Int := if fitsB ps t = true then (foldA t ps).2 else []
theorem foldA_snoc {t : List Int} {ps : List Pt} {k : Nat} {p : Pt} (h : ps[k]? = some p) : foldA t (ps.take (k + 1)) = stepA t (foldA t (ps.take k)) p := by
  unfold foldA
  rw [List.take_add_one, h]
  simp
theorem okPs_mem' {ps : List Pt} (h : okPs ps = true) {p : Pt} (hp : p ∈ ps) : okPt p = true := by unfold okPs at h; exact List.all_eq_true.1 h p hp
/-- where the reading stands, and how much there is -/
theorem foldA_fit {t : List Int} {ps : List Pt} (hok : okPs ps = true) : ∀ k, k ≤ ps.length → ((foldA t (ps.take k)).1 : Int) = sumOf keepOf (ps.take k) + sumOf dropOf (ps.take k) ∧ ((foldA t (ps.take k)).2.length : Int) ≤ sumOf keepOf (ps.take k) + sumOf putOf (ps.take k)
  | 0, _ => by simp [foldA, sumOf]
  | k + 1, hk => by
    obtain ⟨p, hp⟩ := idx_some (l := ps) (i := k) (by omega)
    obtain ⟨i1, i2⟩ := foldA_fit (t := t) hok k (by omega)
    have hp' := of_okPt (okPs_at hp hok)
    rw [foldA_snoc hp, sumOf_snoc hp, sumOf_snoc hp, sumOf_snoc hp]
    generalize foldA t (ps.take k) = s at *
    generalize sumOf keepOf (ps.take k) = q1 at *
    generalize sumOf putOf (ps.take k) = q2 at *
    generalize sumOf dropOf (ps.take k) = q3 at *
    unfold stepA keepOf putOf dropOf
    rcases (show p.kind = 1 ∨ p.kind = 2 ∨ p.kind = 3 by omega) with e | e | e
    · simp only [e, if_true]
      refine ⟨by simp; omega, ?_⟩
      rw [List.length_append, List.length_take, List.length_drop]
      simp
      omega
    · simp only [e]
      simp
      omega
    · simp only [e]
      simp
      omega
theorem sumOf_take {f : Pt → Int} {ps : List Pt} (h : ∀ p ∈ ps, 0 ≤ f p) (k : Nat) : sumOf f (ps.take k) ≤ sumOf f ps := by
  have e : sumOf f ps = sumOf f (ps.take k) + sumOf f (ps.drop k) := by
    unfold sumOf
    rw [← List.sum_append, ← List.map_append, List.take_append_drop]
  have : 0 ≤ sumOf f (ps.drop k) := by
    unfold sumOf
    have hd : ∀ p ∈ ps.drop k, 0 ≤ f p := fun p hp => h p (List.mem_of_mem_drop hp)
    clear e
    generalize ps.drop k = qs at *
    induction qs with
    | nil => simp
    | cons q qs ih =>
      rw [List.map_cons, List.sum_cons]
      have h1 := hd q (by simp)
      have h2 := ih (fun p hp => hd p (by simp [hp]))
      omega
  omega
/-- what a fitting operation is -/
theorem fits_of {ps : List Pt} {t : List Int} (h : fitsB ps t = true) : okPs ps = true ∧ ps.length ≤ 600 ∧ sumOf keepOf ps + sumOf dropOf ps = (t.length : Int) ∧ sumOf keepOf ps + sumOf putOf ps ≤ 200 ∧ okText t = true ∧ t.length ≤ 200 ∧ okOp ps = true := by
  unfold fitsB at h
  rw [Bool.and_eq_true, Bool.and_eq_true] at h
  obtain ⟨⟨h1, h2⟩, h3⟩ := h
  have h1' := h1
  unfold okOp at h1
  rw [Bool.and_eq_true, Bool.and_eq_true] at h1
  obtain ⟨⟨h4, h5⟩, h6⟩ := h1
  have h7 := partsB_of h4
  obtain ⟨t1, t2, t3⟩ := sum_t h4
  have h3 := of_decide_eq_true h3
  have h6 := of_decide_eq_true h6
  rw [t1, t3] at h3
  rw [t1, t2] at h6
  have h2' := h2
  unfold okText at h2'
  rw [Bool.and_eq_true] at h2'
  exact ⟨h7.1, h7.2, h3, h6, h2, of_decide_eq_true h2'.2, h1'⟩
/-- the reading stays in the text -/
theorem foldA_in {t : List Int} {ps : List Pt} {k : Nat} {p : Pt} (h : fitsB ps t = true) (hp : ps[k]? = some p) (hk : p.kind = 1 ∨ p.kind = 3) : ((foldA t (ps.take k)).1 : Int) + p.n ≤ (t.length : Int) := by
  obtain ⟨h1, h2, h3, _⟩ := fits_of h
  have hlt := idx_lt hp
  have f := (foldA_fit (t := t) h1 k (by omega)).1
  have a1 := sumOf_take (f := keepOf) (ps := ps) (fun q hq => (ok_bd (okPs_mem' h1 hq)).1.1) (k + 1)
  have a2 := sumOf_take (f := dropOf) (ps := ps) (fun q hq => (ok_bd (okPs_mem' h1 hq)).2.2.1) (k + 1)
  rw [sumOf_snoc hp] at a1 a2
  have : keepOf p + dropOf p = p.n := by
    unfold keepOf dropOf
    rcases hk with e | e <;> simp [e]
  omega
theorem apply_len (ps : List Pt) (t : List Int) : (applyT ps t).length ≤ 200 := by
  unfold applyT
  split
  · rename_i h
    obtain ⟨h1, h2, h3, h4, _⟩ := fits_of h
    have f := (foldA_fit (t := t) h1 ps.length (Nat.le_refl _)).2
    rw [List.take_length] at f
    omega
  · simp
theorem apply_small {ps : List Pt} {t : List Int} (h0 : SmP ps) (h1 : SmI t) : SmI (applyT ps t) := by
  have := apply_len ps t
  unfold SmI
  omega
end Go.Proofs.YtamainhocghlgaaGreatDoor.low


/-
  Composition and transformation of unit actions: what they do to a text, in whichever order.
-/
namespace Go.Proofs.YtamainhocghlgaaGreatDoor.low
open Go.RowKit
set_option linter.unusedVariables false

/-- how long the texts are to which it applies, and the results -/
def src : List U → Nat
  | [] => 0
  | .k :: us => src us + 1
  | .p _ :: us => src us
  | .d :: us => src us + 1
def tgt : List U → Nat
  | [] => 0
  | .k :: us => tgt us + 1
  | .p _ :: us => tgt us + 1
  | .d :: us => tgt us
theorem src_app : ∀ a b : List U, src (a ++ b) = src a + src b
  | [], b => by simp [src]
  | .k :: a, b => by simp only [List.cons_append, src, src_app a b]; omega
  | .p _ :: a, b => by simp only [List.cons_append, src, src_app a b]
  | .d :: a, b => by simp only [List.cons_append, src, src_app a b]; omega
theorem tgt_app : ∀ a b : List U, tgt (a ++ b) = tgt a + tgt b
  | [], b => by simp [tgt]
  | .k :: a, b => by simp only [List.cons_append, tgt, tgt_app a b]; omega
  | .p _ :: a, b => by simp only [List.cons_append, tgt, tgt_app a b]; omega
  | .d :: a, b => by simp only [List.cons_append, tgt, tgt_app a b]
theorem apply_len_u : ∀ (us : List U) (t : List Int), src us = t.length → (applyU us t).length = tgt us
  | [], t, _ => rfl
  | .k :: us, [], h => by simp [src] at h
  | .k :: us, x :: t, h => by
    have := apply_len_u us t (by simpa [src] using h)
    simp [applyU, tgt, this]
  | .p x :: us, t, h => by
    have := apply_len_u us t h
    simp [applyU, tgt, this]
  | .d :: us, [], h => by simp [src] at h
  | .d :: us, x :: t, h => by
    have := apply_len_u us t (by simpa [src] using h)
    simp [applyU, tgt, this]

def comp : List U → List U → List U
  | [], [] => []
  | [], .p x :: b => .p x :: comp [] b
  | [], .k :: b => []
  | [], .d :: b => []
  | .d :: a, b => .d :: comp a b
  | .k :: a, [] => []
  | .k :: a, .p x :: b => .p x :: comp (.k :: a) b
  | .k :: a, .k :: b => .k :: comp a b
  | .k :: a, .d :: b => .d :: comp a b
  | .p y :: a, [] => []
  | .p y :: a, .p x :: b => .p x :: comp (.p y :: a) b
  | .p y :: a, .k :: b => .p y :: comp a b
  | .p y :: a, .d :: b => comp a b
termination_by a b => a.length + b.length

/-- two operations on one text, each led past the other: the first's insertions come first -/
def xf : List U → List U → List U × List U
  | [], [] => ([], [])
  | .p x :: a, b => (.p x :: (xf a b).1, .k :: (xf a b).2)
  | [], .p x :: b => (.k :: (xf [] b).1, .p x :: (xf [] b).2)
  | [], .k :: b => ([], [])
  | [], .d :: b => ([], [])
  | .k :: a, [] => ([], [])
  | .k :: a, .p x :: b => (.k :: (xf (.k :: a) b).1, .p x :: (xf (.k :: a) b).2)
  | .k :: a, .k :: b => (.k :: (xf a b).1, .k :: (xf a b).2)
  | .k :: a, .d :: b => ((xf a b).1, .d :: (xf a b).2)
  | .d :: a, [] => ([], [])
  | .d :: a, .p x :: b => (.k :: (xf (.d :: a) b).1, .p x :: (xf (.d :: a) b).2)
  | .d :: a, .k :: b => (.d :: (xf a b).1, (xf a b).2)
  | .d :: a, .d :: b => xf a b
termination_by a b => a.length + b.length

theorem src_rk : ∀ n : Nat, src (List.replicate n U.k) = n ∧ tgt (List.replicate n U.k) = n
  | 0 => ⟨rfl, rfl⟩
  | n + 1 => by rw [List.replicate_succ]; simp [src, tgt, src_rk n]
theorem src_rd : ∀ n : Nat, src (List.replicate n U.d) = n ∧ tgt (List.replicate n U.d) = 0
  | 0 => ⟨rfl, rfl⟩
  | n + 1 => by rw [List.replicate_succ]; simp [src, tgt, src_rd n]
theorem src_mp : ∀ zs : List Int, src (zs.map U.p) = 0 ∧ tgt (zs.map U.p) = zs.length
  | [] => ⟨rfl, rfl⟩
  | z :: zs => by rw [List.map_cons]; simp [src, tgt, src_mp zs]
/-- the sums, as lengths of the units -/
theorem src_units {L : List Pt} (h : ∀ p ∈ L, szP_ p) : (src (units L) : Int) = sumOf keepOf L + sumOf dropOf L ∧ (tgt (units L) : Int) = sumOf keepOf L + sumOf putOf L := by
  induction L with
  | nil => simp [units_nil, src, tgt, sumOf_nil]
  | cons p L ih =>
    obtain ⟨i1, i2⟩ := ih (fun q hq => h q (by simp [hq]))
    obtain ⟨hk, h0, _, _⟩ := h p (by simp)
    rw [units_cons, src_app, tgt_app, sumOf_cons, sumOf_cons, sumOf_cons]
    generalize sumOf keepOf L = q1 at *
    generalize sumOf putOf L = q2 at *
    generalize sumOf dropOf L = q3 at *
    unfold unitsP keepOf putOf dropOf
    rcases hk with e | e | e
    · simp [e, src_rk]; omega
    · simp [e, src_mp]; omega
    · simp [e, src_rd]; omega
theorem apply_fold : ∀ (L : List Pt) (t : List Int) (s : Nat × List Int), (∀ p ∈ L, szP_ p) → (L.foldl (stepA t) s).2 = s.2 ++ applyU (units L) (t.drop s.1)
  | [], t, s, _ => by simp [units_nil, applyU]
  | p :: L, t, s, h => by
    obtain ⟨hk, h0, _, _⟩ := h p (by simp)
    rw [List.foldl_cons, apply_fold L t _ (fun q hq => h q (by simp [hq])), units_cons]
    unfold stepA unitsP
    rcases hk with e | e | e
    · simp only [e, if_true]
      rw [applyU_ks, List.append_assoc, List.drop_drop]
    · simp [e, applyU_ps]
    · simp [e, applyU_ds, List.drop_drop]
/-- applying an operation is applying its units -/
theorem applyT_units {ps : List Pt} {t : List Int} (h : fitsB ps t = true) : applyT ps t = applyU (units ps) t := by
  have := apply_fold ps t (0, []) (okPs_sz (fits_of h).1)
  unfold applyT foldA
  rw [if_pos h, this]
  simp
end Go.Proofs.YtamainhocghlgaaGreatDoor.low


/-
  The normal form is a function of what the units do to a text of marks; hence composition is associative up to the normal form, and so on.
-/
namespace Go.Proofs.YtamainhocghlgaaGreatDoor.low
open Go.RowKit
set_option linter.unusedVariables false

end Go.Proofs.YtamainhocghlgaaGreatDoor.low


/-
  Composition and transformation, several units at once.
-/
namespace Go.Proofs.YtamainhocghlgaaGreatDoor.low
open Go.RowKit
set_option linter.unusedVariables false

/-- the list does not begin with a deletion, with an insertion -/
def noD : List U → Prop
  | .d :: _ => False
  | _ => True
def noP : List U → Prop
  | .p _ :: _ => False
  | _ => True
theorem comp_ds : ∀ (n : Nat) (a b : List U), comp (List.replicate n .d ++ a) b = List.replicate n .d ++ comp a b
  | 0, a, b => rfl
  | n + 1, a, b => by rw [List.replicate_succ, List.cons_append, comp, comp_ds n a b]; rfl
theorem comp_put1 (a b : List U) (x : Int) (h : noD a) : comp a (.p x :: b) = .p x :: comp a b := by
  cases a with
  | nil => rw [comp]
  | cons u a =>
    cases u with
    | k => rw [comp]
    | p y => rw [comp]
    | d => exact absurd h (by simp [noD])
theorem comp_puts : ∀ (zs : List Int) (a b : List U), noD a → comp a (zs.map .p ++ b) = zs.map .p ++ comp a b
  | [], a, b, _ => rfl
  | z :: zs, a, b, h => by rw [List.map_cons, List.cons_append, comp_put1 a _ z h, comp_puts zs a b h]; rfl
theorem comp_kk : ∀ (n : Nat) (a b : List U), comp (List.replicate n .k ++ a) (List.replicate n .k ++ b) = List.replicate n .k ++ comp a b
  | 0, a, b => rfl
  | n + 1, a, b => by rw [List.replicate_succ, List.cons_append, List.cons_append, comp, comp_kk n a b]; rfl
theorem comp_pk : ∀ (zs : List Int) (a b : List U), comp (zs.map .p ++ a) (List.replicate zs.length .k ++ b) = zs.map .p ++ comp a b
  | [], a, b => rfl
  | z :: zs, a, b => by rw [List.map_cons, List.length_cons, List.replicate_succ, List.cons_append, List.cons_append, comp, comp_pk zs a b]; rfl
theorem xf_puts : ∀ (zs : List Int) (a b : List U), xf (zs.map .p ++ a) b = (zs.map .p ++ (xf a b).1, List.replicate zs.length .k ++ (xf a b).2)
  | [], a, b => rfl
  | z :: zs, a, b => by rw [List.map_cons, List.cons_append, xf, xf_puts zs a b]; rfl
theorem xf_put1 (a b : List U) (x : Int) (h : noP a) : xf a (.p x :: b) = (.k :: (xf a b).1, .p x :: (xf a b).2) := by
  cases a with
  | nil => rw [xf]
  | cons u a =>
    cases u with
    | k => rw [xf]
    | p y => exact absurd h (by simp [noP])
    | d => rw [xf]
theorem xf_putsB : ∀ (zs : List Int) (a b : List U), noP a → xf a (zs.map .p ++ b) = (List.replicate zs.length .k ++ (xf a b).1, zs.map .p ++ (xf a b).2)
  | [], a, b, _ => rfl
  | z :: zs, a, b, h => by rw [List.map_cons, List.cons_append, xf_put1 a _ z h, xf_putsB zs a b h]; rfl
theorem xf_kk : ∀ (n : Nat) (a b : List U), xf (List.replicate n .k ++ a) (List.replicate n .k ++ b) = (List.replicate n .k ++ (xf a b).1, List.replicate n .k ++ (xf a b).2)
  | 0, a, b => rfl
  | n + 1, a, b => by rw [List.replicate_succ, List.cons_append, List.cons_append, xf, xf_kk n a b]; rfl
end Go.Proofs.YtamainhocghlgaaGreatDoor.low


/-
  The specification's cursor over the parts of an operation: l04Size, l04Kind, l04Left.
-/
namespace Go.Proofs.YtamainhocghlgaaGreatDoor.low
open Go.RowKit
set_option linter.unusedVariables false

/-- how many units a part has -/
def sizeP (p : Pt) : Nat := if p.kind = 2 then p.signs.length else p.n.toNat
theorem unitsP_len (p : Pt) : (unitsP p).length = sizeP p := by
  unfold unitsP sizeP
  by_cases h1 : p.kind = 1
  · simp [h1]
  · by_cases h2 : p.kind = 2
    · simp [h2]
    · simp [h1, h2]
theorem sizeP_le {p : Pt} (h : szP_ p) : sizeP p ≤ 200 := by
  obtain ⟨_, _, h1, h2⟩ := h
  unfold sizeP
  split <;> omega
/-- what is left of an operation: from the part at on, done units of it done -/
def rem (ps : List Pt) (at_ done : Nat) : List U := (units (ps.drop at_)).drop done
theorem drop_at {α : Type} {l : List α} {k : Nat} {x : α} (h : l[k]? = some x) : l.drop k = x :: l.drop (k + 1) := by
  have hk := idx_lt h
  rw [List.drop_eq_getElem_cons hk]
  congr 1
  have := List.getElem?_eq_getElem hk
  rw [h] at this
  injection this with this
  exact this.symm
theorem rem_in {ps : List Pt} {at_ done : Nat} {p : Pt} (h : ps[at_]? = some p) (hd : done ≤ sizeP p) : rem ps at_ done = (unitsP p).drop done ++ rem ps (at_ + 1) 0 := by
  unfold rem
  rw [drop_at h, units_cons, List.drop_append_of_le_length (by rw [unitsP_len]; exact hd)]
  simp

/-- a cursor at block g -/
structure Cur (g : Nat) (T : TypeId) (w : World) (A : Option Addr) (c : Nat) (ps : List Pt) (at_ done : Nat) : Prop where
  box : w.heap[g]? = some (.cells #[.slice A ps.length c, .int .i64 (at_ : Int), .int .i64 (done : Int)] T (0, 0))
  le : at_ ≤ ps.length
  part : ∀ p, ps[at_]? = some p → done ≤ sizeP p
  stop : at_ = ps.length → done = 0
theorem Cur.cell {g : Nat} {T : TypeId} {w : World} {A : Option Addr} {c : Nat} {ps : List Pt} {at_ done : Nat} (h : Cur g T w A c ps at_ done) (i : Nat) : w.cell? ⟨g, i, none⟩ = #[Value.slice A ps.length c, .int .i64 (at_ : Int), .int .i64 (done : Int)][i]? := cell_of_row _ _ i _ _ _ h.box
theorem Cur.free {g : Nat} {T : TypeId} {w : World} {A : Option Addr} {c : Nat} {ps : List Pt} {at_ done : Nat} (h : Cur g T w A c ps at_ done) (o : Nat) : w.frozen? ⟨g, o, none⟩ = false := by simp [World.frozen?, h.box]
theorem Cur.lt {g : Nat} {T : TypeId} {w : World} {A : Option Addr} {c : Nat} {ps : List Pt} {at_ done : Nat} (h : Cur g T w A c ps at_ done) : g < w.heap.size := lt_of_some h.box
theorem Cur.keep {g : Nat} {T : TypeId} {w w' : World} {A : Option Addr} {c : Nat} {ps : List Pt} {at_ done : Nat} (h : Cur g T w A c ps at_ done) (hk : w'.heap[g]? = w.heap[g]?) : Cur g T w' A c ps at_ done := ⟨hk.trans h.box, h.le, h.part, h.stop⟩
/-- the world has grown alone -/
def KS (wr W : World) : Prop := Below wr.heap.size wr W
theorem KS.start (wr : World) : KS wr wr.drew := (Below.refl _ _).drew
end Go.Proofs.YtamainhocghlgaaGreatDoor.low


/-
  The specification's cursor: l04Left, l04Take, l04Min.
-/
namespace Go.Proofs.YtamainhocghlgaaGreatDoor.low
open Go.RowKit
set_option linter.unusedVariables false

theorem Cur.step {g : Nat} {T : TypeId} {w : World} {A : Option Addr} {c : Nat} {ps : List Pt} {at_ done : Nat} (h : Cur g T w A c ps at_ done) (done' : Nat) (h1 : at_ < ps.length) (h2 : ∀ p, ps[at_]? = some p → done' ≤ sizeP p) :
    Cur g T (w.setCell ⟨g, 2, none⟩ (.int .i64 (done' : Int))) A c ps at_ done' := by
  refine ⟨?_, h.le, h2, fun e => by omega⟩
  rw [heap_setCell_same _ _ _ _ _ _ h.box]
  rfl
end Go.Proofs.YtamainhocghlgaaGreatDoor.low


/-
  Contracts of spec.TextOk, spec.l03Fits and spec.Apply.
-/
namespace Go.Proofs.YtamainhocghlgaaGreatDoor.low
open Go.RowKit
set_option linter.unusedVariables false

set_option maxHeartbeats 800000 in
theorem specTextOk_d (v : Value) (t : List Int) (w : World) (h : RdC w w.heap.size (encInts t) v) (hs : SmI t) : Calls Tryz.prog 59 #[v] w (Tells (okText t) w) := by
  obtain ⟨A, c, rfl, hr, _⟩ := ints_rd h
  have hl : t.length ≤ 1048576 := hs
  cases ha : allB t
  · have HS := Lib.hid (show okText t = false by unfold okText; rw [ha]; rfl)
    go_enter Tryz.func59, Tryz.ntmps59
    go_wp2_with fail
    refine (specSignsOk_any A c t _ hr (by omega)).mono ?_
    rintro e w1 ⟨rfl, rfl⟩
    rw [ha]
    go_wp2
    go_ret
    exact ⟨ret_bool (by rw [HS.out]), Below.refl _ _⟩
  · have HS := Lib.hid (show okText t = decide ((t.length : Int) ≤ 200) by unfold okText; rw [ha, Bool.true_and]; congr 1; apply propext; omega)
    go_enter Tryz.func59, Tryz.ntmps59
    go_wp2_with fail
    refine (specSignsOk_any A c t _ hr (by omega)).mono ?_
    rintro e w1 ⟨rfl, rfl⟩
    rw [ha]
    go_wp2
    go_ret
    exact ⟨ret_bool (by rw [HS.out]), Below.refl _ _⟩

theorem SmP.all4 {ps : List Pt} (h : SmP ps) : ∀ p ∈ ps, p.signs.length ≤ 4294967296 := fun p hp => Nat.le_trans (h.all p hp) (by omega)

set_option maxHeartbeats 1600000 in
theorem specFits_d (v v' : Value) (ps : List Pt) (t : List Int) (w : World) (h : RdC w w.heap.size (encPs ps) v) (h' : RdC w w.heap.size (encInts t) v') (hs : SmP ps) (hs' : SmI t) : Calls Tryz.prog 88 #[v, v'] w (Tells (fitsB ps t) w) := by
  obtain ⟨A, c, rfl, hr, _⟩ := parts_rd h
  obtain ⟨A', c', rfl, hr', _⟩ := ints_rd h'
  have hl := hs.1
  cases ho : okOp ps
  · have HS := Lib.hid (show fitsB ps t = false by unfold fitsB; rw [ho]; rfl)
    go_enter Tryz.func88, Tryz.ntmps88
    go_wp2_with fail
    refine (specOpOk_any A c ps _ hr (by omega) hs.all4).mono ?_
    rintro e w1 ⟨rfl, b1⟩
    rw [ho]
    go_wp2
    go_ret
    exact ⟨ret_bool (by rw [HS.out]), b1⟩
  · cases ht : okText t
    · have HS := Lib.hid (show fitsB ps t = false by unfold fitsB; rw [ho, ht]; rfl)
      go_enter Tryz.func88, Tryz.ntmps88
      go_wp2_with fail
      refine (specOpOk_any A c ps _ hr (by omega) hs.all4).mono ?_
      rintro e w1 ⟨rfl, b1⟩
      rw [ho]
      go_wp2_with fail
      refine (specTextOk_d _ t _ (h'.past b1) hs').mono ?_
      rintro e w2 ⟨rfl, b2⟩
      rw [ht]
      go_wp2
      go_ret
      exact ⟨ret_bool (by rw [HS.out]), b1.trans (b2.mono b1.size)⟩
    · have HS := Lib.hid (show fitsB ps t = (sumK ps + sumD ps == (t.length : Int)) by unfold fitsB; rw [ho, ht, Bool.true_and]; cases hq : (sumK ps + sumD ps == (t.length : Int)) <;> simp_all)
      go_enter Tryz.func88, Tryz.ntmps88
      go_wp2_with fail
      refine (specOpOk_any A c ps _ hr (by omega) hs.all4).mono ?_
      rintro e w1 ⟨rfl, b1⟩
      rw [ho]
      go_wp2_with fail
      refine (specTextOk_d _ t _ (h'.past b1) hs').mono ?_
      rintro e w2 ⟨rfl, b2⟩
      rw [ht]
      have d2 := b1.trans (b2.mono b1.size)
      go_wp2_with fail
      refine (specOpFrom_any A c ps _ (hr.past d2) (by omega) hs.all4).mono ?_
      rintro e w3 ⟨rfl, b3⟩
      generalize sumK ps + sumD ps = q at *
      go_wp2
      go_ret
      exact ⟨ret_bool (by rw [HS.out]), d2.trans (b3.mono d2.size)⟩

set_option maxRecDepth 100000 in
set_option maxHeartbeats 3200000 in
theorem specApply_d (v v' : Value) (ps : List Pt) (t : List Int) (w : World) (h : RdC w w.heap.size (encPs ps) v) (h' : RdC w w.heap.size (encInts t) v') (hs : SmP ps) (hs' : SmI t) : Calls Tryz.prog 60 #[v, v'] w (ResB (encInts (applyT ps t)) (fitsB ps t) w) := by
  obtain ⟨A, c, rfl, hr, _⟩ := parts_rd h
  obtain ⟨A', c', rfl, hr', hcap⟩ := ints_rd h'
  obtain ⟨i0, hi0, hz0, hz1, hz2⟩ := info_parts ints_info
  cases hf : fitsB ps t
  · have e1 : applyT ps t = [] := by simp [applyT, hf]
    rw [e1]
    go_enter Tryz.func60, Tryz.ntmps60
    go_wp2_with fail
    refine (specFits_d _ _ ps t _ h h' hs hs').mono ?_
    rintro e w1 ⟨rfl, b1⟩
    rw [hf]
    go_wp2
    go_ret2
    exact ⟨_, rfl, ⟨[], ⟨[], [], World.ownsRow_nil _ _ _ _, ⟨rfl, rfl⟩, rfl⟩, by simp, fun b hb => by simp at hb, Nat.le_refl _, b1.size⟩, b1⟩
  · have e1 : applyT ps t = (foldA t ps).2 := by simp [applyT, hf]
    rw [e1]
    have HF := Lib.hid hf
    have HFO := Lib.hid (fits_of hf)
    have hl := HFO.out.2.1
    have ht := HFO.out.2.2.2.2.2.1
    go_enter Tryz.func60, Tryz.ntmps60
    go_wp2_with fail
    refine (specFits_d _ _ ps t _ h h' hs hs').mono ?_
    rintro e w1 ⟨rfl, b1⟩
    rw [hf]
    clear hf e1
    go_wp2
    have hbn := b1.trans ((alloc_below w1 (.cells #[] 3)).mono b1.size)
    have hib : (w1.alloc (.cells #[] 3)).ownsRow w.heap.size 3 1 (.slice (some ⟨w1.heap.size, 0, none⟩) 0 0) 0 [] := ⟨rfl, .inr ⟨w1.heap.size, 0, #[], rfl, b1.size, heap_alloc_new w1 _, Nat.le_refl _, by unfold maxLen; omega, rfl, rfl⟩⟩
    generalize w1.alloc (.cells #[] 3) = w2 at *
    generalize (Value.slice (some ⟨w1.heap.size, 0, none⟩) 0 0) = v0 at *
    clear b1
    go_loopw [6, 7, 17] (fun o a i wr => ∃ k : Nat, k ≤ ps.length ∧ i = .int .i64 k ∧ a = .int .i64 ((foldA t (ps.take k)).1 : Int) ∧ wr.ownsRow w.heap.size 3 1 o (foldA t (ps.take k)).2.length ((foldA t (ps.take k)).2.map (Value.int .i64)) ∧ Below w.heap.size w wr) (fun _ _ i _ => ps.length - (intOf i).toNat)
    case atStart => exact ⟨0, Nat.zero_le _, rfl, rfl, hib, hbn⟩
    case round =>
      obtain ⟨k, hk, rfl, rfl, ho, hbel⟩ := hrel
      clear hib hbn
      have hfit := Lib.hid (foldA_fit (t := t) HFO.out.1 k hk)
      obtain ⟨Ao, co, rfl⟩ := own_form ho
      by_cases hlt : k < ps.length
      · obtain ⟨b, off, p, rfl, hb, hp, hc⟩ := hr.at_ hlt
        obtain ⟨x0, x1, A1, e1, x2, r1⟩ := hc.keep (w' := wr) hb (fun _ hq => hbel.cell hq)
        have hokp := okPs_at hp HFO.out.1
        have hok := of_okPt hokp
        have K1 := Lib.hid (foldA_snoc (t := t) hp)
        have hin := foldA_in HF.out hp
        have hsl := hs.all p (List.mem_of_getElem? hp)
        clear hp hc
        have hlen : (foldA t (ps.take k)).2.length ≤ 200 ∧ (foldA t (ps.take k)).1 ≤ 200 := by
          have f := hfit.out
          have a1 := sumOf_take (f := keepOf) (ps := ps) (fun q hq => (ok_bd (okPs_mem' HFO.out.1 hq)).1.1) k
          have a2 := sumOf_take (f := putOf) (ps := ps) (fun q hq => (ok_bd (okPs_mem' HFO.out.1 hq)).2.1.1) k
          have a3 := sumOf_take (f := dropOf) (ps := ps) (fun q hq => (ok_bd (okPs_mem' HFO.out.1 hq)).2.2.1) k
          have g1 := HFO.out.2.2.1
          have g2 := HFO.out.2.2.2.1
          omega
        generalize foldA t (ps.take k) = st at *
        obtain ⟨at_, out⟩ := st
        obtain ⟨pk, pn, pz⟩ := p
        simp only at x0 x1 x2 hok r1 hin ho hlen
        obtain ⟨hlen, hat⟩ := hlen
        have HO := Lib.hid ho
        clear ho
        rcases (show pk = 1 ∨ pk = 2 ∨ pk = 3 by omega) with rfl | rfl | rfl
        · have hn1 : 0 ≤ pn := by omega
          have hn2 : pn ≤ 200 := by omega
          have hin' := hin (.inl rfl)
          clear hok hin
          obtain ⟨m, rfl⟩ := Int.eq_ofNat_of_zero_le hn1
          have hb0 := hbel.trans ((alloc_below wr (.cells #[.int .i64 1, .int .i64 (m : Int), .slice A1 pz.length e1] 145)).mono hbel.size)
          have hrow := HO.out.alloc (.cells #[.int .i64 1, .int .i64 (m : Int), .slice A1 pz.length e1] 145)
          have HRW := Lib.hid hrow
          clear hrow
          cases A' with
          | none =>
            have ht0 : t.length = 0 := by
              rcases Nat.eq_zero_or_pos t.length with h | h
              · exact h
              · obtain ⟨_, hn, _⟩ := hr' h
                cases hn
            obtain rfl : m = 0 := by omega
            obtain rfl : at_ = 0 := by omega
            go_wp2_with (at_builtin; refine wpList_append_ints rfl (.tmp 29) (.tmp 36) rfl w.heap.size (.slice Ao out.length co) out rfl HRW.out none _ _ [] rfl rfl Row.nil (by omega) hb0.size ?_; intro An cn wn hon hgn; have hcx : wn.cell? ⟨wr.heap.size, 1, none⟩ = some (.int .i64 ((0 : Nat) : Int)) := box_cell HO.out hgn 1)
            go_roundw
            case rel => exact ⟨_, _, _, _, ⟨k + 1, by omega, by go_num, by rw [K1.out]; rfl, by rw [K1.out]; simpa [stepA] using hon, hb0.grown hgn hb0.size (fun q hq => own_ge HO.out q hq)⟩, rfl, rfl, rfl, rfl⟩
            case measure => simp [intOf]; omega
          | some ad =>
            by_cases hac : at_ = c'
            · obtain rfl : m = 0 := by omega
              subst hac
              go_wp2_with (at_builtin; refine wpList_append_ints rfl (.tmp 29) (.tmp 36) rfl w.heap.size (.slice Ao out.length co) out rfl HRW.out (some ad) 0 _ [] rfl rfl Row.nil (by omega) hb0.size ?_; intro An cn wn hon hgn; have hcx : wn.cell? ⟨wr.heap.size, 1, none⟩ = some (.int .i64 ((0 : Nat) : Int)) := box_cell HO.out hgn 1)
              go_roundw
              case rel => exact ⟨k + 1, by omega, by go_num, by rw [K1.out]; rfl, by rw [K1.out]; simpa [stepA] using hon, hb0.grown hgn hb0.size (fun q hq => own_ge HO.out q hq)⟩
              case measure => simp [intOf]; omega
            · have hpc := Lib.hid ((hr'.past hb0).piece at_ m (by omega))
              go_wp2_with (at_builtin; refine wpList_append_ints rfl (.tmp 29) (.tmp 36) rfl w.heap.size (.slice Ao out.length co) out rfl HRW.out (some (ad.add at_)) _ _ ((t.drop at_).take m) rfl (by rw [piece_len (by omega)]; omega) hpc.out (by omega) hb0.size ?_; intro An cn wn hon hgn; have hcx : wn.cell? ⟨wr.heap.size, 1, none⟩ = some (.int .i64 (m : Int)) := box_cell HO.out hgn 1)
              go_roundw
              case rel => exact ⟨k + 1, by omega, by go_num, by rw [K1.out]; rfl, by rw [K1.out]; simpa [stepA, List.length_take, List.length_drop, Nat.min_eq_left (show m ≤ t.length - at_ by omega)] using hon, hb0.grown hgn hb0.size (fun q hq => own_ge HO.out q hq)⟩
              case measure => simp [intOf]; omega
        · have hn3 : pz.length ≤ 200 := by omega
          clear hok hin
          have hb0 := hbel.trans ((alloc_below wr (.cells #[.int .i64 2, .int .i64 pn, .slice A1 pz.length e1] 145)).mono hbel.size)
          have HRW := Lib.hid (HO.out.alloc (.cells #[.int .i64 2, .int .i64 pn, .slice A1 pz.length e1] 145))
          have hpc := Lib.hid (Row.past_alloc (r1.more hbel.size) (.cells #[.int .i64 2, .int .i64 pn, .slice A1 pz.length e1] 145))
          clear r1
          go_wp2_with (at_builtin; refine wpList_append_ints rfl (.tmp 44) (.tmp 46) rfl w.heap.size (.slice Ao out.length co) out rfl HRW.out A1 pz.length _ pz rfl rfl hpc.out (by omega) hb0.size ?_; intro An cn wn hon hgn)
          go_roundw
          case rel => exact ⟨k + 1, by omega, by go_num, by rw [K1.out]; rfl, by rw [K1.out]; simpa [stepA] using hon, hb0.grown hgn hb0.size (fun q hq => own_ge HO.out q hq)⟩
          case measure => simp [intOf]; omega
        · have hn1 : 0 ≤ pn := by omega
          have hn2 : pn ≤ 200 := by omega
          clear hok hin
          obtain ⟨m, rfl⟩ := Int.eq_ofNat_of_zero_le hn1
          go_wp2
          go_roundw
          case rel => exact ⟨k + 1, by omega, by go_num, by rw [K1.out]; rfl, by rw [K1.out]; exact HO.out.alloc _, hbel.trans ((alloc_below wr _).mono hbel.size)⟩
          case measure => simp [intOf]; omega
      · have hke : ps.take k = ps := List.take_of_length_le (by omega)
        rw [hke] at ho ⊢
        generalize (foldA t ps).2 = out at *
        have HO := Lib.hid ho
        clear ho
        go_wp2
        go_ret2
        exact ⟨_, rfl, ⟨_, ow_ints HO.out, by cases Ao <;> simp [Value.ownBlock], fun b hb => by
          have hb' : (Value.slice Ao out.length co).ownBlock = some b := by simpa using hb
          exact ⟨own_ge HO.out b hb', own_in HO.out hb'⟩, Nat.le_refl _, hbel.size⟩, hbel⟩
end Go.Proofs.YtamainhocghlgaaGreatDoor.low


/-
  Applying several operations, and the idle operation: the functions on lists, and the contracts of spec.ApplyAll and spec.Idle.
-/
namespace Go.Proofs.YtamainhocghlgaaGreatDoor.low
open Go.RowKit
set_option linter.unusedVariables false

def stepAll (s : Option (List Int)) (ps : List Pt) : Option (List Int) := match s with
  | none => none
  | some t => if fitsB ps t = true then some (applyT ps t) else none
def foldAll (l : List (List Pt)) (t : List Int) : Option (List Int) := l.foldl stepAll (some t)
def applyAllB (l : List (List Pt)) (t : List Int) : Bool := (foldAll l t).isSome && okText t
def applyAllT (l : List (List Pt)) (t : List Int) : List Int := if applyAllB l t = true then (foldAll l t).getD [] else []
theorem foldAll_snoc {l : List (List Pt)} {t : List Int} {k : Nat} {ps : List Pt} (h : l[k]? = some ps) : foldAll (l.take (k + 1)) t = stepAll (foldAll (l.take k) t) ps := by
  unfold foldAll
  rw [List.take_add_one, h]
  simp
theorem fold_none (l : List (List Pt)) : l.foldl stepAll none = none := by
  induction l with
  | nil => rfl
  | cons p l ih => exact ih
theorem foldAll_none {l : List (List Pt)} {t : List Int} {k : Nat} (h : foldAll (l.take k) t = none) : foldAll l t = none := by
  have e : foldAll l t = (l.drop k).foldl stepAll (foldAll (l.take k) t) := by
    unfold foldAll
    rw [← List.foldl_append, List.take_append_drop]
  rw [e, h, fold_none]
/-- what stands behind k operations is the text itself or short -/
theorem foldAll_len {l : List (List Pt)} {t cur : List Int} {k : Nat} (hk : k ≤ l.length) (h : foldAll (l.take k) t = some cur) : cur.length ≤ max t.length 200 := by
  cases k with
  | zero =>
    have : cur = t := by simpa [foldAll] using h.symm
    rw [this]
    omega
  | succ k =>
    obtain ⟨ps, hp⟩ := idx_some (l := l) (i := k) (by omega)
    rw [foldAll_snoc hp] at h
    cases hq : foldAll (l.take k) t with
    | none => rw [hq] at h; cases h
    | some u =>
      rw [hq] at h
      unfold stepAll at h
      simp only at h
      split at h
      · injection h with h
        rw [← h]
        have := apply_len ps u
        omega
      · cases h
theorem nilOwn (d : Dat) {e : TypeId} {sz lo : Nat} (w : World) (hd : d = .rows e sz []) (h : lo ≤ w.heap.size) : Own lo w.heap.size w d (.slice none 0 0) := by
  subst hd
  exact ⟨[], ⟨[], [], World.ownsRow_nil _ _ _ _, ⟨rfl, rfl⟩, rfl⟩, by simp, fun b hb => by simp at hb, Nat.le_refl _, h⟩
theorem ownInts {lo : Nat} {w : World} {A : Option Addr} {n c : Nat} {zs : List Int} (h : w.ownsRow lo 3 1 (.slice A n c) zs.length (zs.map (Value.int .i64))) (hlo : lo ≤ w.heap.size) : Own lo w.heap.size w (encInts zs) (.slice A n c) :=
  ⟨_, ow_ints h, by cases A <;> simp [Value.ownBlock], fun b hb => by
    have hb' : (Value.slice A n c).ownBlock = some b := by simpa using hb
    exact ⟨own_ge h b hb', own_in h hb'⟩, Nat.le_refl _, hlo⟩

end Go.Proofs.YtamainhocghlgaaGreatDoor.low


/-
  The specification's builder in one word each: keep, put, drop, done.
-/
namespace Go.Proofs.YtamainhocghlgaaGreatDoor.low
open Go.RowKit
set_option linter.unusedVariables false

end Go.Proofs.YtamainhocghlgaaGreatDoor.low


/-
  The inverse of an operation: the function on lists, and the contract of spec.Invert.
-/
namespace Go.Proofs.YtamainhocghlgaaGreatDoor.low
open Go.RowKit
set_option linter.unusedVariables false

end Go.Proofs.YtamainhocghlgaaGreatDoor.low


/-
  spec.Compose: the function on lists, and the contract.
-/
namespace Go.Proofs.YtamainhocghlgaaGreatDoor.low
open Go.RowKit
set_option linter.unusedVariables false

def kindOf : List U → Int
  | [] => 0
  | .k :: _ => 1
  | .p _ :: _ => 2
  | .d :: _ => 3
theorem kind_unitsP {p : Pt} (h : szP_ p) {done : Nat} (hd : done < sizeP p) (r : List U) : kindOf ((unitsP p).drop done ++ r) = p.kind := by
  obtain ⟨pk, pn, pz⟩ := p
  obtain ⟨hk, _⟩ := h
  simp only at hk
  rcases hk with rfl | rfl | rfl
  · have hd' : done < pn.toNat := by simpa [sizeP] using hd
    have e : unitsP ⟨1, pn, pz⟩ = List.replicate pn.toNat .k := by simp [unitsP]
    rw [e, List.drop_replicate, show pn.toNat - done = (pn.toNat - done - 1) + 1 by omega, List.replicate_succ]
    rfl
  · have hd' : done < pz.length := by simpa [sizeP] using hd
    have e : unitsP ⟨2, pn, pz⟩ = pz.map .p := by simp [unitsP]
    obtain ⟨z, hz⟩ := idx_some (l := pz) (i := done) hd'
    rw [e, ← List.map_drop, drop_at hz]
    rfl
  · have hd' : done < pn.toNat := by simpa [sizeP] using hd
    have e : unitsP ⟨3, pn, pz⟩ = List.replicate pn.toNat .d := by simp [unitsP]
    rw [e, List.drop_replicate, show pn.toNat - done = (pn.toNat - done - 1) + 1 by omega, List.replicate_succ]
    rfl
end Go.Proofs.YtamainhocghlgaaGreatDoor.low


/-
  Composition: the loop's invariant on units, how a round goes on, what a chunk of units is.
-/
namespace Go.Proofs.YtamainhocghlgaaGreatDoor.low
open Go.RowKit
set_option linter.unusedVariables false

/-- the loop's invariant -/
structure CInv (a b : List Pt) (RX RY : List U) (L : List Pt) : Prop where
  eq : units L ++ comp RX RY = comp (units a) (units b)
  bal : tgt RX = src RY
  len : L.length + RX.length + RY.length ≤ 2000
theorem CInv.drop {a b : List Pt} {n : Nat} {RX RY : List U} {L : List Pt} (h : CInv a b (List.replicate n .d ++ RX) RY L) (hn : 0 < n) : CInv a b RX RY (L ++ [⟨3, (n : Int), []⟩]) := by
  refine ⟨?_, ?_, ?_⟩
  · rw [← h.eq, comp_ds, units_app]
    simp [units, unitsP]
  · have := h.bal; rwa [tgt_app, (src_rd n).2, Nat.zero_add] at this
  · have := h.len; simp at this ⊢; omega
theorem CInv.put {a b : List Pt} {zs : List Int} {RX RY : List U} {L : List Pt} (h : CInv a b RX (zs.map .p ++ RY) L) (hd : noD RX) (hn : 0 < zs.length) : CInv a b RX RY (L ++ [⟨2, 0, zs⟩]) := by
  refine ⟨?_, ?_, ?_⟩
  · rw [← h.eq, comp_puts zs _ _ hd, units_app]
    simp [units, unitsP]
  · have := h.bal; rwa [src_app, (src_mp zs).1, Nat.zero_add] at this
  · have := h.len; simp at this ⊢; omega
theorem CInv.kk {a b : List Pt} {n : Nat} {RX RY : List U} {L : List Pt} (h : CInv a b (List.replicate n .k ++ RX) (List.replicate n .k ++ RY) L) (hn : 0 < n) : CInv a b RX RY (L ++ [⟨1, (n : Int), []⟩]) := by
  refine ⟨?_, ?_, ?_⟩
  · rw [← h.eq, comp_kk, units_app]
    simp [units, unitsP]
  · have := h.bal; rw [tgt_app, src_app, (src_rk n).1, (src_rk n).2] at this; omega
  · have := h.len; simp at this ⊢; omega
theorem CInv.pk {a b : List Pt} {zs : List Int} {RX RY : List U} {L : List Pt} (h : CInv a b (zs.map .p ++ RX) (List.replicate zs.length .k ++ RY) L) (hn : 0 < zs.length) : CInv a b RX RY (L ++ [⟨2, 0, zs⟩]) := by
  refine ⟨?_, ?_, ?_⟩
  · rw [← h.eq, comp_pk, units_app]
    simp [units, unitsP]
  · have := h.bal; rw [tgt_app, src_app, (src_mp zs).2, (src_rk zs.length).1] at this; omega
  · have := h.len; simp at this ⊢; omega
theorem chunk_k {p : Pt} {d n : Nat} (hk : p.kind = 1) (hd : d + n ≤ sizeP p) : ((unitsP p).drop d).take n = List.replicate n .k := by
  have e : unitsP p = List.replicate p.n.toNat .k := by simp [unitsP, hk]
  have hs : sizeP p = p.n.toNat := by simp [sizeP, hk]
  rw [e, List.drop_replicate, List.take_replicate]
  congr 1
  omega
theorem chunk_d {p : Pt} {d n : Nat} (hk : p.kind = 3) (hd : d + n ≤ sizeP p) : ((unitsP p).drop d).take n = List.replicate n .d := by
  have e : unitsP p = List.replicate p.n.toNat .d := by simp [unitsP, hk]
  have hs : sizeP p = p.n.toNat := by simp [sizeP, hk]
  rw [e, List.drop_replicate, List.take_replicate]
  congr 1
  omega
theorem chunk_p {p : Pt} {d n : Nat} (hk : p.kind = 2) : ((unitsP p).drop d).take n = ((p.signs.drop d).take n).map .p := by
  have e : unitsP p = p.signs.map .p := by simp [unitsP, hk]
  rw [e, ← List.map_drop, ← List.map_take]
theorem okOp_partsB {ps : List Pt} (h : okOp ps = true) : partsB ps = true := by
  unfold okOp at h
  cases hp : partsB ps
  · rw [hp] at h; simp at h
  · rfl
/-- m units of the part at which a cursor stands are left: the first m units of R are of one kind -/
def Lead (R : List U) (m : Nat) : Prop := (R = [] ∧ m = 0) ∨ (0 < m ∧ m ≤ 200 ∧ m ≤ R.length ∧ ((kindOf R = 1 ∧ R.take m = List.replicate m .k) ∨ (kindOf R = 3 ∧ R.take m = List.replicate m .d) ∨ (kindOf R = 2 ∧ ∃ zs : List Int, R.take m = zs.map .p)))
theorem take_rep {R : List U} {u : U} {m n : Nat} (h : R.take m = List.replicate m u) (hn : n ≤ m) : R = List.replicate n u ++ R.drop n := by
  have e : R.take n = List.replicate n u := by
    have := congrArg (List.take n) h
    rwa [List.take_take, Nat.min_eq_left hn, List.take_replicate, Nat.min_eq_left hn] at this
  rw [← e, List.take_append_drop]
theorem Lead.k {R : List U} {m n : Nat} (h : Lead R m) (hk : kindOf R = 1) (hn : n ≤ m) : R = List.replicate n .k ++ R.drop n := by
  rcases h with ⟨rfl, rfl⟩ | ⟨_, _, _, ⟨_, h⟩ | ⟨h, _⟩ | ⟨h, _⟩⟩
  · obtain rfl : n = 0 := by omega
    rfl
  · exact take_rep h hn
  · omega
  · omega
theorem Lead.d {R : List U} {m n : Nat} (h : Lead R m) (hk : kindOf R = 3) (hn : n ≤ m) : R = List.replicate n .d ++ R.drop n := by
  rcases h with ⟨rfl, rfl⟩ | ⟨_, _, _, ⟨h, _⟩ | ⟨_, h⟩ | ⟨h, _⟩⟩
  · obtain rfl : n = 0 := by omega
    rfl
  · omega
  · exact take_rep h hn
  · omega
theorem Lead.p {R : List U} {m n : Nat} (h : Lead R m) (hk : kindOf R = 2) (hn : n ≤ m) : ∃ zs : List Int, zs.length = n ∧ R = zs.map .p ++ R.drop n := by
  rcases h with ⟨rfl, rfl⟩ | ⟨_, _, hl, ⟨h, _⟩ | ⟨h, _⟩ | ⟨_, zs, h⟩⟩
  · obtain rfl : n = 0 := by omega
    exact ⟨[], rfl, rfl⟩
  · omega
  · omega
  · have e : R.take n = (zs.take n).map .p := by
      have := congrArg (List.take n) h
      rwa [List.take_take, Nat.min_eq_left hn, ← List.map_take] at this
    have l := congrArg List.length e
    rw [List.length_take, List.length_map] at l
    exact ⟨zs.take n, by omega, by rw [← e, List.take_append_drop]⟩
theorem Lead.of {ps : List Pt} {at_ d : Nat} {p : Pt} (h : ps[at_]? = some p) (hz : szP_ p) (hd : d < sizeP p) : Lead (rem ps at_ d) (sizeP p - d) := by
  have hs := sizeP_le hz
  have hl : ((unitsP p).drop d).length = sizeP p - d := by rw [List.length_drop, unitsP_len]
  have e := rem_in h (Nat.le_of_lt hd)
  have hk := kind_unitsP hz hd (rem ps (at_ + 1) 0)
  rw [← e] at hk
  have et : (rem ps at_ d).take (sizeP p - d) = (unitsP p).drop d := by
    rw [e, List.take_append_of_le_length (by omega), List.take_of_length_le (by omega)]
  refine .inr ⟨by omega, by omega, by rw [e, List.length_append, hl]; omega, ?_⟩
  rw [hk, et]
  have ec : (unitsP p).drop d = ((unitsP p).drop d).take (sizeP p - d) := (List.take_of_length_le (by omega)).symm
  rcases hz.1 with hk1 | hk1 | hk1
  · exact .inl ⟨hk1, by rw [ec]; exact chunk_k hk1 (by omega)⟩
  · exact .inr (.inr ⟨hk1, _, by rw [ec]; exact chunk_p hk1⟩)
  · exact .inr (.inl ⟨hk1, by rw [ec]; exact chunk_d hk1 (by omega)⟩)
end Go.Proofs.YtamainhocghlgaaGreatDoor.low


/-
  Two cursors of the specification over two operations (Cs), in the words of the units that are left: what each call makes of them.
-/
namespace Go.Proofs.YtamainhocghlgaaGreatDoor.low
open Go.RowKit
set_option linter.unusedVariables false

/-- what stays: where the cursors lie, and the operations -/
structure Fx where
  lo : Nat
  gx : Nat
  gy : Nat
  TC : TypeId
  A : Option Addr
  ca : Nat
  a : List Pt
  B : Option Addr
  cb : Nat
  b : List Pt
def Fx.swap (K : Fx) : Fx := ⟨K.lo, K.gy, K.gx, K.TC, K.B, K.cb, K.b, K.A, K.ca, K.a⟩
/-- the cursor stands at a part of which m units are left, or at the end -/
def Sett (ps : List Pt) (at_ done : Nat) : Option Nat → Prop
  | none => True
  | some m => (at_ = ps.length ∧ m = 0) ∨ ∃ p, ps[at_]? = some p ∧ done < sizeP p ∧ m = sizeP p - done
structure Cs (K : Fx) (w : World) (sx sy : Option Nat) (RX RY : List U) : Prop where
  ex : ∃ i d, Cur K.gx K.TC w K.A K.ca K.a i d ∧ rem K.a i d = RX ∧ Sett K.a i d sx
  ey : ∃ i d, Cur K.gy K.TC w K.B K.cb K.b i d ∧ rem K.b i d = RY ∧ Sett K.b i d sy
  ra : RdC w K.lo (encPs K.a) (.slice K.A K.a.length K.ca)
  rb : RdC w K.lo (encPs K.b) (.slice K.B K.b.length K.cb)
  ne : ¬ K.gx = K.gy
  lx : K.lo ≤ K.gx
  ly : K.lo ≤ K.gy
  sa : ∀ p ∈ K.a, szP_ p
  sb : ∀ p ∈ K.b, szP_ p
  na : K.a.length ≤ 1048576
  nb : K.b.length ≤ 1048576
section
variable {K : Fx} {w w' : World} {sx sy : Option Nat} {RX RY : List U}
theorem Cs.swap (h : Cs K w sx sy RX RY) : Cs K.swap w sy sx RY RX := ⟨h.ey, h.ex, h.rb, h.ra, fun e => h.ne e.symm, h.ly, h.lx, h.sb, h.sa, h.nb, h.na⟩
theorem Cs.back (h : Cs K.swap w sx sy RX RY) : Cs K w sy sx RY RX := ⟨h.ey, h.ex, h.rb, h.ra, fun e => h.ne e.symm, h.ly, h.lx, h.sb, h.sa, h.nb, h.na⟩
theorem Cs.xlt (h : Cs K w sx sy RX RY) : K.gx < w.heap.size := by obtain ⟨_, _, hc, _⟩ := h.ex; exact hc.lt
theorem Cs.ylt (h : Cs K w sx sy RX RY) : K.gy < w.heap.size := by obtain ⟨_, _, hc, _⟩ := h.ey; exact hc.lt
theorem Cs.keep (h : Cs K w sx sy RX RY) (hx : w'.heap[K.gx]? = w.heap[K.gx]?) (hy : w'.heap[K.gy]? = w.heap[K.gy]?) (hb : Below K.lo w w') : Cs K w' sx sy RX RY := by
  obtain ⟨i, d, h1, h2, h3⟩ := h.ex
  obtain ⟨j, e, k1, k2, k3⟩ := h.ey
  exact ⟨⟨i, d, h1.keep hx, h2, h3⟩, ⟨j, e, k1.keep hy, k2, k3⟩, h.ra.below hb, h.rb.below hb, h.ne, h.lx, h.ly, h.sa, h.sb, h.na, h.nb⟩
theorem Cs.past (h : Cs K w sx sy RX RY) (hb : Below w.heap.size w w') : Cs K w' sx sy RX RY :=
  h.keep (hb.block _ h.xlt) (hb.block _ h.ylt) (hb.mono (Nat.le_trans h.lx (Nat.le_of_lt h.xlt)))
end
end Go.Proofs.YtamainhocghlgaaGreatDoor.low


/-
  Two cursors and a builder (CB): what each call of the specification makes of them.
-/
namespace Go.Proofs.YtamainhocghlgaaGreatDoor.low
open Go.RowKit
set_option linter.unusedVariables false

structure CB (K : Fx) (go : Nat) (TB : TypeId) (O : Nat → Prop) (L : List Pt) (w : World) (sx sy : Option Nat) (RX RY : List U) : Prop where
  cs : Cs K w sx sy RX RY
  bd : Bld O K.lo go TB w L
  ox : ¬ O K.gx
  oy : ¬ O K.gy
section
variable {K : Fx} {go : Nat} {TB : TypeId} {O O' : Nat → Prop} {L L' : List Pt} {w w' : World} {sx sy sx' sy' : Option Nat} {RX RY RX' RY' : List U}
theorem CB.past (h : CB K go TB O L w sx sy RX RY) (hb : Below w.heap.size w w') : CB K go TB O L w' sx sy RX RY := ⟨h.cs.past hb, h.bd.past hb, h.ox, h.oy⟩
end
section
variable {K : Fx} {go : Nat} {TB : TypeId} {O : Nat → Prop} {L : List Pt} {w : World} {sx sy : Option Nat} {RX RY : List U}
end
end Go.Proofs.YtamainhocghlgaaGreatDoor.low


/-
  Transformation: the loop's invariant on units, how a round goes on; the results.
-/
namespace Go.Proofs.YtamainhocghlgaaGreatDoor.low
open Go.RowKit
set_option linter.unusedVariables false

structure XInv (a b : List Pt) (RX RY : List U) (L M : List Pt) : Prop where
  eq1 : units L ++ (xf RX RY).1 = (xf (units a) (units b)).1
  eq2 : units M ++ (xf RX RY).2 = (xf (units a) (units b)).2
  bal : src RX = src RY
  len : L.length + M.length + 2 * RX.length + 2 * RY.length ≤ 4000
section
variable {a b : List Pt} {RX RY : List U} {L M : List Pt}
theorem XInv.px {zs : List Int} (h : XInv a b (zs.map .p ++ RX) RY L M) (hn : 0 < zs.length) : XInv a b RX RY (L ++ [⟨2, 0, zs⟩]) (M ++ [⟨1, (zs.length : Int), []⟩]) := by
  refine ⟨?_, ?_, ?_, ?_⟩
  · rw [← h.eq1, xf_puts, units_app]; simp [units, unitsP]
  · rw [← h.eq2, xf_puts, units_app]; simp [units, unitsP]
  · have := h.bal; rw [src_app, (src_mp zs).1] at this; omega
  · have := h.len; simp at this ⊢; omega
theorem XInv.py {zs : List Int} (h : XInv a b RX (zs.map .p ++ RY) L M) (hp : noP RX) (hn : 0 < zs.length) : XInv a b RX RY (L ++ [⟨1, (zs.length : Int), []⟩]) (M ++ [⟨2, 0, zs⟩]) := by
  refine ⟨?_, ?_, ?_, ?_⟩
  · rw [← h.eq1, xf_putsB _ _ _ hp, units_app]; simp [units, unitsP]
  · rw [← h.eq2, xf_putsB _ _ _ hp, units_app]; simp [units, unitsP]
  · have := h.bal; rw [src_app, (src_mp zs).1] at this; omega
  · have := h.len; simp at this ⊢; omega
theorem XInv.kk {n : Nat} (h : XInv a b (List.replicate n .k ++ RX) (List.replicate n .k ++ RY) L M) (hn : 0 < n) : XInv a b RX RY (L ++ [⟨1, (n : Int), []⟩]) (M ++ [⟨1, (n : Int), []⟩]) := by
  refine ⟨?_, ?_, ?_, ?_⟩
  · rw [← h.eq1, xf_kk, units_app]; simp [units, unitsP]
  · rw [← h.eq2, xf_kk, units_app]; simp [units, unitsP]
  · have := h.bal; rw [src_app, src_app, (src_rk n).1] at this; omega
  · have := h.len; simp at this ⊢; omega
end
/-- two cursors and two builders -/
structure TT (K : Fx) (g1 g2 : Nat) (TB : TypeId) (O P : Nat → Prop) (L M : List Pt) (w : World) (sx sy : Option Nat) (RX RY : List U) : Prop where
  cs : Cs K w sx sy RX RY
  b1 : Bld O K.lo g1 TB w L
  b2 : Bld P K.lo g2 TB w M
  ox : ¬ O K.gx
  oy : ¬ O K.gy
  px : ¬ P K.gx
  py : ¬ P K.gy
  dis : ∀ q, O q → ¬ P q
section
variable {K : Fx} {g1 g2 : Nat} {TB : TypeId} {O O' P P' : Nat → Prop} {L L' M M' : List Pt} {w w' : World} {sx sy sx' sy' : Option Nat} {RX RY RX' RY' : List U}
theorem TT.one (h : TT K g1 g2 TB O P L M w sx sy RX RY) : CB K g1 TB O L w sx sy RX RY := ⟨h.cs, h.b1, h.ox, h.oy⟩
theorem TT.past (h : TT K g1 g2 TB O P L M w sx sy RX RY) (hb : Below w.heap.size w w') : TT K g1 g2 TB O P L M w' sx sy RX RY := ⟨h.cs.past hb, h.b1.past hb, h.b2.past hb, h.ox, h.oy, h.px, h.py, h.dis⟩
end
section
variable {K : Fx} {g1 g2 : Nat} {TB : TypeId} {O P : Nat → Prop} {L M : List Pt} {w : World} {sx sy : Option Nat} {RX RY : List U}
end
end Go.Proofs.YtamainhocghlgaaGreatDoor.low


/-
  append(out, x) where out is an owned slice of whatever rows and x is one row of data of the caller's own.
-/
namespace Go.Proofs.YtamainhocghlgaaGreatDoor.low
open Go.RowKit
set_option linter.unusedVariables false

end Go.Proofs.YtamainhocghlgaaGreatDoor.low


/-
  One word for the memory that a function has made so far: a list of items, each a block of its own (a variable's box) or a datum of its own with its blocks, all apart; the caller's memory is as it was.
-/
namespace Go.Proofs.YtamainhocghlgaaGreatDoor.low
open Go.RowKit
set_option linter.unusedVariables false

inductive It where
  | bx (g : Nat) (o : Obj)
  | dt (d : Dat) (v : Value) (b : List Nat)
  | rd (d : Dat) (v : Value) (b : List Nat)
def It.bs : It → List Nat
  | .bx g _ => [g]
  | .dt _ _ b => b
  | .rd _ _ b => b
/-- a box holds its object; a datum is owned; the third kind: a value that reads as a datum out of these blocks alone -/
def It.ok (W : World) : It → Prop
  | .bx g o => W.heap[g]? = some o
  | .dt d v b => OwC W d v b
  | .rd d v b => (∀ q ∈ b, q < W.heap.size) ∧ ∀ W' : World, (∀ q ∈ b, W'.heap[q]? = W.heap[q]?) → ∀ B, (∀ q ∈ b, q < B) → RdC W' B d v
theorem It.keep {W W' : World} {x : It} (h : x.ok W) (hk : ∀ q ∈ x.bs, W'.heap[q]? = W.heap[q]?) : x.ok W' := by
  cases x with
  | bx g o => exact (hk g (by simp [It.bs])).trans h
  | dt d v b => exact OwC.keep d v b h hk
  | rd d v b =>
    refine ⟨fun q hq => ?_, fun W2 h2 => h.2 W2 (fun q hq => (h2 q hq).trans (hk q hq))⟩
    have h1 := h.1 q hq
    rcases Nat.lt_or_ge q W'.heap.size with h3 | h3
    · exact h3
    · have h4 := hk q hq
      rw [Array.getElem?_eq_none h3, Array.getElem?_eq_getElem h1] at h4
      cases h4
theorem It.lt {W : World} {x : It} (h : x.ok W) {q : Nat} (hq : q ∈ x.bs) : q < W.heap.size := by
  cases x with
  | bx g o => obtain rfl : q = g := by simpa [It.bs] using hq
              exact lt_of_some h
  | dt d v b => exact OwC.lt d v b h q hq
  | rd d v b => exact h.1 q hq
/-- the memory made since w0 -/
structure Ms (w0 : World) (L : List It) (W : World) : Prop where
  ok : ∀ x ∈ L, x.ok W
  nd : (L.flatMap It.bs).Nodup
  rg : ∀ q ∈ L.flatMap It.bs, w0.heap.size ≤ q
  bl : Below w0.heap.size w0 W
section
variable {w0 W W' : World} {L L' : List It} {x y : It}
theorem Ms.start (w : World) : Ms w [] w := ⟨fun x hx => (by simp at hx), by simp, fun q hq => (by simp at hq), Below.refl _ _⟩
theorem Ms.size (h : Ms w0 L W) : w0.heap.size ≤ W.heap.size := h.bl.size
theorem Ms.blt (h : Ms w0 L W) : ∀ q ∈ L.flatMap It.bs, q < W.heap.size := fun q hq => by
  obtain ⟨x, hx, hq⟩ := List.mem_flatMap.1 hq
  exact It.lt (h.ok x hx) hq
/-- all items' blocks unchanged -/
theorem Ms.keep (h : Ms w0 L W) (hk : ∀ q ∈ L.flatMap It.bs, W'.heap[q]? = W.heap[q]?) (hb : Below w0.heap.size w0 W') : Ms w0 L W' :=
  ⟨fun x hx => It.keep (h.ok x hx) (fun q hq => hk q (List.mem_flatMap.2 ⟨x, hx, hq⟩)), h.nd, h.rg, hb⟩
theorem Ms.past (h : Ms w0 L W) (hb : Below W.heap.size W W') : Ms w0 L W' := h.keep (fun q hq => hb.block q (h.blt q hq)) (h.bl.trans (hb.mono h.size))
theorem Ms.drew (h : Ms w0 L W) : Ms w0 L W.drew := h.past (Below.refl _ _).drew
theorem Ms.drewN (h : Ms w0 L W) (n : Nat) : Ms w0 L (W.drewN n) := h.past ⟨rfl, rfl, rfl, Nat.le_refl _, fun _ _ => rfl⟩
theorem Ms.arg (h : Ms w0 L W) {d : Dat} {v : Value} (hr : RdC w0 w0.heap.size d v) : RdC W W.heap.size d v := hr.past h.bl
theorem Ms.perm (h : Ms w0 L W) (hp : L.Perm L') : Ms w0 L' W :=
  ⟨fun x hx => h.ok x (hp.mem_iff.2 hx), (hp.flatMap_right It.bs).nodup_iff.1 h.nd, fun q hq => h.rg q ((hp.flatMap_right It.bs).mem_iff.2 hq), h.bl⟩
theorem Ms.tail (h : Ms w0 (x :: L) W) : Ms w0 L W :=
  ⟨fun y hy => h.ok y (by simp [hy]), by have := h.nd; rw [List.flatMap_cons, List.nodup_append] at this; exact this.2.1, fun q hq => h.rg q (by rw [List.flatMap_cons]; exact List.mem_append_right _ hq), h.bl⟩
theorem erase_perm : ∀ {L : List It} {i : Nat} {x : It}, L[i]? = some x → L.Perm (x :: L.eraseIdx i)
  | [], i, x, h => by simp at h
  | y :: L, 0, x, h => by
    simp at h
    subst h
    exact List.Perm.refl _
  | y :: L, i + 1, x, h => by
    have ih := erase_perm (L := L) (i := i) (x := x) (by simpa using h)
    exact (ih.cons y).trans (List.Perm.swap x y _)
/-- the i-th item in front -/
theorem Ms.pull (h : Ms w0 L W) {i : Nat} (hi : L[i]? = some x) (hL : x :: L.eraseIdx i = L') : Ms w0 L' W := by
  subst hL
  exact h.perm (erase_perm hi)
/-- items dropped -/
theorem Ms.drop (h : Ms w0 L W) (n : Nat) : Ms w0 (L.drop n) W := by
  induction n generalizing L with
  | zero => exact h
  | succ n ih =>
    cases L with
    | nil => exact h
    | cons x L => exact ih h.tail
theorem Ms.at_ (h : Ms w0 L W) {i : Nat} (hi : L[i]? = some x) : x.ok W := h.ok x (List.mem_of_getElem? hi)
theorem Ms.bsAt (h : Ms w0 L W) {i : Nat} (hi : L[i]? = some x) : ∀ q ∈ x.bs, w0.heap.size ≤ q ∧ q < W.heap.size := fun q hq =>
  ⟨h.rg q (List.mem_flatMap.2 ⟨x, List.mem_of_getElem? hi, hq⟩), It.lt (h.at_ hi) hq⟩
theorem Ms.ndAt (h : Ms w0 L W) {i : Nat} (hi : L[i]? = some x) : x.bs.Nodup := by
  have h2 := h.pull hi rfl
  have := h2.nd
  rw [List.flatMap_cons, List.nodup_append] at this
  exact this.1
theorem Ms.cell (h : Ms w0 L W) {i g j : Nat} {cs : Array Value} {T : TypeId} {u : Value} (hi : L[i]? = some (.bx g (.cells cs T (0, 0)))) (hu : cs[j]? = some u) : W.cell? ⟨g, j, none⟩ = some u := bxcell (h.at_ hi) hu
theorem Ms.free (h : Ms w0 L W) {i g j : Nat} {cs : Array Value} {T : TypeId} (hi : L[i]? = some (.bx g (.cells cs T (0, 0)))) : W.frozen? ⟨g, j, none⟩ = false := bxfree (h.at_ hi)
theorem Ms.glt (h : Ms w0 L W) {i g : Nat} {o : Obj} (hi : L[i]? = some (.bx g o)) : w0.heap.size ≤ g ∧ g < W.heap.size := h.bsAt hi g (by simp [It.bs])
theorem Ms.read (h : Ms w0 L W) {i : Nat} {d : Dat} {v : Value} {b : List Nat} (hi : L[i]? = some (.dt d v b)) : RdC W W.heap.size d v := OwC.read d v b (h.at_ hi) (fun q hq => (h.bsAt hi q hq).2)
theorem Ms.own (h : Ms w0 L W) {i : Nat} {d : Dat} {v : Value} {b : List Nat} (hi : L[i]? = some (.dt d v b)) : Own w0.heap.size W.heap.size W d v := ⟨b, h.at_ hi, h.ndAt hi, h.bsAt hi, Nat.le_refl _, h.size⟩
/-- an item more, of blocks that are new -/
theorem Ms.cons (h : Ms w0 L W) (hb : Below W.heap.size W W') (hx : x.ok W') (hn : x.bs.Nodup) (hq : ∀ q ∈ x.bs, W.heap.size ≤ q) : Ms w0 (x :: L) W' := by
  have h' := h.past hb
  refine ⟨fun y hy => ?_, ?_, fun q hq' => ?_, h'.bl⟩
  · rcases List.mem_cons.1 hy with rfl | hy
    · exact hx
    · exact h'.ok y hy
  · rw [List.flatMap_cons, List.nodup_append]
    exact ⟨hn, h.nd, fun a ha b hb e => by subst e; have := hq a ha; have := h.blt a hb; omega⟩
  · rw [List.flatMap_cons] at hq'
    rcases List.mem_append.1 hq' with hq' | hq'
    · exact Nat.le_trans h.size (hq q hq')
    · exact h.rg q hq'
theorem Ms.new (h : Ms w0 L W) (cs : Array Value) (T : TypeId) : Ms w0 (.bx W.heap.size (.cells cs T (0, 0)) :: L) (W.alloc (.cells cs T)) :=
  h.cons (alloc_below W _) (heap_alloc_new W _) (by simp [It.bs]) (fun q hq => by simp [It.bs] at hq; omega)
theorem Ms.got (h : Ms w0 L W) {d : Dat} {v : Value} (ho : Own W.heap.size W'.heap.size W' d v) (hb : Below W.heap.size W W') : ∃ b, Ms w0 (.dt d v b :: L) W' := by
  obtain ⟨b, h1, h2, h3, _, _⟩ := ho
  exact ⟨b, h.cons hb h1 h2 (fun q hq => (h3 q hq).1)⟩
theorem Ms.nil (h : Ms w0 L W) (e : TypeId) (sz : Nat) : Ms w0 (.dt (.rows e sz []) (.slice none 0 0) [] :: L) W :=
  h.cons (Below.refl _ _) ⟨[], [], World.ownsRow_nil _ _ _ _, ⟨rfl, rfl⟩, rfl⟩ (by simp [It.bs]) (fun q hq => by simp [It.bs] at hq)
/-- a literal slice without elements: its block is new -/
theorem Ms.empty (h : Ms w0 L W) (e : TypeId) (sz : Nat) : Ms w0 (.dt (.rows e sz []) (.slice (some ⟨W.heap.size, 0, none⟩) 0 0) [W.heap.size] :: L) (W.alloc (.cells #[] e)) :=
  h.cons (alloc_below W _) ⟨[], [], ⟨by simp, .inr ⟨W.heap.size, 0, #[], rfl, Nat.zero_le _, heap_alloc_new W _, Nat.le_refl _, by unfold maxLen; omega, by simp, by simp⟩⟩, ⟨rfl, rfl⟩, rfl⟩ (by simp [It.bs]) (fun q hq => by simp [It.bs] at hq; omega)
/-- the first item's blocks (and new ones) alone have changed: another item in its place -/
theorem Ms.turn (h : Ms w0 (x :: L) W) (hs : W.heap.size ≤ W'.heap.size) (hk : ∀ q, q < W.heap.size → q ∉ x.bs → W'.heap[q]? = W.heap[q]?) (hb : Below w0.heap.size w0 W') (hy : y.ok W') (hn : y.bs.Nodup) (hq : ∀ q ∈ y.bs, q ∈ x.bs ∨ W.heap.size ≤ q) : Ms w0 (y :: L) W' := by
  have hnd := h.nd
  rw [List.flatMap_cons, List.nodup_append] at hnd
  have hlt := h.tail.blt
  refine ⟨fun z hz => ?_, ?_, fun q hq' => ?_, hb⟩
  · rcases List.mem_cons.1 hz with rfl | hz
    · exact hy
    · exact It.keep (h.ok z (by simp [hz])) (fun q hq' => by
        have hm : q ∈ L.flatMap It.bs := List.mem_flatMap.2 ⟨z, hz, hq'⟩
        exact hk q (hlt q hm) (fun e => hnd.2.2 q e q hm rfl))
  · rw [List.flatMap_cons, List.nodup_append]
    refine ⟨hn, hnd.2.1, fun a ha b hb e => ?_⟩
    subst e
    rcases hq a ha with h1 | h1
    · exact hnd.2.2 a h1 a hb rfl
    · have := hlt a hb; omega
  · rw [List.flatMap_cons] at hq'
    rcases List.mem_append.1 hq' with hq' | hq'
    · rcases hq q hq' with h1 | h1
      · exact h.rg q (by rw [List.flatMap_cons]; exact List.mem_append_left _ h1)
      · exact Nat.le_trans h.size h1
    · exact h.tail.rg q hq'
/-- a box's cell written -/
theorem Ms.set {g j : Nat} {cs : Array Value} {T : TypeId} (h : Ms w0 (.bx g (.cells cs T (0, 0)) :: L) W) (u : Value) : Ms w0 (.bx g (.cells (cs.setIfInBounds j u) T (0, 0)) :: L) (W.setCell ⟨g, j, none⟩ u) := by
  have hg := h.glt (i := 0) rfl
  refine h.turn (by simp [World.setCell]) (fun q hq hn => Below.heap_setCell _ _ _ _ (fun e => hn (by simp [It.bs]; exact e))) (h.bl.setCell (p := ⟨g, j, none⟩) hg.1 u) (bxset (h.at_ (i := 0) rfl) u) (by simp [It.bs]) (fun q hq => .inl hq)
/-- a struct put together, from its last field on -/
theorem Ms.pk0 (h : Ms w0 L W) : Ms w0 (.dt (.agg []) (.agg #[]) [] :: L) W := h.cons (Below.refl _ _) ⟨[], rfl, rfl, rfl⟩ (by simp [It.bs]) (fun q hq => by simp [It.bs] at hq)
theorem Ms.pkF {ds : List Dat} {vs : List Value} {b : List Nat} {d : Dat} {u : Value} (h : Ms w0 (.dt (.agg ds) (.agg vs.toArray) b :: L) W) (hf : d.flat = some u) : Ms w0 (.dt (.agg (d :: ds)) (.agg (u :: vs).toArray) b :: L) W := by
  refine h.turn (Nat.le_refl _) (fun _ _ _ => rfl) h.bl ?_ (show b.Nodup from h.ndAt (i := 0) (x := .dt (.agg ds) (.agg vs.toArray) b) rfl) (fun q hq => .inl hq)
  obtain ⟨xs, hx, ho⟩ : OwC W (.agg ds) (.agg vs.toArray) b := h.at_ (i := 0) rfl
  have e : vs = xs := by injection hx with hx; simpa using congrArg Array.toList hx
  subst e
  exact ⟨u :: vs, rfl, u, vs, [], b, rfl, rfl, OwC.of_flat hf, ho⟩
theorem Ms.pkO {ds : List Dat} {vs : List Value} {b c : List Nat} {d : Dat} {v : Value} (h : Ms w0 (.dt (.agg ds) (.agg vs.toArray) b :: .dt d v c :: L) W) : Ms w0 (.dt (.agg (d :: ds)) (.agg (v :: vs).toArray) (c ++ b) :: L) W := by
  have hnd := h.nd
  rw [List.flatMap_cons, List.flatMap_cons, List.nodup_append, List.nodup_append] at hnd
  obtain ⟨xs, hx, ho⟩ : OwC W (.agg ds) (.agg vs.toArray) b := h.at_ (i := 0) rfl
  have e : vs = xs := by injection hx with hx; simpa using congrArg Array.toList hx
  subst e
  have hc : OwC W d v c := h.at_ (i := 1) rfl
  have hrg := h.rg
  rw [List.flatMap_cons, List.flatMap_cons] at hrg
  refine ⟨fun z hz => ?_, ?_, fun q hq => ?_, h.bl⟩
  · rcases List.mem_cons.1 hz with rfl | hz
    · exact ⟨v :: vs, rfl, v, vs, c, b, rfl, rfl, hc, ho⟩
    · exact h.ok z (by simp [hz])
  · rw [List.flatMap_cons, List.nodup_append]
    refine ⟨?_, hnd.2.1.2.1, fun a ha a' ha' e => ?_⟩
    · show (c ++ b).Nodup
      rw [List.nodup_append]
      exact ⟨hnd.2.1.1, hnd.1, fun a ha a' ha' e => hnd.2.2 a' ha' a (List.mem_append_left _ ha) e.symm⟩
    · have ha : a ∈ c ++ b := ha
      rcases List.mem_append.1 ha with ha | ha
      · exact hnd.2.1.2.2 a ha a' ha' e
      · exact hnd.2.2 a ha a' (List.mem_append_right _ ha') e
  · rw [List.flatMap_cons] at hq
    rcases List.mem_append.1 hq with hq | hq
    · have hq : q ∈ c ++ b := hq
      rcases List.mem_append.1 hq with hq | hq
      · exact hrg q (List.mem_append_right _ (List.mem_append_left _ hq))
      · exact hrg q (List.mem_append_left _ hq)
    · exact hrg q (List.mem_append_right _ (List.mem_append_right _ hq))
/-- a struct taken apart: its first field, and the rest -/
theorem Ms.un {ds : List Dat} {v : Value} {vs : List Value} {b : List Nat} {d : Dat} (h : Ms w0 (.dt (.agg (d :: ds)) (.agg (v :: vs).toArray) b :: L) W) : ∃ c c', Ms w0 (.dt d v c :: .dt (.agg ds) (.agg vs.toArray) c' :: L) W := by
  have hnd := h.nd
  have hrg := h.rg
  obtain ⟨xs, hx, x, xs', c, c', e1, e2, h1, h2⟩ : OwC W (.agg (d :: ds)) (.agg (v :: vs).toArray) b := h.at_ (i := 0) rfl
  have e : v :: vs = xs := by injection hx with hx; simpa using congrArg Array.toList hx
  subst e
  injection e1 with e3 e4
  subst e3 e4 e2
  refine ⟨c, c', fun z hz => ?_, ?_, fun q hq => ?_, h.bl⟩
  · rcases List.mem_cons.1 hz with rfl | hz
    · exact h1
    · rcases List.mem_cons.1 hz with rfl | hz
      · exact ⟨vs, rfl, h2⟩
      · exact h.ok z (by simp [hz])
  · rw [List.flatMap_cons, List.flatMap_cons, ← List.append_assoc]
    rw [List.flatMap_cons] at hnd
    exact hnd
  · refine hrg q ?_
    rw [List.flatMap_cons]
    rw [List.flatMap_cons, List.flatMap_cons, ← List.append_assoc] at hq
    exact hq
end
end Go.Proofs.YtamainhocghlgaaGreatDoor.low


/-
  Appending in the words of Ms: rows added to an owned slice, the memory behind them handed over; in a plain region and in one that draws its order.
-/
namespace Go.Proofs.YtamainhocghlgaaGreatDoor.low
open Go.RowKit
set_option linter.unusedVariables false
section
variable {w0 W W' : World} {L Y : List It}
theorem Ms.grow {e : TypeId} {sz : Nat} {ds rs : List (List Dat)} {v : Value} {b c : List Nat} {news : List Value} (h : Ms w0 (.dt (.rows e sz ds) v b :: (Y ++ L)) W) (hr : OwR W sz rs news c) (hcn : c.Nodup) (hc : ∀ q ∈ c, q ∈ Y.flatMap It.bs) :
    ∃ xs, W.ownsRow 0 e sz v ds.length xs ∧ ∀ g n cap W', W'.ownsRow 0 e sz (.slice (some ⟨g, 0, none⟩) n cap) (ds ++ rs).length (xs ++ news) → W.grownBy W' v.ownBlock → (v.ownBlock = some g ∨ g = W.heap.size) → g < W'.heap.size → ∃ b', Ms w0 (.dt (.rows e sz (ds ++ rs)) (.slice (some ⟨g, 0, none⟩) n cap) b' :: L) W' := by
  have hnd := h.nd
  have hrg := h.rg
  have hlt' := h.blt
  rw [List.flatMap_cons, List.flatMap_append] at hnd hrg hlt'
  obtain ⟨xs, cs, ho, hor, hb⟩ : OwC W (.rows e sz ds) v b := h.at_ (i := 0) rfl
  refine ⟨xs, ho, fun g n cap W' hown hg hat hlt => ?_⟩
  have hbs : (It.dt (.rows e sz ds) v b).bs = v.ownBlock.toList ++ cs := hb
  rw [hbs] at hnd hrg hlt'
  obtain ⟨n1, n2, n3⟩ := List.nodup_append.1 hnd
  obtain ⟨m1, m2, m3⟩ := List.nodup_append.1 n1
  obtain ⟨k1, k2, k3⟩ := List.nodup_append.1 n2
  have inL : ∀ q ∈ L.flatMap It.bs, q < W.heap.size ∧ ¬ v.ownBlock = some q ∧ q ∉ cs ∧ q ∉ c := fun q hq => by
    have hm : q ∈ Y.flatMap It.bs ++ L.flatMap It.bs := List.mem_append_right _ hq
    refine ⟨hlt' q (List.mem_append_right _ hm), fun e => n3 q (List.mem_append_left _ (by rw [e]; simp)) q hm rfl, fun e => n3 q (List.mem_append_right _ e) q hm rfl, fun e => k3 q (hc q e) q hq rfl⟩
  have inc : ∀ q ∈ c, q < W.heap.size ∧ ¬ v.ownBlock = some q ∧ q ∉ cs := fun q hq => by
    have hm : q ∈ Y.flatMap It.bs ++ L.flatMap It.bs := List.mem_append_left _ (hc q hq)
    exact ⟨hlt' q (List.mem_append_right _ hm), fun e => n3 q (List.mem_append_left _ (by rw [e]; simp)) q hm rfl, fun e => n3 q (List.mem_append_right _ e) q hm rfl⟩
  have incs : ∀ q ∈ cs, q < W.heap.size ∧ ¬ v.ownBlock = some q := fun q hq => ⟨hlt' q (List.mem_append_left _ (List.mem_append_right _ hq)), fun e => m3 q (by rw [e]; simp) q hq rfl⟩
  have hkeep : ∀ q, q < W.heap.size → ¬ v.ownBlock = some q → W'.heap[q]? = W.heap[q]? := fun q h1 h2 => hg.block q h1 (fun e => h2 e.symm)
  have hor' := (OwR.keep sz _ _ _ hor (fun q hq => hkeep q (incs q hq).1 (incs q hq).2)).append (OwR.keep sz _ _ _ hr (fun q hq => hkeep q (inc q hq).1 (inc q hq).2.1))
  have gnew : ∀ q, q < W.heap.size → ¬ v.ownBlock = some q → ¬ g = q := fun q h1 h2 e => by
    subst e
    rcases hat with e | e
    · exact h2 e
    · omega
  have glo : w0.heap.size ≤ g := by
    rcases hat with e | e
    · exact hrg g (List.mem_append_left _ (List.mem_append_left _ (by rw [e]; simp)))
    · have := h.size; omega
  refine ⟨g :: (cs ++ c), fun z hz => ?_, ?_, fun q hq => ?_, h.bl.grown hg h.size (fun k hk => hrg k (List.mem_append_left _ (List.mem_append_left _ (by rw [hk]; simp))))⟩
  · rcases List.mem_cons.1 hz with rfl | hz
    · exact ⟨xs ++ news, cs ++ c, hown, hor', rfl⟩
    · refine It.keep (h.ok z (by simp [hz])) (fun q hq => ?_)
      have hm : q ∈ L.flatMap It.bs := List.mem_flatMap.2 ⟨z, hz, hq⟩
      exact hkeep q (inL q hm).1 (inL q hm).2.1
  · rw [List.flatMap_cons, List.nodup_append]
    refine ⟨?_, k2, fun a ha a' ha' e => ?_⟩
    · show (g :: (cs ++ c)).Nodup
      refine List.nodup_cons.2 ⟨fun hq => ?_, List.nodup_append.2 ⟨m2, hcn, fun a ha a' ha' e => ?_⟩⟩
      · rcases List.mem_append.1 hq with hq | hq
        · exact gnew g (incs g hq).1 (incs g hq).2 rfl
        · exact gnew g (inc g hq).1 (inc g hq).2.1 rfl
      · subst e
        exact (inc a ha').2.2 ha
    · subst e
      have ha : a ∈ g :: (cs ++ c) := ha
      rcases List.mem_cons.1 ha with rfl | ha
      · exact gnew a (inL a ha').1 (inL a ha').2.1 rfl
      · rcases List.mem_append.1 ha with ha | ha
        · exact (inL a ha').2.2.1 ha
        · exact (inL a ha').2.2.2 ha
  · rw [List.flatMap_cons] at hq
    rcases List.mem_append.1 hq with hq | hq
    · have hq : q ∈ g :: (cs ++ c) := hq
      rcases List.mem_cons.1 hq with rfl | hq
      · exact glo
      · rcases List.mem_append.1 hq with hq | hq
        · exact hrg q (List.mem_append_left _ (List.mem_append_right _ hq))
        · exact hrg q (List.mem_append_right _ (List.mem_append_left _ (hc q hq)))
    · exact hrg q (List.mem_append_right _ (List.mem_append_right _ hq))
end
theorem step_ms_zero {P : Program} {w : World} {ops : Array Oper} {o : Oper} {a : Act} {KN : Act → World → Prop} {Q : Exit → Act → World → Prop} {E : Prop} (hgd : o.guard = none) (s x : Operand) (t : TypeId)
    (ho : o.op = .call { callee := .builtin .append, args := #[s, x], argTypes := #[t, t] })
    (base : Nat) (e : TypeId) (i : TypeInfo) (size : Nat) (ht : P.underlying t = some (.slice e)) (hi : P.info? e = some i)
    (v : Value) (n : Nat) (xs : List Value) (hs : a.eval s = v) (hown : w.ownsRow base e size v n xs) (A : Option Addr) (c : Nat) (hx : a.eval x = .slice A 0 c)
    (h : KN (a.put o.dst v) w) : if Region.wanted o (yielded ops a.tmps) = true then Oper.wp P o a w KN Q else E := by
  have hw : Region.wanted o (yielded ops a.tmps) = true := by simp [Region.wanted, hgd]
  rw [if_pos hw]
  have hrun := run_append_zero (P := P) (w := w) base t o.type e i size ht hi v n xs hown A c
  unfold Oper.wp
  simp [execOp, ho, resolve, invoke, builtin, hs, hx, hrun, Result.andThen]
  exact h
section
variable {w0 W W' : World} {L Y : List It}
theorem agg_inj {xs ys : List Value} (h : Value.agg xs.toArray = Value.agg ys.toArray) : xs = ys := by
  have h2 := congrArg (fun v => match v with | Value.agg a => a.toList | _ => []) h
  simpa using h2
theorem bytes_fit {n b : Nat} (h : n ≤ 2000001) (hb : b ≤ 100000) : n * b ≤ 140737488355328 := by
  have h1 : n * b ≤ n * 100000 := Nat.mul_le_mul_left n hb
  omega
/-- what the type's entry says of the elements -/
def Elt (t e : TypeId) (z : Value) (sz bytes : Nat) : Prop := ∃ i, Tryz.prog.underlying t = some (.slice e) ∧ Tryz.prog.info? e = some i ∧ i.zero = some z ∧ i.size = sz ∧ i.bytes = bytes ∧ z.cells.size = sz ∧ 0 < sz ∧ bytes ≤ 100000
/-- one element more, its memory handed over -/
theorem wpList_ms1 {ops : Array Oper} {rest : List Oper} {o : Oper} {a : Act} {Q : Exit → Act → World → Prop} (hgd : o.guard = none) (s x : Operand) (t : TypeId)
    (ho : o.op = .call { callee := .builtin .append, args := #[s, x], argTypes := #[t, t] }) {e : TypeId} {z : Value} {sz bytes : Nat} (he : Elt t e z sz bytes) {ds : List (List Dat)} {r : List Dat} {v : Value} {ys : List Value} {b c : List Nat}
    (h : Ms w0 (.dt (.rows e sz ds) v b :: .dt (.agg r) (.agg ys.toArray) c :: L) W) (hs : a.eval s = v) (hlen : ds.length ≤ 2000000) (g0 c0 : Nat) (hx : a.eval x = .slice (some ⟨g0, 0, none⟩) 1 c0) (hcell : W.heap[g0]? = some (.cells ys.toArray e (0, 0))) (hl : ys.length = sz) (h1 : ∀ u ∈ ys, u.oneCell' = true)
    (K : ∀ A' c' W' b', Ms w0 (.dt (.rows e sz (ds ++ [r])) (.slice A' (ds.length + 1) c') b' :: L) W' → wpList Tryz.prog ops Q rest (a.put o.dst (.slice A' (ds.length + 1) c')) W') : wpList Tryz.prog ops Q (o :: rest) a W := by
  obtain ⟨i, ht, hi, hz, hsize, hby, hzs, hsz, hbm⟩ := he
  obtain ⟨ys', hy', hor⟩ : OwC W (.agg r) (.agg ys.toArray) c := h.at_ (i := 1) rfl
  obtain rfl : ys = ys' := agg_inj hy'
  obtain ⟨xs, hown, grow⟩ := Ms.grow (Y := [.dt (.agg r) (.agg ys.toArray) c]) h (OwR.one hor hl) (h.ndAt (i := 1) (x := .dt (.agg r) (.agg ys.toArray) c) rfl) (fun q hq => by simpa [It.bs] using hq)
  refine wpList_append_lies _ hgd s x t ho 0 e i z sz bytes ht hi hz hsize hby hzs hsz v ds.length xs hs hown ⟨g0, 0, none⟩ 1 c0 ys hx (by simp [hl]) (fun j u hu => ?_) h1 (by omega) (by unfold maxLen; omega) ?_ (Nat.zero_le _) _ rfl ?_
  · rw [add_at, Nat.zero_add]
    exact bxcell hcell (by simpa using hu)
  · exact bytes_fit (by omega) hbm
  · intro g cap W' hown' hg hat hlt
    obtain ⟨b', hm⟩ := grow g (ds.length + 1) cap W' (by rw [List.length_append]; exact hown') hg hat hlt
    exact K _ cap W' b' hm
theorem step_ms1 {ops : Array Oper} {o : Oper} {a : Act} {KN : Act → World → Prop} {Q : Exit → Act → World → Prop} {E : Prop} (hgd : o.guard = none) (s x : Operand) (t : TypeId)
    (ho : o.op = .call { callee := .builtin .append, args := #[s, x], argTypes := #[t, t] }) {e : TypeId} {z : Value} {sz bytes : Nat} (he : Elt t e z sz bytes) {ds : List (List Dat)} {r : List Dat} {v : Value} {ys : List Value} {b c : List Nat}
    (h : Ms w0 (.dt (.rows e sz ds) v b :: .dt (.agg r) (.agg ys.toArray) c :: L) W) (hs : a.eval s = v) (hlen : ds.length ≤ 2000000) (g0 c0 : Nat) (hx : a.eval x = .slice (some ⟨g0, 0, none⟩) 1 c0) (hcell : W.heap[g0]? = some (.cells ys.toArray e (0, 0))) (hl : ys.length = sz) (h1 : ∀ u ∈ ys, u.oneCell' = true)
    (K : ∀ A' c' W' b', Ms w0 (.dt (.rows e sz (ds ++ [r])) (.slice A' (ds.length + 1) c') b' :: L) W' → KN (a.put o.dst (.slice A' (ds.length + 1) c')) W') : if Region.wanted o (yielded ops a.tmps) = true then Oper.wp Tryz.prog o a W KN Q else E := by
  obtain ⟨i, ht, hi, hz, hsize, hby, hzs, hsz, hbm⟩ := he
  obtain ⟨ys', hy', hor⟩ : OwC W (.agg r) (.agg ys.toArray) c := h.at_ (i := 1) rfl
  obtain rfl : ys = ys' := agg_inj hy'
  obtain ⟨xs, hown, grow⟩ := Ms.grow (Y := [.dt (.agg r) (.agg ys.toArray) c]) h (OwR.one hor hl) (h.ndAt (i := 1) (x := .dt (.agg r) (.agg ys.toArray) c) rfl) (fun q hq => by simpa [It.bs] using hq)
  refine step_append_lies _ hgd s x t ho 0 e i z sz bytes ht hi hz hsize hby hzs hsz v ds.length xs hs hown ⟨g0, 0, none⟩ 1 c0 ys hx (by simp [hl]) (fun j u hu => ?_) h1 (by omega) (by unfold maxLen; omega) ?_ (Nat.zero_le _) _ rfl ?_
  · rw [add_at, Nat.zero_add]
    exact bxcell hcell (by simpa using hu)
  · exact bytes_fit (by omega) hbm
  · intro g cap W' hown' hg hat hlt
    obtain ⟨b', hm⟩ := grow g (ds.length + 1) cap W' (by rw [List.length_append]; exact hown') hg hat hlt
    exact K _ cap W' b' hm
/-- rows without memory behind them: what a slice of such reads as, its cells hold -/
def FlatR (rs : List (List Dat)) (sz : Nat) : Prop := ∀ r ∈ rs, r.length = sz ∧ ∀ d ∈ r, ∃ u : Value, d.flat = some u ∧ u.oneCell' = true
theorem RdC.flatV {w : World} {B : Nat} {d : Dat} {u v : Value} (hf : d.flat = some u) (h : RdC w B d v) : v = u := by
  cases d with
  | int n => injection hf with hf; rw [← hf]; exact h
  | bool n => injection hf with hf; rw [← hf]; exact h
  | str n => injection hf with hf; rw [← hf]; exact h
  | rows e sz ds => cases hf
  | agg ds => cases hf
theorem RdL.flat {w : World} {B : Nat} {ad : Addr} : ∀ {r : List Dat} {o : Nat}, (∀ d ∈ r, ∃ u : Value, d.flat = some u ∧ u.oneCell' = true) → RdL w B ad o r → ∃ ys : List Value, ys.length = r.length ∧ OwL w r ys [] ∧ (∀ u ∈ ys, u.oneCell' = true) ∧ ∀ j u, ys[j]? = some u → w.cell? (ad.add (o + j)) = some u
  | [], o, _, _ => ⟨[], rfl, ⟨rfl, rfl⟩, by simp, fun j u h => by simp at h⟩
  | d :: r, o, hf, h => by
    obtain ⟨⟨v, hv, hd⟩, h2⟩ := h
    obtain ⟨u, hu, h1⟩ := hf d (by simp)
    obtain rfl := RdC.flatV hu hd
    obtain ⟨ys, k1, k2, k3, k4⟩ := RdL.flat (r := r) (o := o + 1) (fun d hd => hf d (by simp [hd])) h2
    refine ⟨v :: ys, by simp [k1], ⟨v, ys, [], [], rfl, rfl, OwC.of_flat hu, k2⟩, fun u hu => ?_, fun j u hj => ?_⟩
    · rcases List.mem_cons.1 hu with rfl | hu
      · exact h1
      · exact k3 u hu
    · cases j with
      | zero => simp at hj; subst hj; exact hv
      | succ j => have := k4 j u (by simpa using hj); rw [show o + (j + 1) = o + 1 + j by omega]; exact this
theorem RdR.flat {w : World} {B sz : Nat} {ad : Addr} : ∀ {rs : List (List Dat)} {o : Nat}, FlatR rs sz → RdR w B sz ad o rs → ∃ ys : List Value, ys.length = rs.length * sz ∧ OwR w sz rs ys [] ∧ (∀ u ∈ ys, u.oneCell' = true) ∧ ∀ j u, ys[j]? = some u → w.cell? (ad.add (o + j)) = some u
  | [], o, _, _ => ⟨[], by simp, ⟨rfl, rfl⟩, by simp, fun j u h => by simp at h⟩
  | r :: rs, o, hf, h => by
    obtain ⟨h1, h2⟩ := h
    have hl := (hf r (by simp)).1
    obtain ⟨y, k1, k2, k3, k4⟩ := RdL.flat (hf r (by simp)).2 h1
    obtain ⟨ys, l1, l2, l3, l4⟩ := RdR.flat (rs := rs) (o := o + sz) (fun q hq => hf q (by simp [hq])) h2
    refine ⟨y ++ ys, by rw [List.length_append, k1, l1, hl, List.length_cons, Nat.add_mul]; omega, ⟨y, ys, [], [], rfl, by rw [k1, hl], rfl, k2, l2⟩, fun u hu => ?_, fun j u hj => ?_⟩
    · rcases List.mem_append.1 hu with hu | hu
      · exact k3 u hu
      · exact l3 u hu
    · by_cases hlt : j < y.length
      · rw [List.getElem?_append_left hlt] at hj
        exact k4 j u hj
      · rw [List.getElem?_append_right (by omega)] at hj
        have := l4 _ u hj
        rw [show o + j = o + sz + (j - y.length) by omega]
        exact this
theorem wpList_msAll {ops : Array Oper} {rest : List Oper} {o : Oper} {a : Act} {Q : Exit → Act → World → Prop} (hgd : o.guard = none) (s x : Operand) (t : TypeId)
    (ho : o.op = .call { callee := .builtin .append, args := #[s, x], argTypes := #[t, t] }) {e : TypeId} {z : Value} {sz bytes : Nat} (he : Elt t e z sz bytes) {ds rs : List (List Dat)} {v : Value} {b : List Nat}
    (h : Ms w0 (.dt (.rows e sz ds) v b :: L) W) (hs : a.eval s = v) (A : Option Addr) (m c0 : Nat) (hx : a.eval x = .slice A m c0) (hrd : RdC W W.heap.size (.rows e sz rs) (.slice A m c0)) (hfl : FlatR rs sz) (hlen : ds.length + rs.length ≤ 2000000)
    (K : ∀ A' c' W' b', Ms w0 (.dt (.rows e sz (ds ++ rs)) (.slice A' (ds.length + m) c') b' :: L) W' → wpList Tryz.prog ops Q rest (a.put o.dst (.slice A' (ds.length + m) c')) W') : wpList Tryz.prog ops Q (o :: rest) a W := by
  obtain ⟨i, ht, hi, hz, hsize, hby, hzs, hsz, hbm⟩ := he
  obtain ⟨A', c', hv, hc, hrd⟩ := hrd
  injection hv with e1 e2 e3
  subst e1 e2 e3
  by_cases h0 : 0 < rs.length
  · obtain ⟨ad, rfl, hbk, hsp, hrr⟩ := hrd h0
    obtain ⟨ys, k1, k2, k3, k4⟩ := RdR.flat hfl hrr
    obtain ⟨xs, hown, grow⟩ := Ms.grow (Y := []) h k2 (by simp) (by simp)
    refine wpList_append_lies _ hgd s x t ho 0 e i z sz bytes ht hi hz hsize hby hzs hsz v ds.length xs hs hown ad rs.length c0 ys hx k1 (fun j u hu => by have := k4 j u hu; simpa using this) k3 h0 (by unfold maxLen; omega) ?_ (Nat.zero_le _) _ rfl ?_
    · exact bytes_fit (by omega) hbm
    · intro g cap W' hown' hg hat hlt
      obtain ⟨b', hm⟩ := grow g (ds.length + rs.length) cap W' (by rw [List.length_append]; exact hown') hg hat hlt
      exact K _ cap W' b' hm
  · obtain rfl : rs = [] := List.eq_nil_of_length_eq_zero (by omega)
    obtain ⟨xs, cs, hown, _⟩ : OwC W (.rows e sz ds) v b := h.at_ (i := 0) rfl
    refine wpList_append_zero hgd s x t ho 0 e i sz ht hi v ds.length xs hs hown A c0 hx ?_
    obtain ⟨Av, cv, rfl⟩ := own_form hown
    exact K Av cv W b (by simpa using h)
theorem step_msAll {ops : Array Oper} {o : Oper} {a : Act} {KN : Act → World → Prop} {Q : Exit → Act → World → Prop} {E : Prop} (hgd : o.guard = none) (s x : Operand) (t : TypeId)
    (ho : o.op = .call { callee := .builtin .append, args := #[s, x], argTypes := #[t, t] }) {e : TypeId} {z : Value} {sz bytes : Nat} (he : Elt t e z sz bytes) {ds rs : List (List Dat)} {v : Value} {b : List Nat}
    (h : Ms w0 (.dt (.rows e sz ds) v b :: L) W) (hs : a.eval s = v) (A : Option Addr) (m c0 : Nat) (hx : a.eval x = .slice A m c0) (hrd : RdC W W.heap.size (.rows e sz rs) (.slice A m c0)) (hfl : FlatR rs sz) (hlen : ds.length + rs.length ≤ 2000000)
    (K : ∀ A' c' W' b', Ms w0 (.dt (.rows e sz (ds ++ rs)) (.slice A' (ds.length + m) c') b' :: L) W' → KN (a.put o.dst (.slice A' (ds.length + m) c')) W') : if Region.wanted o (yielded ops a.tmps) = true then Oper.wp Tryz.prog o a W KN Q else E := by
  obtain ⟨i, ht, hi, hz, hsize, hby, hzs, hsz, hbm⟩ := he
  obtain ⟨A', c', hv, hc, hrd⟩ := hrd
  injection hv with e1 e2 e3
  subst e1 e2 e3
  by_cases h0 : 0 < rs.length
  · obtain ⟨ad, rfl, hbk, hsp, hrr⟩ := hrd h0
    obtain ⟨ys, k1, k2, k3, k4⟩ := RdR.flat hfl hrr
    obtain ⟨xs, hown, grow⟩ := Ms.grow (Y := []) h k2 (by simp) (by simp)
    refine step_append_lies _ hgd s x t ho 0 e i z sz bytes ht hi hz hsize hby hzs hsz v ds.length xs hs hown ad rs.length c0 ys hx k1 (fun j u hu => by have := k4 j u hu; simpa using this) k3 h0 (by unfold maxLen; omega) ?_ (Nat.zero_le _) _ rfl ?_
    · exact bytes_fit (by omega) hbm
    · intro g cap W' hown' hg hat hlt
      obtain ⟨b', hm⟩ := grow g (ds.length + rs.length) cap W' (by rw [List.length_append]; exact hown') hg hat hlt
      exact K _ cap W' b' hm
  · obtain rfl : rs = [] := List.eq_nil_of_length_eq_zero (by omega)
    obtain ⟨xs, cs, hown, _⟩ : OwC W (.rows e sz ds) v b := h.at_ (i := 0) rfl
    refine step_ms_zero hgd s x t ho 0 e i sz ht hi v ds.length xs hs hown A c0 hx ?_
    obtain ⟨Av, cv, rfl⟩ := own_form hown
    exact K Av cv W b (by simpa using h)
end
end Go.Proofs.YtamainhocghlgaaGreatDoor.low


/-
  More of Ms: a box written whole, some of the items alone, what new memory is called.
-/
namespace Go.Proofs.YtamainhocghlgaaGreatDoor.low
open Go.RowKit
set_option linter.unusedVariables false
section
variable {w0 W W' : World} {L L' : List It} {x y : It}
theorem putRow_cells {g : Nat} {T : TypeId} : ∀ {ys : List Value} {cs : Array Value} {o : Nat} {W : World}, o + ys.length = cs.size → W.heap[g]? = some (.cells cs T (0, 0)) → (putRow W g o ys).heap[g]? = some (.cells (cs.toList.take o ++ ys).toArray T (0, 0))
  | [], cs, o, W, hl, h => by
    rw [putRow, h]
    have e : cs.toList.take o = cs.toList := List.take_of_length_le (by simp at hl; simp; omega)
    simp [e]
  | y :: ys, cs, o, W, hl, h => by
    rw [putRow]
    simp only [List.length_cons] at hl
    have h1 := putRow_cells (ys := ys) (cs := cs.setIfInBounds o y) (o := o + 1) (by rw [Array.size_setIfInBounds]; omega) (bxset h y)
    rw [h1]
    have e : (cs.setIfInBounds o y).toList.take (o + 1) = cs.toList.take o ++ [y] := by
      rw [Array.toList_setIfInBounds, List.take_add_one, List.take_set_of_le (Nat.le_refl o)]
      congr 1
      rw [List.getElem?_set_self (by simp; omega)]
      rfl
    rw [e, List.append_assoc]
    rfl
/-- a box written whole -/
theorem Ms.putRow {g : Nat} {cs : Array Value} {T : TypeId} {ys : List Value} (h : Ms w0 (.bx g (.cells cs T (0, 0)) :: L) W) (hl : ys.length = cs.size) : Ms w0 (.bx g (.cells ys.toArray T (0, 0)) :: L) (low.putRow W g 0 ys) := by
  have hg := h.glt (i := 0) rfl
  have hk := putRow_cells (ys := ys) (o := 0) (by omega) (h.at_ (i := 0) (x := .bx g (.cells cs T (0, 0))) rfl)
  refine h.turn (Nat.le_of_eq (putRow_size g ys W 0).symm) (fun q hq hn => putRow_block g ys W 0 q (fun e => hn (by simp [It.bs]; exact e))) (putRow_below hg.1 ys W 0 h.bl) ?_ (by simp [It.bs]) (fun q hq => .inl hq)
  show (low.putRow W g 0 ys).heap[g]? = _
  simpa using hk
/-- two boxes are two blocks -/
theorem Ms.ne (h : Ms w0 L W) {i j g g' : Nat} {o o' : Obj} (hi : L[i]? = some (.bx g o)) (hj : L[j]? = some (.bx g' o')) (hij : i < j) : ¬ g = g' ∧ ¬ g' = g := by
  have key : ∀ (L : List It) (i j : Nat), i < j → (L.flatMap It.bs).Nodup → L[i]? = some (.bx g o) → L[j]? = some (.bx g' o') → ¬ g = g' := by
    intro L
    induction L with
    | nil => intro i j _ _ hi; simp at hi
    | cons x L ih =>
      intro i j hij hnd hi hj
      rw [List.flatMap_cons, List.nodup_append] at hnd
      cases j with
      | zero => omega
      | succ j =>
        simp only [List.getElem?_cons_succ] at hj
        cases i with
        | zero =>
          simp only [List.getElem?_cons_zero, Option.some.injEq] at hi
          subst hi
          intro e
          subst e
          exact hnd.2.2 g (by simp [It.bs]) g (List.mem_flatMap.2 ⟨_, List.mem_of_getElem? hj, by simp [It.bs]⟩) rfl
        | succ i =>
          simp only [List.getElem?_cons_succ] at hi
          exact ih i j (by omega) hnd.2.1 hi hj
  have := key L i j hij h.nd hi hj
  exact ⟨this, fun e => this e.symm⟩
/-- the items at these places, in this order (each place at most once) -/
theorem Ms.pick (h : Ms w0 L W) : ∀ {ks : List Nat} {L' : List It}, ks.Nodup → ks.map (fun k => L[k]?) = L'.map some → Ms w0 L' W := fun {ks L'} hn hm => by
  have hmem : ∀ x ∈ L', x ∈ L := fun x hx => by
    have : some x ∈ ks.map (fun k => L[k]?) := by rw [hm]; exact List.mem_map_of_mem hx
    obtain ⟨k, _, hk⟩ := List.mem_map.1 this
    exact List.mem_of_getElem? hk
  refine ⟨fun x hx => h.ok x (hmem x hx), ?_, fun q hq => ?_, h.bl⟩
  · have key : ∀ (L : List It) (ks : List Nat) (L' : List It), (L.flatMap It.bs).Nodup → ks.Nodup → ks.map (fun k => L[k]?) = L'.map some → (L'.flatMap It.bs).Nodup := by
      intro L ks
      induction ks with
      | nil => intro L' _ _ hm; cases L' with | nil => simp | cons _ _ => simp at hm
      | cons k ks ih =>
        intro L' hnd hn hm
        cases L' with
        | nil => simp at hm
        | cons x L' =>
          simp only [List.map_cons, List.cons.injEq] at hm
          obtain ⟨hk, hm⟩ := hm
          have hn' := List.nodup_cons.1 hn
          have ih' := ih L' hnd hn'.2 hm
          rw [List.flatMap_cons, List.nodup_append]
          have hp := erase_perm hk
          have hnd2 := (hp.flatMap_right It.bs).nodup_iff.1 hnd
          rw [List.flatMap_cons, List.nodup_append] at hnd2
          refine ⟨hnd2.1, ih', fun a ha b hb e => ?_⟩
          subst e
          obtain ⟨y, hy, hay⟩ := List.mem_flatMap.1 hb
          have : some y ∈ ks.map (fun k => L[k]?) := by rw [hm]; exact List.mem_map_of_mem hy
          obtain ⟨k2, hk2, hky⟩ := List.mem_map.1 this
          have hne : k2 ≠ k := fun e => hn'.1 (e ▸ hk2)
          have hmem2 : y ∈ L.eraseIdx k := by
            rw [List.mem_eraseIdx_iff_getElem?]
            exact ⟨k2, hne, hky⟩
          exact hnd2.2.2 a ha a (List.mem_flatMap.2 ⟨y, hmem2, hay⟩) rfl
    exact key L ks L' h.nd hn hm
  · obtain ⟨x, hx, hq⟩ := List.mem_flatMap.1 hq
    exact h.rg q (List.mem_flatMap.2 ⟨x, hmem x hx, hq⟩)
/-- the value owned comes with what else is known: an 'OwnPost' out of the first item -/
theorem Ms.post {d : Dat} {v : Value} {b : List Nat} (h : Ms w0 (.dt d v b :: L) W) : OwnPost d w0 (.returned v) W := ⟨v, rfl, h.own (i := 0) rfl, h.bl⟩
theorem sliceV {w : World} {B sz : Nat} {e : TypeId} {ds : List (List Dat)} {v : Value} (h : RdC w B (.rows e sz ds) v) : ∃ A n c, v = .slice A n c := by
  obtain ⟨A, c, hv, _⟩ := h
  exact ⟨A, _, c, hv⟩
end
end Go.Proofs.YtamainhocghlgaaGreatDoor.low


/-
  More posts in the words of Ms: a datum beside numbers; values that are only read, out of new memory.
-/
namespace Go.Proofs.YtamainhocghlgaaGreatDoor.low
open Go.RowKit
set_option linter.unusedVariables false
/-- a datum of one's own, and a number -/
def ResN (d : Dat) (n : Int) (w : World) (e : Ending) (w' : World) : Prop := ∃ v, e = .returned (.tuple #[v, .int .i64 n]) ∧ Own w.heap.size w'.heap.size w' d v ∧ Below w.heap.size w w'
/-- a value that reads as a datum out of the blocks b alone, all of them in [lo, hi) -/
structure RdB (lo hi : Nat) (w : World) (d : Dat) (v : Value) (b : List Nat) : Prop where
  rd : ∀ W' : World, (∀ q ∈ b, W'.heap[q]? = w.heap[q]?) → ∀ B, (∀ q ∈ b, q < B) → RdC W' B d v
  rng : ∀ q ∈ b, lo ≤ q ∧ q < hi
  top : hi ≤ w.heap.size
  le : lo ≤ hi
def RdOwn (lo hi : Nat) (w : World) (d : Dat) (v : Value) : Prop := ∃ b, RdB lo hi w d v b
theorem RdOwn.blocks {lo hi : Nat} {w : World} {d : Dat} {v : Value} (h : RdOwn lo hi w d v) : ∃ b, RdB lo hi w d v b := h
theorem RdB.read {lo hi : Nat} {w : World} {d : Dat} {v : Value} {b : List Nat} (h : RdB lo hi w d v b) : RdC w w.heap.size d v := h.rd w (fun _ _ => rfl) _ (fun q hq => Nat.lt_of_lt_of_le (h.rng q hq).2 h.top)
theorem RdOwn.read {lo hi : Nat} {w : World} {d : Dat} {v : Value} (h : RdOwn lo hi w d v) : RdC w w.heap.size d v := by obtain ⟨b, h⟩ := h; exact h.read
theorem RdB.keep {lo hi : Nat} {w w' : World} {d : Dat} {v : Value} {b : List Nat} (h : RdB lo hi w d v b) (hk : ∀ q ∈ b, w'.heap[q]? = w.heap[q]?) (hs : w.heap.size ≤ w'.heap.size) : RdB lo hi w' d v b :=
  ⟨fun W2 h2 => h.rd W2 (fun q hq => (h2 q hq).trans (hk q hq)), h.rng, Nat.le_trans h.top hs, h.le⟩
theorem RdB.past {lo hi : Nat} {w w' : World} {d : Dat} {v : Value} {b : List Nat} (h : RdB lo hi w d v b) (hb : Below w.heap.size w w') : RdB lo hi w' d v b := h.keep (fun q hq => hb.block q (Nat.lt_of_lt_of_le (h.rng q hq).2 h.top)) hb.size
theorem RdB.touch {lo hi : Nat} {w w' : World} {d : Dat} {v : Value} {b : List Nat} {T : Nat → Prop} (h : RdB lo hi w d v b) (ht : Touch T w w') (hn : ∀ x ∈ b, ¬ T x) : RdB lo hi w' d v b := h.keep (fun q hq => ht.block q (hn q hq)) (Nat.le_of_eq ht.size.symm)
theorem RdB.apart {lo hi lo' hi' : Nat} {w w' : World} {d d' : Dat} {v v' : Value} {b b' : List Nat} {w0 : World} (h : RdB lo hi w d v b) (h' : OwB lo' hi' w0 d' v' b') (ht : Touch (fun x => x ∈ b') w w') (hd : hi ≤ lo' ∨ hi' ≤ lo) : RdB lo hi w' d v b :=
  h.touch ht (fun x hx hx' => by have h1 := h.rng x hx; have h2 := h'.rng x hx'; omega)
section
variable {w0 W W' : World} {L L' : List It} {x y : It}
theorem Ms.resN {d : Dat} {v : Value} {b : List Nat} (n : Int) (h : Ms w0 (.dt d v b :: L) W) : ResN d n w0 (.returned (.tuple #[v, .int .i64 n])) W := ⟨v, rfl, h.own (i := 0) rfl, h.bl⟩
end
end Go.Proofs.YtamainhocghlgaaGreatDoor.low


/-
  Short words for a walk through a region that draws its order: an operation taken first, one that is passed over, one that alone may come up.
-/
namespace Go.Proofs.YtamainhocghlgaaGreatDoor.low
open Go.RowKit
set_option linter.unusedVariables false
section
variable {P : Program} {ops : Array Oper} {Q : Exit → Act → World → Prop} {md : Region.Mode} {S : World → Prop} {fuel : Nat} {listed : Array Bool} {a : Act} {w : World}
theorem tk {v : Value} (i s : Nat) {o : Op} {t : TypeId} {p : String} {af : Array Edge} {gd : Option (Nat × Bool)} (hi : ops[i]? = some ⟨some s, o, t, p, af, gd⟩) (hy : ∀ w, S w → (execOp a.eval ⟨some s, o, t, p, af, gd⟩).run P w = .ok (.value v) w) (hS : S w)
    (h : wpAnyH P md ops Q S fuel (listed.setIfInBounds i true) (a.put (some s) v) w) (hs : Region.noSelect ops = true := by kernel_rfl) (hf : Region.free md ops listed i = true := by kernel_rfl) (hr : (Region.ready md ops listed).contains i = true := by kernel_rfl)
    (hq : ∀ c a w, Q (.panic c) (a.put (some s) v) w → Q (.panic c) a w := by exact fun _ _ _ h => h) (hw : Region.wanted ⟨some s, o, t, p, af, gd⟩ (yielded ops a.tmps) = true := by rfl) : wpAnyH P md ops Q S (fuel + 1) listed a w :=
  wpAnyH_take hi hs hf hr hq (.inl ⟨hw, hy⟩) hS h
theorem tu (i s : Nat) {o : Op} {t : TypeId} {p : String} {af : Array Edge} {gd : Option (Nat × Bool)} (hi : ops[i]? = some ⟨some s, o, t, p, af, gd⟩) (hS : S w)
    (h : wpAnyH P md ops Q S fuel (listed.setIfInBounds i true) (a.put (some s) undef) w) (hs : Region.noSelect ops = true := by kernel_rfl) (hf : Region.free md ops listed i = true := by kernel_rfl) (hr : (Region.ready md ops listed).contains i = true := by kernel_rfl)
    (hq : ∀ c a w, Q (.panic c) (a.put (some s) undef) w → Q (.panic c) a w := by exact fun _ _ _ h => h) (hw : Region.wanted ⟨some s, o, t, p, af, gd⟩ (yielded ops a.tmps) = false := by rfl) : wpAnyH P md ops Q S (fuel + 1) listed a w :=
  wpAnyH_take hi hs hf hr hq (.inr ⟨hw, rfl⟩) hS h
theorem r1 (i : Nat) (d : Option Nat) {o : Op} {t : TypeId} {p : String} {af : Array Edge} {gd : Option (Nat × Bool)} (hi : ops[i]? = some ⟨d, o, t, p, af, gd⟩)
    (h : ∀ K' : Act → World → Prop, Shut (∀ a w, S w → (S w → wpAnyH P md ops Q S fuel (listed.setIfInBounds i true) a w) → K' a w) → if Region.wanted ⟨d, o, t, p, af, gd⟩ (yielded ops a.tmps) = true then Oper.wp P ⟨d, o, t, p, af, gd⟩ a w K' Q else K' (a.put d undef) w)
    (hr : Region.ready md ops listed = [i] := by kernel_rfl) : wpAnyH P md ops Q S (fuel + 1) listed a w := wpAnyH_ready hr (by simp) (AllReadyH.cons hi h AllReadyH.nil)
theorem pa {α : Type} {l : List α} {i : Nat} {x : α} : l.toArray.setIfInBounds i x = (l.set i x).toArray := List.setIfInBounds_toArray ..
theorem pb {α : Type} {l : List α} {x y : α} : (y :: l).set 0 x = x :: l := rfl
theorem gs {α : Type} {l : List α} {x : α} {i : Nat} : (x :: l)[i + 1]? = l[i]? := rfl
theorem pc {α : Type} {l : List α} {x y : α} {i : Nat} : (y :: l).set (i + 1) x = y :: l.set i x := rfl
end
section
variable {w0 W : World} {L : List It}
def pk (L : List It) : List Nat → List It
  | [] => []
  | k :: ks => match L[k]? with | some x => x :: pk L ks | none => pk L ks
theorem pk_ok {L : List It} : ∀ {ks : List Nat}, (∀ k ∈ ks, k < L.length) → ks.map (fun k => L[k]?) = (pk L ks).map some
  | [], _ => rfl
  | k :: ks, h => by
    have hk := h k (by simp)
    rw [pk, List.getElem?_eq_getElem hk]
    simp only [List.map_cons, List.getElem?_eq_getElem hk]
    rw [pk_ok (fun q hq => h q (by simp [hq]))]
theorem Ms.pk (h : Ms w0 L W) (ks : List Nat) (hn : ks.Nodup) (hl : ∀ k ∈ ks, k < L.length) : Ms w0 (low.pk L ks) W := h.pick hn (pk_ok hl)
theorem Ms.c1 {g : Nat} {T : TypeId} {a : Value} (h : Ms w0 L W) (i : Nat) (hi : L[i]? = some (.bx g (.cells #[a] T (0, 0)))) : W.cell? ⟨g, 0, none⟩ = some a := h.cell (j := 0) hi rfl
theorem Ms.f1 {g : Nat} {T : TypeId} {a : Value} (h : Ms w0 L W) (i : Nat) (hi : L[i]? = some (.bx g (.cells #[a] T (0, 0)))) : W.frozen? ⟨g, 0, none⟩ = false := h.free (j := 0) hi
theorem Ms.c2 {g : Nat} {T : TypeId} {a b : Value} (h : Ms w0 L W) (i : Nat) (hi : L[i]? = some (.bx g (.cells #[a, b] T (0, 0)))) : W.cell? ⟨g, 0, none⟩ = some a ∧ W.cell? ⟨g, 1, none⟩ = some b := ⟨h.cell (j := 0) hi rfl, h.cell (j := 1) hi rfl⟩
theorem Ms.f2 {g : Nat} {T : TypeId} {a b : Value} (h : Ms w0 L W) (i : Nat) (hi : L[i]? = some (.bx g (.cells #[a, b] T (0, 0)))) : W.frozen? ⟨g, 0, none⟩ = false ∧ W.frozen? ⟨g, 1, none⟩ = false := ⟨h.free (j := 0) hi, h.free (j := 1) hi⟩
theorem Ms.c3 {g : Nat} {T : TypeId} {a b c : Value} (h : Ms w0 L W) (i : Nat) (hi : L[i]? = some (.bx g (.cells #[a, b, c] T (0, 0)))) : W.cell? ⟨g, 0, none⟩ = some a ∧ W.cell? ⟨g, 1, none⟩ = some b ∧ W.cell? ⟨g, 2, none⟩ = some c := ⟨h.cell (j := 0) hi rfl, h.cell (j := 1) hi rfl, h.cell (j := 2) hi rfl⟩
theorem Ms.f3 {g : Nat} {T : TypeId} {a b c : Value} (h : Ms w0 L W) (i : Nat) (hi : L[i]? = some (.bx g (.cells #[a, b, c] T (0, 0)))) : W.frozen? ⟨g, 0, none⟩ = false ∧ W.frozen? ⟨g, 1, none⟩ = false ∧ W.frozen? ⟨g, 2, none⟩ = false := ⟨h.free (j := 0) hi, h.free (j := 1) hi, h.free (j := 2) hi⟩
theorem Ms.c4 {g : Nat} {T : TypeId} {a b c d : Value} (h : Ms w0 L W) (i : Nat) (hi : L[i]? = some (.bx g (.cells #[a, b, c, d] T (0, 0)))) : W.cell? ⟨g, 0, none⟩ = some a ∧ W.cell? ⟨g, 1, none⟩ = some b ∧ W.cell? ⟨g, 2, none⟩ = some c ∧ W.cell? ⟨g, 3, none⟩ = some d := ⟨h.cell (j := 0) hi rfl, h.cell (j := 1) hi rfl, h.cell (j := 2) hi rfl, h.cell (j := 3) hi rfl⟩
theorem Ms.f4 {g : Nat} {T : TypeId} {a b c d : Value} (h : Ms w0 L W) (i : Nat) (hi : L[i]? = some (.bx g (.cells #[a, b, c, d] T (0, 0)))) : W.frozen? ⟨g, 0, none⟩ = false ∧ W.frozen? ⟨g, 1, none⟩ = false ∧ W.frozen? ⟨g, 2, none⟩ = false ∧ W.frozen? ⟨g, 3, none⟩ = false := ⟨h.free (j := 0) hi, h.free (j := 1) hi, h.free (j := 2) hi, h.free (j := 3) hi⟩
theorem Ms.c5 {g : Nat} {T : TypeId} {a b c d e : Value} (h : Ms w0 L W) (i : Nat) (hi : L[i]? = some (.bx g (.cells #[a, b, c, d, e] T (0, 0)))) : W.cell? ⟨g, 0, none⟩ = some a ∧ W.cell? ⟨g, 1, none⟩ = some b ∧ W.cell? ⟨g, 2, none⟩ = some c ∧ W.cell? ⟨g, 3, none⟩ = some d ∧ W.cell? ⟨g, 4, none⟩ = some e := ⟨h.cell (j := 0) hi rfl, h.cell (j := 1) hi rfl, h.cell (j := 2) hi rfl, h.cell (j := 3) hi rfl, h.cell (j := 4) hi rfl⟩
theorem Ms.f5 {g : Nat} {T : TypeId} {a b c d e : Value} (h : Ms w0 L W) (i : Nat) (hi : L[i]? = some (.bx g (.cells #[a, b, c, d, e] T (0, 0)))) : W.frozen? ⟨g, 0, none⟩ = false ∧ W.frozen? ⟨g, 1, none⟩ = false ∧ W.frozen? ⟨g, 2, none⟩ = false ∧ W.frozen? ⟨g, 3, none⟩ = false ∧ W.frozen? ⟨g, 4, none⟩ = false := ⟨h.free (j := 0) hi, h.free (j := 1) hi, h.free (j := 2) hi, h.free (j := 3) hi, h.free (j := 4) hi⟩
theorem Ms.c6 {g : Nat} {T : TypeId} {a b c d e f : Value} (h : Ms w0 L W) (i : Nat) (hi : L[i]? = some (.bx g (.cells #[a, b, c, d, e, f] T (0, 0)))) : W.cell? ⟨g, 0, none⟩ = some a ∧ W.cell? ⟨g, 1, none⟩ = some b ∧ W.cell? ⟨g, 2, none⟩ = some c ∧ W.cell? ⟨g, 3, none⟩ = some d ∧ W.cell? ⟨g, 4, none⟩ = some e ∧ W.cell? ⟨g, 5, none⟩ = some f := ⟨h.cell (j := 0) hi rfl, h.cell (j := 1) hi rfl, h.cell (j := 2) hi rfl, h.cell (j := 3) hi rfl, h.cell (j := 4) hi rfl, h.cell (j := 5) hi rfl⟩
theorem Ms.f6 {g : Nat} {T : TypeId} {a b c d e f : Value} (h : Ms w0 L W) (i : Nat) (hi : L[i]? = some (.bx g (.cells #[a, b, c, d, e, f] T (0, 0)))) : W.frozen? ⟨g, 0, none⟩ = false ∧ W.frozen? ⟨g, 1, none⟩ = false ∧ W.frozen? ⟨g, 2, none⟩ = false ∧ W.frozen? ⟨g, 3, none⟩ = false ∧ W.frozen? ⟨g, 4, none⟩ = false ∧ W.frozen? ⟨g, 5, none⟩ = false := ⟨h.free (j := 0) hi, h.free (j := 1) hi, h.free (j := 2) hi, h.free (j := 3) hi, h.free (j := 4) hi, h.free (j := 5) hi⟩
theorem Ms.apart (h : Ms w0 L W) {i j : Nat} {x y : It} (hi : L[i]? = some x) (hj : L[j]? = some y) (hij : ¬ i = j) {q : Nat} (hq : q ∈ x.bs) (hq' : q ∈ y.bs) : False := by
  have key : ∀ (L : List It) (i j : Nat) (x y : It), i < j → (L.flatMap It.bs).Nodup → L[i]? = some x → L[j]? = some y → q ∈ x.bs → q ∈ y.bs → False := by
    intro L
    induction L with
    | nil => intro i j x y _ _ hi; simp at hi
    | cons z L ih =>
      intro i j x y hij hnd hi hj hq hq'
      rw [List.flatMap_cons, List.nodup_append] at hnd
      cases j with
      | zero => omega
      | succ j =>
        simp only [List.getElem?_cons_succ] at hj
        cases i with
        | zero =>
          simp only [List.getElem?_cons_zero, Option.some.injEq] at hi
          subst hi
          exact hnd.2.2 q hq q (List.mem_flatMap.2 ⟨_, List.mem_of_getElem? hj, hq'⟩) rfl
        | succ i =>
          simp only [List.getElem?_cons_succ] at hi
          exact ih i j x y (by omega) hnd.2.1 hi hj hq hq'
  rcases Nat.lt_or_gt_of_ne hij with hlt | hlt
  · exact key L i j x y hlt h.nd hi hj hq hq'
  · exact key L j i y x hlt h.nd hj hi hq' hq
/-- the world at hand gets a name -/
theorem Ms.name (h : Ms w0 L W) : ∃ W', W' = W ∧ Ms w0 L W' := ⟨W, rfl, h⟩
end
end Go.Proofs.YtamainhocghlgaaGreatDoor.low


/-
  A ring in memory taken apart and put together, in the words of Ms.
-/
namespace Go.Proofs.YtamainhocghlgaaGreatDoor.low
open Go.RowKit
set_option linter.unusedVariables false

section
variable {w0 W W' : World} {L L' : List It} {x y : It}
theorem Ms.joinH (h : Ms w0 L W) (h' : Ms W L' W') : Ms w0 (L' ++ L) W' := by
  refine ⟨fun q hq => ?_, ?_, fun q hq => ?_, h.bl.trans (h'.bl.mono h.size)⟩
  · rcases List.mem_append.1 hq with hq | hq
    · exact h'.ok q hq
    · exact It.keep (h.ok q hq) (fun b hb => h'.bl.block b (h.blt b (List.mem_flatMap.2 ⟨q, hq, hb⟩)))
  · rw [List.flatMap_append, List.nodup_append]
    refine ⟨h'.nd, h.nd, fun a ha b hb e => ?_⟩
    subst e
    have h1 := h'.rg a ha
    have h2 := h.blt a hb
    omega
  · rw [List.flatMap_append] at hq
    rcases List.mem_append.1 hq with hq | hq
    · exact Nat.le_trans h.size (h'.rg q hq)
    · exact h.rg q hq
end
theorem Ms.unRi9 {w0 W : World} {L : List It} {x : Ri} {v : Value} {b : List Nat} (h : Ms w0 (.dt (datRi x) (.agg #[.int .i64 x.cap, .int .i64 x.next, .bool x.out, v]) b :: L) W) : ∃ c, Ms w0 (.dt (encEns x.list) v c :: L) W := by
  obtain ⟨d1, d2, h1⟩ := (show Ms w0 (.dt (.agg (encRi x)) (.agg ([.int .i64 x.cap, .int .i64 x.next, .bool x.out, v] : List Value).toArray) b :: L) W from h).un
  obtain ⟨d3, d4, h2⟩ := h1.tail.un
  obtain ⟨d5, d6, h3⟩ := h2.tail.un
  obtain ⟨d7, d8, h4⟩ := h3.tail.un
  exact ⟨d7, (h4.perm (.swap _ _ _)).tail⟩
end Go.Proofs.YtamainhocghlgaaGreatDoor.low


/-
  The struct type Sub of the laws: its words, and the laws' own functions on it and on slices of it. Written by mkty.py.
-/
namespace Go.Proofs.YtamainhocghlgaaGreatDoor.low
open Go.RowKit
set_option linter.unusedVariables false

structure Su where
  id : Int
  doc : ByteArray
  cap : Int
  next : Int
  out : Bool
  list : List En
def encSu (x : Su) : List Dat := [.int x.id, .str x.doc, .int x.cap, .int x.next, .bool x.out, encEns x.list]
def datSu (x : Su) : Dat := .agg (encSu x)
def encSus (l : List Su) : Dat := .rows 80 6 (l.map encSu)
def totSu (x : Su) : Nat := x.doc.size + totEns x.list
def LimSu (x : Su) : Prop := x.doc.size ≤ maxLen ∧ LimEns x.list
def SmSu (x : Su) : Prop := totSu x ≤ 1048576
def totSus (l : List Su) : Nat := l.length + sumN totSu l
def LimSus (l : List Su) : Prop := l.length ≤ maxLen ∧ ∀ x ∈ l, LimSu x
def SmSus (l : List Su) : Prop := totSus l ≤ 1048576
theorem smSus_of {l : List Su} (h : totSus l ≤ 1048576) : SmSus l := h
theorem SmSus.len {l : List Su} (h : SmSus l) : l.length ≤ 1048576 := by unfold SmSus totSus at h; omega
theorem SmSus.at_ {l : List Su} (h : SmSus l) {x : Su} (hx : x ∈ l) : SmSu x := by
  unfold SmSus totSus at h
  have := sumN_at (f := totSu) hx
  unfold SmSu
  omega
theorem SmSu.list {x : Su} (h : SmSu x) : SmEns x.list := smEns_of (by unfold SmSu totSu at h; omega)
theorem aggSu {w : World} {B : Nat} {x : Su} {v : Value} (h : RdC w B (datSu x) v) : ∃ (A5 : Option Addr) (c5 : Nat), v = .agg #[.int .i64 x.id, .string x.doc, .int .i64 x.cap, .int .i64 x.next, .bool x.out, .slice A5 x.list.length c5] ∧ RdC w B (encEns x.list) (.slice A5 x.list.length c5) := by
  obtain ⟨vs, rfl, v0, _, rfl, rfl, v1, _, rfl, rfl, v2, _, rfl, rfl, v3, _, rfl, rfl, v4, _, rfl, rfl, v5, _, rfl, r5, rfl⟩ := h
  obtain ⟨A5, c5, rfl⟩ := sliceEns r5
  exact ⟨A5, c5, rfl, r5⟩
theorem rdSu {w : World} {B : Nat} (x : Su) {v5 : Value} (r5 : RdC w B (encEns x.list) v5) : RdC w B (datSu x) (.agg #[.int .i64 x.id, .string x.doc, .int .i64 x.cap, .int .i64 x.next, .bool x.out, v5]) := ⟨_, rfl, _, _, rfl, rfl, _, _, rfl, rfl, _, _, rfl, rfl, _, _, rfl, rfl, _, _, rfl, rfl, _, _, rfl, r5, rfl⟩
theorem sliceSus {w : World} {B : Nat} {l : List Su} {v : Value} (h : RdC w B (encSus l) v) : ∃ A c, v = .slice A l.length c := by
  obtain ⟨A, c, hv, _⟩ := RdC.len h
  exact ⟨A, c, by simpa using hv⟩
theorem atSus {w : World} {B : Nat} {A : Option Addr} {m c i : Nat} {l : List Su} (h : RdC w B (encSus l) (.slice A m c)) (hi : i < l.length) : ∃ (b off : Nat) (x : Su) (A5 : Option Addr) (c5 : Nat), A = some ⟨b, off, none⟩ ∧ b < B ∧ l[i]? = some x ∧ w.cell? ⟨b, off + i * 6, none⟩ = some (.int .i64 x.id) ∧ w.cell? ⟨b, off + i * 6 + 1, none⟩ = some (.string x.doc) ∧ w.cell? ⟨b, off + i * 6 + 2, none⟩ = some (.int .i64 x.cap) ∧ w.cell? ⟨b, off + i * 6 + 3, none⟩ = some (.int .i64 x.next) ∧ w.cell? ⟨b, off + i * 6 + 4, none⟩ = some (.bool x.out) ∧ w.cell? ⟨b, off + i * 6 + 5, none⟩ = some (.slice A5 x.list.length c5) ∧ RdC w B (encEns x.list) (.slice A5 x.list.length c5) := by
  obtain ⟨ad, r, hA, hb, hs, hr, hl⟩ := RdC.at_ (ds := l.map encSu) h (by simpa using hi)
  rw [List.getElem?_map, List.getElem?_eq_getElem hi] at hr
  obtain rfl : encSu l[i] = r := by simpa using hr
  obtain ⟨b, off, spot⟩ := ad
  obtain rfl : spot = none := by
    rcases hs with hs | hs
    · cases hs
    · exact hs
  obtain ⟨⟨v0, x0, rfl⟩, ⟨v1, x1, rfl⟩, ⟨v2, x2, rfl⟩, ⟨v3, x3, rfl⟩, ⟨v4, x4, rfl⟩, ⟨v5, x5, r5⟩, _⟩ := hl
  obtain ⟨A5, c5, rfl⟩ := sliceEns r5
  rw [add_at] at x0 x1 x2 x3 x4 x5
  exact ⟨b, off, l[i], A5, c5, hA, hb, List.getElem?_eq_getElem hi, by simpa [Nat.add_assoc] using x0, by simpa [Nat.add_assoc] using x1, by simpa [Nat.add_assoc] using x2, by simpa [Nat.add_assoc] using x3, by simpa [Nat.add_assoc] using x4, by simpa [Nat.add_assoc] using x5, r5⟩
theorem cntSu_l (x : Su) : cntL (encSu x) = 1 + 1 + 1 + 1 + 1 + cntC (encEns x.list) := by
  show cntL [.int x.id, .str x.doc, .int x.cap, .int x.next, .bool x.out, encEns x.list] = _
  simp only [cntL, cntC]
  try omega
theorem cntSu_row (x : Su) : cntL (encSu x) ≤ 5 * (1 + totSu x) := by
  rw [cntSu_l]
  unfold totSu
  have h5 := cntEns_le x.list
  omega
theorem cntSus_le : ∀ l : List Su, cntC (encSus l) ≤ 5 * totSus l
  | [] => by simp [encSus, cntC, cntR]
  | x :: l => by
    have ih := cntSus_le l
    have h1 := cntSu_row x
    have e1 : cntC (encSus (x :: l)) = cntL (encSu x) + cntC (encSus l) := rfl
    rw [e1]
    unfold totSus at ih ⊢
    rw [sumN_cons, List.length_cons]
    omega
def ringSu (x : Su) : Ri := ⟨x.cap, x.next, x.out, x.list⟩
theorem aggRSu {w : World} {B : Nat} {x : Su} {v : Value} (h : RdC w B (datRi (ringSu x)) v) : ∃ (A : Option Addr) (c : Nat), v = .agg #[.int .i64 x.cap, .int .i64 x.next, .bool x.out, .slice A x.list.length c] := by
  obtain ⟨A, c, rfl, -⟩ := aggRi h
  exact ⟨A, c, rfl⟩
theorem szRSu (v : Value) (x : Su) (left : Int) (w : World) (h : RdC w w.heap.size (datRi (ringSu x)) v) (h0 : 0 ≤ left) (h1 : left ≤ 1048576) (hl : LimEns x.list) : Calls Tryz.prog 57 #[v, .int .i64 left] w (Sized (totEns x.list) left w) := szRi v (ringSu x) left w h h0 h1 hl

set_option maxRecDepth 100000 in
set_option maxHeartbeats 1600000 in
theorem szSu (v : Value) (x : Su) (left : Int) (w : World) (h : RdC w w.heap.size (datSu x) v) (h0 : 0 ≤ left) (h1 : left ≤ 1048576) (hl : LimSu x) : Calls Tryz.prog 29 #[v, .int .i64 left] w (Sized (totSu x) left w) := by
  obtain ⟨A5, c5, rfl, r5⟩ := aggSu h
  have b0 := alloc_below w (.cells #[.int .i64 x.id, .string x.doc, .int .i64 x.cap, .int .i64 x.next, .bool x.out, .slice A5 x.list.length c5] 70)
  have hlt : w.heap.size < (w.alloc (.cells #[.int .i64 x.id, .string x.doc, .int .i64 x.cap, .int .i64 x.next, .bool x.out, .slice A5 x.list.length c5] 70)).heap.size := by rw [World.size_alloc]; omega
  have D0 : Below (w.alloc (.cells #[.int .i64 x.id, .string x.doc, .int .i64 x.cap, .int .i64 x.next, .bool x.out, .slice A5 x.list.length c5] 70)).heap.size (w.alloc (.cells #[.int .i64 x.id, .string x.doc, .int .i64 x.cap, .int .i64 x.next, .bool x.out, .slice A5 x.list.length c5] 70)) (w.alloc (.cells #[.int .i64 x.id, .string x.doc, .int .i64 x.cap, .int .i64 x.next, .bool x.out, .slice A5 x.list.length c5] 70)) := Below.refl _ _
  unfold LimSu at hl
  have HT := Lib.hid (show totSu x = x.doc.size + totEns x.list from rfl)
  unfold maxLen at hl
  by_cases hn1 : (x.doc.size : Int) ≤ left
  case neg =>
    have hn1' : left - (x.doc.size : Int) < 0 := by omega
    go_enter Tryz.func29, Tryz.ntmps29
    go_wp2
    go_ret
    exact ⟨_, rfl, .inl rfl, b0⟩
  go_enter Tryz.func29, Tryz.ntmps29
  go_wp2_with fail
  refine (szRSu _ x (left - (x.doc.size : Int)) _ (((rdRi (ringSu x) r5).past b0).past D0) (by omega) (by omega) hl.2).mono ?_
  rintro e w2 ⟨e2, rfl, hr2, k2⟩
  have D2 := D0.trans (k2.mono D0.size)
  rcases hr2 with rfl | ⟨p2, q2⟩
  · go_wp2
    go_ret
    exact ⟨_, rfl, .inl rfl, b0.trans (D2.mono b0.size)⟩
  have t2 : e2 ≤ 1048576 := by omega
  have Q2 := Lib.hid q2
  clear q2 k2
  go_wp2
  go_ret
  refine ⟨_, rfl, .inr ⟨by omega, ?_⟩, b0.trans (D2.mono b0.size)⟩
  rw [HT.out]
  have := Q2.out
  omega

set_option maxRecDepth 100000 in
set_option maxHeartbeats 1600000 in
theorem toSu (v : Value) (x : Su) (w : World) (h : RdC w w.heap.size (datSu x) v) (hs : SmSu x) : Calls Tryz.prog 38 #[v] w (OwnPost (datSu x) w) := by
  obtain ⟨A5, c5, rfl, r5⟩ := aggSu h
  have R5 := Lib.hid r5
  clear r5
  clear h
  have HM := Lib.hid (Ms.start w)
  replace HM := Lib.hid (HM.out.new #[.int .i64 x.id, .string x.doc, .int .i64 x.cap, .int .i64 x.next, .bool x.out, .slice A5 x.list.length c5] 70)
  have hm := HM.out.new #[.int .i64 0, .string ⟨#[]⟩, .int .i64 0, .int .i64 0, .bool false, .slice none 0 0] 80
  simp only [World.size_alloc] at hm
  replace HM := Lib.hid hm
  clear hm
  have hm := HM.out.new #[.int .i64 x.id, .string x.doc, .int .i64 0, .int .i64 0, .bool false, .slice none 0 0] 80
  simp only [World.size_alloc] at hm
  replace HM := Lib.hid hm
  clear hm
  go_enter Tryz.func38, Tryz.ntmps38
  go_wp2_with fail
  obtain ⟨W1, hW, hm⟩ := HM.out.name
  rw [← hW]
  replace HM := Lib.hid hm
  clear hm hW
  refine (toRi _ (ringSu x) _ (HM.out.arg (rdRi (ringSu x) R5.out)) (show SmRi (ringSu x) from hs.list)).mono ?_
  rintro e' W2 ⟨v', rfl, o', b'⟩
  obtain ⟨B, d, rfl⟩ := aggRSu o'.read
  obtain ⟨bl, hm⟩ := HM.out.got o' b'
  clear o' b'
  replace HM := Lib.hid hm
  clear hm
  have ko0 := HM.out.cell (i := 1) (j := 0) rfl rfl
  have ko1 := HM.out.cell (i := 1) (j := 1) rfl rfl
  have ko2 := HM.out.cell (i := 1) (j := 2) rfl rfl
  have ko3 := HM.out.cell (i := 1) (j := 3) rfl rfl
  have ko4 := HM.out.cell (i := 1) (j := 4) rfl rfl
  have ko5 := HM.out.cell (i := 1) (j := 5) rfl rfl
  have fo : ∀ j, _ := fun j => HM.out.free (i := 1) (j := j) rfl
  have fo0 := fo 0
  have fo1 := fo 1
  have fo2 := fo 2
  have fo3 := fo 3
  have fo4 := fo 4
  have fo5 := fo 5
  clear fo
  have hm := HM.out.pk [1, 0, 2, 3] (by decide) (by simp)
  simp only [low.pk, List.getElem?_cons_zero, List.getElem?_cons_succ] at hm
  replace HM := Lib.hid hm
  clear hm
  obtain ⟨nro, nor⟩ := HM.out.ne (i := 0) (j := 2) rfl rfl (by omega)
  have ko0 := HM.out.cell (i := 0) (j := 0) rfl rfl
  have ko1 := HM.out.cell (i := 0) (j := 1) rfl rfl
  have ko2 := HM.out.cell (i := 0) (j := 2) rfl rfl
  have ko3 := HM.out.cell (i := 0) (j := 3) rfl rfl
  have ko4 := HM.out.cell (i := 0) (j := 4) rfl rfl
  have ko5 := HM.out.cell (i := 0) (j := 5) rfl rfl
  have fo : ∀ j, _ := fun j => HM.out.free (i := 0) (j := j) rfl
  have fo0 := fo 0
  have fo1 := fo 1
  have fo2 := fo 2
  have fo3 := fo 3
  have fo4 := fo 4
  have fo5 := fo 5
  clear fo
  have kr0 := HM.out.cell (i := 2) (j := 0) rfl rfl
  have kr1 := HM.out.cell (i := 2) (j := 1) rfl rfl
  have kr2 := HM.out.cell (i := 2) (j := 2) rfl rfl
  have kr3 := HM.out.cell (i := 2) (j := 3) rfl rfl
  have kr4 := HM.out.cell (i := 2) (j := 4) rfl rfl
  have kr5 := HM.out.cell (i := 2) (j := 5) rfl rfl
  have fr : ∀ j, _ := fun j => HM.out.free (i := 2) (j := j) rfl
  have fr0 := fr 0
  have fr1 := fr 1
  have fr2 := fr 2
  have fr3 := fr 3
  have fr4 := fr 4
  have fr5 := fr 5
  clear fr
  go_wp2
  clear ko0 ko1 ko2 ko3 ko4 ko5 fo0 fo1 fo2 fo3 fo4 fo5 kr0 kr1 kr2 kr3 kr4 kr5 fr0 fr1 fr2 fr3 fr4 fr5
  have hm := HM.out.set (j := 2) (.int .i64 x.cap)
  simp only [pa, pb, pc] at hm
  replace HM := Lib.hid hm
  clear hm
  have hm := HM.out.set (j := 3) (.int .i64 x.next)
  simp only [pa, pb, pc] at hm
  replace HM := Lib.hid hm
  clear hm
  have hm := HM.out.set (j := 4) (.bool x.out)
  simp only [pa, pb, pc] at hm
  replace HM := Lib.hid hm
  clear hm
  have hm := HM.out.set (j := 5) (.slice B x.list.length d)
  simp only [pa, pb, pc] at hm
  replace HM := Lib.hid hm
  clear hm
  have hm := HM.out.pk [2, 0, 1, 3] (by decide) (by simp)
  simp only [low.pk, List.getElem?_cons_zero, List.getElem?_cons_succ] at hm
  replace HM := Lib.hid hm
  clear hm
  have hm := HM.out.putRow (ys := [.int .i64 x.id, .string x.doc, .int .i64 x.cap, .int .i64 x.next, .bool x.out, .slice B x.list.length d]) rfl
  simp only [low.putRow, Nat.zero_add, Nat.reduceAdd] at hm
  replace HM := Lib.hid hm
  clear hm
  obtain ⟨W3, hW, hm⟩ := HM.out.name
  rw [← hW]
  replace HM := Lib.hid hm
  clear hm hW
  have kr0 := HM.out.cell (i := 0) (j := 0) rfl rfl
  have kr1 := HM.out.cell (i := 0) (j := 1) rfl rfl
  have kr2 := HM.out.cell (i := 0) (j := 2) rfl rfl
  have kr3 := HM.out.cell (i := 0) (j := 3) rfl rfl
  have kr4 := HM.out.cell (i := 0) (j := 4) rfl rfl
  have kr5 := HM.out.cell (i := 0) (j := 5) rfl rfl
  have hm := HM.out.pk [2, 0, 1, 3] (by decide) (by simp)
  simp only [low.pk, List.getElem?_cons_zero, List.getElem?_cons_succ] at hm
  replace HM := Lib.hid hm
  clear hm
  obtain ⟨bl2, hm⟩ := Ms.unRi9 (x := ringSu x) HM.out
  replace HM := Lib.hid hm
  exact bodyPost_ret (v := .agg #[.int .i64 x.id, .string x.doc, .int .i64 x.cap, .int .i64 x.next, .bool x.out, .slice B x.list.length d]) (by simp [results, Tryz.results38, go_sem, kr0, kr1, kr2, kr3, kr4, kr5]) rfl (show Ms w (.dt (datSu x) (.agg #[.int .i64 x.id, .string x.doc, .int .i64 x.cap, .int .i64 x.next, .bool x.out, .slice B x.list.length d]) _ :: _) _ from (((((HM.out.pk0.pkO.pkF rfl).pkF rfl).pkF rfl).pkF rfl).pkF rfl)).post

set_option maxRecDepth 100000 in
set_option maxHeartbeats 1600000 in
theorem eqSu (v v' : Value) (x : Su) (w : World) (h : RdC w w.heap.size (datSu x) v) (h' : RdC w w.heap.size (datSu x) v') (hs : SmSu x) : Calls Tryz.prog 46 #[v, v'] w (Tells true w) := by
  obtain ⟨A5, c5, rfl, r5⟩ := aggSu h
  obtain ⟨B5, d5, rfl, s5⟩ := aggSu h'
  obtain ⟨g1, g2, b0⟩ := two_boxes w #[.int .i64 x.id, .string x.doc, .int .i64 x.cap, .int .i64 x.next, .bool x.out, .slice A5 x.list.length c5] #[.int .i64 x.id, .string x.doc, .int .i64 x.cap, .int .i64 x.next, .bool x.out, .slice B5 x.list.length d5] 80
  have D0 : Below ((w.alloc (.cells #[.int .i64 x.id, .string x.doc, .int .i64 x.cap, .int .i64 x.next, .bool x.out, .slice A5 x.list.length c5] 80)).alloc (.cells #[.int .i64 x.id, .string x.doc, .int .i64 x.cap, .int .i64 x.next, .bool x.out, .slice B5 x.list.length d5] 80)).heap.size ((w.alloc (.cells #[.int .i64 x.id, .string x.doc, .int .i64 x.cap, .int .i64 x.next, .bool x.out, .slice A5 x.list.length c5] 80)).alloc (.cells #[.int .i64 x.id, .string x.doc, .int .i64 x.cap, .int .i64 x.next, .bool x.out, .slice B5 x.list.length d5] 80)) ((w.alloc (.cells #[.int .i64 x.id, .string x.doc, .int .i64 x.cap, .int .i64 x.next, .bool x.out, .slice A5 x.list.length c5] 80)).alloc (.cells #[.int .i64 x.id, .string x.doc, .int .i64 x.cap, .int .i64 x.next, .bool x.out, .slice B5 x.list.length d5] 80)) := Below.refl _ _
  have lt2 := lt_of_some g2
  have lt1 := lt_of_some g1
  have n0 : (x.id != x.id) = false := by simp
  have n1 : (x.doc.toList == x.doc.toList) = true := by simp
  have n2 : (x.cap != x.cap) = false := by simp
  have n3 : (x.next != x.next) = false := by simp
  have n4 : (x.out != x.out) = false := by simp
  go_enter Tryz.func46, Tryz.ntmps46
  go_wp2_with fail
  refine (eqRi _ _ (ringSu x) _ (((rdRi (ringSu x) r5).past b0).past D0) (((rdRi (ringSu x) s5).past b0).past D0) (show SmRi (ringSu x) from hs.list)).mono ?_
  rintro e w1 ⟨rfl, k1⟩
  have D1 := D0.trans (k1.mono D0.size)
  clear k1
  go_wp2
  go_ret
  exact ⟨rfl, b0.trans (D1.mono b0.size)⟩

set_option maxRecDepth 100000 in
set_option maxHeartbeats 1600000 in
theorem szSus (v : Value) (l : List Su) (left : Int) (w : World) (h : RdC w w.heap.size (encSus l) v) (h0 : 0 ≤ left) (h1 : left ≤ 1048576) (hl : LimSus l) : Calls Tryz.prog 12 #[v, .int .i64 left] w (Sized (totSus l) left w) := by
  obtain ⟨A, c, rfl⟩ := sliceSus h
  have hl1 : l.length ≤ 9223372036854775807 := by have := hl.1; unfold maxLen at this; omega
  have HT := Lib.hid (show totSus l = l.length + sumN totSu l from rfl)
  by_cases hle : (l.length : Int) ≤ left
  · go_enter Tryz.func12, Tryz.ntmps12
    go_wp2
    go_loopw [1, 5] (fun x i wr => ∃ j : Nat, j ≤ l.length ∧ i = .int .i64 j ∧ x = .int .i64 (left - (l.length : Int) - (sumN totSu (l.take j) : Int)) ∧ 0 ≤ left - (l.length : Int) - (sumN totSu (l.take j) : Int) ∧ Below w.heap.size w wr) (fun _ i _ => l.length - (intOf i).toNat)
    case atStart => exact ⟨0, Nat.zero_le _, rfl, by simp [sumN], by simp [sumN]; omega, Below.refl _ _⟩
    case round =>
      obtain ⟨j, hj, rfl, rfl, hs, hbel⟩ := hrel
      by_cases hlt : j < l.length
      · obtain ⟨b, off, x, A5, c5, rfl, hb, hp, y0, y1, y2, y3, y4, y5, r5⟩ := atSus (h.below hbel) hlt
        have HS := Lib.hid (sumN_snoc (f := totSu) hp)
        have hlp := hl.2 x (List.mem_of_getElem? hp)
        have hb1 : left - (l.length : Int) - (sumN totSu (l.take j) : Int) ≤ 1048576 := by omega
        clear hp
        generalize hq : left - (l.length : Int) - (sumN totSu (l.take j) : Int) = q at *
        have HQ := Lib.hid hq
        clear hq
        go_wp2_with fail
        refine (szSu _ x q _ (rdSu x (RdC.more hbel.size _ _ r5)) hs hb1 hlp).mono ?_
        rintro e w1 ⟨r, rfl, hr', b1⟩
        rcases hr' with rfl | ⟨hr0, hr1⟩
        · go_wp2
          go_ret
          exact ⟨_, rfl, .inl rfl, hbel.trans (b1.mono hbel.size)⟩
        · have HR := Lib.hid hr1
          clear hr1
          go_wp2
          go_roundw
          case rel =>
            have e1 : r = left - (l.length : Int) - (sumN totSu (l.take (j + 1)) : Int) := by rw [HR.out, HS.out, ← HQ.out]; omega
            exact ⟨j + 1, by omega, by go_num, by rw [e1], by rw [← e1]; exact hr0, hbel.trans (b1.mono hbel.size)⟩
          case measure => simp [intOf]; omega
      · have hke : l.take j = l := List.take_of_length_le (by omega)
        rw [hke] at hs ⊢
        go_wp2
        go_ret
        exact ⟨_, rfl, .inr ⟨hs, by rw [HT.out]; omega⟩, hbel⟩
  · have h' : left - (l.length : Int) < 0 := by omega
    go_enter Tryz.func12, Tryz.ntmps12
    go_wp2
    go_ret
    exact ⟨_, rfl, .inl rfl, Below.refl _ _⟩
theorem infoSu : (Tryz.prog.info? 80).map (fun i => (i.zero, i.size, i.bytes)) = some (some (.agg #[.int .i64 0, .string ⟨#[]⟩, .int .i64 0, .int .i64 0, .bool false, .slice none 0 0]), 6, 72) := by kernel_rfl

set_option maxRecDepth 100000 in
set_option maxHeartbeats 1600000 in
theorem toSus (v : Value) (l : List Su) (w : World) (h : RdC w w.heap.size (encSus l) v) (hs : SmSus l) : Calls Tryz.prog 16 #[v] w (OwnPost (encSus l) w) := by
  obtain ⟨A, c, rfl⟩ := sliceSus h
  have hll := hs.len
  obtain ⟨i0, hi0, hz0, hz1, hz2⟩ := info_parts infoSu
  go_enter Tryz.func16, Tryz.ntmps16
  go_wp2_with (at_make; refine wpList_make_full _ rfl _ _ 28 rfl w.heap.size 80 i0 (.agg #[.int .i64 0, .string ⟨#[]⟩, .int .i64 0, .int .i64 0, .bool false, .slice none 0 0]) 6 Tryz.underlying28 hi0 hz0 hz1 _ _ _ _ l.length rfl rfl (by omega) (by omega) (by rw [hz2]; omega) (by unfold maxLen; omega) (Nat.le_refl _) ?_; intro w1 hown hg)
  have hbel : Below w.heap.size w w1 := (Below.refl _ _).grown hg (Nat.le_refl _) (fun _ h => by cases h)
  have HF0 := Lib.hid (Fil.start hown)
  clear hown hg
  go_loopw [4] (fun i wr => ∃ j : Nat, j ≤ l.length ∧ i = .int .i64 j ∧ Fil w.heap.size 80 6 l.length ((l.take j).map encSu) wr ∧ Below w.heap.size w wr) (fun i _ => l.length - (intOf i).toNat)
  case atStart => exact ⟨0, Nat.zero_le _, rfl, by simpa using HF0.out, hbel⟩
  case round =>
    obtain ⟨j, hj, rfl, hf, hb⟩ := hrel
    clear HF0 hbel
    have HF := Lib.hid hf
    clear hf
    by_cases hlt : j < l.length
    · obtain ⟨b, off, x, A5, c5, rfl, hbb, hp, y0, y1, y2, y3, y4, y5, r5⟩ := atSus (h.below hb) hlt
      have hsx := hs.at_ (List.mem_of_getElem? hp)
      have HP := Lib.hid hp
      clear hp
      go_wp2_with fail
      refine (toSu _ x wr (rdSu x (RdC.more hb.size _ _ r5)) hsx).mono ?_
      rintro e w2 ⟨v2, rfl, o2, b2⟩
      obtain ⟨B5, d5, rfl, _⟩ := aggSu o2.read
      have OL := Lib.hid (o2.aggV (vs := [.int .i64 x.id, .string x.doc, .int .i64 x.cap, .int .i64 x.next, .bool x.out, .slice B5 x.list.length d5]))
      have F2 := HF.out.past b2
      obtain ⟨u0, hu0⟩ := F2.cell (o := j * 6) (by omega)
      have f0 := F2.free (j * 6)
      obtain ⟨u1, hu1⟩ := F2.cell (o := j * 6 + 1) (by omega)
      have f1 := F2.free (j * 6 + 1)
      obtain ⟨u2, hu2⟩ := F2.cell (o := j * 6 + 2) (by omega)
      have f2 := F2.free (j * 6 + 2)
      obtain ⟨u3, hu3⟩ := F2.cell (o := j * 6 + 3) (by omega)
      have f3 := F2.free (j * 6 + 3)
      obtain ⟨u4, hu4⟩ := F2.cell (o := j * 6 + 4) (by omega)
      have f4 := F2.free (j * 6 + 4)
      obtain ⟨u5, hu5⟩ := F2.cell (o := j * 6 + 5) (by omega)
      have f5 := F2.free (j * 6 + 5)
      clear F2 o2
      go_wp2
      go_roundw
      case rel =>
        have key := HF.out.push (r := encSu x) (ys := [.int .i64 x.id, .string x.doc, .int .i64 x.cap, .int .i64 x.next, .bool x.out, .slice B5 x.list.length d5]) (by simp; omega) rfl b2 OL.out
        have e1 : ((l.take j).map encSu).length = j := by simp; omega
        have e2 : (l.take (j + 1)).map encSu = (l.take j).map encSu ++ [encSu x] := by rw [List.take_add_one, HP.out]; simp
        rw [e1] at key
        refine ⟨j + 1, by omega, by go_num, by rw [e2]; exact key, ?_⟩
        exact putRow_below (Nat.le_refl _) [.int .i64 x.id, .string x.doc, .int .i64 x.cap, .int .i64 x.next, .bool x.out, .slice B5 x.list.length d5] w2 (j * 6) (hb.trans (b2.mono hb.size))
      case measure => simp [intOf]; omega
    · obtain rfl : j = l.length := by omega
      go_wp2
      go_ret
      have k1 := HF.out
      rw [List.take_length] at k1
      exact ⟨_, rfl, by have := k1.done (by simp); exact this, hb⟩

set_option maxRecDepth 100000 in
set_option maxHeartbeats 1600000 in
theorem eqSus (v v' : Value) (l : List Su) (w : World) (h : RdC w w.heap.size (encSus l) v) (h' : RdC w w.heap.size (encSus l) v') (hs : SmSus l) : Calls Tryz.prog 23 #[v, v'] w (Tells true w) := by
  obtain ⟨A, c, rfl⟩ := sliceSus h
  obtain ⟨A', c', rfl⟩ := sliceSus h'
  have hll := hs.len
  go_enter Tryz.func23, Tryz.ntmps23
  have hb : ((l.length : Int) != (l.length : Int)) = false := by simp
  go_wp2
  go_loopw [5] (fun i wr => ∃ k : Nat, k ≤ l.length ∧ i = .int .i64 k ∧ Below w.heap.size w wr) (fun i _ => l.length - (intOf i).toNat)
  case atStart => exact ⟨0, Nat.zero_le _, rfl, Below.refl _ _⟩
  case round =>
    obtain ⟨k, hk, rfl, hbel⟩ := hrel
    by_cases hlt : k < l.length
    · obtain ⟨b, off, x, A5, c5, rfl, hb1, hp, y0, y1, y2, y3, y4, y5, r5⟩ := atSus (h.below hbel) hlt
      obtain ⟨b', off', x', B5, d5, rfl, hb2, hq, z0, z1, z2, z3, z4, z5, s5⟩ := atSus (h'.below hbel) hlt
      obtain rfl : x = x' := by rw [hp] at hq; injection hq
      have hsx := hs.at_ (List.mem_of_getElem? hp)
      clear hp hq
      have q1 := Lib.hid (show RdC wr.drew wr.drew.heap.size (datSu x) (.agg #[.int .i64 x.id, .string x.doc, .int .i64 x.cap, .int .i64 x.next, .bool x.out, .slice A5 x.list.length c5]) from (rdSu x (RdC.more hbel.size _ _ r5)).drewS)
      have q2 := Lib.hid (show RdC wr.drew wr.drew.heap.size (datSu x) (.agg #[.int .i64 x.id, .string x.doc, .int .i64 x.cap, .int .i64 x.next, .bool x.out, .slice B5 x.list.length d5]) from (rdSu x (RdC.more hbel.size _ _ s5)).drewS)
      clear r5 s5
      go_wp2
      go_region_with (go_at_call 46; refine (eqSu _ _ x _ (by exact q1.out) (by exact q2.out) hsx).mono ?_; rintro e w2 ⟨rfl, b2⟩)
      all_goals
        go_wp2
        go_roundw
        case rel => exact ⟨k + 1, by omega, by go_num, hbel.drew.trans (b2.mono hbel.size)⟩
        case measure => simp [intOf]; omega
    · go_wp2
      go_ret
      exact ⟨rfl, hbel⟩
theorem mklSus {w : World} {B : Nat} {k : Int} {l : List Su} {v : Value} (h : RdC w B (mkC k (encSus l)) v) : ∃ A c, v = .slice A l.length c := by
  have h' : RdC w B (.rows 80 6 (mkR k (l.map encSu))) v := h
  obtain ⟨A, c, hv, _⟩ := h'.len
  exact ⟨A, c, by simpa [mkR_len] using hv⟩
end Go.Proofs.YtamainhocghlgaaGreatDoor.low

