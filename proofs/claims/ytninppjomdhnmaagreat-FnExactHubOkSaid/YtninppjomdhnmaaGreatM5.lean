/-
  Texts that the proofs over this seat rest on, one behind the other (5 of 6).
-/
import Derived.Test.YtninppjomdhnmaaGreatM1
import Derived.Test.YtninppjomdhnmaaGreatM4
import Derived.Test.YtninppjomdhnmaaGreatM2
import Derived.Test.YtninppjomdhnmaaGreatM3
import Derived.Laws.Cover1

/-
  The struct type Sub of the laws: its words, and the laws' own functions on it and on slices of it. Written by mkty.py.
-/
namespace Go.Proofs.YtninppjomdhnmaaGreat.low
open Go.RowKit
set_option linter.unusedVariables false

structure Su where
  id : Int
  doc : ByteArray
  cap : Int
  next : Int
  out : Bool
  list : List En
def encSu (x : Su) : List Dat := [.int x.id, .str x.doc, .int x.cap, .int x.next, .bool x.out, encEns x.list]
def datSu (x : Su) : Dat := .agg (encSu x)
def encSus (l : List Su) : Dat := .rows 73 6 (l.map encSu)
def totSu (x : Su) : Nat := x.doc.size + totEns x.list
def LimSu (x : Su) : Prop := x.doc.size ≤ maxLen ∧ LimEns x.list
def SmSu (x : Su) : Prop := totSu x ≤ 1048576
def totSus (l : List Su) : Nat := l.length + sumN totSu l
def LimSus (l : List Su) : Prop := l.length ≤ maxLen ∧ ∀ x ∈ l, LimSu x
def SmSus (l : List Su) : Prop := totSus l ≤ 1048576
theorem smSus_of {l : List Su} (h : totSus l ≤ 1048576) : SmSus l := h
theorem SmSus.len {l : List Su} (h : SmSus l) : l.length ≤ 1048576 := by unfold SmSus totSus at h; omega
theorem SmSus.at_ {l : List Su} (h : SmSus l) {x : Su} (hx : x ∈ l) : SmSu x := by
  unfold SmSus totSus at h
  have := sumN_at (f := totSu) hx
  unfold SmSu
  omega
theorem SmSu.list {x : Su} (h : SmSu x) : SmEns x.list := smEns_of (by unfold SmSu totSu at h; omega)
theorem aggSu {w : World} {B : Nat} {x : Su} {v : Value} (h : RdC w B (datSu x) v) : ∃ (A5 : Option Addr) (c5 : Nat), v = .agg #[.int .i64 x.id, .string x.doc, .int .i64 x.cap, .int .i64 x.next, .bool x.out, .slice A5 x.list.length c5] ∧ RdC w B (encEns x.list) (.slice A5 x.list.length c5) := by
  obtain ⟨vs, rfl, v0, _, rfl, rfl, v1, _, rfl, rfl, v2, _, rfl, rfl, v3, _, rfl, rfl, v4, _, rfl, rfl, v5, _, rfl, r5, rfl⟩ := h
  obtain ⟨A5, c5, rfl⟩ := sliceEns r5
  exact ⟨A5, c5, rfl, r5⟩
theorem rdSu {w : World} {B : Nat} (x : Su) {v5 : Value} (r5 : RdC w B (encEns x.list) v5) : RdC w B (datSu x) (.agg #[.int .i64 x.id, .string x.doc, .int .i64 x.cap, .int .i64 x.next, .bool x.out, v5]) := ⟨_, rfl, _, _, rfl, rfl, _, _, rfl, rfl, _, _, rfl, rfl, _, _, rfl, rfl, _, _, rfl, rfl, _, _, rfl, r5, rfl⟩
theorem sliceSus {w : World} {B : Nat} {l : List Su} {v : Value} (h : RdC w B (encSus l) v) : ∃ A c, v = .slice A l.length c := by
  obtain ⟨A, c, hv, _⟩ := RdC.len h
  exact ⟨A, c, by simpa using hv⟩
theorem atSus {w : World} {B : Nat} {A : Option Addr} {m c i : Nat} {l : List Su} (h : RdC w B (encSus l) (.slice A m c)) (hi : i < l.length) : ∃ (b off : Nat) (x : Su) (A5 : Option Addr) (c5 : Nat), A = some ⟨b, off, none⟩ ∧ b < B ∧ l[i]? = some x ∧ w.cell? ⟨b, off + i * 6, none⟩ = some (.int .i64 x.id) ∧ w.cell? ⟨b, off + i * 6 + 1, none⟩ = some (.string x.doc) ∧ w.cell? ⟨b, off + i * 6 + 2, none⟩ = some (.int .i64 x.cap) ∧ w.cell? ⟨b, off + i * 6 + 3, none⟩ = some (.int .i64 x.next) ∧ w.cell? ⟨b, off + i * 6 + 4, none⟩ = some (.bool x.out) ∧ w.cell? ⟨b, off + i * 6 + 5, none⟩ = some (.slice A5 x.list.length c5) ∧ RdC w B (encEns x.list) (.slice A5 x.list.length c5) := by
  obtain ⟨ad, r, hA, hb, hs, hr, hl⟩ := RdC.at_ (ds := l.map encSu) h (by simpa using hi)
  rw [List.getElem?_map, List.getElem?_eq_getElem hi] at hr
  obtain rfl : encSu l[i] = r := by simpa using hr
  obtain ⟨b, off, spot⟩ := ad
  obtain rfl : spot = none := by
    rcases hs with hs | hs
    · cases hs
    · exact hs
  obtain ⟨⟨v0, x0, rfl⟩, ⟨v1, x1, rfl⟩, ⟨v2, x2, rfl⟩, ⟨v3, x3, rfl⟩, ⟨v4, x4, rfl⟩, ⟨v5, x5, r5⟩, _⟩ := hl
  obtain ⟨A5, c5, rfl⟩ := sliceEns r5
  rw [add_at] at x0 x1 x2 x3 x4 x5
  exact ⟨b, off, l[i], A5, c5, hA, hb, List.getElem?_eq_getElem hi, by simpa [Nat.add_assoc] using x0, by simpa [Nat.add_assoc] using x1, by simpa [Nat.add_assoc] using x2, by simpa [Nat.add_assoc] using x3, by simpa [Nat.add_assoc] using x4, by simpa [Nat.add_assoc] using x5, r5⟩
def ringSu (x : Su) : Ri := ⟨x.cap, x.next, x.out, x.list⟩
theorem aggRSu {w : World} {B : Nat} {x : Su} {v : Value} (h : RdC w B (datRi (ringSu x)) v) : ∃ (A : Option Addr) (c : Nat), v = .agg #[.int .i64 x.cap, .int .i64 x.next, .bool x.out, .slice A x.list.length c] := by
  obtain ⟨A, c, rfl, -⟩ := aggRi h
  exact ⟨A, c, rfl⟩
theorem szRSu (v : Value) (x : Su) (left : Int) (w : World) (h : RdC w w.heap.size (datRi (ringSu x)) v) (h0 : 0 ≤ left) (h1 : left ≤ 1048576) (hl : LimEns x.list) : Calls Tryz.prog 100 #[v, .int .i64 left] w (Sized (totEns x.list) left w) := szRi v (ringSu x) left w h h0 h1 hl

set_option maxRecDepth 100000 in
set_option maxHeartbeats 1600000 in
theorem szSu (v : Value) (x : Su) (left : Int) (w : World) (h : RdC w w.heap.size (datSu x) v) (h0 : 0 ≤ left) (h1 : left ≤ 1048576) (hl : LimSu x) : Calls Tryz.prog 76 #[v, .int .i64 left] w (Sized (totSu x) left w) := by
  obtain ⟨A5, c5, rfl, r5⟩ := aggSu h
  have b0 := alloc_below w (.cells #[.int .i64 x.id, .string x.doc, .int .i64 x.cap, .int .i64 x.next, .bool x.out, .slice A5 x.list.length c5] 122)
  have hlt : w.heap.size < (w.alloc (.cells #[.int .i64 x.id, .string x.doc, .int .i64 x.cap, .int .i64 x.next, .bool x.out, .slice A5 x.list.length c5] 122)).heap.size := by rw [World.size_alloc]; omega
  have D0 : Below (w.alloc (.cells #[.int .i64 x.id, .string x.doc, .int .i64 x.cap, .int .i64 x.next, .bool x.out, .slice A5 x.list.length c5] 122)).heap.size (w.alloc (.cells #[.int .i64 x.id, .string x.doc, .int .i64 x.cap, .int .i64 x.next, .bool x.out, .slice A5 x.list.length c5] 122)) (w.alloc (.cells #[.int .i64 x.id, .string x.doc, .int .i64 x.cap, .int .i64 x.next, .bool x.out, .slice A5 x.list.length c5] 122)) := Below.refl _ _
  unfold LimSu at hl
  have HT := Lib.hid (show totSu x = x.doc.size + totEns x.list from rfl)
  unfold maxLen at hl
  by_cases hn1 : (x.doc.size : Int) ≤ left
  case neg =>
    have hn1' : left - (x.doc.size : Int) < 0 := by omega
    go_enter Tryz.func76, Tryz.ntmps76
    go_wp2
    go_ret
    exact ⟨_, rfl, .inl rfl, b0⟩
  go_enter Tryz.func76, Tryz.ntmps76
  go_wp2_with fail
  refine (szRSu _ x (left - (x.doc.size : Int)) _ (((rdRi (ringSu x) r5).past b0).past D0) (by omega) (by omega) hl.2).mono ?_
  rintro e w2 ⟨e2, rfl, hr2, k2⟩
  have D2 := D0.trans (k2.mono D0.size)
  rcases hr2 with rfl | ⟨p2, q2⟩
  · go_wp2
    go_ret
    exact ⟨_, rfl, .inl rfl, b0.trans (D2.mono b0.size)⟩
  have t2 : e2 ≤ 1048576 := by omega
  have Q2 := Lib.hid q2
  clear q2 k2
  go_wp2
  go_ret
  refine ⟨_, rfl, .inr ⟨by omega, ?_⟩, b0.trans (D2.mono b0.size)⟩
  rw [HT.out]
  have := Q2.out
  omega

set_option maxRecDepth 100000 in
set_option maxHeartbeats 1600000 in
theorem toSu (v : Value) (x : Su) (w : World) (h : RdC w w.heap.size (datSu x) v) (hs : SmSu x) : Calls Tryz.prog 77 #[v] w (OwnPost (datSu x) w) := by
  obtain ⟨A5, c5, rfl, r5⟩ := aggSu h
  have R5 := Lib.hid r5
  clear r5
  clear h
  have HM := Lib.hid (Ms.start w)
  replace HM := Lib.hid (HM.out.new #[.int .i64 x.id, .string x.doc, .int .i64 x.cap, .int .i64 x.next, .bool x.out, .slice A5 x.list.length c5] 122)
  have hm := HM.out.new #[.int .i64 0, .string ⟨#[]⟩, .int .i64 0, .int .i64 0, .bool false, .slice none 0 0] 73
  simp only [World.size_alloc] at hm
  replace HM := Lib.hid hm
  clear hm
  have hm := HM.out.new #[.int .i64 x.id, .string x.doc, .int .i64 0, .int .i64 0, .bool false, .slice none 0 0] 73
  simp only [World.size_alloc] at hm
  replace HM := Lib.hid hm
  clear hm
  go_enter Tryz.func77, Tryz.ntmps77
  go_wp2_with fail
  obtain ⟨W1, hW, hm⟩ := HM.out.name
  rw [← hW]
  replace HM := Lib.hid hm
  clear hm hW
  refine (toRi _ (ringSu x) _ (HM.out.arg (rdRi (ringSu x) R5.out)) (show SmRi (ringSu x) from hs.list)).mono ?_
  rintro e' W2 ⟨v', rfl, o', b'⟩
  obtain ⟨B, d, rfl⟩ := aggRSu o'.read
  obtain ⟨bl, hm⟩ := HM.out.got o' b'
  clear o' b'
  replace HM := Lib.hid hm
  clear hm
  have ko0 := HM.out.cell (i := 1) (j := 0) rfl rfl
  have ko1 := HM.out.cell (i := 1) (j := 1) rfl rfl
  have ko2 := HM.out.cell (i := 1) (j := 2) rfl rfl
  have ko3 := HM.out.cell (i := 1) (j := 3) rfl rfl
  have ko4 := HM.out.cell (i := 1) (j := 4) rfl rfl
  have ko5 := HM.out.cell (i := 1) (j := 5) rfl rfl
  have fo : ∀ j, _ := fun j => HM.out.free (i := 1) (j := j) rfl
  have fo0 := fo 0
  have fo1 := fo 1
  have fo2 := fo 2
  have fo3 := fo 3
  have fo4 := fo 4
  have fo5 := fo 5
  clear fo
  have hm := HM.out.pk [1, 0, 2, 3] (by decide) (by simp)
  simp only [low.pk, List.getElem?_cons_zero, List.getElem?_cons_succ] at hm
  replace HM := Lib.hid hm
  clear hm
  obtain ⟨nro, nor⟩ := HM.out.ne (i := 0) (j := 2) rfl rfl (by omega)
  have ko0 := HM.out.cell (i := 0) (j := 0) rfl rfl
  have ko1 := HM.out.cell (i := 0) (j := 1) rfl rfl
  have ko2 := HM.out.cell (i := 0) (j := 2) rfl rfl
  have ko3 := HM.out.cell (i := 0) (j := 3) rfl rfl
  have ko4 := HM.out.cell (i := 0) (j := 4) rfl rfl
  have ko5 := HM.out.cell (i := 0) (j := 5) rfl rfl
  have fo : ∀ j, _ := fun j => HM.out.free (i := 0) (j := j) rfl
  have fo0 := fo 0
  have fo1 := fo 1
  have fo2 := fo 2
  have fo3 := fo 3
  have fo4 := fo 4
  have fo5 := fo 5
  clear fo
  have kr0 := HM.out.cell (i := 2) (j := 0) rfl rfl
  have kr1 := HM.out.cell (i := 2) (j := 1) rfl rfl
  have kr2 := HM.out.cell (i := 2) (j := 2) rfl rfl
  have kr3 := HM.out.cell (i := 2) (j := 3) rfl rfl
  have kr4 := HM.out.cell (i := 2) (j := 4) rfl rfl
  have kr5 := HM.out.cell (i := 2) (j := 5) rfl rfl
  have fr : ∀ j, _ := fun j => HM.out.free (i := 2) (j := j) rfl
  have fr0 := fr 0
  have fr1 := fr 1
  have fr2 := fr 2
  have fr3 := fr 3
  have fr4 := fr 4
  have fr5 := fr 5
  clear fr
  go_wp2
  clear ko0 ko1 ko2 ko3 ko4 ko5 fo0 fo1 fo2 fo3 fo4 fo5 kr0 kr1 kr2 kr3 kr4 kr5 fr0 fr1 fr2 fr3 fr4 fr5
  have hm := HM.out.set (j := 2) (.int .i64 x.cap)
  simp only [pa, pb, pc] at hm
  replace HM := Lib.hid hm
  clear hm
  have hm := HM.out.set (j := 3) (.int .i64 x.next)
  simp only [pa, pb, pc] at hm
  replace HM := Lib.hid hm
  clear hm
  have hm := HM.out.set (j := 4) (.bool x.out)
  simp only [pa, pb, pc] at hm
  replace HM := Lib.hid hm
  clear hm
  have hm := HM.out.set (j := 5) (.slice B x.list.length d)
  simp only [pa, pb, pc] at hm
  replace HM := Lib.hid hm
  clear hm
  have hm := HM.out.pk [2, 0, 1, 3] (by decide) (by simp)
  simp only [low.pk, List.getElem?_cons_zero, List.getElem?_cons_succ] at hm
  replace HM := Lib.hid hm
  clear hm
  have hm := HM.out.putRow (ys := [.int .i64 x.id, .string x.doc, .int .i64 x.cap, .int .i64 x.next, .bool x.out, .slice B x.list.length d]) rfl
  simp only [low.putRow, Nat.zero_add, Nat.reduceAdd] at hm
  replace HM := Lib.hid hm
  clear hm
  obtain ⟨W3, hW, hm⟩ := HM.out.name
  rw [← hW]
  replace HM := Lib.hid hm
  clear hm hW
  have kr0 := HM.out.cell (i := 0) (j := 0) rfl rfl
  have kr1 := HM.out.cell (i := 0) (j := 1) rfl rfl
  have kr2 := HM.out.cell (i := 0) (j := 2) rfl rfl
  have kr3 := HM.out.cell (i := 0) (j := 3) rfl rfl
  have kr4 := HM.out.cell (i := 0) (j := 4) rfl rfl
  have kr5 := HM.out.cell (i := 0) (j := 5) rfl rfl
  have hm := HM.out.pk [2, 0, 1, 3] (by decide) (by simp)
  simp only [low.pk, List.getElem?_cons_zero, List.getElem?_cons_succ] at hm
  replace HM := Lib.hid hm
  clear hm
  obtain ⟨bl2, hm⟩ := Ms.unRi9 (x := ringSu x) HM.out
  replace HM := Lib.hid hm
  exact bodyPost_ret (v := .agg #[.int .i64 x.id, .string x.doc, .int .i64 x.cap, .int .i64 x.next, .bool x.out, .slice B x.list.length d]) (by simp [results, Tryz.results77, go_sem, kr0, kr1, kr2, kr3, kr4, kr5]) rfl (show Ms w (.dt (datSu x) (.agg #[.int .i64 x.id, .string x.doc, .int .i64 x.cap, .int .i64 x.next, .bool x.out, .slice B x.list.length d]) _ :: _) _ from (((((HM.out.pk0.pkO.pkF rfl).pkF rfl).pkF rfl).pkF rfl).pkF rfl)).post

set_option maxRecDepth 100000 in
set_option maxHeartbeats 1600000 in
theorem eqSu (v v' : Value) (x : Su) (w : World) (h : RdC w w.heap.size (datSu x) v) (h' : RdC w w.heap.size (datSu x) v') (hs : SmSu x) : Calls Tryz.prog 80 #[v, v'] w (Tells true w) := by
  obtain ⟨A5, c5, rfl, r5⟩ := aggSu h
  obtain ⟨B5, d5, rfl, s5⟩ := aggSu h'
  obtain ⟨g1, g2, b0⟩ := two_boxes w #[.int .i64 x.id, .string x.doc, .int .i64 x.cap, .int .i64 x.next, .bool x.out, .slice A5 x.list.length c5] #[.int .i64 x.id, .string x.doc, .int .i64 x.cap, .int .i64 x.next, .bool x.out, .slice B5 x.list.length d5] 73
  have D0 : Below ((w.alloc (.cells #[.int .i64 x.id, .string x.doc, .int .i64 x.cap, .int .i64 x.next, .bool x.out, .slice A5 x.list.length c5] 73)).alloc (.cells #[.int .i64 x.id, .string x.doc, .int .i64 x.cap, .int .i64 x.next, .bool x.out, .slice B5 x.list.length d5] 73)).heap.size ((w.alloc (.cells #[.int .i64 x.id, .string x.doc, .int .i64 x.cap, .int .i64 x.next, .bool x.out, .slice A5 x.list.length c5] 73)).alloc (.cells #[.int .i64 x.id, .string x.doc, .int .i64 x.cap, .int .i64 x.next, .bool x.out, .slice B5 x.list.length d5] 73)) ((w.alloc (.cells #[.int .i64 x.id, .string x.doc, .int .i64 x.cap, .int .i64 x.next, .bool x.out, .slice A5 x.list.length c5] 73)).alloc (.cells #[.int .i64 x.id, .string x.doc, .int .i64 x.cap, .int .i64 x.next, .bool x.out, .slice B5 x.list.length d5] 73)) := Below.refl _ _
  have lt2 := lt_of_some g2
  have lt1 := lt_of_some g1
  have n0 : (x.id != x.id) = false := by simp
  have n1 : (x.doc.toList == x.doc.toList) = true := by simp
  have n2 : (x.cap != x.cap) = false := by simp
  have n3 : (x.next != x.next) = false := by simp
  have n4 : (x.out != x.out) = false := by simp
  go_enter Tryz.func80, Tryz.ntmps80
  go_wp2_with fail
  refine (eqRi _ _ (ringSu x) _ (((rdRi (ringSu x) r5).past b0).past D0) (((rdRi (ringSu x) s5).past b0).past D0) (show SmRi (ringSu x) from hs.list)).mono ?_
  rintro e w1 ⟨rfl, k1⟩
  have D1 := D0.trans (k1.mono D0.size)
  clear k1
  go_wp2
  go_ret
  exact ⟨rfl, b0.trans (D1.mono b0.size)⟩

set_option maxRecDepth 100000 in
set_option maxHeartbeats 1600000 in
theorem szSus (v : Value) (l : List Su) (left : Int) (w : World) (h : RdC w w.heap.size (encSus l) v) (h0 : 0 ≤ left) (h1 : left ≤ 1048576) (hl : LimSus l) : Calls Tryz.prog 40 #[v, .int .i64 left] w (Sized (totSus l) left w) := by
  obtain ⟨A, c, rfl⟩ := sliceSus h
  have hl1 : l.length ≤ 9223372036854775807 := by have := hl.1; unfold maxLen at this; omega
  have HT := Lib.hid (show totSus l = l.length + sumN totSu l from rfl)
  by_cases hle : (l.length : Int) ≤ left
  · go_enter Tryz.func40, Tryz.ntmps40
    go_wp2
    go_loopw [1, 5] (fun x i wr => ∃ j : Nat, j ≤ l.length ∧ i = .int .i64 j ∧ x = .int .i64 (left - (l.length : Int) - (sumN totSu (l.take j) : Int)) ∧ 0 ≤ left - (l.length : Int) - (sumN totSu (l.take j) : Int) ∧ Below w.heap.size w wr) (fun _ i _ => l.length - (intOf i).toNat)
    case atStart => exact ⟨0, Nat.zero_le _, rfl, by simp [sumN], by simp [sumN]; omega, Below.refl _ _⟩
    case round =>
      obtain ⟨j, hj, rfl, rfl, hs, hbel⟩ := hrel
      by_cases hlt : j < l.length
      · obtain ⟨b, off, x, A5, c5, rfl, hb, hp, y0, y1, y2, y3, y4, y5, r5⟩ := atSus (h.below hbel) hlt
        have HS := Lib.hid (sumN_snoc (f := totSu) hp)
        have hlp := hl.2 x (List.mem_of_getElem? hp)
        have hb1 : left - (l.length : Int) - (sumN totSu (l.take j) : Int) ≤ 1048576 := by omega
        clear hp
        generalize hq : left - (l.length : Int) - (sumN totSu (l.take j) : Int) = q at *
        have HQ := Lib.hid hq
        clear hq
        go_wp2_with fail
        refine (szSu _ x q _ (rdSu x (RdC.more hbel.size _ _ r5)) hs hb1 hlp).mono ?_
        rintro e w1 ⟨r, rfl, hr', b1⟩
        rcases hr' with rfl | ⟨hr0, hr1⟩
        · go_wp2
          go_ret
          exact ⟨_, rfl, .inl rfl, hbel.trans (b1.mono hbel.size)⟩
        · have HR := Lib.hid hr1
          clear hr1
          go_wp2
          go_roundw
          case rel =>
            have e1 : r = left - (l.length : Int) - (sumN totSu (l.take (j + 1)) : Int) := by rw [HR.out, HS.out, ← HQ.out]; omega
            exact ⟨j + 1, by omega, by go_num, by rw [e1], by rw [← e1]; exact hr0, hbel.trans (b1.mono hbel.size)⟩
          case measure => simp [intOf]; omega
      · have hke : l.take j = l := List.take_of_length_le (by omega)
        rw [hke] at hs ⊢
        go_wp2
        go_ret
        exact ⟨_, rfl, .inr ⟨hs, by rw [HT.out]; omega⟩, hbel⟩
  · have h' : left - (l.length : Int) < 0 := by omega
    go_enter Tryz.func40, Tryz.ntmps40
    go_wp2
    go_ret
    exact ⟨_, rfl, .inl rfl, Below.refl _ _⟩
theorem infoSu : (Tryz.prog.info? 73).map (fun i => (i.zero, i.size, i.bytes)) = some (some (.agg #[.int .i64 0, .string ⟨#[]⟩, .int .i64 0, .int .i64 0, .bool false, .slice none 0 0]), 6, 72) := by kernel_rfl

set_option maxRecDepth 100000 in
set_option maxHeartbeats 1600000 in
theorem toSus (v : Value) (l : List Su) (w : World) (h : RdC w w.heap.size (encSus l) v) (hs : SmSus l) : Calls Tryz.prog 46 #[v] w (OwnPost (encSus l) w) := by
  obtain ⟨A, c, rfl⟩ := sliceSus h
  have hll := hs.len
  obtain ⟨i0, hi0, hz0, hz1, hz2⟩ := info_parts infoSu
  go_enter Tryz.func46, Tryz.ntmps46
  go_wp2_with (at_make; refine wpList_make_full _ rfl _ _ 45 rfl w.heap.size 73 i0 (.agg #[.int .i64 0, .string ⟨#[]⟩, .int .i64 0, .int .i64 0, .bool false, .slice none 0 0]) 6 Tryz.underlying45 hi0 hz0 hz1 _ _ _ _ l.length rfl rfl (by omega) (by omega) (by rw [hz2]; omega) (by unfold maxLen; omega) (Nat.le_refl _) ?_; intro w1 hown hg)
  have hbel : Below w.heap.size w w1 := (Below.refl _ _).grown hg (Nat.le_refl _) (fun _ h => by cases h)
  have HF0 := Lib.hid (Fil.start hown)
  clear hown hg
  go_loopw [4] (fun i wr => ∃ j : Nat, j ≤ l.length ∧ i = .int .i64 j ∧ Fil w.heap.size 73 6 l.length ((l.take j).map encSu) wr ∧ Below w.heap.size w wr) (fun i _ => l.length - (intOf i).toNat)
  case atStart => exact ⟨0, Nat.zero_le _, rfl, by simpa using HF0.out, hbel⟩
  case round =>
    obtain ⟨j, hj, rfl, hf, hb⟩ := hrel
    clear HF0 hbel
    have HF := Lib.hid hf
    clear hf
    by_cases hlt : j < l.length
    · obtain ⟨b, off, x, A5, c5, rfl, hbb, hp, y0, y1, y2, y3, y4, y5, r5⟩ := atSus (h.below hb) hlt
      have hsx := hs.at_ (List.mem_of_getElem? hp)
      have HP := Lib.hid hp
      clear hp
      go_wp2_with fail
      refine (toSu _ x wr (rdSu x (RdC.more hb.size _ _ r5)) hsx).mono ?_
      rintro e w2 ⟨v2, rfl, o2, b2⟩
      obtain ⟨B5, d5, rfl, _⟩ := aggSu o2.read
      have OL := Lib.hid (o2.aggV (vs := [.int .i64 x.id, .string x.doc, .int .i64 x.cap, .int .i64 x.next, .bool x.out, .slice B5 x.list.length d5]))
      have F2 := HF.out.past b2
      obtain ⟨u0, hu0⟩ := F2.cell (o := j * 6) (by omega)
      have f0 := F2.free (j * 6)
      obtain ⟨u1, hu1⟩ := F2.cell (o := j * 6 + 1) (by omega)
      have f1 := F2.free (j * 6 + 1)
      obtain ⟨u2, hu2⟩ := F2.cell (o := j * 6 + 2) (by omega)
      have f2 := F2.free (j * 6 + 2)
      obtain ⟨u3, hu3⟩ := F2.cell (o := j * 6 + 3) (by omega)
      have f3 := F2.free (j * 6 + 3)
      obtain ⟨u4, hu4⟩ := F2.cell (o := j * 6 + 4) (by omega)
      have f4 := F2.free (j * 6 + 4)
      obtain ⟨u5, hu5⟩ := F2.cell (o := j * 6 + 5) (by omega)
      have f5 := F2.free (j * 6 + 5)
      clear F2 o2
      go_wp2
      go_roundw
      case rel =>
        have key := HF.out.push (r := encSu x) (ys := [.int .i64 x.id, .string x.doc, .int .i64 x.cap, .int .i64 x.next, .bool x.out, .slice B5 x.list.length d5]) (by simp; omega) rfl b2 OL.out
        have e1 : ((l.take j).map encSu).length = j := by simp; omega
        have e2 : (l.take (j + 1)).map encSu = (l.take j).map encSu ++ [encSu x] := by rw [List.take_add_one, HP.out]; simp
        rw [e1] at key
        refine ⟨j + 1, by omega, by go_num, by rw [e2]; exact key, ?_⟩
        exact putRow_below (Nat.le_refl _) [.int .i64 x.id, .string x.doc, .int .i64 x.cap, .int .i64 x.next, .bool x.out, .slice B5 x.list.length d5] w2 (j * 6) (hb.trans (b2.mono hb.size))
      case measure => simp [intOf]; omega
    · obtain rfl : j = l.length := by omega
      go_wp2
      go_ret
      have k1 := HF.out
      rw [List.take_length] at k1
      exact ⟨_, rfl, by have := k1.done (by simp); exact this, hb⟩

set_option maxRecDepth 100000 in
set_option maxHeartbeats 1600000 in
theorem eqSus (v v' : Value) (l : List Su) (w : World) (h : RdC w w.heap.size (encSus l) v) (h' : RdC w w.heap.size (encSus l) v') (hs : SmSus l) : Calls Tryz.prog 52 #[v, v'] w (Tells true w) := by
  obtain ⟨A, c, rfl⟩ := sliceSus h
  obtain ⟨A', c', rfl⟩ := sliceSus h'
  have hll := hs.len
  go_enter Tryz.func52, Tryz.ntmps52
  have hb : ((l.length : Int) != (l.length : Int)) = false := by simp
  go_wp2
  go_loopw [5] (fun i wr => ∃ k : Nat, k ≤ l.length ∧ i = .int .i64 k ∧ Below w.heap.size w wr) (fun i _ => l.length - (intOf i).toNat)
  case atStart => exact ⟨0, Nat.zero_le _, rfl, Below.refl _ _⟩
  case round =>
    obtain ⟨k, hk, rfl, hbel⟩ := hrel
    by_cases hlt : k < l.length
    · obtain ⟨b, off, x, A5, c5, rfl, hb1, hp, y0, y1, y2, y3, y4, y5, r5⟩ := atSus (h.below hbel) hlt
      obtain ⟨b', off', x', B5, d5, rfl, hb2, hq, z0, z1, z2, z3, z4, z5, s5⟩ := atSus (h'.below hbel) hlt
      obtain rfl : x = x' := by rw [hp] at hq; injection hq
      have hsx := hs.at_ (List.mem_of_getElem? hp)
      clear hp hq
      have q1 := Lib.hid (show RdC wr.drew wr.drew.heap.size (datSu x) (.agg #[.int .i64 x.id, .string x.doc, .int .i64 x.cap, .int .i64 x.next, .bool x.out, .slice A5 x.list.length c5]) from (rdSu x (RdC.more hbel.size _ _ r5)).drewS)
      have q2 := Lib.hid (show RdC wr.drew wr.drew.heap.size (datSu x) (.agg #[.int .i64 x.id, .string x.doc, .int .i64 x.cap, .int .i64 x.next, .bool x.out, .slice B5 x.list.length d5]) from (rdSu x (RdC.more hbel.size _ _ s5)).drewS)
      clear r5 s5
      go_wp2
      go_region_with (go_at_call 80; refine (eqSu _ _ x _ (by exact q1.out) (by exact q2.out) hsx).mono ?_; rintro e w2 ⟨rfl, b2⟩)
      all_goals
        go_wp2
        go_roundw
        case rel => exact ⟨k + 1, by omega, by go_num, hbel.drew.trans (b2.mono hbel.size)⟩
        case measure => simp [intOf]; omega
    · go_wp2
      go_ret
      exact ⟨rfl, hbel⟩
end Go.Proofs.YtninppjomdhnmaaGreat.low


/-
  The struct type Hub of the laws: its words, and the laws' own functions on it and on slices of it. Written by mkty.py.
-/
namespace Go.Proofs.YtninppjomdhnmaaGreat.low
open Go.RowKit
set_option linter.unusedVariables false

structure Hu where
  shut : Bool
  docs : List Do
  subs : List Su
  last : Int
def encHu (x : Hu) : List Dat := [.bool x.shut, encDos x.docs, encSus x.subs, .int x.last]
def datHu (x : Hu) : Dat := .agg (encHu x)
def totHu (x : Hu) : Nat := totDos x.docs + totSus x.subs
def LimHu (x : Hu) : Prop := LimDos x.docs ∧ LimSus x.subs
def SmHu (x : Hu) : Prop := totHu x ≤ 1048576
def totHus (l : List Hu) : Nat := l.length + sumN totHu l
def SmHus (l : List Hu) : Prop := totHus l ≤ 1048576
theorem SmHus.len {l : List Hu} (h : SmHus l) : l.length ≤ 1048576 := by unfold SmHus totHus at h; omega
theorem SmHus.at_ {l : List Hu} (h : SmHus l) {x : Hu} (hx : x ∈ l) : SmHu x := by
  unfold SmHus totHus at h
  have := sumN_at (f := totHu) hx
  unfold SmHu
  omega
theorem SmHu.docs {x : Hu} (h : SmHu x) : SmDos x.docs := smDos_of (by unfold SmHu totHu at h; omega)
theorem SmHu.subs {x : Hu} (h : SmHu x) : SmSus x.subs := smSus_of (by unfold SmHu totHu at h; omega)
theorem aggHu {w : World} {B : Nat} {x : Hu} {v : Value} (h : RdC w B (datHu x) v) : ∃ (A1 : Option Addr) (c1 : Nat) (A2 : Option Addr) (c2 : Nat), v = .agg #[.bool x.shut, .slice A1 x.docs.length c1, .slice A2 x.subs.length c2, .int .i64 x.last] ∧ RdC w B (encDos x.docs) (.slice A1 x.docs.length c1) ∧ RdC w B (encSus x.subs) (.slice A2 x.subs.length c2) := by
  obtain ⟨vs, rfl, v0, _, rfl, rfl, v1, _, rfl, r1, v2, _, rfl, r2, v3, _, rfl, rfl, rfl⟩ := h
  obtain ⟨A1, c1, rfl⟩ := sliceDos r1
  obtain ⟨A2, c2, rfl⟩ := sliceSus r2
  exact ⟨A1, c1, A2, c2, rfl, r1, r2⟩
theorem rdHu {w : World} {B : Nat} (x : Hu) {v1 : Value} {v2 : Value} (r1 : RdC w B (encDos x.docs) v1) (r2 : RdC w B (encSus x.subs) v2) : RdC w B (datHu x) (.agg #[.bool x.shut, v1, v2, .int .i64 x.last]) := ⟨_, rfl, _, _, rfl, rfl, _, _, rfl, r1, _, _, rfl, r2, _, _, rfl, rfl, rfl⟩
set_option maxRecDepth 100000 in
set_option maxHeartbeats 1600000 in
theorem szHu (v : Value) (x : Hu) (left : Int) (w : World) (h : RdC w w.heap.size (datHu x) v) (h0 : 0 ≤ left) (h1 : left ≤ 1048576) (hl : LimHu x) : Calls Tryz.prog 12 #[v, .int .i64 left] w (Sized (totHu x) left w) := by
  obtain ⟨A1, c1, A2, c2, rfl, r1, r2⟩ := aggHu h
  have b0 := alloc_below w (.cells #[.bool x.shut, .slice A1 x.docs.length c1, .slice A2 x.subs.length c2, .int .i64 x.last] 41)
  have hlt : w.heap.size < (w.alloc (.cells #[.bool x.shut, .slice A1 x.docs.length c1, .slice A2 x.subs.length c2, .int .i64 x.last] 41)).heap.size := by rw [World.size_alloc]; omega
  have D0 : Below (w.alloc (.cells #[.bool x.shut, .slice A1 x.docs.length c1, .slice A2 x.subs.length c2, .int .i64 x.last] 41)).heap.size (w.alloc (.cells #[.bool x.shut, .slice A1 x.docs.length c1, .slice A2 x.subs.length c2, .int .i64 x.last] 41)) (w.alloc (.cells #[.bool x.shut, .slice A1 x.docs.length c1, .slice A2 x.subs.length c2, .int .i64 x.last] 41)) := Below.refl _ _
  unfold LimHu at hl
  have HT := Lib.hid (show totHu x = totDos x.docs + totSus x.subs from rfl)
  go_enter Tryz.func12, Tryz.ntmps12
  go_wp2_with fail
  refine (szDos _ x.docs left _ ((r1.past b0).past D0) (by omega) (by omega) hl.1).mono ?_
  rintro e w1 ⟨e1, rfl, hr1, k1⟩
  have D1 := D0.trans (k1.mono D0.size)
  rcases hr1 with rfl | ⟨p1, q1⟩
  · go_wp2
    go_ret
    exact ⟨_, rfl, .inl rfl, b0.trans (D1.mono b0.size)⟩
  have t1 : e1 ≤ 1048576 := by omega
  have Q1 := Lib.hid q1
  clear q1 k1
  have y2 := (D1.cell (p := ⟨w.heap.size, 2, none⟩) hlt).trans (bxnew (w := w) (cs := #[.bool x.shut, .slice A1 x.docs.length c1, .slice A2 x.subs.length c2, .int .i64 x.last]) (j := 2) rfl)
  go_wp2_with fail
  refine (szSus _ x.subs e1 _ ((r2.past b0).past D1) (by omega) (by omega) hl.2).mono ?_
  rintro e w2 ⟨e2, rfl, hr2, k2⟩
  have D2 := D1.trans (k2.mono D1.size)
  rcases hr2 with rfl | ⟨p2, q2⟩
  · go_wp2
    go_ret
    exact ⟨_, rfl, .inl rfl, b0.trans (D2.mono b0.size)⟩
  have t2 : e2 ≤ 1048576 := by omega
  have Q2 := Lib.hid q2
  clear q2 k2
  go_wp2
  go_ret
  refine ⟨_, rfl, .inr ⟨by omega, ?_⟩, b0.trans (D2.mono b0.size)⟩
  rw [HT.out]
  have := Q1.out
  have := Q2.out
  omega

set_option maxRecDepth 100000 in
set_option maxHeartbeats 1600000 in
theorem toHu (v : Value) (x : Hu) (w : World) (h : RdC w w.heap.size (datHu x) v) (hs : SmHu x) : Calls Tryz.prog 14 #[v] w (OwnPost (datHu x) w) := by
  obtain ⟨A1, c1, A2, c2, rfl, r1, r2⟩ := aggHu h
  have R1 := Lib.hid r1
  clear r1
  have R2 := Lib.hid r2
  clear r2
  clear h
  have HM := Lib.hid (Ms.start w)
  replace HM := Lib.hid (HM.out.new #[.bool x.shut, .slice A1 x.docs.length c1, .slice A2 x.subs.length c2, .int .i64 x.last] 41)
  have hm := HM.out.new #[.bool false, .slice none 0 0, .slice none 0 0, .int .i64 0] 47
  simp only [World.size_alloc] at hm
  replace HM := Lib.hid hm
  clear hm
  have hm := HM.out.new #[.bool x.shut, .slice none 0 0, .slice none 0 0, .int .i64 0] 47
  simp only [World.size_alloc] at hm
  replace HM := Lib.hid hm
  clear hm
  go_enter Tryz.func14, Tryz.ntmps14
  go_wp2_with fail
  obtain ⟨W1, hW, hm⟩ := HM.out.name
  rw [← hW]
  replace HM := Lib.hid hm
  clear hm hW
  refine (toDos _ x.docs _ (HM.out.arg R1.out) hs.docs).mono ?_
  rintro e' W2 ⟨v', rfl, o', b'⟩
  obtain ⟨B1, d1, rfl⟩ := sliceDos o'.read
  obtain ⟨bl1, hm⟩ := HM.out.got o' b'
  clear o' b'
  replace HM := Lib.hid hm
  clear hm
  obtain ⟨nao, noa⟩ := HM.out.ne (i := 1) (j := 3) rfl rfl (by omega)
  have ka0 := HM.out.cell (i := 3) (j := 0) rfl rfl
  have ka1 := HM.out.cell (i := 3) (j := 1) rfl rfl
  have ka2 := HM.out.cell (i := 3) (j := 2) rfl rfl
  have ka3 := HM.out.cell (i := 3) (j := 3) rfl rfl
  have ko0 := HM.out.cell (i := 1) (j := 0) rfl rfl
  have ko1 := HM.out.cell (i := 1) (j := 1) rfl rfl
  have ko2 := HM.out.cell (i := 1) (j := 2) rfl rfl
  have ko3 := HM.out.cell (i := 1) (j := 3) rfl rfl
  have fo : ∀ j, _ := fun j => HM.out.free (i := 1) (j := j) rfl
  have fo0 := fo 0
  have fo1 := fo 1
  have fo2 := fo 2
  have fo3 := fo 3
  clear fo
  go_wp2_with fail
  clear ka0 ka1 ka2 ka3 ko0 ko1 ko2 ko3 fo0 fo1 fo2 fo3
  have hm := HM.out.pk [1, 0, 2, 3] (by decide) (by simp)
  simp only [low.pk, List.getElem?_cons_zero, List.getElem?_cons_succ] at hm
  replace HM := Lib.hid hm
  clear hm
  have hm := HM.out.set (j := 1) (.slice B1 x.docs.length d1)
  simp only [pa, pb, pc] at hm
  replace HM := Lib.hid hm
  clear hm
  obtain ⟨W3, hW, hm⟩ := HM.out.name
  rw [← hW]
  replace HM := Lib.hid hm
  clear hm hW
  refine (toSus _ x.subs _ (HM.out.arg R2.out) hs.subs).mono ?_
  rintro e' W4 ⟨v', rfl, o', b'⟩
  obtain ⟨B2, d2, rfl⟩ := sliceSus o'.read
  obtain ⟨bl2, hm⟩ := HM.out.got o' b'
  clear o' b'
  replace HM := Lib.hid hm
  clear hm
  have ka0 := HM.out.cell (i := 4) (j := 0) rfl rfl
  have ka1 := HM.out.cell (i := 4) (j := 1) rfl rfl
  have ka2 := HM.out.cell (i := 4) (j := 2) rfl rfl
  have ka3 := HM.out.cell (i := 4) (j := 3) rfl rfl
  have ko0 := HM.out.cell (i := 1) (j := 0) rfl rfl
  have ko1 := HM.out.cell (i := 1) (j := 1) rfl rfl
  have ko2 := HM.out.cell (i := 1) (j := 2) rfl rfl
  have ko3 := HM.out.cell (i := 1) (j := 3) rfl rfl
  have fo : ∀ j, _ := fun j => HM.out.free (i := 1) (j := j) rfl
  have fo0 := fo 0
  have fo1 := fo 1
  have fo2 := fo 2
  have fo3 := fo 3
  clear fo
  obtain ⟨nro, nor⟩ := HM.out.ne (i := 1) (j := 3) rfl rfl (by omega)
  have kr0 := HM.out.cell (i := 3) (j := 0) rfl rfl
  have kr1 := HM.out.cell (i := 3) (j := 1) rfl rfl
  have kr2 := HM.out.cell (i := 3) (j := 2) rfl rfl
  have kr3 := HM.out.cell (i := 3) (j := 3) rfl rfl
  have fr : ∀ j, _ := fun j => HM.out.free (i := 3) (j := j) rfl
  have fr0 := fr 0
  have fr1 := fr 1
  have fr2 := fr 2
  have fr3 := fr 3
  clear fr
  go_wp2
  clear ka0 ka1 ka2 ka3 ko0 ko1 ko2 ko3 fo0 fo1 fo2 fo3 kr0 kr1 kr2 kr3 fr0 fr1 fr2 fr3
  have hm := HM.out.pk [1, 0, 2, 3, 4] (by decide) (by simp)
  simp only [low.pk, List.getElem?_cons_zero, List.getElem?_cons_succ] at hm
  replace HM := Lib.hid hm
  clear hm
  have hm := HM.out.set (j := 2) (.slice B2 x.subs.length d2)
  simp only [pa, pb, pc] at hm
  replace HM := Lib.hid hm
  clear hm
  have hm := HM.out.set (j := 3) (.int .i64 x.last)
  simp only [pa, pb, pc] at hm
  replace HM := Lib.hid hm
  clear hm
  have hm := HM.out.pk [3, 0, 1, 2, 4] (by decide) (by simp)
  simp only [low.pk, List.getElem?_cons_zero, List.getElem?_cons_succ] at hm
  replace HM := Lib.hid hm
  clear hm
  have hm := HM.out.putRow (ys := [.bool x.shut, .slice B1 x.docs.length d1, .slice B2 x.subs.length d2, .int .i64 x.last]) rfl
  simp only [low.putRow, Nat.zero_add, Nat.reduceAdd] at hm
  replace HM := Lib.hid hm
  clear hm
  obtain ⟨W5, hW, hm⟩ := HM.out.name
  rw [← hW]
  replace HM := Lib.hid hm
  clear hm hW
  have kr0 := HM.out.cell (i := 0) (j := 0) rfl rfl
  have kr1 := HM.out.cell (i := 0) (j := 1) rfl rfl
  have kr2 := HM.out.cell (i := 0) (j := 2) rfl rfl
  have kr3 := HM.out.cell (i := 0) (j := 3) rfl rfl
  have hm := HM.out.pk [2, 3, 0, 1, 4] (by decide) (by simp)
  simp only [low.pk, List.getElem?_cons_zero, List.getElem?_cons_succ] at hm
  replace HM := Lib.hid hm
  clear hm
  exact bodyPost_ret (v := .agg #[.bool x.shut, .slice B1 x.docs.length d1, .slice B2 x.subs.length d2, .int .i64 x.last]) (by simp [results, Tryz.results14, go_sem, kr0, kr1, kr2, kr3]) rfl (show Ms w (.dt (datHu x) (.agg #[.bool x.shut, .slice B1 x.docs.length d1, .slice B2 x.subs.length d2, .int .i64 x.last]) _ :: _) _ from ((HM.out.pk0.pkF rfl).pkO.pkO.pkF rfl)).post

set_option maxRecDepth 100000 in
set_option maxHeartbeats 1600000 in
theorem eqHu (v v' : Value) (x : Hu) (w : World) (h : RdC w w.heap.size (datHu x) v) (h' : RdC w w.heap.size (datHu x) v') (hs : SmHu x) : Calls Tryz.prog 16 #[v, v'] w (Tells true w) := by
  obtain ⟨A1, c1, A2, c2, rfl, r1, r2⟩ := aggHu h
  obtain ⟨B1, d1, B2, d2, rfl, s1, s2⟩ := aggHu h'
  obtain ⟨g1, g2, b0⟩ := two_boxes w #[.bool x.shut, .slice A1 x.docs.length c1, .slice A2 x.subs.length c2, .int .i64 x.last] #[.bool x.shut, .slice B1 x.docs.length d1, .slice B2 x.subs.length d2, .int .i64 x.last] 47
  have D0 : Below ((w.alloc (.cells #[.bool x.shut, .slice A1 x.docs.length c1, .slice A2 x.subs.length c2, .int .i64 x.last] 47)).alloc (.cells #[.bool x.shut, .slice B1 x.docs.length d1, .slice B2 x.subs.length d2, .int .i64 x.last] 47)).heap.size ((w.alloc (.cells #[.bool x.shut, .slice A1 x.docs.length c1, .slice A2 x.subs.length c2, .int .i64 x.last] 47)).alloc (.cells #[.bool x.shut, .slice B1 x.docs.length d1, .slice B2 x.subs.length d2, .int .i64 x.last] 47)) ((w.alloc (.cells #[.bool x.shut, .slice A1 x.docs.length c1, .slice A2 x.subs.length c2, .int .i64 x.last] 47)).alloc (.cells #[.bool x.shut, .slice B1 x.docs.length d1, .slice B2 x.subs.length d2, .int .i64 x.last] 47)) := Below.refl _ _
  have lt2 := lt_of_some g2
  have lt1 := lt_of_some g1
  have n0 : (x.shut != x.shut) = false := by simp
  have n3 : (x.last != x.last) = false := by simp
  go_enter Tryz.func16, Tryz.ntmps16
  go_wp2_with fail
  refine (eqDos _ _ x.docs _ ((r1.past b0).past D0) ((s1.past b0).past D0) hs.docs).mono ?_
  rintro e w1 ⟨rfl, k1⟩
  have D1 := D0.trans (k1.mono D0.size)
  clear k1
  have y2 : w1.cell? ⟨w.heap.size, 2, none⟩ = some (.slice A2 x.subs.length c2) := (D1.cell (p := ⟨w.heap.size, 2, none⟩) lt1).trans (bxcell g1 rfl)
  have z2 : w1.cell? ⟨w.heap.size + 1, 2, none⟩ = some (.slice B2 x.subs.length d2) := (D1.cell (p := ⟨w.heap.size + 1, 2, none⟩) lt2).trans (bxcell g2 rfl)
  go_wp2_with fail
  refine (eqSus _ _ x.subs _ ((r2.past b0).past D1) ((s2.past b0).past D1) hs.subs).mono ?_
  rintro e w2 ⟨rfl, k2⟩
  have D2 := D1.trans (k2.mono D1.size)
  clear k2
  have y3 : w2.cell? ⟨w.heap.size, 3, none⟩ = some (.int .i64 x.last) := (D2.cell (p := ⟨w.heap.size, 3, none⟩) lt1).trans (bxcell g1 rfl)
  have z3 : w2.cell? ⟨w.heap.size + 1, 3, none⟩ = some (.int .i64 x.last) := (D2.cell (p := ⟨w.heap.size + 1, 3, none⟩) lt2).trans (bxcell g2 rfl)
  go_wp2
  go_ret
  exact ⟨rfl, b0.trans (D2.mono b0.size)⟩

end Go.Proofs.YtninppjomdhnmaaGreat.low


/-
  A law's argument of the struct type Ring, and a slice of them, opened. Written by mkty.py.
-/
namespace Go.Proofs.YtninppjomdhnmaaGreat.low
open Go.RowKit Go.ChangeShapes Go.WideShapes Go.Deep
set_option linter.unusedVariables false
theorem cellsLRi : Tryz.prog.cellsOf 120 = 4 := by kernel_rfl
section
variable {H : Type} {enc : TypeId × Value → H} {w : World} {base : Nat} {spare : Nat → Bool} {held : Bool}
set_option maxRecDepth 100000 in
theorem open_dRi {fuel : Nat} {cs : List Value} {x : DataW H × List MemPlace} (h : DataW.trod enc Tryz.prog w base spare held fuel 120 cs = some x) :
    ∃ (r : Ri) (A3 : Option Addr) (c3 : Nat), cs = [.int .i64 r.cap, .int .i64 r.next, .bool r.out, .slice A3 r.list.length c3] ∧ RdC w w.heap.size (encEns r.list) (.slice A3 r.list.length c3) ∧ LimRi r := by
  obtain ⟨xs, n, _, _, hl, hxl, hf⟩ := DataW.trod_struct Tryz.underlying120 h
  rw [cellsLRi] at hl
  match cs, hl with
  | [k0, k1, k2, k3], _ =>
    match xs, hxl with
    | [y0, y1, y2, y3], _ =>
      have h0 := hf 0 _ rfl
      have h1 := hf 1 _ rfl
      have h2 := hf 2 _ rfl
      have h3 := hf 3 _ rfl
      simp [cellsInt] at h0
      simp [cellsInt] at h1
      simp [cellsBool] at h2
      simp [cellsLEns] at h3
      obtain ⟨z0, e0, _, _⟩ := DataW.trod_int Tryz.underlying3 h0
      obtain ⟨z1, e1, _, _⟩ := DataW.trod_int Tryz.underlying3 h1
      obtain ⟨z2, e2, _⟩ := DataW.trod_bool Tryz.underlying4 h2
      obtain ⟨z3, A3, c3, e3, r3, l3⟩ := open_dEns h3
      simp at e0 e1 e2 e3
      subst e0
      subst e1
      subst e2
      subst e3
      exact ⟨⟨z0, z1, z2, z3⟩, A3, c3, rfl, r3, l3⟩
end
end Go.Proofs.YtninppjomdhnmaaGreat.low


/-
  A law's argument of the struct type Sub, and a slice of them, opened. Written by mkty.py.
-/
namespace Go.Proofs.YtninppjomdhnmaaGreat.low
open Go.RowKit Go.ChangeShapes Go.WideShapes Go.Deep
set_option linter.unusedVariables false
theorem cellsLSu : Tryz.prog.cellsOf 122 = 6 := by kernel_rfl
theorem cellsLSus : Tryz.prog.cellsOf 39 = 1 := by kernel_rfl
section
variable {H : Type} {enc : TypeId × Value → H} {w : World} {base : Nat} {spare : Nat → Bool} {held : Bool}
set_option maxRecDepth 100000 in
theorem open_dSu {fuel : Nat} {cs : List Value} {x : DataW H × List MemPlace} (h : DataW.trod enc Tryz.prog w base spare held fuel 122 cs = some x) :
    ∃ (r : Su) (A5 : Option Addr) (c5 : Nat), cs = [.int .i64 r.id, .string r.doc, .int .i64 r.cap, .int .i64 r.next, .bool r.out, .slice A5 r.list.length c5] ∧ RdC w w.heap.size (encEns r.list) (.slice A5 r.list.length c5) ∧ LimSu r := by
  obtain ⟨xs, n, _, _, hl, hxl, hf⟩ := DataW.trod_struct Tryz.underlying122 h
  rw [cellsLSu] at hl
  match cs, hl with
  | [k0, k1, k2, k3, k4, k5], _ =>
    match xs, hxl with
    | [y0, y1, y2], _ =>
      have h0 := hf 0 _ rfl
      have h1 := hf 1 _ rfl
      have h2 := hf 2 _ rfl
      simp [cellsInt] at h0
      simp [cellsStr] at h1
      simp [cellsLRi] at h2
      obtain ⟨z0, e0, _, _⟩ := DataW.trod_int Tryz.underlying3 h0
      obtain ⟨z1, e1, _, l1⟩ := DataW.trod_string Tryz.underlying9 h1
      obtain ⟨z2, A5, c5, e2, r5, l5⟩ := open_dRi h2
      simp at e0 e1 e2
      obtain ⟨rfl, rfl, rfl, rfl⟩ := e2
      subst e0
      subst e1
      exact ⟨⟨z0, z1, z2.cap, z2.next, z2.out, z2.list⟩, A5, c5, rfl, r5, ⟨l1, l5⟩⟩
set_option maxRecDepth 100000 in
theorem open_dSus {fuel : Nat} {cs : List Value} {x : DataW H × List MemPlace} (h : DataW.trod enc Tryz.prog w base spare held fuel 39 cs = some x) :
    ∃ (l : List Su) (A : Option Addr) (c : Nat), cs = [.slice A l.length c] ∧ RdC w w.heap.size (encSus l) (.slice A l.length c) ∧ LimSus l := by
  rcases open_slice Tryz.underlying39 h with ⟨hcs, _⟩ | ⟨a, len, cap, m, n, D, Pl, hcs, _, hl, hm, hmm, _, hi⟩
  · exact ⟨[], none, 0, hcs, ⟨none, 0, rfl, Nat.le_refl _, fun hn => absurd hn (by simp)⟩, Nat.zero_le _, by simp⟩
  · have hlm : len ≤ m := by rw [hmm]; split <;> omega
    have hrow : ∀ i, i < len → ∃ p : Su, a.block < w.heap.size ∧ (0 < len → a.spot = none) ∧ RdL w w.heap.size a (i * 6) (encSu p) ∧ LimSu p := fun i hil => by
      have hs : a.spot = none := by
        obtain ⟨cs', hc, ht⟩ := hi 0 (by omega)
        obtain ⟨p, A5, c5, rfl, _⟩ := open_dSu ht
        rw [cellsLSu] at hc
        obtain ⟨_, _, hcell⟩ := World.cells?_some hc
        have k0 := hcell 0 (by omega)
        simp only [List.getElem?_cons_zero] at k0
        simpa [Addr.add] using World.cell?_spot k0
      obtain ⟨b, off, spot⟩ := a
      simp only at hs
      subst hs
      obtain ⟨cs', hc, ht⟩ := hi i (by omega)
      obtain ⟨p, A5, c5, rfl, r5, hz⟩ := open_dSu ht
      rw [cellsLSu] at hc
      obtain ⟨_, _, hcell⟩ := World.cells?_some hc
      have k0 := hcell 0 (by omega)
      have k1 := hcell 1 (by omega)
      have k2 := hcell 2 (by omega)
      have k3 := hcell 3 (by omega)
      have k4 := hcell 4 (by omega)
      have k5 := hcell 5 (by omega)
      simp only [List.getElem?_cons_zero, List.getElem?_cons_succ] at k0 k1 k2 k3 k4 k5
      rw [add_at, add_at] at k0 k1 k2 k3 k4 k5
      have hb := cell_lt k0
      refine ⟨p, hb, fun _ => rfl, ⟨⟨_, ?_, rfl⟩, ⟨_, ?_, rfl⟩, ⟨_, ?_, rfl⟩, ⟨_, ?_, rfl⟩, ⟨_, ?_, rfl⟩, ⟨_, ?_, r5⟩, trivial⟩, hz⟩
      · rw [add_at]; exact k0
      · rw [add_at]; exact k1
      · rw [add_at]; exact k2
      · rw [add_at]; exact k3
      · rw [add_at]; exact k4
      · rw [add_at]; exact k5
    obtain ⟨ps, e1, e2, e3⟩ := open_rows (α := Su) (f := encSu) (P := fun p => LimSu p ∧ (0 < len → a.spot = none)) (sz := 6) (e := 73) (w := w) (a := a) hl (fun hd => by
      rcases hd with hd | hd
      · cases hd
      · obtain ⟨p, _, hs, _⟩ := hrow 0 hd
        exact .inl (hs hd)) (fun i hil => by
      obtain ⟨p, h1, h2, h3, h4⟩ := hrow i hil
      exact ⟨p, h1, h3, h4, h2⟩)
    subst e1
    exact ⟨ps, some a, cap, hcs, e2, by omega, fun p hp => (e3 p hp).1⟩
end
end Go.Proofs.YtninppjomdhnmaaGreat.low


/-
  A law's argument of the struct type Hub, and a slice of them, opened. Written by mkty.py.
-/
namespace Go.Proofs.YtninppjomdhnmaaGreat.low
open Go.RowKit Go.ChangeShapes Go.WideShapes Go.Deep
set_option linter.unusedVariables false
theorem cellsLHu : Tryz.prog.cellsOf 41 = 4 := by kernel_rfl
section
variable {H : Type} {enc : TypeId × Value → H} {w : World} {base : Nat} {spare : Nat → Bool} {held : Bool}
set_option maxRecDepth 100000 in
theorem open_dHu {fuel : Nat} {cs : List Value} {x : DataW H × List MemPlace} (h : DataW.trod enc Tryz.prog w base spare held fuel 41 cs = some x) :
    ∃ (r : Hu) (A1 : Option Addr) (c1 : Nat) (A2 : Option Addr) (c2 : Nat), cs = [.bool r.shut, .slice A1 r.docs.length c1, .slice A2 r.subs.length c2, .int .i64 r.last] ∧ RdC w w.heap.size (encDos r.docs) (.slice A1 r.docs.length c1) ∧ RdC w w.heap.size (encSus r.subs) (.slice A2 r.subs.length c2) ∧ LimHu r := by
  obtain ⟨xs, n, _, _, hl, hxl, hf⟩ := DataW.trod_struct Tryz.underlying41 h
  rw [cellsLHu] at hl
  match cs, hl with
  | [k0, k1, k2, k3], _ =>
    match xs, hxl with
    | [y0, y1, y2, y3], _ =>
      have h0 := hf 0 _ rfl
      have h1 := hf 1 _ rfl
      have h2 := hf 2 _ rfl
      have h3 := hf 3 _ rfl
      simp [cellsBool] at h0
      simp [cellsLDos] at h1
      simp [cellsLSus] at h2
      simp [cellsInt] at h3
      obtain ⟨z0, e0, _⟩ := DataW.trod_bool Tryz.underlying4 h0
      obtain ⟨z1, A1, c1, e1, r1, l1⟩ := open_dDos h1
      obtain ⟨z2, A2, c2, e2, r2, l2⟩ := open_dSus h2
      obtain ⟨z3, e3, _, _⟩ := DataW.trod_int Tryz.underlying3 h3
      simp at e0 e1 e2 e3
      subst e0
      subst e1
      subst e2
      subst e3
      exact ⟨⟨z0, z1, z2, z3⟩, A1, c1, A2, c2, rfl, r1, r2, ⟨l1, l2⟩⟩
end
end Go.Proofs.YtninppjomdhnmaaGreat.low


/-
  What a ring of waiting entries answers, as mathematics.
-/
namespace Go.Proofs.YtninppjomdhnmaaGreat.low
open Go.RowKit
set_option linter.unusedVariables false

/-- a ring is valid -/
def ringB (x : Ri) : Bool := x.list.all entryB && (inB x.cap 1 6 && (inB x.next 1 1000000000 && (decide ((x.list.length : Int) ≤ x.cap) && (!x.out || decide ((x.list.length : Int) = 0)))))
theorem ringB_of {x : Ri} (h : ringB x = true) : x.list.all entryB = true ∧ 1 ≤ x.cap ∧ x.cap ≤ 6 ∧ 1 ≤ x.next ∧ x.next ≤ 1000000000 ∧ (x.list.length : Int) ≤ x.cap ∧ (x.out = true → x.list = []) := by
  unfold ringB inB at h
  simp only [Bool.and_eq_true, decide_eq_true_eq, Bool.or_eq_true, Bool.not_eq_true'] at h
  obtain ⟨h1, h2, h3, h4, h5⟩ := h
  refine ⟨h1, by omega, by omega, by omega, by omega, h4, fun ho => ?_⟩
  rcases h5 with h5 | h5
  · rw [ho] at h5; cases h5
  · exact List.eq_nil_of_length_eq_zero (by omega)
end Go.Proofs.YtninppjomdhnmaaGreat.low


/-
  What a hub of documents and subscribers answers, as mathematics.
-/
namespace Go.Proofs.YtninppjomdhnmaaGreat.low
open Go.RowKit
set_option linter.unusedVariables false

/-- strings that are the same, and the order of strings, as the model says them -/
def eqSt (a b : ByteArray) : Bool := a.toList == b.toList
def ltSt (a b : ByteArray) : Bool := Op.bytesLess a.toList b.toList
def ixInt : Option Nat → Int
  | none => -1
  | some i => (i : Int)
/-- the first document of a name, the first subscriber of a number -/
def docIx (l : List Do) (s : ByteArray) : Option Nat := l.findIdx? (fun d => eqSt d.name s)
def hubDocT (x : Hu) (s : ByteArray) : Int := ixInt (docIx x.docs s)
theorem ix_step {α : Type} {p : α → Bool} {l : List α} {j : Nat} {x : α} (h : l[j]? = some x) (hp : p x = false) (hi : ∀ i, i < j → ∀ y, l[i]? = some y → p y = false) : ∀ i, i < j + 1 → ∀ y, l[i]? = some y → p y = false := fun i hi' y hy => by
  rcases Nat.lt_or_ge i j with h1 | h1
  · exact hi i h1 y hy
  · obtain rfl : i = j := by omega
    rw [h] at hy
    injection hy with hy
    subst hy
    exact hp
theorem ix_found {α : Type} {p : α → Bool} : ∀ {l : List α} {j : Nat} {x : α}, l[j]? = some x → p x = true → (∀ i, i < j → ∀ y, l[i]? = some y → p y = false) → l.findIdx? p = some j
  | [], j, x, h, _, _ => by simp at h
  | y :: l, 0, x, h, hp, _ => by
    obtain rfl : y = x := by simpa using h
    rw [List.findIdx?_cons, if_pos hp]
  | y :: l, j + 1, x, h, hp, hi => by
    have h0 := hi 0 (by omega) y rfl
    rw [List.findIdx?_cons, if_neg (by rw [h0]; simp), ix_found (l := l) (j := j) (x := x) (by simpa using h) hp (fun i hi' z hz => hi (i + 1) (by omega) z (by simpa using hz))]
    rfl
theorem ix_none {α : Type} {p : α → Bool} {l : List α} (hi : ∀ i, i < l.length → ∀ y, l[i]? = some y → p y = false) : l.findIdx? p = none := by
  rw [List.findIdx?_eq_none_iff]
  intro x hx
  obtain ⟨i, hi', e⟩ := List.mem_iff_getElem.1 hx
  exact hi i hi' x (by rw [List.getElem?_eq_getElem hi', e])
theorem ix_lt {α : Type} {p : α → Bool} {l : List α} {k : Nat} (h : l.findIdx? p = some k) : k < l.length := by
  obtain ⟨h1, -⟩ := List.findIdx?_eq_some_iff_getElem.1 h
  exact h1
/-- the documents, behind one of the name p -/
def docsB : Option ByteArray → List Do → Bool
  | _, [] => true
  | p, d :: l => docB d && ((match p with | none => true | some q => ltSt q d.name) && docsB (some d.name) l)
/-- what a subscriber's ring is to its document -/
def fitB (docs : List Do) (s : Su) : Bool := match docIx docs s.doc with
  | none => false
  | some k => s.out || (match docs[k]? with | none => false | some d => decide (s.next + (s.list.length : Int) = headRevT d + 1))
def subsB (docs : List Do) (last : Int) : Int → List Su → Bool
  | _, [] => true
  | p, s :: l => inB s.id 1 last && (ringB (ringSu s) && (fitB docs s && (decide (p < s.id) && subsB docs last s.id l)))
def hubB (x : Hu) : Bool := decide (x.docs.length ≤ 5) && (decide (x.subs.length ≤ 6) && (inB x.last 0 1000000000 && (docsB none x.docs && subsB x.docs x.last 0 x.subs)))
/-- the name in front of the j-th document -/
def nameAt (l : List Do) : Nat → Option ByteArray
  | 0 => none
  | j + 1 => (l[j]?).map (·.name)
def idAt (l : List Su) : Nat → Int
  | 0 => 0
  | j + 1 => ((l[j]?).map (·.id)).getD 0
theorem docsB_step {l : List Do} {p : Option ByteArray} {j : Nat} {d : Do} (h : l[j]? = some d) : docsB p (l.drop j) = (docB d && ((match p with | none => true | some q => ltSt q d.name) && docsB (nameAt l (j + 1)) (l.drop (j + 1)))) := by
  obtain ⟨h1, e1⟩ := List.getElem?_eq_some_iff.1 h
  rw [List.drop_eq_getElem_cons h1, e1]
  show _ = (docB d && (_ && docsB ((l[j]?).map (·.name)) _))
  rw [h]
  rfl
theorem subsB_step {docs : List Do} {last p : Int} {l : List Su} {j : Nat} {s : Su} (h : l[j]? = some s) : subsB docs last p (l.drop j) = (inB s.id 1 last && (ringB (ringSu s) && (fitB docs s && (decide (p < s.id) && subsB docs last (idAt l (j + 1)) (l.drop (j + 1)))))) := by
  obtain ⟨h1, e1⟩ := List.getElem?_eq_some_iff.1 h
  rw [List.drop_eq_getElem_cons h1, e1]
  show _ = (_ && (_ && (_ && (_ && subsB docs last (((l[j]?).map (·.id)).getD 0) _))))
  rw [h]
  rfl
theorem docsB_all : ∀ {l : List Do} {p : Option ByteArray}, docsB p l = true → ∀ {j : Nat} {d : Do}, l[j]? = some d → docB d = true
  | [], _, _, j, d, h => by simp at h
  | y :: l, p, hb, 0, d, h => by
    obtain rfl : y = d := by simpa using h
    unfold docsB at hb
    rw [Bool.and_eq_true] at hb
    exact hb.1
  | y :: l, p, hb, j + 1, d, h => by
    unfold docsB at hb
    rw [Bool.and_eq_true, Bool.and_eq_true] at hb
    exact docsB_all (l := l) hb.2.2 (j := j) (by simpa using h)
theorem nameAt_of {l : List Do} {q : Nat} {d : Do} (h : l[q]? = some d) : nameAt l (q + 1) = some d.name := by
  show (l[q]?).map _ = _
  rw [h]
  rfl
theorem idAt_of {l : List Su} {q : Nat} {d : Su} (h : l[q]? = some d) : idAt l (q + 1) = d.id := by
  show ((l[q]?).map _).getD 0 = _
  rw [h]
  rfl
theorem fit_none {docs : List Do} {s : Su} (h : docIx docs s.doc = none) : fitB docs s = false := by
  unfold fitB
  rw [h]
theorem fit_some {docs : List Do} {s : Su} {k : Nat} {d : Do} (h : docIx docs s.doc = some k) (hd : docs[k]? = some d) : fitB docs s = (s.out || decide (s.next + (s.list.length : Int) = headRevT d + 1)) := by
  unfold fitB
  rw [h]
  show (_ || (match docs[k]? with | none => false | some d => _)) = _
  rw [hd]
theorem hubDoc_neg {x : Hu} {s : ByteArray} {k : Int} (h : hubDocT x s = k) (hn : k < 0) : docIx x.docs s = none := by
  unfold hubDocT at h
  cases hk : docIx x.docs s with
  | none => rfl
  | some i =>
    rw [hk] at h
    have h : (i : Int) = k := h
    omega
theorem hubDoc_pos {x : Hu} {s : ByteArray} {k : Int} (h : hubDocT x s = k) (hn : ¬ k < 0) : ∃ i : Nat, k = (i : Int) ∧ docIx x.docs s = some i ∧ i < x.docs.length := by
  unfold hubDocT at h
  cases hk : docIx x.docs s with
  | none =>
    rw [hk] at h
    have h : (-1 : Int) = k := h
    omega
  | some i =>
    rw [hk] at h
    exact ⟨i, h.symm, rfl, ix_lt hk⟩
theorem docsOk_rev {d : Do} (h : docB d = true) : 0 ≤ headRevT d ∧ headRevT d ≤ 1000000000 := by
  obtain ⟨f0, f1, f2, f3⟩ := docB_of h
  rw [f3]
  omega
end Go.Proofs.YtninppjomdhnmaaGreat.low


/-
  Contracts of spec.RingOk, RingNew, RingLag, RingResync and l10Copy. Written by mkring.py.
-/
namespace Go.Proofs.YtninppjomdhnmaaGreat.low
open Go.RowKit
set_option linter.unusedVariables false

set_option maxRecDepth 100000 in
set_option maxHeartbeats 3200000 in
theorem specRingOk_d (v : Value) (x : Ri) (w : World) (h : RdC w w.heap.size (datRi x) v) (hs : SmRi x) : Calls Tryz.prog 43 #[v] w (Tells (ringB x) w) := by
  have HR := Lib.hid h
  obtain ⟨A3, c3, rfl, r3⟩ := aggRi h
  have R3 := Lib.hid r3
  have hl := hs.list.len
  clear h r3
  have HM := Lib.hid (Ms.start w)
  replace HM := Lib.hid (HM.out.new #[.int .i64 x.cap, .int .i64 x.next, .bool x.out, .slice A3 x.list.length c3] 71)
  go_enter Tryz.func43, Tryz.ntmps43
  go_wp2_with fail
  obtain ⟨W1, hW, hm⟩ := HM.out.name
  rw [← hW]
  replace HM := Lib.hid hm
  clear hm hW
  go_loopw [8] (fun i wr => ∃ j : Nat, j ≤ x.list.length ∧ i = .int .i64 (j : Int) ∧ (x.list.take j).all entryB = true ∧ Ms w [.bx w.heap.size (.cells #[.int .i64 x.cap, .int .i64 x.next, .bool x.out, .slice A3 x.list.length c3] 71 (0, 0))] wr) (fun i _ => x.list.length - (intOf i).toNat)
  case atStart => exact ⟨0, Nat.zero_le _, rfl, by simp, HM.out⟩
  case round =>
    obtain ⟨j, hj, rfl, hi, hm⟩ := hrel
    clear HM
    have HM := Lib.hid hm
    have HI := Lib.hid hi
    clear hm hi
    by_cases hlt : j < x.list.length
    · obtain ⟨b, off, e, A5, c5, rfl, hbb, hp, y0, y1, y2, q2⟩ := atEns R3.out hlt
      have x0 := (HM.out.bl.cell (p := ⟨b, off + j * 3, none⟩) hbb).trans y0
      have x1 := (HM.out.bl.cell (p := ⟨b, off + j * 3 + 1, none⟩) hbb).trans y1
      have x2 := (HM.out.bl.cell (p := ⟨b, off + j * 3 + 2, none⟩) hbb).trans y2
      clear y0 y1 y2
      have hse := hs.list.at_ (List.mem_of_getElem? hp)
      have HT := Lib.hid (show (x.list.take (j + 1)).all entryB = entryB e by rw [List.take_add_one, hp, List.all_append, HI.out]; simp)
      have HF := Lib.hid (show entryB e = false → x.list.all entryB = false from fun e1 => Bool.eq_false_iff.2 (fun e2 => by rw [List.all_eq_true.1 e2 e (List.mem_of_getElem? hp)] at e1; cases e1))
      clear hp
      replace HM := Lib.hid (HM.out.new #[.int .i64 e.client, .int .i64 e.seq, .slice A5 e.o.length c5] 98)
      go_wp2_with fail
      obtain ⟨W2, hW, hm⟩ := HM.out.name
      rw [← hW]
      replace HM := Lib.hid hm
      clear hm hW
      refine (specEntryOk_d _ e _ (rdEn e (HM.out.arg q2)) hse).mono ?_
      rintro e' W3 ⟨rfl, b'⟩
      replace HM := Lib.hid (HM.out.past b')
      clear b'
      clear x0 x1 x2 hse
      cases h1 : entryB e
      · go_wp2
        go_ret
        exact ⟨ret_b (by unfold ringB; rw [HF.out h1]; rfl), HM.out.bl⟩
      go_wp2
      go_roundw
      case rel => exact ⟨j + 1, by omega, by go_num, by rw [HT.out, h1], HM.out.pick (ks := [1]) (by decide) rfl⟩
      case measure => simp [intOf]; omega
    · obtain rfl : j = x.list.length := by omega
      have HI2 := Lib.hid (show x.list.all entryB = true by have := HI.out; rwa [List.take_length] at this)
      clear HI
      obtain ⟨kx0, kx1, kx2, kx3⟩ := HM.out.c4 0 rfl
      go_wp2_with fail
      refine (in_any _ _ _ _).mono ?_
      rintro e w1 ⟨rfl, rfl⟩
      cases h1 : inB x.cap 1 6
      · go_wp2
        go_ret
        exact ⟨ret_b (by unfold ringB; rw [HI2.out, h1]; rfl), HM.out.bl⟩
      go_wp2_with fail
      refine (in_any _ _ _ _).mono ?_
      rintro e w1 ⟨rfl, rfl⟩
      cases h2 : inB x.next 1 1000000000
      · go_wp2
        go_ret
        exact ⟨ret_b (by unfold ringB; rw [HI2.out, h1, h2]; rfl), HM.out.bl⟩
      by_cases h3 : (x.list.length : Int) ≤ x.cap
      rotate_left
      · have g3 : decide ((x.list.length : Int) ≤ x.cap) = false := decide_eq_false h3
        go_wp2
        go_ret
        exact ⟨ret_b (by unfold ringB; rw [HI2.out, h1, h2, g3]; rfl), HM.out.bl⟩
      have g3 : decide ((x.list.length : Int) ≤ x.cap) = true := decide_eq_true h3
      cases h4 : x.out
      · rw [h4] at kx2
        go_wp2
        go_ret
        exact ⟨ret_b (by unfold ringB; rw [HI2.out, h1, h2, g3, h4]; rfl), HM.out.bl⟩
      rw [h4] at kx2
      have HQ := Lib.hid (show ringB x = decide ((x.list.length : Int) = 0) by unfold ringB; rw [HI2.out, h1, h2, g3, h4]; rfl)
      by_cases h5 : x.list.length = 0
      · have g5 : ((x.list.length : Int) == 0) = true := by simp [h5]
        have HQ2 := Lib.hid (show ringB x = true by rw [HQ.out]; simp [h5])
        clear h5
        go_wp2
        go_ret
        exact ⟨ret_b HQ2.out.symm, HM.out.bl⟩
      have g5 : ((x.list.length : Int) == 0) = false := by rw [beq_eq_false_iff_ne]; omega
      have HQ2 := Lib.hid (show ringB x = false by rw [HQ.out]; exact decide_eq_false (by omega))
      clear h5
      go_wp2
      go_ret
      exact ⟨ret_b HQ2.out.symm, HM.out.bl⟩
end Go.Proofs.YtninppjomdhnmaaGreat.low


/-
  Contract of spec.RingSame. Written by mkring3.py.
-/
namespace Go.Proofs.YtninppjomdhnmaaGreat.low
open Go.RowKit
set_option linter.unusedVariables false

end Go.Proofs.YtninppjomdhnmaaGreat.low


/-
  Contracts of spec.HubDoc, HubSub and HubSame. Written by mkhub1.py.
-/
namespace Go.Proofs.YtninppjomdhnmaaGreat.low
open Go.RowKit
set_option linter.unusedVariables false

set_option maxRecDepth 100000 in
set_option maxHeartbeats 3200000 in
theorem specHubDoc_d (v : Value) (x : Hu) (s : ByteArray) (w : World) (h : RdC w w.heap.size (datHu x) v) (hs : SmHu x) : Calls Tryz.prog 42 #[v, .string s] w (Nums1 (hubDocT x s) w) := by
  have HR := Lib.hid h
  obtain ⟨A1, ca, A2, cb, rfl, r1, r2⟩ := aggHu h
  have R1 := Lib.hid r1
  have R2 := Lib.hid r2
  have hl1 := hs.docs.len
  have hl2 := hs.subs.len
  clear h r1 r2
  have HM := Lib.hid (Ms.start w)
  replace HM := Lib.hid (HM.out.new #[.bool x.shut, .slice A1 x.docs.length ca, .slice A2 x.subs.length cb, .int .i64 x.last] 47)
  go_enter Tryz.func42, Tryz.ntmps42
  go_wp2_with fail
  obtain ⟨W1, hW, hm⟩ := HM.out.name
  rw [← hW]
  replace HM := Lib.hid hm
  clear hm hW
  go_loopw [10] (fun i wr => ∃ j : Nat, j ≤ x.docs.length ∧ i = .int .i64 (j : Int) ∧ (∀ i, i < j → ∀ y, x.docs[i]? = some y → eqSt y.name s = false) ∧ Ms w [.bx w.heap.size (.cells #[.bool x.shut, .slice A1 x.docs.length ca, .slice A2 x.subs.length cb, .int .i64 x.last] 47 (0, 0))] wr) (fun i _ => x.docs.length - (intOf i).toNat)
  case atStart => exact ⟨0, Nat.zero_le _, rfl, fun i hi => absurd hi (Nat.not_lt_zero _), HM.out⟩
  case round =>
    obtain ⟨j, hj, rfl, hi, hm⟩ := hrel
    clear HM
    have HM := Lib.hid hm
    have HI := Lib.hid hi
    clear hm hi
    by_cases hlt : j < x.docs.length
    · obtain ⟨b, off, y, C2, c2, C3, c3, C4, c4, rfl, hbb, hp, y0, y1, y2, y3, y4, q2, q3, q4⟩ := atDos R1.out hlt
      have x0 := (HM.out.bl.cell (p := ⟨b, off + j * 5, none⟩) hbb).trans y0
      have x1 := (HM.out.bl.cell (p := ⟨b, off + j * 5 + 1, none⟩) hbb).trans y1
      have x2 := (HM.out.bl.cell (p := ⟨b, off + j * 5 + 2, none⟩) hbb).trans y2
      have x3 := (HM.out.bl.cell (p := ⟨b, off + j * 5 + 3, none⟩) hbb).trans y3
      have x4 := (HM.out.bl.cell (p := ⟨b, off + j * 5 + 4, none⟩) hbb).trans y4
      clear y0 y1 y2 y3 y4
      have HP := Lib.hid hp
      clear hp
      replace HM := Lib.hid (HM.out.new #[.string y.name, .int .i64 y.from_, .slice C2 y.text.length c2, .slice C3 y.list.length c3, .slice C4 y.seen.length c4] 31)
      rcases (show (y.name.toList == s.toList) = true ∨ (y.name.toList == s.toList) = false by cases (y.name.toList == s.toList) <;> simp) with h1 | h1
      · have HF := Lib.hid (show docIx x.docs s = some j from ix_found HP.out h1 HI.out)
        go_wp2
        go_ret
        exact ⟨ret_i (by show _ = ixInt (docIx x.docs s); rw [HF.out]; rfl), (HM.out).bl⟩
      have HI2 := Lib.hid (ix_step (p := fun y : Do => eqSt y.name s) HP.out h1 HI.out)
      go_wp2
      go_roundw
      case rel => exact ⟨j + 1, by omega, by go_num, HI2.out, HM.out.pick (ks := [1]) (by decide) rfl⟩
      case measure => simp [intOf]; omega
    · have HF := Lib.hid (show docIx x.docs s = none from ix_none (fun i hi y hy => HI.out i (by omega) y hy))
      go_wp2
      go_ret
      exact ⟨ret_i (by show _ = ixInt (docIx x.docs s); rw [HF.out]; rfl), HM.out.bl⟩
end Go.Proofs.YtninppjomdhnmaaGreat.low


/-
  Contract of spec.HubOk. Written by mkhub3.py.
-/
namespace Go.Proofs.YtninppjomdhnmaaGreat.low
open Go.RowKit
set_option linter.unusedVariables false

set_option maxRecDepth 100000 in
set_option maxHeartbeats 3200000 in
theorem specHubOk_d (v : Value) (x : Hu) (w : World) (h : RdC w w.heap.size (datHu x) v) (hs : SmHu x) : Calls Tryz.prog 13 #[v] w (Tells (hubB x) w) := by
  have HR := Lib.hid h
  obtain ⟨A1, ca, A2, cb, rfl, r1, r2⟩ := aggHu h
  have R1 := Lib.hid r1
  have R2 := Lib.hid r2
  have hl1 := hs.docs.len
  have hl2 := hs.subs.len
  clear h r1 r2
  have HM := Lib.hid (Ms.start w)
  replace HM := Lib.hid (HM.out.new #[.bool x.shut, .slice A1 x.docs.length ca, .slice A2 x.subs.length cb, .int .i64 x.last] 47)
  go_enter Tryz.func13, Tryz.ntmps13
  have HD := Lib.hid (show hubB x = (decide (x.docs.length ≤ 5) && (decide (x.subs.length ≤ 6) && (inB x.last 0 1000000000 && (docsB none x.docs && subsB x.docs x.last 0 x.subs)))) from rfl)
  by_cases e0 : x.docs.length ≤ 5
  rotate_left
  · have g0 : decide ((5 : Int) < (x.docs.length : Int)) = true := decide_eq_true (by omega)
    have HE := Lib.hid (show hubB x = false by rw [HD.out, decide_eq_false e0]; rfl)
    clear e0
    go_wp2
    go_ret
    exact ⟨ret_b HE.out.symm, HM.out.bl⟩
  have g0 : decide ((5 : Int) < (x.docs.length : Int)) = false := decide_eq_false (by omega)
  have E0 := Lib.hid (decide_eq_true e0)
  have L0 := Lib.hid e0
  clear e0
  by_cases e1 : x.subs.length ≤ 6
  rotate_left
  · have g1 : decide ((6 : Int) < (x.subs.length : Int)) = true := decide_eq_true (by omega)
    have HE := Lib.hid (show hubB x = false by rw [HD.out, E0.out, Bool.true_and, decide_eq_false e1]; rfl)
    clear e1
    go_wp2
    go_ret
    exact ⟨ret_b HE.out.symm, HM.out.bl⟩
  have g1 : decide ((6 : Int) < (x.subs.length : Int)) = false := decide_eq_false (by omega)
  have E1 := Lib.hid (decide_eq_true e1)
  have L1 := Lib.hid e1
  clear e1
  go_wp2_with fail
  clear g0 g1
  obtain ⟨W1, hW, hm⟩ := HM.out.name
  rw [← hW]
  replace HM := Lib.hid hm
  clear hm hW
  refine (in_any _ _ _ _).mono ?_
  rintro e w9 ⟨rfl, rfl⟩
  cases h1 : inB x.last 0 1000000000
  · have HE := Lib.hid (show hubB x = false by rw [HD.out, E0.out, E1.out, h1]; rfl)
    go_wp2
    go_ret
    exact ⟨ret_b HE.out.symm, HM.out.bl⟩
  obtain ⟨kx0, kx1, kx2, kx3⟩ := HM.out.c4 0 rfl
  have HD2 := Lib.hid (show hubB x = (docsB none x.docs && subsB x.docs x.last 0 x.subs) by rw [HD.out, E0.out, E1.out, h1]; rfl)
  have HLA := Lib.hid h1
  clear HD E0 E1 h1
  go_wp2_with fail
  clear kx0 kx1 kx2 kx3
  go_loopw [27] (fun i wr => ∃ j : Nat, j ≤ x.docs.length ∧ i = .int .i64 (j : Int) ∧ docsB none x.docs = docsB (nameAt x.docs j) (x.docs.drop j) ∧ Ms w [.bx w.heap.size (.cells #[.bool x.shut, .slice A1 x.docs.length ca, .slice A2 x.subs.length cb, .int .i64 x.last] 47 (0, 0))] wr) (fun i _ => x.docs.length - (intOf i).toNat)
  case atStart => exact ⟨0, Nat.zero_le _, rfl, by simp [nameAt], HM.out⟩
  case round =>
    obtain ⟨j, hj, rfl, hi, hm⟩ := hrel
    clear HM
    have HM := Lib.hid hm
    have HI := Lib.hid hi
    clear hm hi
    by_cases hlt : j < x.docs.length
    · obtain ⟨b, off, e, C2, c2, C3, c3, C4, c4, rfl, hbb, hp, y0, y1, y2, y3, y4, q2, q3, q4⟩ := atDos R1.out hlt
      have x0 := (HM.out.bl.cell (p := ⟨b, off + j * 5, none⟩) hbb).trans y0
      have x1 := (HM.out.bl.cell (p := ⟨b, off + j * 5 + 1, none⟩) hbb).trans y1
      have x2 := (HM.out.bl.cell (p := ⟨b, off + j * 5 + 2, none⟩) hbb).trans y2
      have x3 := (HM.out.bl.cell (p := ⟨b, off + j * 5 + 3, none⟩) hbb).trans y3
      have x4 := (HM.out.bl.cell (p := ⟨b, off + j * 5 + 4, none⟩) hbb).trans y4
      clear y0 y1 y2 y3 y4
      have hse := hs.docs.at_ (List.mem_of_getElem? hp)
      have HS := Lib.hid (docsB_step (p := nameAt x.docs j) hp)
      have HP := Lib.hid hp
      clear hp
      have Q2h := Lib.hid q2
      clear q2
      have Q3h := Lib.hid q3
      clear q3
      have Q4h := Lib.hid q4
      clear q4
      replace HM := Lib.hid (HM.out.new #[.string e.name, .int .i64 e.from_, .slice C2 e.text.length c2, .slice C3 e.list.length c3, .slice C4 e.seen.length c4] 31)
      go_wp2
      clear x0 x1 x2 x3 x4
      obtain ⟨W2, hW, hm⟩ := HM.out.name
      rw [← hW]
      replace HM := Lib.hid hm
      clear hm hW
      rcases (show docB e = false ∨ docB e = true by cases docB e <;> simp) with h1 | h1
      · have HE := Lib.hid (show hubB x = false by rw [HD2.out, HI.out, HS.out, h1]; rfl)
        replace h1 := Lib.hid h1
        replace HM := Lib.hid (HM.out.drew)
        refine wp_region_held_drew (S := fun W => Ms w [.bx wr.heap.size (.cells #[.string e.name, .int .i64 e.from_, .slice C2 e.text.length c2, .slice C3 e.list.length c3, .slice C4 e.seen.length c4] 31 (0, 0)), .bx w.heap.size (.cells #[.bool x.shut, .slice (some ⟨b, off, none⟩) x.docs.length ca, .slice A2 x.subs.length cb, .int .i64 x.last] 47 (0, 0))] W) (by kernel_rfl) (HM.out.pick (ks := [0, 1]) (by decide) rfl) (fun hS => ?_)
        generalize W2.drew = W3 at HM hS  ⊢
        refine tk (v := ?_) 0 32 rfl (fun w' hS' => ?_) hS ?_
        rotate_left
        · (try dsimp only at hS'); have q0 := hS'.cell (i := 0) (j := 0) rfl rfl; have q1 := hS'.cell (i := 0) (j := 1) rfl rfl; have q2 := hS'.cell (i := 0) (j := 2) rfl rfl; have q3 := hS'.cell (i := 0) (j := 3) rfl rfl; have q4 := hS'.cell (i := 0) (j := 4) rfl rfl; have p0 := hS'.cell (i := 1) (j := 0) rfl rfl; have p1 := hS'.cell (i := 1) (j := 1) rfl rfl; have p2 := hS'.cell (i := 1) (j := 2) rfl rfl; have p3 := hS'.cell (i := 1) (j := 3) rfl rfl; go_simp; all_goals (with_reducible rfl)
        try simp only [Act.put, pa, pb, pc]
        refine r1 1 (some 33) rfl (fun K hK => ?_)
        go_simp
        refine (specDocOk_d _ e _ (rdDo e (HM.out.arg Q2h.out) (HM.out.arg Q3h.out) (HM.out.arg Q4h.out)) hse).mono ?_
        rw [h1.out]
        rintro e' W4 ⟨rfl, b'⟩
        replace HM := Lib.hid (HM.out.past b')
        clear b'
        clear hS
        refine hK.out _ _ (HM.out.pick (ks := [0, 1]) (by decide) rfl) (fun hS => ?_)
        clear hK K
        try simp only [Act.put, pa, pb, pc]
        refine tk (v := ?_) 2 34 rfl (fun w' hS' => ?_) hS ?_
        rotate_left
        · go_simp; all_goals (with_reducible rfl)
        try simp only [Act.put, pa, pb, pc]
        refine tk (v := ?_) 3 35 rfl (fun w' hS' => ?_) hS ?_
        rotate_left
        · go_simp; all_goals (with_reducible rfl)
        try simp only [Act.put, pa, pb, pc]
        refine tu 4 36 rfl hS ?_
        try simp only [Act.put, pa, pb, pc]
        refine tu 5 37 rfl hS ?_
        try simp only [Act.put, pa, pb, pc]
        refine tu 6 38 rfl hS ?_
        try simp only [Act.put, pa, pb, pc]
        refine tu 7 39 rfl hS ?_
        try simp only [Act.put, pa, pb, pc]
        refine tu 8 40 rfl hS ?_
        try simp only [Act.put, pa, pb, pc]
        refine tu 9 41 rfl hS ?_
        try simp only [Act.put, pa, pb, pc]
        refine tu 10 42 rfl hS ?_
        try simp only [Act.put, pa, pb, pc]
        refine tu 11 43 rfl hS ?_
        try simp only [Act.put, pa, pb, pc]
        refine tu 12 44 rfl hS ?_
        try simp only [Act.put, pa, pb, pc]
        refine tu 13 45 rfl hS ?_
        try simp only [Act.put, pa, pb, pc]
        refine tu 14 46 rfl hS ?_
        try simp only [Act.put, pa, pb, pc]
        refine tu 15 47 rfl hS ?_
        try simp only [Act.put, pa, pb, pc]
        refine tu 16 48 rfl hS ?_
        try simp only [Act.put, pa, pb, pc]
        refine tu 17 49 rfl hS ?_
        try simp only [Act.put, pa, pb, pc]
        refine tk (v := ?_) 18 50 rfl (fun w' hS' => ?_) hS ?_
        rotate_left
        · go_simp; all_goals (with_reducible rfl)
        try simp only [Act.put, pa, pb, pc]
        refine wpAnyH_done (by kernel_rfl) ?_ _
        clear hS
        go_wp2
        go_ret
        exact ⟨ret_b HE.out.symm, HM.out.bl⟩
      replace h1 := Lib.hid h1
      by_cases h2 : j = 0
      · have g2 : decide (0 < j) = false := decide_eq_false (by omega)
        have HN := Lib.hid (show nameAt x.docs j = none by rw [h2]; rfl)
        clear h2
        replace HM := Lib.hid (HM.out.drew)
        refine wp_region_held_drew (S := fun W => Ms w [.bx wr.heap.size (.cells #[.string e.name, .int .i64 e.from_, .slice C2 e.text.length c2, .slice C3 e.list.length c3, .slice C4 e.seen.length c4] 31 (0, 0)), .bx w.heap.size (.cells #[.bool x.shut, .slice (some ⟨b, off, none⟩) x.docs.length ca, .slice A2 x.subs.length cb, .int .i64 x.last] 47 (0, 0))] W) (by kernel_rfl) (HM.out.pick (ks := [0, 1]) (by decide) rfl) (fun hS => ?_)
        generalize W2.drew = W5 at HM hS  ⊢
        refine tk (v := ?_) 0 32 rfl (fun w' hS' => ?_) hS ?_
        rotate_left
        · (try dsimp only at hS'); have q0 := hS'.cell (i := 0) (j := 0) rfl rfl; have q1 := hS'.cell (i := 0) (j := 1) rfl rfl; have q2 := hS'.cell (i := 0) (j := 2) rfl rfl; have q3 := hS'.cell (i := 0) (j := 3) rfl rfl; have q4 := hS'.cell (i := 0) (j := 4) rfl rfl; have p0 := hS'.cell (i := 1) (j := 0) rfl rfl; have p1 := hS'.cell (i := 1) (j := 1) rfl rfl; have p2 := hS'.cell (i := 1) (j := 2) rfl rfl; have p3 := hS'.cell (i := 1) (j := 3) rfl rfl; go_simp; all_goals (with_reducible rfl)
        try simp only [Act.put, pa, pb, pc]
        refine r1 1 (some 33) rfl (fun K hK => ?_)
        go_simp
        refine (specDocOk_d _ e _ (rdDo e (HM.out.arg Q2h.out) (HM.out.arg Q3h.out) (HM.out.arg Q4h.out)) hse).mono ?_
        rw [h1.out]
        rintro e' W6 ⟨rfl, b'⟩
        replace HM := Lib.hid (HM.out.past b')
        clear b'
        clear hS
        refine hK.out _ _ (HM.out.pick (ks := [0, 1]) (by decide) rfl) (fun hS => ?_)
        clear hK K
        try simp only [Act.put, pa, pb, pc]
        refine tk (v := ?_) 2 34 rfl (fun w' hS' => ?_) hS ?_
        rotate_left
        · go_simp; all_goals (with_reducible rfl)
        try simp only [Act.put, pa, pb, pc]
        refine tk (v := ?_) 3 35 rfl (fun w' hS' => ?_) hS ?_
        rotate_left
        · go_simp; all_goals (with_reducible rfl)
        try simp only [Act.put, pa, pb, pc]
        refine tk (v := ?_) 4 36 rfl (fun w' hS' => ?_) hS ?_
        rotate_left
        · go_simp; all_goals (with_reducible rfl)
        try simp only [Act.put, pa, pb, pc]
        refine tk (v := ?_) 5 37 rfl (fun w' hS' => ?_) hS ?_
        rotate_left
        · go_simp; all_goals (with_reducible rfl)
        try simp only [Act.put, pa, pb, pc]
        try rw [g2]
        refine tk (v := ?_) 6 38 rfl (fun w' hS' => ?_) hS ?_
        rotate_left
        · go_simp; all_goals (with_reducible rfl)
        try simp only [Act.put, pa, pb, pc]
        refine tu 7 39 rfl hS ?_
        try simp only [Act.put, pa, pb, pc]
        refine tu 8 40 rfl hS ?_
        try simp only [Act.put, pa, pb, pc]
        refine tu 9 41 rfl hS ?_
        try simp only [Act.put, pa, pb, pc]
        refine tu 10 42 rfl hS ?_
        try simp only [Act.put, pa, pb, pc]
        refine tu 11 43 rfl hS ?_
        try simp only [Act.put, pa, pb, pc]
        refine tu 12 44 rfl hS ?_
        try simp only [Act.put, pa, pb, pc]
        refine tu 13 45 rfl hS ?_
        try simp only [Act.put, pa, pb, pc]
        refine tu 14 46 rfl hS ?_
        try simp only [Act.put, pa, pb, pc]
        refine tu 15 47 rfl hS ?_
        try simp only [Act.put, pa, pb, pc]
        refine tu 16 48 rfl hS ?_
        try simp only [Act.put, pa, pb, pc]
        refine tk (v := ?_) 17 49 rfl (fun w' hS' => ?_) hS ?_
        rotate_left
        · go_simp; all_goals (with_reducible rfl)
        try simp only [Act.put, pa, pb, pc]
        refine tk (v := ?_) 18 50 rfl (fun w' hS' => ?_) hS ?_
        rotate_left
        · go_simp; all_goals (with_reducible rfl)
        try simp only [Act.put, pa, pb, pc]
        refine wpAnyH_done (by kernel_rfl) ?_ _
        clear hS
        have HJ := Lib.hid (show docsB none x.docs = docsB (nameAt x.docs (j + 1)) (x.docs.drop (j + 1)) by rw [HI.out, HS.out, h1.out, HN.out, Bool.true_and, Bool.true_and])
        go_wp2
        go_roundw
        case rel => exact ⟨j + 1, by omega, by go_num, HJ.out, HM.out.pick (ks := [1]) (by decide) rfl⟩
        case measure => simp [intOf]; omega
      have g2 : decide (0 < j) = true := decide_eq_true (by omega)
      obtain ⟨q, hq⟩ : ∃ q, j = q + 1 := ⟨j - 1, by omega⟩
      obtain ⟨b2, off2, p, D2, d2, D3, d3, D4, d4, hA2, hb2, hp2, z0, z1, z2, z3, z4, -, -, -⟩ := atDos R1.out (i := q) (by omega)
      injection hA2 with hA2
      injection hA2 with hA3 hA4
      subst hA3 hA4
      have HN := Lib.hid (show nameAt x.docs j = some p.name by rw [hq]; exact nameAt_of hp2)
      have hw : IntKind.i64.wrap (q : Int) = (q : Int) := IntWalk.i64_in _ (by omega)
      have hw0 : IntKind.i64.wrap ((j : Int) - 1) = (q : Int) := (IntWalk.i64_in _ (by omega)).trans (by omega)
      have hqj : q < x.docs.length := by omega
      clear h2 hp2 z1 z2 z3 z4
      rcases (show ltSt p.name e.name = false ∨ ltSt p.name e.name = true by cases ltSt p.name e.name <;> simp) with h3 | h3
      · have g3 : Op.bytesLess p.name.toList e.name.toList = false := h3
        have HE := Lib.hid (show hubB x = false by rw [HD2.out, HI.out, HS.out, h1.out, HN.out]; show (true && (ltSt p.name e.name && _) && _) = false; rw [h3]; rfl)
        clear h3
        replace HM := Lib.hid (HM.out.drew)
        refine wp_region_held_drew (S := fun W => Ms w [.bx wr.heap.size (.cells #[.string e.name, .int .i64 e.from_, .slice C2 e.text.length c2, .slice C3 e.list.length c3, .slice C4 e.seen.length c4] 31 (0, 0)), .bx w.heap.size (.cells #[.bool x.shut, .slice (some ⟨b, off, none⟩) x.docs.length ca, .slice A2 x.subs.length cb, .int .i64 x.last] 47 (0, 0))] W) (by kernel_rfl) (HM.out.pick (ks := [0, 1]) (by decide) rfl) (fun hS => ?_)
        generalize W2.drew = W7 at HM hS  ⊢
        refine tk (v := ?_) 0 32 rfl (fun w' hS' => ?_) hS ?_
        rotate_left
        · (try dsimp only at hS'); have q0 := hS'.cell (i := 0) (j := 0) rfl rfl; have q1 := hS'.cell (i := 0) (j := 1) rfl rfl; have q2 := hS'.cell (i := 0) (j := 2) rfl rfl; have q3 := hS'.cell (i := 0) (j := 3) rfl rfl; have q4 := hS'.cell (i := 0) (j := 4) rfl rfl; have p0 := hS'.cell (i := 1) (j := 0) rfl rfl; have p1 := hS'.cell (i := 1) (j := 1) rfl rfl; have p2 := hS'.cell (i := 1) (j := 2) rfl rfl; have p3 := hS'.cell (i := 1) (j := 3) rfl rfl; have r0 := (hS'.bl.cell (p := ⟨b, off + q * 5, none⟩) hb2).trans z0; go_simp; all_goals (with_reducible rfl)
        try simp only [Act.put, pa, pb, pc]
        refine r1 1 (some 33) rfl (fun K hK => ?_)
        go_simp
        refine (specDocOk_d _ e _ (rdDo e (HM.out.arg Q2h.out) (HM.out.arg Q3h.out) (HM.out.arg Q4h.out)) hse).mono ?_
        rw [h1.out]
        rintro e' W8 ⟨rfl, b'⟩
        replace HM := Lib.hid (HM.out.past b')
        clear b'
        clear hS
        refine hK.out _ _ (HM.out.pick (ks := [0, 1]) (by decide) rfl) (fun hS => ?_)
        clear hK K
        try simp only [Act.put, pa, pb, pc]
        refine tk (v := ?_) 2 34 rfl (fun w' hS' => ?_) hS ?_
        rotate_left
        · go_simp; all_goals (with_reducible rfl)
        try simp only [Act.put, pa, pb, pc]
        refine tk (v := ?_) 3 35 rfl (fun w' hS' => ?_) hS ?_
        rotate_left
        · go_simp; all_goals (with_reducible rfl)
        try simp only [Act.put, pa, pb, pc]
        first | refine tu 4 36 rfl hS ?_ | (refine tk (v := ?_) 4 36 rfl (fun w' hS' => ?_) hS ?_; rotate_left; · (go_simp; all_goals (with_reducible rfl)))
        try simp only [Act.put, pa, pb, pc]
        first | refine tu 5 37 rfl hS ?_ | (refine tk (v := ?_) 5 37 rfl (fun w' hS' => ?_) hS ?_; rotate_left; · (go_simp; all_goals (with_reducible rfl)))
        try simp only [Act.put, pa, pb, pc]
        try rw [g2]
        first | refine tu 6 38 rfl hS ?_ | (refine tk (v := ?_) 6 38 rfl (fun w' hS' => ?_) hS ?_; rotate_left; · (go_simp; all_goals (with_reducible rfl)))
        try simp only [Act.put, pa, pb, pc]
        first | refine tu 7 39 rfl hS ?_ | (refine tk (v := ?_) 7 39 rfl (fun w' hS' => ?_) hS ?_; rotate_left; · (go_simp; all_goals (with_reducible rfl)))
        try simp only [Act.put, pa, pb, pc]
        first | refine tu 8 40 rfl hS ?_ | (refine tk (v := ?_) 8 40 rfl (fun w' hS' => ?_) hS ?_; rotate_left; · ((try dsimp only at hS'); have q0 := hS'.cell (i := 0) (j := 0) rfl rfl; have q1 := hS'.cell (i := 0) (j := 1) rfl rfl; have q2 := hS'.cell (i := 0) (j := 2) rfl rfl; have q3 := hS'.cell (i := 0) (j := 3) rfl rfl; have q4 := hS'.cell (i := 0) (j := 4) rfl rfl; have p0 := hS'.cell (i := 1) (j := 0) rfl rfl; have p1 := hS'.cell (i := 1) (j := 1) rfl rfl; have p2 := hS'.cell (i := 1) (j := 2) rfl rfl; have p3 := hS'.cell (i := 1) (j := 3) rfl rfl; have r0 := (hS'.bl.cell (p := ⟨b, off + q * 5, none⟩) hb2).trans z0; go_simp; all_goals (with_reducible rfl)))
        try simp only [Act.put, pa, pb, pc]
        first | refine tu 9 41 rfl hS ?_ | (refine tk (v := ?_) 9 41 rfl (fun w' hS' => ?_) hS ?_; rotate_left; · (go_simp; all_goals (with_reducible rfl)))
        try simp only [Act.put, pa, pb, pc]
        first | refine tu 10 42 rfl hS ?_ | (refine tk (v := ?_) 10 42 rfl (fun w' hS' => ?_) hS ?_; rotate_left; · (go_simp; all_goals (with_reducible rfl)))
        try simp only [Act.put, pa, pb, pc]
        first | refine tu 11 43 rfl hS ?_ | (refine tk (v := ?_) 11 43 rfl (fun w' hS' => ?_) hS ?_; rotate_left; · (go_simp; all_goals (with_reducible rfl)))
        try simp only [Act.put, pa, pb, pc]
        first | refine tu 12 44 rfl hS ?_ | (refine tk (v := ?_) 12 44 rfl (fun w' hS' => ?_) hS ?_; rotate_left; · (go_simp; all_goals (with_reducible rfl)))
        try simp only [Act.put, pa, pb, pc]
        first | refine tu 13 45 rfl hS ?_ | (refine tk (v := ?_) 13 45 rfl (fun w' hS' => ?_) hS ?_; rotate_left; · ((try dsimp only at hS'); have q0 := hS'.cell (i := 0) (j := 0) rfl rfl; have q1 := hS'.cell (i := 0) (j := 1) rfl rfl; have q2 := hS'.cell (i := 0) (j := 2) rfl rfl; have q3 := hS'.cell (i := 0) (j := 3) rfl rfl; have q4 := hS'.cell (i := 0) (j := 4) rfl rfl; have p0 := hS'.cell (i := 1) (j := 0) rfl rfl; have p1 := hS'.cell (i := 1) (j := 1) rfl rfl; have p2 := hS'.cell (i := 1) (j := 2) rfl rfl; have p3 := hS'.cell (i := 1) (j := 3) rfl rfl; have r0 := (hS'.bl.cell (p := ⟨b, off + q * 5, none⟩) hb2).trans z0; go_simp; all_goals (with_reducible rfl)))
        try simp only [Act.put, pa, pb, pc]
        first | refine tu 14 46 rfl hS ?_ | (refine tk (v := ?_) 14 46 rfl (fun w' hS' => ?_) hS ?_; rotate_left; · (go_simp; all_goals (with_reducible rfl)))
        try simp only [Act.put, pa, pb, pc]
        first | refine tu 15 47 rfl hS ?_ | (refine tk (v := ?_) 15 47 rfl (fun w' hS' => ?_) hS ?_; rotate_left; · ((try dsimp only at hS'); have q0 := hS'.cell (i := 0) (j := 0) rfl rfl; have q1 := hS'.cell (i := 0) (j := 1) rfl rfl; have q2 := hS'.cell (i := 0) (j := 2) rfl rfl; have q3 := hS'.cell (i := 0) (j := 3) rfl rfl; have q4 := hS'.cell (i := 0) (j := 4) rfl rfl; have p0 := hS'.cell (i := 1) (j := 0) rfl rfl; have p1 := hS'.cell (i := 1) (j := 1) rfl rfl; have p2 := hS'.cell (i := 1) (j := 2) rfl rfl; have p3 := hS'.cell (i := 1) (j := 3) rfl rfl; have r0 := (hS'.bl.cell (p := ⟨b, off + q * 5, none⟩) hb2).trans z0; go_simp; all_goals (with_reducible rfl)))
        try simp only [Act.put, pa, pb, pc]
        first | refine tu 16 48 rfl hS ?_ | (refine tk (v := ?_) 16 48 rfl (fun w' hS' => ?_) hS ?_; rotate_left; · (go_simp; all_goals (with_reducible rfl)))
        try simp only [Act.put, pa, pb, pc]
        try rw [g3]
        first | refine tu 17 49 rfl hS ?_ | (refine tk (v := ?_) 17 49 rfl (fun w' hS' => ?_) hS ?_; rotate_left; · (go_simp; all_goals (with_reducible rfl)))
        try simp only [Act.put, pa, pb, pc]
        refine tk (v := ?_) 18 50 rfl (fun w' hS' => ?_) hS ?_
        rotate_left
        · go_simp; all_goals (with_reducible rfl)
        try simp only [Act.put, pa, pb, pc]
        refine wpAnyH_done (by kernel_rfl) ?_ _
        clear hS
        go_wp2
        go_ret
        exact ⟨ret_b HE.out.symm, HM.out.bl⟩
      have g3 : Op.bytesLess p.name.toList e.name.toList = true := h3
      have HJ := Lib.hid (show docsB none x.docs = docsB (nameAt x.docs (j + 1)) (x.docs.drop (j + 1)) by rw [HI.out, HS.out, h1.out, HN.out]; show (true && (ltSt p.name e.name && _)) = _; rw [h3]; rfl)
      clear h3
      replace HM := Lib.hid (HM.out.drew)
      refine wp_region_held_drew (S := fun W => Ms w [.bx wr.heap.size (.cells #[.string e.name, .int .i64 e.from_, .slice C2 e.text.length c2, .slice C3 e.list.length c3, .slice C4 e.seen.length c4] 31 (0, 0)), .bx w.heap.size (.cells #[.bool x.shut, .slice (some ⟨b, off, none⟩) x.docs.length ca, .slice A2 x.subs.length cb, .int .i64 x.last] 47 (0, 0))] W) (by kernel_rfl) (HM.out.pick (ks := [0, 1]) (by decide) rfl) (fun hS => ?_)
      generalize W2.drew = W9 at HM hS  ⊢
      refine tk (v := ?_) 0 32 rfl (fun w' hS' => ?_) hS ?_
      rotate_left
      · (try dsimp only at hS'); have q0 := hS'.cell (i := 0) (j := 0) rfl rfl; have q1 := hS'.cell (i := 0) (j := 1) rfl rfl; have q2 := hS'.cell (i := 0) (j := 2) rfl rfl; have q3 := hS'.cell (i := 0) (j := 3) rfl rfl; have q4 := hS'.cell (i := 0) (j := 4) rfl rfl; have p0 := hS'.cell (i := 1) (j := 0) rfl rfl; have p1 := hS'.cell (i := 1) (j := 1) rfl rfl; have p2 := hS'.cell (i := 1) (j := 2) rfl rfl; have p3 := hS'.cell (i := 1) (j := 3) rfl rfl; have r0 := (hS'.bl.cell (p := ⟨b, off + q * 5, none⟩) hb2).trans z0; go_simp; all_goals (with_reducible rfl)
      try simp only [Act.put, pa, pb, pc]
      refine r1 1 (some 33) rfl (fun K hK => ?_)
      go_simp
      refine (specDocOk_d _ e _ (rdDo e (HM.out.arg Q2h.out) (HM.out.arg Q3h.out) (HM.out.arg Q4h.out)) hse).mono ?_
      rw [h1.out]
      rintro e' W10 ⟨rfl, b'⟩
      replace HM := Lib.hid (HM.out.past b')
      clear b'
      clear hS
      refine hK.out _ _ (HM.out.pick (ks := [0, 1]) (by decide) rfl) (fun hS => ?_)
      clear hK K
      try simp only [Act.put, pa, pb, pc]
      refine tk (v := ?_) 2 34 rfl (fun w' hS' => ?_) hS ?_
      rotate_left
      · go_simp; all_goals (with_reducible rfl)
      try simp only [Act.put, pa, pb, pc]
      refine tk (v := ?_) 3 35 rfl (fun w' hS' => ?_) hS ?_
      rotate_left
      · go_simp; all_goals (with_reducible rfl)
      try simp only [Act.put, pa, pb, pc]
      first | refine tu 4 36 rfl hS ?_ | (refine tk (v := ?_) 4 36 rfl (fun w' hS' => ?_) hS ?_; rotate_left; · (go_simp; all_goals (with_reducible rfl)))
      try simp only [Act.put, pa, pb, pc]
      first | refine tu 5 37 rfl hS ?_ | (refine tk (v := ?_) 5 37 rfl (fun w' hS' => ?_) hS ?_; rotate_left; · (go_simp; all_goals (with_reducible rfl)))
      try simp only [Act.put, pa, pb, pc]
      try rw [g2]
      first | refine tu 6 38 rfl hS ?_ | (refine tk (v := ?_) 6 38 rfl (fun w' hS' => ?_) hS ?_; rotate_left; · (go_simp; all_goals (with_reducible rfl)))
      try simp only [Act.put, pa, pb, pc]
      first | refine tu 7 39 rfl hS ?_ | (refine tk (v := ?_) 7 39 rfl (fun w' hS' => ?_) hS ?_; rotate_left; · (go_simp; all_goals (with_reducible rfl)))
      try simp only [Act.put, pa, pb, pc]
      first | refine tu 8 40 rfl hS ?_ | (refine tk (v := ?_) 8 40 rfl (fun w' hS' => ?_) hS ?_; rotate_left; · ((try dsimp only at hS'); have q0 := hS'.cell (i := 0) (j := 0) rfl rfl; have q1 := hS'.cell (i := 0) (j := 1) rfl rfl; have q2 := hS'.cell (i := 0) (j := 2) rfl rfl; have q3 := hS'.cell (i := 0) (j := 3) rfl rfl; have q4 := hS'.cell (i := 0) (j := 4) rfl rfl; have p0 := hS'.cell (i := 1) (j := 0) rfl rfl; have p1 := hS'.cell (i := 1) (j := 1) rfl rfl; have p2 := hS'.cell (i := 1) (j := 2) rfl rfl; have p3 := hS'.cell (i := 1) (j := 3) rfl rfl; have r0 := (hS'.bl.cell (p := ⟨b, off + q * 5, none⟩) hb2).trans z0; go_simp; all_goals (with_reducible rfl)))
      try simp only [Act.put, pa, pb, pc]
      first | refine tu 9 41 rfl hS ?_ | (refine tk (v := ?_) 9 41 rfl (fun w' hS' => ?_) hS ?_; rotate_left; · (go_simp; all_goals (with_reducible rfl)))
      try simp only [Act.put, pa, pb, pc]
      first | refine tu 10 42 rfl hS ?_ | (refine tk (v := ?_) 10 42 rfl (fun w' hS' => ?_) hS ?_; rotate_left; · (go_simp; all_goals (with_reducible rfl)))
      try simp only [Act.put, pa, pb, pc]
      first | refine tu 11 43 rfl hS ?_ | (refine tk (v := ?_) 11 43 rfl (fun w' hS' => ?_) hS ?_; rotate_left; · (go_simp; all_goals (with_reducible rfl)))
      try simp only [Act.put, pa, pb, pc]
      first | refine tu 12 44 rfl hS ?_ | (refine tk (v := ?_) 12 44 rfl (fun w' hS' => ?_) hS ?_; rotate_left; · (go_simp; all_goals (with_reducible rfl)))
      try simp only [Act.put, pa, pb, pc]
      first | refine tu 13 45 rfl hS ?_ | (refine tk (v := ?_) 13 45 rfl (fun w' hS' => ?_) hS ?_; rotate_left; · ((try dsimp only at hS'); have q0 := hS'.cell (i := 0) (j := 0) rfl rfl; have q1 := hS'.cell (i := 0) (j := 1) rfl rfl; have q2 := hS'.cell (i := 0) (j := 2) rfl rfl; have q3 := hS'.cell (i := 0) (j := 3) rfl rfl; have q4 := hS'.cell (i := 0) (j := 4) rfl rfl; have p0 := hS'.cell (i := 1) (j := 0) rfl rfl; have p1 := hS'.cell (i := 1) (j := 1) rfl rfl; have p2 := hS'.cell (i := 1) (j := 2) rfl rfl; have p3 := hS'.cell (i := 1) (j := 3) rfl rfl; have r0 := (hS'.bl.cell (p := ⟨b, off + q * 5, none⟩) hb2).trans z0; go_simp; all_goals (with_reducible rfl)))
      try simp only [Act.put, pa, pb, pc]
      first | refine tu 14 46 rfl hS ?_ | (refine tk (v := ?_) 14 46 rfl (fun w' hS' => ?_) hS ?_; rotate_left; · (go_simp; all_goals (with_reducible rfl)))
      try simp only [Act.put, pa, pb, pc]
      first | refine tu 15 47 rfl hS ?_ | (refine tk (v := ?_) 15 47 rfl (fun w' hS' => ?_) hS ?_; rotate_left; · ((try dsimp only at hS'); have q0 := hS'.cell (i := 0) (j := 0) rfl rfl; have q1 := hS'.cell (i := 0) (j := 1) rfl rfl; have q2 := hS'.cell (i := 0) (j := 2) rfl rfl; have q3 := hS'.cell (i := 0) (j := 3) rfl rfl; have q4 := hS'.cell (i := 0) (j := 4) rfl rfl; have p0 := hS'.cell (i := 1) (j := 0) rfl rfl; have p1 := hS'.cell (i := 1) (j := 1) rfl rfl; have p2 := hS'.cell (i := 1) (j := 2) rfl rfl; have p3 := hS'.cell (i := 1) (j := 3) rfl rfl; have r0 := (hS'.bl.cell (p := ⟨b, off + q * 5, none⟩) hb2).trans z0; go_simp; all_goals (with_reducible rfl)))
      try simp only [Act.put, pa, pb, pc]
      first | refine tu 16 48 rfl hS ?_ | (refine tk (v := ?_) 16 48 rfl (fun w' hS' => ?_) hS ?_; rotate_left; · (go_simp; all_goals (with_reducible rfl)))
      try simp only [Act.put, pa, pb, pc]
      try rw [g3]
      first | refine tu 17 49 rfl hS ?_ | (refine tk (v := ?_) 17 49 rfl (fun w' hS' => ?_) hS ?_; rotate_left; · (go_simp; all_goals (with_reducible rfl)))
      try simp only [Act.put, pa, pb, pc]
      refine tk (v := ?_) 18 50 rfl (fun w' hS' => ?_) hS ?_
      rotate_left
      · go_simp; all_goals (with_reducible rfl)
      try simp only [Act.put, pa, pb, pc]
      refine wpAnyH_done (by kernel_rfl) ?_ _
      clear hS
      skip
      go_wp2
      go_roundw
      case rel => exact ⟨j + 1, by omega, by go_num, HJ.out, HM.out.pick (ks := [1]) (by decide) rfl⟩
      case measure => simp [intOf]; omega
    · have h9 : x.docs.drop j = [] := List.drop_eq_nil_of_le (by omega)
      have hda : docsB none x.docs = true := by rw [HI.out, h9]; rfl
      have HA := Lib.hid (show ∀ (i : Nat) (d : Do), x.docs[i]? = some d → docB d = true from fun i d h => docsB_all hda h)
      have HD3 := Lib.hid (show hubB x = subsB x.docs x.last 0 x.subs by rw [HD2.out, hda]; rfl)
      clear h9 hda HI HD2
      obtain ⟨kx0, kx1, kx2, kx3⟩ := HM.out.c4 0 rfl
      go_wp2_with fail
      clear hlt hj kx0 kx1 kx2 kx3
      go_loopw [55] (fun i wr => ∃ j : Nat, j ≤ x.subs.length ∧ i = .int .i64 (j : Int) ∧ subsB x.docs x.last 0 x.subs = subsB x.docs x.last (idAt x.subs j) (x.subs.drop j) ∧ Ms w [.bx w.heap.size (.cells #[.bool x.shut, .slice A1 x.docs.length ca, .slice A2 x.subs.length cb, .int .i64 x.last] 47 (0, 0))] wr) (fun i _ => x.subs.length - (intOf i).toNat)
      case atStart => exact ⟨0, Nat.zero_le _, rfl, by simp [idAt], HM.out⟩
      case round =>
        obtain ⟨j, hj, rfl, hi, hm⟩ := hrel
        clear HM
        have HM := Lib.hid hm
        have HI := Lib.hid hi
        clear hm hi
        by_cases hlt : j < x.subs.length
        · obtain ⟨b, off, e, C5, c5, rfl, hbb, hp, y0, y1, y2, y3, y4, y5, q5⟩ := atSus R2.out hlt
          have x0 := (HM.out.bl.cell (p := ⟨b, off + j * 6, none⟩) hbb).trans y0
          have x1 := (HM.out.bl.cell (p := ⟨b, off + j * 6 + 1, none⟩) hbb).trans y1
          have x2 := (HM.out.bl.cell (p := ⟨b, off + j * 6 + 2, none⟩) hbb).trans y2
          have x3 := (HM.out.bl.cell (p := ⟨b, off + j * 6 + 3, none⟩) hbb).trans y3
          have x4 := (HM.out.bl.cell (p := ⟨b, off + j * 6 + 4, none⟩) hbb).trans y4
          have x5 := (HM.out.bl.cell (p := ⟨b, off + j * 6 + 5, none⟩) hbb).trans y5
          clear y0 y1 y2 y3 y4 y5
          have hse := hs.subs.at_ (List.mem_of_getElem? hp)
          have HS := Lib.hid (subsB_step (docs := x.docs) (last := x.last) (p := idAt x.subs j) hp)
          clear hp
          have Q5h := Lib.hid q5
          clear q5
          have hml := HM.out.new #[.int .i64 e.id, .string e.doc, .int .i64 e.cap, .int .i64 e.next, .bool e.out, .slice C5 e.list.length c5] 73
          obtain ⟨kx0, kx1, kx2, kx3⟩ := hml.c4 1 rfl
          clear hml
          replace HM := Lib.hid (HM.out.new #[.int .i64 e.id, .string e.doc, .int .i64 e.cap, .int .i64 e.next, .bool e.out, .slice C5 e.list.length c5] 73)
          go_wp2_with fail
          clear x0 x1 x2 x3 x4 x5 kx0 kx1 kx2 kx3
          obtain ⟨W11, hW, hm⟩ := HM.out.name
          rw [← hW]
          replace HM := Lib.hid hm
          clear hm hW
          refine (specHubDoc_d _ x e.doc _ (HM.out.arg HR.out) hs).mono ?_
          rintro e' W12 ⟨rfl, b'⟩
          replace HM := Lib.hid (HM.out.past b')
          clear b'
          obtain ⟨kk, hkk⟩ : ∃ kk, hubDocT x e.doc = kk := ⟨_, rfl⟩
          rw [hkk]
          have HK := Lib.hid hkk
          clear hkk
          go_wp2
          rcases (show inB e.id 1 x.last = false ∨ inB e.id 1 x.last = true by cases inB e.id 1 x.last <;> simp) with h1 | h1
          · have HE := Lib.hid (show hubB x = false by rw [HD3.out, HI.out, HS.out, h1, Bool.false_and])
            replace h1 := Lib.hid h1
            replace HM := Lib.hid (HM.out.drew)
            refine wp_region_held_drew (S := fun W => Ms w [.bx wr.heap.size (.cells #[.int .i64 e.id, .string e.doc, .int .i64 e.cap, .int .i64 e.next, .bool e.out, .slice C5 e.list.length c5] 73 (0, 0)), .bx w.heap.size (.cells #[.bool x.shut, .slice A1 x.docs.length ca, .slice (some ⟨b, off, none⟩) x.subs.length cb, .int .i64 x.last] 47 (0, 0))] W) (by kernel_rfl) (HM.out.pick (ks := [0, 1]) (by decide) rfl) (fun hS => ?_)
            generalize W12.drew = W13 at HM hS  ⊢
            refine tk (v := ?_) 0 64 rfl (fun w' hS' => ?_) hS ?_
            rotate_left
            · go_simp; all_goals (with_reducible rfl)
            try simp only [Act.put, pa, pb, pc]
            refine tk (v := ?_) 1 65 rfl (fun w' hS' => ?_) hS ?_
            rotate_left
            · (try dsimp only at hS'); have q0 := hS'.cell (i := 0) (j := 0) rfl rfl; have q1 := hS'.cell (i := 0) (j := 1) rfl rfl; have q2 := hS'.cell (i := 0) (j := 2) rfl rfl; have q3 := hS'.cell (i := 0) (j := 3) rfl rfl; have q4 := hS'.cell (i := 0) (j := 4) rfl rfl; have q5 := hS'.cell (i := 0) (j := 5) rfl rfl; have p0 := hS'.cell (i := 1) (j := 0) rfl rfl; have p1 := hS'.cell (i := 1) (j := 1) rfl rfl; have p2 := hS'.cell (i := 1) (j := 2) rfl rfl; have p3 := hS'.cell (i := 1) (j := 3) rfl rfl; go_simp; all_goals (with_reducible rfl)
            try simp only [Act.put, pa, pb, pc]
            refine tk (v := ?_) 2 66 rfl (fun w' hS' => ?_) hS ?_
            rotate_left
            · go_simp; all_goals (with_reducible rfl)
            try simp only [Act.put, pa, pb, pc]
            refine tk (v := ?_) 3 67 rfl (fun w' hS' => ?_) hS ?_
            rotate_left
            · (try dsimp only at hS'); have q0 := hS'.cell (i := 0) (j := 0) rfl rfl; have q1 := hS'.cell (i := 0) (j := 1) rfl rfl; have q2 := hS'.cell (i := 0) (j := 2) rfl rfl; have q3 := hS'.cell (i := 0) (j := 3) rfl rfl; have q4 := hS'.cell (i := 0) (j := 4) rfl rfl; have q5 := hS'.cell (i := 0) (j := 5) rfl rfl; have p0 := hS'.cell (i := 1) (j := 0) rfl rfl; have p1 := hS'.cell (i := 1) (j := 1) rfl rfl; have p2 := hS'.cell (i := 1) (j := 2) rfl rfl; have p3 := hS'.cell (i := 1) (j := 3) rfl rfl; go_simp; all_goals (with_reducible rfl)
            try simp only [Act.put, pa, pb, pc]
            refine r1 4 (some 68) rfl (fun K hK => ?_)
            go_simp
            refine (in_any _ _ _ _).mono ?_
            rw [h1.out]
            rintro e' w9 ⟨rfl, rfl⟩
            refine hK.out _ _ (HM.out.pick (ks := [0, 1]) (by decide) rfl) (fun hS => ?_)
            clear hK K
            try simp only [Act.put, pa, pb, pc]
            refine tk (v := ?_) 5 69 rfl (fun w' hS' => ?_) hS ?_
            rotate_left
            · go_simp; all_goals (with_reducible rfl)
            try simp only [Act.put, pa, pb, pc]
            refine tk (v := ?_) 6 70 rfl (fun w' hS' => ?_) hS ?_
            rotate_left
            · go_simp; all_goals (with_reducible rfl)
            try simp only [Act.put, pa, pb, pc]
            refine tu 7 71 rfl hS ?_
            try simp only [Act.put, pa, pb, pc]
            refine tu 8 72 rfl hS ?_
            try simp only [Act.put, pa, pb, pc]
            refine tu 9 73 rfl hS ?_
            try simp only [Act.put, pa, pb, pc]
            refine tu 10 74 rfl hS ?_
            try simp only [Act.put, pa, pb, pc]
            refine tk (v := ?_) 11 75 rfl (fun w' hS' => ?_) hS ?_
            rotate_left
            · go_simp; all_goals (with_reducible rfl)
            try simp only [Act.put, pa, pb, pc]
            refine tk (v := ?_) 12 76 rfl (fun w' hS' => ?_) hS ?_
            rotate_left
            · go_simp; all_goals (with_reducible rfl)
            try simp only [Act.put, pa, pb, pc]
            refine tu 13 77 rfl hS ?_
            try simp only [Act.put, pa, pb, pc]
            refine tu 14 78 rfl hS ?_
            try simp only [Act.put, pa, pb, pc]
            refine tk (v := ?_) 15 79 rfl (fun w' hS' => ?_) hS ?_
            rotate_left
            · go_simp; all_goals (with_reducible rfl)
            try simp only [Act.put, pa, pb, pc]
            refine tk (v := ?_) 16 80 rfl (fun w' hS' => ?_) hS ?_
            rotate_left
            · go_simp; all_goals (with_reducible rfl)
            try simp only [Act.put, pa, pb, pc]
            refine tu 17 81 rfl hS ?_
            try simp only [Act.put, pa, pb, pc]
            refine tu 18 82 rfl hS ?_
            try simp only [Act.put, pa, pb, pc]
            refine tu 19 83 rfl hS ?_
            try simp only [Act.put, pa, pb, pc]
            refine tu 20 84 rfl hS ?_
            try simp only [Act.put, pa, pb, pc]
            refine tu 21 85 rfl hS ?_
            try simp only [Act.put, pa, pb, pc]
            refine tu 22 86 rfl hS ?_
            try simp only [Act.put, pa, pb, pc]
            refine tu 23 87 rfl hS ?_
            try simp only [Act.put, pa, pb, pc]
            refine tu 24 88 rfl hS ?_
            try simp only [Act.put, pa, pb, pc]
            refine tu 25 89 rfl hS ?_
            try simp only [Act.put, pa, pb, pc]
            refine tu 26 90 rfl hS ?_
            try simp only [Act.put, pa, pb, pc]
            refine tu 27 91 rfl hS ?_
            try simp only [Act.put, pa, pb, pc]
            refine tu 28 92 rfl hS ?_
            try simp only [Act.put, pa, pb, pc]
            refine tu 29 93 rfl hS ?_
            try simp only [Act.put, pa, pb, pc]
            refine tu 30 94 rfl hS ?_
            try simp only [Act.put, pa, pb, pc]
            refine tk (v := ?_) 31 95 rfl (fun w' hS' => ?_) hS ?_
            rotate_left
            · go_simp; all_goals (with_reducible rfl)
            try simp only [Act.put, pa, pb, pc]
            refine wpAnyH_done (by kernel_rfl) ?_ _
            clear hS
            go_wp2
            go_ret
            exact ⟨ret_b HE.out.symm, HM.out.bl⟩
          replace h1 := Lib.hid h1
          rcases (show ringB (ringSu e) = false ∨ ringB (ringSu e) = true by cases ringB (ringSu e) <;> simp) with h2 | h2
          · have HE := Lib.hid (show hubB x = false by rw [HD3.out, HI.out, HS.out, h1.out, h2, Bool.false_and, Bool.and_false])
            replace h2 := Lib.hid h2
            replace HM := Lib.hid (HM.out.drew)
            refine wp_region_held_drew (S := fun W => Ms w [.bx wr.heap.size (.cells #[.int .i64 e.id, .string e.doc, .int .i64 e.cap, .int .i64 e.next, .bool e.out, .slice C5 e.list.length c5] 73 (0, 0)), .bx w.heap.size (.cells #[.bool x.shut, .slice A1 x.docs.length ca, .slice (some ⟨b, off, none⟩) x.subs.length cb, .int .i64 x.last] 47 (0, 0))] W) (by kernel_rfl) (HM.out.pick (ks := [0, 1]) (by decide) rfl) (fun hS => ?_)
            generalize W12.drew = W14 at HM hS  ⊢
            refine tk (v := ?_) 0 64 rfl (fun w' hS' => ?_) hS ?_
            rotate_left
            · go_simp; all_goals (with_reducible rfl)
            try simp only [Act.put, pa, pb, pc]
            refine tk (v := ?_) 1 65 rfl (fun w' hS' => ?_) hS ?_
            rotate_left
            · (try dsimp only at hS'); have q0 := hS'.cell (i := 0) (j := 0) rfl rfl; have q1 := hS'.cell (i := 0) (j := 1) rfl rfl; have q2 := hS'.cell (i := 0) (j := 2) rfl rfl; have q3 := hS'.cell (i := 0) (j := 3) rfl rfl; have q4 := hS'.cell (i := 0) (j := 4) rfl rfl; have q5 := hS'.cell (i := 0) (j := 5) rfl rfl; have p0 := hS'.cell (i := 1) (j := 0) rfl rfl; have p1 := hS'.cell (i := 1) (j := 1) rfl rfl; have p2 := hS'.cell (i := 1) (j := 2) rfl rfl; have p3 := hS'.cell (i := 1) (j := 3) rfl rfl; go_simp; all_goals (with_reducible rfl)
            try simp only [Act.put, pa, pb, pc]
            refine tk (v := ?_) 2 66 rfl (fun w' hS' => ?_) hS ?_
            rotate_left
            · go_simp; all_goals (with_reducible rfl)
            try simp only [Act.put, pa, pb, pc]
            refine tk (v := ?_) 3 67 rfl (fun w' hS' => ?_) hS ?_
            rotate_left
            · (try dsimp only at hS'); have q0 := hS'.cell (i := 0) (j := 0) rfl rfl; have q1 := hS'.cell (i := 0) (j := 1) rfl rfl; have q2 := hS'.cell (i := 0) (j := 2) rfl rfl; have q3 := hS'.cell (i := 0) (j := 3) rfl rfl; have q4 := hS'.cell (i := 0) (j := 4) rfl rfl; have q5 := hS'.cell (i := 0) (j := 5) rfl rfl; have p0 := hS'.cell (i := 1) (j := 0) rfl rfl; have p1 := hS'.cell (i := 1) (j := 1) rfl rfl; have p2 := hS'.cell (i := 1) (j := 2) rfl rfl; have p3 := hS'.cell (i := 1) (j := 3) rfl rfl; go_simp; all_goals (with_reducible rfl)
            try simp only [Act.put, pa, pb, pc]
            refine r1 4 (some 68) rfl (fun K hK => ?_)
            go_simp
            refine (in_any _ _ _ _).mono ?_
            rw [h1.out]
            rintro e' w9 ⟨rfl, rfl⟩
            refine hK.out _ _ (HM.out.pick (ks := [0, 1]) (by decide) rfl) (fun hS => ?_)
            clear hK K
            try simp only [Act.put, pa, pb, pc]
            refine tk (v := ?_) 5 69 rfl (fun w' hS' => ?_) hS ?_
            rotate_left
            · go_simp; all_goals (with_reducible rfl)
            try simp only [Act.put, pa, pb, pc]
            refine tk (v := ?_) 6 70 rfl (fun w' hS' => ?_) hS ?_
            rotate_left
            · go_simp; all_goals (with_reducible rfl)
            try simp only [Act.put, pa, pb, pc]
            refine tk (v := ?_) 7 71 rfl (fun w' hS' => ?_) hS ?_
            rotate_left
            · go_simp; all_goals (with_reducible rfl)
            try simp only [Act.put, pa, pb, pc]
            refine tk (v := ?_) 8 72 rfl (fun w' hS' => ?_) hS ?_
            rotate_left
            · (try dsimp only at hS'); have q0 := hS'.cell (i := 0) (j := 0) rfl rfl; have q1 := hS'.cell (i := 0) (j := 1) rfl rfl; have q2 := hS'.cell (i := 0) (j := 2) rfl rfl; have q3 := hS'.cell (i := 0) (j := 3) rfl rfl; have q4 := hS'.cell (i := 0) (j := 4) rfl rfl; have q5 := hS'.cell (i := 0) (j := 5) rfl rfl; have p0 := hS'.cell (i := 1) (j := 0) rfl rfl; have p1 := hS'.cell (i := 1) (j := 1) rfl rfl; have p2 := hS'.cell (i := 1) (j := 2) rfl rfl; have p3 := hS'.cell (i := 1) (j := 3) rfl rfl; go_simp; all_goals (with_reducible rfl)
            try simp only [Act.put, pa, pb, pc]
            refine r1 9 (some 73) rfl (fun K hK => ?_)
            go_simp
            refine (specRingOk_d _ (ringSu e) _ (rdRi (ringSu e) (HM.out.arg Q5h.out)) (show SmRi (ringSu e) from hse.list)).mono ?_
            rw [h2.out]
            rintro e' W15 ⟨rfl, b'⟩
            replace HM := Lib.hid (HM.out.past b')
            clear b'
            clear hS
            refine hK.out _ _ (HM.out.pick (ks := [0, 1]) (by decide) rfl) (fun hS => ?_)
            clear hK K
            try simp only [Act.put, pa, pb, pc]
            refine tk (v := ?_) 10 74 rfl (fun w' hS' => ?_) hS ?_
            rotate_left
            · go_simp; all_goals (with_reducible rfl)
            try simp only [Act.put, pa, pb, pc]
            refine tk (v := ?_) 11 75 rfl (fun w' hS' => ?_) hS ?_
            rotate_left
            · go_simp; all_goals (with_reducible rfl)
            try simp only [Act.put, pa, pb, pc]
            refine tk (v := ?_) 12 76 rfl (fun w' hS' => ?_) hS ?_
            rotate_left
            · go_simp; all_goals (with_reducible rfl)
            try simp only [Act.put, pa, pb, pc]
            refine tu 13 77 rfl hS ?_
            try simp only [Act.put, pa, pb, pc]
            refine tu 14 78 rfl hS ?_
            try simp only [Act.put, pa, pb, pc]
            refine tk (v := ?_) 15 79 rfl (fun w' hS' => ?_) hS ?_
            rotate_left
            · go_simp; all_goals (with_reducible rfl)
            try simp only [Act.put, pa, pb, pc]
            refine tk (v := ?_) 16 80 rfl (fun w' hS' => ?_) hS ?_
            rotate_left
            · go_simp; all_goals (with_reducible rfl)
            try simp only [Act.put, pa, pb, pc]
            refine tu 17 81 rfl hS ?_
            try simp only [Act.put, pa, pb, pc]
            refine tu 18 82 rfl hS ?_
            try simp only [Act.put, pa, pb, pc]
            refine tu 19 83 rfl hS ?_
            try simp only [Act.put, pa, pb, pc]
            refine tu 20 84 rfl hS ?_
            try simp only [Act.put, pa, pb, pc]
            refine tu 21 85 rfl hS ?_
            try simp only [Act.put, pa, pb, pc]
            refine tu 22 86 rfl hS ?_
            try simp only [Act.put, pa, pb, pc]
            refine tu 23 87 rfl hS ?_
            try simp only [Act.put, pa, pb, pc]
            refine tu 24 88 rfl hS ?_
            try simp only [Act.put, pa, pb, pc]
            refine tu 25 89 rfl hS ?_
            try simp only [Act.put, pa, pb, pc]
            refine tu 26 90 rfl hS ?_
            try simp only [Act.put, pa, pb, pc]
            refine tu 27 91 rfl hS ?_
            try simp only [Act.put, pa, pb, pc]
            refine tu 28 92 rfl hS ?_
            try simp only [Act.put, pa, pb, pc]
            refine tu 29 93 rfl hS ?_
            try simp only [Act.put, pa, pb, pc]
            refine tu 30 94 rfl hS ?_
            try simp only [Act.put, pa, pb, pc]
            refine tk (v := ?_) 31 95 rfl (fun w' hS' => ?_) hS ?_
            rotate_left
            · go_simp; all_goals (with_reducible rfl)
            try simp only [Act.put, pa, pb, pc]
            refine wpAnyH_done (by kernel_rfl) ?_ _
            clear hS
            go_wp2
            go_ret
            exact ⟨ret_b HE.out.symm, HM.out.bl⟩
          have RB := Lib.hid (ringB_of h2)
          replace h2 := Lib.hid h2
          by_cases h3 : kk < 0
          · have hk0 := hubDoc_neg HK.out h3
            have HE := Lib.hid (show hubB x = false by rw [HD3.out, HI.out, HS.out, h1.out, h2.out, fit_none hk0, Bool.false_and, Bool.and_false, Bool.and_false])
            clear hk0
            have g3 : decide (kk < 0) = true := decide_eq_true h3
            clear h3
            replace HM := Lib.hid (HM.out.drew)
            refine wp_region_held_drew (S := fun W => Ms w [.bx wr.heap.size (.cells #[.int .i64 e.id, .string e.doc, .int .i64 e.cap, .int .i64 e.next, .bool e.out, .slice C5 e.list.length c5] 73 (0, 0)), .bx w.heap.size (.cells #[.bool x.shut, .slice A1 x.docs.length ca, .slice (some ⟨b, off, none⟩) x.subs.length cb, .int .i64 x.last] 47 (0, 0))] W) (by kernel_rfl) (HM.out.pick (ks := [0, 1]) (by decide) rfl) (fun hS => ?_)
            generalize W12.drew = W16 at HM hS  ⊢
            refine tk (v := ?_) 0 64 rfl (fun w' hS' => ?_) hS ?_
            rotate_left
            · go_simp; all_goals (with_reducible rfl)
            try simp only [Act.put, pa, pb, pc]
            refine tk (v := ?_) 1 65 rfl (fun w' hS' => ?_) hS ?_
            rotate_left
            · (try dsimp only at hS'); have q0 := hS'.cell (i := 0) (j := 0) rfl rfl; have q1 := hS'.cell (i := 0) (j := 1) rfl rfl; have q2 := hS'.cell (i := 0) (j := 2) rfl rfl; have q3 := hS'.cell (i := 0) (j := 3) rfl rfl; have q4 := hS'.cell (i := 0) (j := 4) rfl rfl; have q5 := hS'.cell (i := 0) (j := 5) rfl rfl; have p0 := hS'.cell (i := 1) (j := 0) rfl rfl; have p1 := hS'.cell (i := 1) (j := 1) rfl rfl; have p2 := hS'.cell (i := 1) (j := 2) rfl rfl; have p3 := hS'.cell (i := 1) (j := 3) rfl rfl; go_simp; all_goals (with_reducible rfl)
            try simp only [Act.put, pa, pb, pc]
            refine tk (v := ?_) 2 66 rfl (fun w' hS' => ?_) hS ?_
            rotate_left
            · go_simp; all_goals (with_reducible rfl)
            try simp only [Act.put, pa, pb, pc]
            refine tk (v := ?_) 3 67 rfl (fun w' hS' => ?_) hS ?_
            rotate_left
            · (try dsimp only at hS'); have q0 := hS'.cell (i := 0) (j := 0) rfl rfl; have q1 := hS'.cell (i := 0) (j := 1) rfl rfl; have q2 := hS'.cell (i := 0) (j := 2) rfl rfl; have q3 := hS'.cell (i := 0) (j := 3) rfl rfl; have q4 := hS'.cell (i := 0) (j := 4) rfl rfl; have q5 := hS'.cell (i := 0) (j := 5) rfl rfl; have p0 := hS'.cell (i := 1) (j := 0) rfl rfl; have p1 := hS'.cell (i := 1) (j := 1) rfl rfl; have p2 := hS'.cell (i := 1) (j := 2) rfl rfl; have p3 := hS'.cell (i := 1) (j := 3) rfl rfl; go_simp; all_goals (with_reducible rfl)
            try simp only [Act.put, pa, pb, pc]
            refine r1 4 (some 68) rfl (fun K hK => ?_)
            go_simp
            refine (in_any _ _ _ _).mono ?_
            rw [h1.out]
            rintro e' w9 ⟨rfl, rfl⟩
            refine hK.out _ _ (HM.out.pick (ks := [0, 1]) (by decide) rfl) (fun hS => ?_)
            clear hK K
            try simp only [Act.put, pa, pb, pc]
            refine tk (v := ?_) 5 69 rfl (fun w' hS' => ?_) hS ?_
            rotate_left
            · go_simp; all_goals (with_reducible rfl)
            try simp only [Act.put, pa, pb, pc]
            refine tk (v := ?_) 6 70 rfl (fun w' hS' => ?_) hS ?_
            rotate_left
            · go_simp; all_goals (with_reducible rfl)
            try simp only [Act.put, pa, pb, pc]
            refine tk (v := ?_) 7 71 rfl (fun w' hS' => ?_) hS ?_
            rotate_left
            · go_simp; all_goals (with_reducible rfl)
            try simp only [Act.put, pa, pb, pc]
            refine tk (v := ?_) 8 72 rfl (fun w' hS' => ?_) hS ?_
            rotate_left
            · (try dsimp only at hS'); have q0 := hS'.cell (i := 0) (j := 0) rfl rfl; have q1 := hS'.cell (i := 0) (j := 1) rfl rfl; have q2 := hS'.cell (i := 0) (j := 2) rfl rfl; have q3 := hS'.cell (i := 0) (j := 3) rfl rfl; have q4 := hS'.cell (i := 0) (j := 4) rfl rfl; have q5 := hS'.cell (i := 0) (j := 5) rfl rfl; have p0 := hS'.cell (i := 1) (j := 0) rfl rfl; have p1 := hS'.cell (i := 1) (j := 1) rfl rfl; have p2 := hS'.cell (i := 1) (j := 2) rfl rfl; have p3 := hS'.cell (i := 1) (j := 3) rfl rfl; go_simp; all_goals (with_reducible rfl)
            try simp only [Act.put, pa, pb, pc]
            refine r1 9 (some 73) rfl (fun K hK => ?_)
            go_simp
            refine (specRingOk_d _ (ringSu e) _ (rdRi (ringSu e) (HM.out.arg Q5h.out)) (show SmRi (ringSu e) from hse.list)).mono ?_
            rw [h2.out]
            rintro e' W17 ⟨rfl, b'⟩
            replace HM := Lib.hid (HM.out.past b')
            clear b'
            clear hS
            refine hK.out _ _ (HM.out.pick (ks := [0, 1]) (by decide) rfl) (fun hS => ?_)
            clear hK K
            try simp only [Act.put, pa, pb, pc]
            refine tk (v := ?_) 10 74 rfl (fun w' hS' => ?_) hS ?_
            rotate_left
            · go_simp; all_goals (with_reducible rfl)
            try simp only [Act.put, pa, pb, pc]
            refine tk (v := ?_) 11 75 rfl (fun w' hS' => ?_) hS ?_
            rotate_left
            · go_simp; all_goals (with_reducible rfl)
            try simp only [Act.put, pa, pb, pc]
            refine tk (v := ?_) 12 76 rfl (fun w' hS' => ?_) hS ?_
            rotate_left
            · go_simp; all_goals (with_reducible rfl)
            try simp only [Act.put, pa, pb, pc]
            refine tk (v := ?_) 13 77 rfl (fun w' hS' => ?_) hS ?_
            rotate_left
            · go_simp; all_goals (with_reducible rfl)
            try simp only [Act.put, pa, pb, pc]
            refine tk (v := ?_) 14 78 rfl (fun w' hS' => ?_) hS ?_
            rotate_left
            · go_simp; all_goals (with_reducible rfl)
            try simp only [Act.put, pa, pb, pc]
            try rw [g3]
            refine tk (v := ?_) 15 79 rfl (fun w' hS' => ?_) hS ?_
            rotate_left
            · go_simp; all_goals (with_reducible rfl)
            try simp only [Act.put, pa, pb, pc]
            refine tk (v := ?_) 16 80 rfl (fun w' hS' => ?_) hS ?_
            rotate_left
            · go_simp; all_goals (with_reducible rfl)
            try simp only [Act.put, pa, pb, pc]
            refine tu 17 81 rfl hS ?_
            try simp only [Act.put, pa, pb, pc]
            refine tu 18 82 rfl hS ?_
            try simp only [Act.put, pa, pb, pc]
            refine tu 19 83 rfl hS ?_
            try simp only [Act.put, pa, pb, pc]
            refine tu 20 84 rfl hS ?_
            try simp only [Act.put, pa, pb, pc]
            refine tu 21 85 rfl hS ?_
            try simp only [Act.put, pa, pb, pc]
            refine tu 22 86 rfl hS ?_
            try simp only [Act.put, pa, pb, pc]
            refine tu 23 87 rfl hS ?_
            try simp only [Act.put, pa, pb, pc]
            refine tu 24 88 rfl hS ?_
            try simp only [Act.put, pa, pb, pc]
            refine tu 25 89 rfl hS ?_
            try simp only [Act.put, pa, pb, pc]
            refine tu 26 90 rfl hS ?_
            try simp only [Act.put, pa, pb, pc]
            refine tu 27 91 rfl hS ?_
            try simp only [Act.put, pa, pb, pc]
            refine tu 28 92 rfl hS ?_
            try simp only [Act.put, pa, pb, pc]
            refine tu 29 93 rfl hS ?_
            try simp only [Act.put, pa, pb, pc]
            refine tu 30 94 rfl hS ?_
            try simp only [Act.put, pa, pb, pc]
            refine tk (v := ?_) 31 95 rfl (fun w' hS' => ?_) hS ?_
            rotate_left
            · go_simp; all_goals (with_reducible rfl)
            try simp only [Act.put, pa, pb, pc]
            refine wpAnyH_done (by kernel_rfl) ?_ _
            clear hS
            go_wp2
            go_ret
            exact ⟨ret_b HE.out.symm, HM.out.bl⟩
          obtain ⟨k, rfl, hk, hkl⟩ := hubDoc_pos HK.out h3
          have g3 : decide ((k : Int) < 0) = false := decide_eq_false h3
          clear h3 HK
          obtain ⟨b3, off3, d, D2, d2, D3, d3, D4, d4, hA3, hb3, hp3, z0, z1, z2, z3, z4, p2, p3, p4⟩ := atDos R1.out (i := k) hkl
          subst hA3
          have HF := Lib.hid (fit_some hk hp3)
          have hre := docsOk_rev (HA.out _ _ hp3)
          have hsd := hs.docs.at_ (List.mem_of_getElem? hp3)
          have P2h := Lib.hid p2
          have P3h := Lib.hid p3
          have P4h := Lib.hid p4
          have HRE := Lib.hid hre
          clear hp3 p2 p3 p4 hk hre
          by_cases h4 : j = 0
          · have g4 : decide (0 < j) = false := decide_eq_false (by omega)
            have HN := Lib.hid (show decide (idAt x.subs j < e.id) = true by rw [h4]; have h5 := h1.out; unfold inB at h5; simp at h5; exact decide_eq_true (by show (0 : Int) < _; omega))
            clear h4
            replace HM := Lib.hid (HM.out.drew)
            refine wp_region_held_drew (S := fun W => Ms w [.bx wr.heap.size (.cells #[.int .i64 e.id, .string e.doc, .int .i64 e.cap, .int .i64 e.next, .bool e.out, .slice C5 e.list.length c5] 73 (0, 0)), .bx w.heap.size (.cells #[.bool x.shut, .slice (some ⟨b3, off3, none⟩) x.docs.length ca, .slice (some ⟨b, off, none⟩) x.subs.length cb, .int .i64 x.last] 47 (0, 0))] W) (by kernel_rfl) (HM.out.pick (ks := [0, 1]) (by decide) rfl) (fun hS => ?_)
            generalize W12.drew = W18 at HM hS  ⊢
            refine tk (v := ?_) 0 64 rfl (fun w' hS' => ?_) hS ?_
            rotate_left
            · go_simp; all_goals (with_reducible rfl)
            try simp only [Act.put, pa, pb, pc]
            refine tk (v := ?_) 1 65 rfl (fun w' hS' => ?_) hS ?_
            rotate_left
            · (try dsimp only at hS'); have q0 := hS'.cell (i := 0) (j := 0) rfl rfl; have q1 := hS'.cell (i := 0) (j := 1) rfl rfl; have q2 := hS'.cell (i := 0) (j := 2) rfl rfl; have q3 := hS'.cell (i := 0) (j := 3) rfl rfl; have q4 := hS'.cell (i := 0) (j := 4) rfl rfl; have q5 := hS'.cell (i := 0) (j := 5) rfl rfl; have p0 := hS'.cell (i := 1) (j := 0) rfl rfl; have p1 := hS'.cell (i := 1) (j := 1) rfl rfl; have p2 := hS'.cell (i := 1) (j := 2) rfl rfl; have p3 := hS'.cell (i := 1) (j := 3) rfl rfl; go_simp; all_goals (with_reducible rfl)
            try simp only [Act.put, pa, pb, pc]
            refine tk (v := ?_) 2 66 rfl (fun w' hS' => ?_) hS ?_
            rotate_left
            · go_simp; all_goals (with_reducible rfl)
            try simp only [Act.put, pa, pb, pc]
            refine tk (v := ?_) 3 67 rfl (fun w' hS' => ?_) hS ?_
            rotate_left
            · (try dsimp only at hS'); have q0 := hS'.cell (i := 0) (j := 0) rfl rfl; have q1 := hS'.cell (i := 0) (j := 1) rfl rfl; have q2 := hS'.cell (i := 0) (j := 2) rfl rfl; have q3 := hS'.cell (i := 0) (j := 3) rfl rfl; have q4 := hS'.cell (i := 0) (j := 4) rfl rfl; have q5 := hS'.cell (i := 0) (j := 5) rfl rfl; have p0 := hS'.cell (i := 1) (j := 0) rfl rfl; have p1 := hS'.cell (i := 1) (j := 1) rfl rfl; have p2 := hS'.cell (i := 1) (j := 2) rfl rfl; have p3 := hS'.cell (i := 1) (j := 3) rfl rfl; go_simp; all_goals (with_reducible rfl)
            try simp only [Act.put, pa, pb, pc]
            refine r1 4 (some 68) rfl (fun K hK => ?_)
            go_simp
            refine (in_any _ _ _ _).mono ?_
            rw [h1.out]
            rintro e' w9 ⟨rfl, rfl⟩
            refine hK.out _ _ (HM.out.pick (ks := [0, 1]) (by decide) rfl) (fun hS => ?_)
            clear hK K
            try simp only [Act.put, pa, pb, pc]
            refine tk (v := ?_) 5 69 rfl (fun w' hS' => ?_) hS ?_
            rotate_left
            · go_simp; all_goals (with_reducible rfl)
            try simp only [Act.put, pa, pb, pc]
            refine tk (v := ?_) 6 70 rfl (fun w' hS' => ?_) hS ?_
            rotate_left
            · go_simp; all_goals (with_reducible rfl)
            try simp only [Act.put, pa, pb, pc]
            refine tk (v := ?_) 7 71 rfl (fun w' hS' => ?_) hS ?_
            rotate_left
            · go_simp; all_goals (with_reducible rfl)
            try simp only [Act.put, pa, pb, pc]
            refine tk (v := ?_) 8 72 rfl (fun w' hS' => ?_) hS ?_
            rotate_left
            · (try dsimp only at hS'); have q0 := hS'.cell (i := 0) (j := 0) rfl rfl; have q1 := hS'.cell (i := 0) (j := 1) rfl rfl; have q2 := hS'.cell (i := 0) (j := 2) rfl rfl; have q3 := hS'.cell (i := 0) (j := 3) rfl rfl; have q4 := hS'.cell (i := 0) (j := 4) rfl rfl; have q5 := hS'.cell (i := 0) (j := 5) rfl rfl; have p0 := hS'.cell (i := 1) (j := 0) rfl rfl; have p1 := hS'.cell (i := 1) (j := 1) rfl rfl; have p2 := hS'.cell (i := 1) (j := 2) rfl rfl; have p3 := hS'.cell (i := 1) (j := 3) rfl rfl; go_simp; all_goals (with_reducible rfl)
            try simp only [Act.put, pa, pb, pc]
            refine r1 9 (some 73) rfl (fun K hK => ?_)
            go_simp
            refine (specRingOk_d _ (ringSu e) _ (rdRi (ringSu e) (HM.out.arg Q5h.out)) (show SmRi (ringSu e) from hse.list)).mono ?_
            rw [h2.out]
            rintro e' W19 ⟨rfl, b'⟩
            replace HM := Lib.hid (HM.out.past b')
            clear b'
            clear hS
            refine hK.out _ _ (HM.out.pick (ks := [0, 1]) (by decide) rfl) (fun hS => ?_)
            clear hK K
            try simp only [Act.put, pa, pb, pc]
            refine tk (v := ?_) 10 74 rfl (fun w' hS' => ?_) hS ?_
            rotate_left
            · go_simp; all_goals (with_reducible rfl)
            try simp only [Act.put, pa, pb, pc]
            refine tk (v := ?_) 11 75 rfl (fun w' hS' => ?_) hS ?_
            rotate_left
            · go_simp; all_goals (with_reducible rfl)
            try simp only [Act.put, pa, pb, pc]
            refine tk (v := ?_) 12 76 rfl (fun w' hS' => ?_) hS ?_
            rotate_left
            · go_simp; all_goals (with_reducible rfl)
            try simp only [Act.put, pa, pb, pc]
            refine tk (v := ?_) 13 77 rfl (fun w' hS' => ?_) hS ?_
            rotate_left
            · go_simp; all_goals (with_reducible rfl)
            try simp only [Act.put, pa, pb, pc]
            refine tk (v := ?_) 14 78 rfl (fun w' hS' => ?_) hS ?_
            rotate_left
            · go_simp; all_goals (with_reducible rfl)
            try simp only [Act.put, pa, pb, pc]
            try rw [g3]
            refine tk (v := ?_) 15 79 rfl (fun w' hS' => ?_) hS ?_
            rotate_left
            · go_simp; all_goals (with_reducible rfl)
            try simp only [Act.put, pa, pb, pc]
            refine tk (v := ?_) 16 80 rfl (fun w' hS' => ?_) hS ?_
            rotate_left
            · go_simp; all_goals (with_reducible rfl)
            try simp only [Act.put, pa, pb, pc]
            refine tk (v := ?_) 17 81 rfl (fun w' hS' => ?_) hS ?_
            rotate_left
            · go_simp; all_goals (with_reducible rfl)
            try simp only [Act.put, pa, pb, pc]
            refine tk (v := ?_) 18 82 rfl (fun w' hS' => ?_) hS ?_
            rotate_left
            · go_simp; all_goals (with_reducible rfl)
            try simp only [Act.put, pa, pb, pc]
            try rw [g4]
            refine tk (v := ?_) 19 83 rfl (fun w' hS' => ?_) hS ?_
            rotate_left
            · go_simp; all_goals (with_reducible rfl)
            try simp only [Act.put, pa, pb, pc]
            refine tu 20 84 rfl hS ?_
            try simp only [Act.put, pa, pb, pc]
            refine tu 21 85 rfl hS ?_
            try simp only [Act.put, pa, pb, pc]
            refine tu 22 86 rfl hS ?_
            try simp only [Act.put, pa, pb, pc]
            refine tu 23 87 rfl hS ?_
            try simp only [Act.put, pa, pb, pc]
            refine tu 24 88 rfl hS ?_
            try simp only [Act.put, pa, pb, pc]
            refine tu 25 89 rfl hS ?_
            try simp only [Act.put, pa, pb, pc]
            refine tu 26 90 rfl hS ?_
            try simp only [Act.put, pa, pb, pc]
            refine tu 27 91 rfl hS ?_
            try simp only [Act.put, pa, pb, pc]
            refine tu 28 92 rfl hS ?_
            try simp only [Act.put, pa, pb, pc]
            refine tu 29 93 rfl hS ?_
            try simp only [Act.put, pa, pb, pc]
            refine tk (v := ?_) 30 94 rfl (fun w' hS' => ?_) hS ?_
            rotate_left
            · go_simp; all_goals (with_reducible rfl)
            try simp only [Act.put, pa, pb, pc]
            refine tk (v := ?_) 31 95 rfl (fun w' hS' => ?_) hS ?_
            rotate_left
            · go_simp; all_goals (with_reducible rfl)
            try simp only [Act.put, pa, pb, pc]
            refine wpAnyH_done (by kernel_rfl) ?_ _
            clear hS
            go_wp2
            rcases (show e.out = true ∨ e.out = false by cases e.out <;> simp) with h6 | h6
            · have HJ := Lib.hid (show subsB x.docs x.last 0 x.subs = subsB x.docs x.last (idAt x.subs (j + 1)) (x.subs.drop (j + 1)) by rw [HI.out, HS.out, h1.out, h2.out, HF.out, HN.out, h6, Bool.true_or, Bool.true_and, Bool.true_and, Bool.true_and, Bool.true_and])
              replace HM := Lib.hid (HM.out.drew)
              refine wp_region_held_drew (S := fun W => Ms w [.bx wr.heap.size (.cells #[.int .i64 e.id, .string e.doc, .int .i64 e.cap, .int .i64 e.next, .bool e.out, .slice C5 e.list.length c5] 73 (0, 0)), .bx w.heap.size (.cells #[.bool x.shut, .slice (some ⟨b3, off3, none⟩) x.docs.length ca, .slice (some ⟨b, off, none⟩) x.subs.length cb, .int .i64 x.last] 47 (0, 0))] W) (by kernel_rfl) (HM.out.pick (ks := [0, 1]) (by decide) rfl) (fun hS => ?_)
              generalize W19.drew = W20 at HM hS  ⊢
              refine tk (v := ?_) 0 96 rfl (fun w' hS' => ?_) hS ?_
              rotate_left
              · go_simp; all_goals (with_reducible rfl)
              try simp only [Act.put, pa, pb, pc]
              refine tk (v := ?_) 1 97 rfl (fun w' hS' => ?_) hS ?_
              rotate_left
              · go_simp; all_goals (with_reducible rfl)
              try simp only [Act.put, pa, pb, pc]
              refine tk (v := ?_) 2 98 rfl (fun w' hS' => ?_) hS ?_
              rotate_left
              · (try dsimp only at hS'); have q0 := hS'.cell (i := 0) (j := 0) rfl rfl; have q1 := hS'.cell (i := 0) (j := 1) rfl rfl; have q2 := hS'.cell (i := 0) (j := 2) rfl rfl; have q3 := hS'.cell (i := 0) (j := 3) rfl rfl; have q4 := hS'.cell (i := 0) (j := 4) rfl rfl; have q5 := hS'.cell (i := 0) (j := 5) rfl rfl; have p0 := hS'.cell (i := 1) (j := 0) rfl rfl; have p1 := hS'.cell (i := 1) (j := 1) rfl rfl; have p2 := hS'.cell (i := 1) (j := 2) rfl rfl; have p3 := hS'.cell (i := 1) (j := 3) rfl rfl; rw [h6] at q4; go_simp; all_goals (with_reducible rfl)
              try simp only [Act.put, pa, pb, pc]
              refine tk (v := ?_) 3 99 rfl (fun w' hS' => ?_) hS ?_
              rotate_left
              · go_simp; all_goals (with_reducible rfl)
              try simp only [Act.put, pa, pb, pc]
              refine tk (v := ?_) 4 100 rfl (fun w' hS' => ?_) hS ?_
              rotate_left
              · go_simp; all_goals (with_reducible rfl)
              try simp only [Act.put, pa, pb, pc]
              refine tu 5 101 rfl hS ?_
              try simp only [Act.put, pa, pb, pc]
              refine tu 6 102 rfl hS ?_
              try simp only [Act.put, pa, pb, pc]
              refine tu 7 103 rfl hS ?_
              try simp only [Act.put, pa, pb, pc]
              refine tu 8 104 rfl hS ?_
              try simp only [Act.put, pa, pb, pc]
              refine tu 9 105 rfl hS ?_
              try simp only [Act.put, pa, pb, pc]
              refine tu 10 106 rfl hS ?_
              try simp only [Act.put, pa, pb, pc]
              refine tu 11 107 rfl hS ?_
              try simp only [Act.put, pa, pb, pc]
              refine tu 12 108 rfl hS ?_
              try simp only [Act.put, pa, pb, pc]
              refine tu 13 109 rfl hS ?_
              try simp only [Act.put, pa, pb, pc]
              refine tu 14 110 rfl hS ?_
              try simp only [Act.put, pa, pb, pc]
              refine tu 15 111 rfl hS ?_
              try simp only [Act.put, pa, pb, pc]
              refine tu 16 112 rfl hS ?_
              try simp only [Act.put, pa, pb, pc]
              refine tu 17 113 rfl hS ?_
              try simp only [Act.put, pa, pb, pc]
              refine tu 18 114 rfl hS ?_
              try simp only [Act.put, pa, pb, pc]
              refine tu 19 115 rfl hS ?_
              try simp only [Act.put, pa, pb, pc]
              refine tu 20 116 rfl hS ?_
              try simp only [Act.put, pa, pb, pc]
              refine tk (v := ?_) 21 117 rfl (fun w' hS' => ?_) hS ?_
              rotate_left
              · go_simp; all_goals (with_reducible rfl)
              try simp only [Act.put, pa, pb, pc]
              refine wpAnyH_done (by kernel_rfl) ?_ _
              clear hS
              skip
              go_wp2
              go_roundw
              case rel => exact ⟨j + 1, by omega, by go_num, HJ.out, HM.out.pick (ks := [1]) (by decide) rfl⟩
              case measure => simp [intOf]; omega
            have hrb := RB.out
            have hn1 : e.next ≤ 1000000000 ∧ 1 ≤ e.next ∧ (e.list.length : Int) ≤ e.cap ∧ e.cap ≤ 6 := ⟨hrb.2.2.2.2.1, hrb.2.2.2.1, hrb.2.2.2.2.2.1, hrb.2.2.1⟩
            obtain ⟨hn1, hn2, hn3, hn4⟩ := hn1
            obtain ⟨hr1, hr2⟩ := HRE.out
            clear hrb
            have hw1 : IntKind.i64.wrap (e.next + (e.list.length : Int)) = e.next + (e.list.length : Int) := IntWalk.i64_in _ (by omega)
            have hw2 : IntKind.i64.wrap (headRevT d + 1) = headRevT d + 1 := IntWalk.i64_in _ (by omega)
            by_cases h7 : e.next + (e.list.length : Int) = headRevT d + 1
            rotate_left
            · have HE := Lib.hid (show hubB x = false by rw [HD3.out, HI.out, HS.out, h1.out, h2.out, HF.out, h6, decide_eq_false h7, Bool.or_false, Bool.false_and, Bool.and_false, Bool.and_false])
              have g7 : (e.next + (e.list.length : Int) != headRevT d + 1) = true := by rw [bne_iff_ne]; exact h7
              clear h7
              replace HM := Lib.hid (HM.out.drew)
              refine wp_region_held_drew (S := fun W => Ms w [.bx wr.heap.size (.cells #[.int .i64 e.id, .string e.doc, .int .i64 e.cap, .int .i64 e.next, .bool e.out, .slice C5 e.list.length c5] 73 (0, 0)), .bx w.heap.size (.cells #[.bool x.shut, .slice (some ⟨b3, off3, none⟩) x.docs.length ca, .slice (some ⟨b, off, none⟩) x.subs.length cb, .int .i64 x.last] 47 (0, 0))] W) (by kernel_rfl) (HM.out.pick (ks := [0, 1]) (by decide) rfl) (fun hS => ?_)
              generalize W19.drew = W21 at HM hS  ⊢
              refine tk (v := ?_) 0 96 rfl (fun w' hS' => ?_) hS ?_
              rotate_left
              · go_simp; all_goals (with_reducible rfl)
              try simp only [Act.put, pa, pb, pc]
              refine tk (v := ?_) 1 97 rfl (fun w' hS' => ?_) hS ?_
              rotate_left
              · go_simp; all_goals (with_reducible rfl)
              try simp only [Act.put, pa, pb, pc]
              refine tk (v := ?_) 2 98 rfl (fun w' hS' => ?_) hS ?_
              rotate_left
              · (try dsimp only at hS'); have q0 := hS'.cell (i := 0) (j := 0) rfl rfl; have q1 := hS'.cell (i := 0) (j := 1) rfl rfl; have q2 := hS'.cell (i := 0) (j := 2) rfl rfl; have q3 := hS'.cell (i := 0) (j := 3) rfl rfl; have q4 := hS'.cell (i := 0) (j := 4) rfl rfl; have q5 := hS'.cell (i := 0) (j := 5) rfl rfl; have p0 := hS'.cell (i := 1) (j := 0) rfl rfl; have p1 := hS'.cell (i := 1) (j := 1) rfl rfl; have p2 := hS'.cell (i := 1) (j := 2) rfl rfl; have p3 := hS'.cell (i := 1) (j := 3) rfl rfl; have u0 := (hS'.bl.cell (p := ⟨b3, off3 + k * 5, none⟩) hb3).trans z0; have u1 := (hS'.bl.cell (p := ⟨b3, off3 + k * 5 + 1, none⟩) hb3).trans z1; have u2 := (hS'.bl.cell (p := ⟨b3, off3 + k * 5 + 2, none⟩) hb3).trans z2; have u3 := (hS'.bl.cell (p := ⟨b3, off3 + k * 5 + 3, none⟩) hb3).trans z3; have u4 := (hS'.bl.cell (p := ⟨b3, off3 + k * 5 + 4, none⟩) hb3).trans z4; rw [h6] at q4; go_simp; all_goals (with_reducible rfl)
              try simp only [Act.put, pa, pb, pc]
              refine tk (v := ?_) 3 99 rfl (fun w' hS' => ?_) hS ?_
              rotate_left
              · go_simp; all_goals (with_reducible rfl)
              try simp only [Act.put, pa, pb, pc]
              refine tk (v := ?_) 4 100 rfl (fun w' hS' => ?_) hS ?_
              rotate_left
              · go_simp; all_goals (with_reducible rfl)
              try simp only [Act.put, pa, pb, pc]
              first | refine tu 5 101 rfl hS ?_ | (refine tk (v := ?_) 5 101 rfl (fun w' hS' => ?_) hS ?_; rotate_left; · (go_simp; all_goals (with_reducible rfl)))
              try simp only [Act.put, pa, pb, pc]
              first | refine tu 6 102 rfl hS ?_ | (refine tk (v := ?_) 6 102 rfl (fun w' hS' => ?_) hS ?_; rotate_left; · (go_simp; all_goals (with_reducible rfl)))
              try simp only [Act.put, pa, pb, pc]
              first | refine tu 7 103 rfl hS ?_ | (refine tk (v := ?_) 7 103 rfl (fun w' hS' => ?_) hS ?_; rotate_left; · ((try dsimp only at hS'); have q0 := hS'.cell (i := 0) (j := 0) rfl rfl; have q1 := hS'.cell (i := 0) (j := 1) rfl rfl; have q2 := hS'.cell (i := 0) (j := 2) rfl rfl; have q3 := hS'.cell (i := 0) (j := 3) rfl rfl; have q4 := hS'.cell (i := 0) (j := 4) rfl rfl; have q5 := hS'.cell (i := 0) (j := 5) rfl rfl; have p0 := hS'.cell (i := 1) (j := 0) rfl rfl; have p1 := hS'.cell (i := 1) (j := 1) rfl rfl; have p2 := hS'.cell (i := 1) (j := 2) rfl rfl; have p3 := hS'.cell (i := 1) (j := 3) rfl rfl; have u0 := (hS'.bl.cell (p := ⟨b3, off3 + k * 5, none⟩) hb3).trans z0; have u1 := (hS'.bl.cell (p := ⟨b3, off3 + k * 5 + 1, none⟩) hb3).trans z1; have u2 := (hS'.bl.cell (p := ⟨b3, off3 + k * 5 + 2, none⟩) hb3).trans z2; have u3 := (hS'.bl.cell (p := ⟨b3, off3 + k * 5 + 3, none⟩) hb3).trans z3; have u4 := (hS'.bl.cell (p := ⟨b3, off3 + k * 5 + 4, none⟩) hb3).trans z4; rw [h6] at q4; go_simp; all_goals (with_reducible rfl)))
              try simp only [Act.put, pa, pb, pc]
              first | refine tu 8 104 rfl hS ?_ | (refine tk (v := ?_) 8 104 rfl (fun w' hS' => ?_) hS ?_; rotate_left; · (go_simp; all_goals (with_reducible rfl)))
              try simp only [Act.put, pa, pb, pc]
              first | refine tu 9 105 rfl hS ?_ | (refine tk (v := ?_) 9 105 rfl (fun w' hS' => ?_) hS ?_; rotate_left; · (go_simp; all_goals (with_reducible rfl)))
              try simp only [Act.put, pa, pb, pc]
              first | refine tu 10 106 rfl hS ?_ | (refine tk (v := ?_) 10 106 rfl (fun w' hS' => ?_) hS ?_; rotate_left; · ((try dsimp only at hS'); have q0 := hS'.cell (i := 0) (j := 0) rfl rfl; have q1 := hS'.cell (i := 0) (j := 1) rfl rfl; have q2 := hS'.cell (i := 0) (j := 2) rfl rfl; have q3 := hS'.cell (i := 0) (j := 3) rfl rfl; have q4 := hS'.cell (i := 0) (j := 4) rfl rfl; have q5 := hS'.cell (i := 0) (j := 5) rfl rfl; have p0 := hS'.cell (i := 1) (j := 0) rfl rfl; have p1 := hS'.cell (i := 1) (j := 1) rfl rfl; have p2 := hS'.cell (i := 1) (j := 2) rfl rfl; have p3 := hS'.cell (i := 1) (j := 3) rfl rfl; have u0 := (hS'.bl.cell (p := ⟨b3, off3 + k * 5, none⟩) hb3).trans z0; have u1 := (hS'.bl.cell (p := ⟨b3, off3 + k * 5 + 1, none⟩) hb3).trans z1; have u2 := (hS'.bl.cell (p := ⟨b3, off3 + k * 5 + 2, none⟩) hb3).trans z2; have u3 := (hS'.bl.cell (p := ⟨b3, off3 + k * 5 + 3, none⟩) hb3).trans z3; have u4 := (hS'.bl.cell (p := ⟨b3, off3 + k * 5 + 4, none⟩) hb3).trans z4; rw [h6] at q4; go_simp; all_goals (with_reducible rfl)))
              try simp only [Act.put, pa, pb, pc]
              first | refine tu 11 107 rfl hS ?_ | (refine tk (v := ?_) 11 107 rfl (fun w' hS' => ?_) hS ?_; rotate_left; · (go_simp; all_goals (with_reducible rfl)))
              try simp only [Act.put, pa, pb, pc]
              first | refine tu 12 108 rfl hS ?_ | (refine tk (v := ?_) 12 108 rfl (fun w' hS' => ?_) hS ?_; rotate_left; · (go_simp; all_goals (with_reducible rfl)))
              try simp only [Act.put, pa, pb, pc]
              first | refine tu 13 109 rfl hS ?_ | (refine tk (v := ?_) 13 109 rfl (fun w' hS' => ?_) hS ?_; rotate_left; · (go_simp; all_goals (with_reducible rfl)))
              try simp only [Act.put, pa, pb, pc]
              first | refine tu 14 110 rfl hS ?_ | (refine tk (v := ?_) 14 110 rfl (fun w' hS' => ?_) hS ?_; rotate_left; · ((try dsimp only at hS'); have q0 := hS'.cell (i := 0) (j := 0) rfl rfl; have q1 := hS'.cell (i := 0) (j := 1) rfl rfl; have q2 := hS'.cell (i := 0) (j := 2) rfl rfl; have q3 := hS'.cell (i := 0) (j := 3) rfl rfl; have q4 := hS'.cell (i := 0) (j := 4) rfl rfl; have q5 := hS'.cell (i := 0) (j := 5) rfl rfl; have p0 := hS'.cell (i := 1) (j := 0) rfl rfl; have p1 := hS'.cell (i := 1) (j := 1) rfl rfl; have p2 := hS'.cell (i := 1) (j := 2) rfl rfl; have p3 := hS'.cell (i := 1) (j := 3) rfl rfl; have u0 := (hS'.bl.cell (p := ⟨b3, off3 + k * 5, none⟩) hb3).trans z0; have u1 := (hS'.bl.cell (p := ⟨b3, off3 + k * 5 + 1, none⟩) hb3).trans z1; have u2 := (hS'.bl.cell (p := ⟨b3, off3 + k * 5 + 2, none⟩) hb3).trans z2; have u3 := (hS'.bl.cell (p := ⟨b3, off3 + k * 5 + 3, none⟩) hb3).trans z3; have u4 := (hS'.bl.cell (p := ⟨b3, off3 + k * 5 + 4, none⟩) hb3).trans z4; rw [h6] at q4; go_simp; all_goals (with_reducible rfl)))
              try simp only [Act.put, pa, pb, pc]
              first | refine tu 15 111 rfl hS ?_ | (refine tk (v := ?_) 15 111 rfl (fun w' hS' => ?_) hS ?_; rotate_left; · (go_simp; all_goals (with_reducible rfl)))
              try simp only [Act.put, pa, pb, pc]
              first | refine tu 16 112 rfl hS ?_ | (refine tk (v := ?_) 16 112 rfl (fun w' hS' => ?_) hS ?_; rotate_left; · (go_simp; all_goals (with_reducible rfl)))
              try simp only [Act.put, pa, pb, pc]
              first | refine tu 17 113 rfl hS ?_ | (refine tk (v := ?_) 17 113 rfl (fun w' hS' => ?_) hS ?_; rotate_left; · ((try dsimp only at hS'); have q0 := hS'.cell (i := 0) (j := 0) rfl rfl; have q1 := hS'.cell (i := 0) (j := 1) rfl rfl; have q2 := hS'.cell (i := 0) (j := 2) rfl rfl; have q3 := hS'.cell (i := 0) (j := 3) rfl rfl; have q4 := hS'.cell (i := 0) (j := 4) rfl rfl; have q5 := hS'.cell (i := 0) (j := 5) rfl rfl; have p0 := hS'.cell (i := 1) (j := 0) rfl rfl; have p1 := hS'.cell (i := 1) (j := 1) rfl rfl; have p2 := hS'.cell (i := 1) (j := 2) rfl rfl; have p3 := hS'.cell (i := 1) (j := 3) rfl rfl; have u0 := (hS'.bl.cell (p := ⟨b3, off3 + k * 5, none⟩) hb3).trans z0; have u1 := (hS'.bl.cell (p := ⟨b3, off3 + k * 5 + 1, none⟩) hb3).trans z1; have u2 := (hS'.bl.cell (p := ⟨b3, off3 + k * 5 + 2, none⟩) hb3).trans z2; have u3 := (hS'.bl.cell (p := ⟨b3, off3 + k * 5 + 3, none⟩) hb3).trans z3; have u4 := (hS'.bl.cell (p := ⟨b3, off3 + k * 5 + 4, none⟩) hb3).trans z4; rw [h6] at q4; go_simp; all_goals (with_reducible rfl)))
              try simp only [Act.put, pa, pb, pc]
              refine r1 18 (some 114) rfl (fun K hK => ?_)
              go_simp
              refine (specHeadRev_d _ d _ (rdDo d (HM.out.arg P2h.out) (HM.out.arg P3h.out) (HM.out.arg P4h.out)) hsd).mono ?_
              rintro e' W22 ⟨rfl, b'⟩
              replace HM := Lib.hid (HM.out.past b')
              clear b'
              clear hS
              refine hK.out _ _ (HM.out.pick (ks := [0, 1]) (by decide) rfl) (fun hS => ?_)
              clear hK K
              try simp only [Act.put, pa, pb, pc]
              first | refine tu 19 115 rfl hS ?_ | (refine tk (v := ?_) 19 115 rfl (fun w' hS' => ?_) hS ?_; rotate_left; · (go_simp; all_goals (with_reducible rfl)))
              try simp only [Act.put, pa, pb, pc]
              first | refine tu 20 116 rfl hS ?_ | (refine tk (v := ?_) 20 116 rfl (fun w' hS' => ?_) hS ?_; rotate_left; · (go_simp; all_goals (with_reducible rfl)))
              try simp only [Act.put, pa, pb, pc]
              try rw [g7]
              refine tk (v := ?_) 21 117 rfl (fun w' hS' => ?_) hS ?_
              rotate_left
              · go_simp; all_goals (with_reducible rfl)
              try simp only [Act.put, pa, pb, pc]
              refine wpAnyH_done (by kernel_rfl) ?_ _
              clear hS
              go_wp2
              go_ret
              exact ⟨ret_b HE.out.symm, HM.out.bl⟩
            have HJ := Lib.hid (show subsB x.docs x.last 0 x.subs = subsB x.docs x.last (idAt x.subs (j + 1)) (x.subs.drop (j + 1)) by rw [HI.out, HS.out, h1.out, h2.out, HF.out, HN.out, h6, decide_eq_true h7, Bool.or_true, Bool.true_and, Bool.true_and, Bool.true_and, Bool.true_and])
            have g7 : (e.next + (e.list.length : Int) != headRevT d + 1) = false := by rw [bne_eq_false_iff_eq]; exact h7
            replace h7 := Lib.hid h7
            replace HM := Lib.hid (HM.out.drew)
            refine wp_region_held_drew (S := fun W => Ms w [.bx wr.heap.size (.cells #[.int .i64 e.id, .string e.doc, .int .i64 e.cap, .int .i64 e.next, .bool e.out, .slice C5 e.list.length c5] 73 (0, 0)), .bx w.heap.size (.cells #[.bool x.shut, .slice (some ⟨b3, off3, none⟩) x.docs.length ca, .slice (some ⟨b, off, none⟩) x.subs.length cb, .int .i64 x.last] 47 (0, 0))] W) (by kernel_rfl) (HM.out.pick (ks := [0, 1]) (by decide) rfl) (fun hS => ?_)
            generalize W19.drew = W23 at HM hS  ⊢
            refine tk (v := ?_) 0 96 rfl (fun w' hS' => ?_) hS ?_
            rotate_left
            · go_simp; all_goals (with_reducible rfl)
            try simp only [Act.put, pa, pb, pc]
            refine tk (v := ?_) 1 97 rfl (fun w' hS' => ?_) hS ?_
            rotate_left
            · go_simp; all_goals (with_reducible rfl)
            try simp only [Act.put, pa, pb, pc]
            refine tk (v := ?_) 2 98 rfl (fun w' hS' => ?_) hS ?_
            rotate_left
            · (try dsimp only at hS'); have q0 := hS'.cell (i := 0) (j := 0) rfl rfl; have q1 := hS'.cell (i := 0) (j := 1) rfl rfl; have q2 := hS'.cell (i := 0) (j := 2) rfl rfl; have q3 := hS'.cell (i := 0) (j := 3) rfl rfl; have q4 := hS'.cell (i := 0) (j := 4) rfl rfl; have q5 := hS'.cell (i := 0) (j := 5) rfl rfl; have p0 := hS'.cell (i := 1) (j := 0) rfl rfl; have p1 := hS'.cell (i := 1) (j := 1) rfl rfl; have p2 := hS'.cell (i := 1) (j := 2) rfl rfl; have p3 := hS'.cell (i := 1) (j := 3) rfl rfl; have u0 := (hS'.bl.cell (p := ⟨b3, off3 + k * 5, none⟩) hb3).trans z0; have u1 := (hS'.bl.cell (p := ⟨b3, off3 + k * 5 + 1, none⟩) hb3).trans z1; have u2 := (hS'.bl.cell (p := ⟨b3, off3 + k * 5 + 2, none⟩) hb3).trans z2; have u3 := (hS'.bl.cell (p := ⟨b3, off3 + k * 5 + 3, none⟩) hb3).trans z3; have u4 := (hS'.bl.cell (p := ⟨b3, off3 + k * 5 + 4, none⟩) hb3).trans z4; rw [h6] at q4; go_simp; all_goals (with_reducible rfl)
            try simp only [Act.put, pa, pb, pc]
            refine tk (v := ?_) 3 99 rfl (fun w' hS' => ?_) hS ?_
            rotate_left
            · go_simp; all_goals (with_reducible rfl)
            try simp only [Act.put, pa, pb, pc]
            refine tk (v := ?_) 4 100 rfl (fun w' hS' => ?_) hS ?_
            rotate_left
            · go_simp; all_goals (with_reducible rfl)
            try simp only [Act.put, pa, pb, pc]
            first | refine tu 5 101 rfl hS ?_ | (refine tk (v := ?_) 5 101 rfl (fun w' hS' => ?_) hS ?_; rotate_left; · (go_simp; all_goals (with_reducible rfl)))
            try simp only [Act.put, pa, pb, pc]
            first | refine tu 6 102 rfl hS ?_ | (refine tk (v := ?_) 6 102 rfl (fun w' hS' => ?_) hS ?_; rotate_left; · (go_simp; all_goals (with_reducible rfl)))
            try simp only [Act.put, pa, pb, pc]
            first | refine tu 7 103 rfl hS ?_ | (refine tk (v := ?_) 7 103 rfl (fun w' hS' => ?_) hS ?_; rotate_left; · ((try dsimp only at hS'); have q0 := hS'.cell (i := 0) (j := 0) rfl rfl; have q1 := hS'.cell (i := 0) (j := 1) rfl rfl; have q2 := hS'.cell (i := 0) (j := 2) rfl rfl; have q3 := hS'.cell (i := 0) (j := 3) rfl rfl; have q4 := hS'.cell (i := 0) (j := 4) rfl rfl; have q5 := hS'.cell (i := 0) (j := 5) rfl rfl; have p0 := hS'.cell (i := 1) (j := 0) rfl rfl; have p1 := hS'.cell (i := 1) (j := 1) rfl rfl; have p2 := hS'.cell (i := 1) (j := 2) rfl rfl; have p3 := hS'.cell (i := 1) (j := 3) rfl rfl; have u0 := (hS'.bl.cell (p := ⟨b3, off3 + k * 5, none⟩) hb3).trans z0; have u1 := (hS'.bl.cell (p := ⟨b3, off3 + k * 5 + 1, none⟩) hb3).trans z1; have u2 := (hS'.bl.cell (p := ⟨b3, off3 + k * 5 + 2, none⟩) hb3).trans z2; have u3 := (hS'.bl.cell (p := ⟨b3, off3 + k * 5 + 3, none⟩) hb3).trans z3; have u4 := (hS'.bl.cell (p := ⟨b3, off3 + k * 5 + 4, none⟩) hb3).trans z4; rw [h6] at q4; go_simp; all_goals (with_reducible rfl)))
            try simp only [Act.put, pa, pb, pc]
            first | refine tu 8 104 rfl hS ?_ | (refine tk (v := ?_) 8 104 rfl (fun w' hS' => ?_) hS ?_; rotate_left; · (go_simp; all_goals (with_reducible rfl)))
            try simp only [Act.put, pa, pb, pc]
            first | refine tu 9 105 rfl hS ?_ | (refine tk (v := ?_) 9 105 rfl (fun w' hS' => ?_) hS ?_; rotate_left; · (go_simp; all_goals (with_reducible rfl)))
            try simp only [Act.put, pa, pb, pc]
            first | refine tu 10 106 rfl hS ?_ | (refine tk (v := ?_) 10 106 rfl (fun w' hS' => ?_) hS ?_; rotate_left; · ((try dsimp only at hS'); have q0 := hS'.cell (i := 0) (j := 0) rfl rfl; have q1 := hS'.cell (i := 0) (j := 1) rfl rfl; have q2 := hS'.cell (i := 0) (j := 2) rfl rfl; have q3 := hS'.cell (i := 0) (j := 3) rfl rfl; have q4 := hS'.cell (i := 0) (j := 4) rfl rfl; have q5 := hS'.cell (i := 0) (j := 5) rfl rfl; have p0 := hS'.cell (i := 1) (j := 0) rfl rfl; have p1 := hS'.cell (i := 1) (j := 1) rfl rfl; have p2 := hS'.cell (i := 1) (j := 2) rfl rfl; have p3 := hS'.cell (i := 1) (j := 3) rfl rfl; have u0 := (hS'.bl.cell (p := ⟨b3, off3 + k * 5, none⟩) hb3).trans z0; have u1 := (hS'.bl.cell (p := ⟨b3, off3 + k * 5 + 1, none⟩) hb3).trans z1; have u2 := (hS'.bl.cell (p := ⟨b3, off3 + k * 5 + 2, none⟩) hb3).trans z2; have u3 := (hS'.bl.cell (p := ⟨b3, off3 + k * 5 + 3, none⟩) hb3).trans z3; have u4 := (hS'.bl.cell (p := ⟨b3, off3 + k * 5 + 4, none⟩) hb3).trans z4; rw [h6] at q4; go_simp; all_goals (with_reducible rfl)))
            try simp only [Act.put, pa, pb, pc]
            first | refine tu 11 107 rfl hS ?_ | (refine tk (v := ?_) 11 107 rfl (fun w' hS' => ?_) hS ?_; rotate_left; · (go_simp; all_goals (with_reducible rfl)))
            try simp only [Act.put, pa, pb, pc]
            first | refine tu 12 108 rfl hS ?_ | (refine tk (v := ?_) 12 108 rfl (fun w' hS' => ?_) hS ?_; rotate_left; · (go_simp; all_goals (with_reducible rfl)))
            try simp only [Act.put, pa, pb, pc]
            first | refine tu 13 109 rfl hS ?_ | (refine tk (v := ?_) 13 109 rfl (fun w' hS' => ?_) hS ?_; rotate_left; · (go_simp; all_goals (with_reducible rfl)))
            try simp only [Act.put, pa, pb, pc]
            first | refine tu 14 110 rfl hS ?_ | (refine tk (v := ?_) 14 110 rfl (fun w' hS' => ?_) hS ?_; rotate_left; · ((try dsimp only at hS'); have q0 := hS'.cell (i := 0) (j := 0) rfl rfl; have q1 := hS'.cell (i := 0) (j := 1) rfl rfl; have q2 := hS'.cell (i := 0) (j := 2) rfl rfl; have q3 := hS'.cell (i := 0) (j := 3) rfl rfl; have q4 := hS'.cell (i := 0) (j := 4) rfl rfl; have q5 := hS'.cell (i := 0) (j := 5) rfl rfl; have p0 := hS'.cell (i := 1) (j := 0) rfl rfl; have p1 := hS'.cell (i := 1) (j := 1) rfl rfl; have p2 := hS'.cell (i := 1) (j := 2) rfl rfl; have p3 := hS'.cell (i := 1) (j := 3) rfl rfl; have u0 := (hS'.bl.cell (p := ⟨b3, off3 + k * 5, none⟩) hb3).trans z0; have u1 := (hS'.bl.cell (p := ⟨b3, off3 + k * 5 + 1, none⟩) hb3).trans z1; have u2 := (hS'.bl.cell (p := ⟨b3, off3 + k * 5 + 2, none⟩) hb3).trans z2; have u3 := (hS'.bl.cell (p := ⟨b3, off3 + k * 5 + 3, none⟩) hb3).trans z3; have u4 := (hS'.bl.cell (p := ⟨b3, off3 + k * 5 + 4, none⟩) hb3).trans z4; rw [h6] at q4; go_simp; all_goals (with_reducible rfl)))
            try simp only [Act.put, pa, pb, pc]
            first | refine tu 15 111 rfl hS ?_ | (refine tk (v := ?_) 15 111 rfl (fun w' hS' => ?_) hS ?_; rotate_left; · (go_simp; all_goals (with_reducible rfl)))
            try simp only [Act.put, pa, pb, pc]
            first | refine tu 16 112 rfl hS ?_ | (refine tk (v := ?_) 16 112 rfl (fun w' hS' => ?_) hS ?_; rotate_left; · (go_simp; all_goals (with_reducible rfl)))
            try simp only [Act.put, pa, pb, pc]
            first | refine tu 17 113 rfl hS ?_ | (refine tk (v := ?_) 17 113 rfl (fun w' hS' => ?_) hS ?_; rotate_left; · ((try dsimp only at hS'); have q0 := hS'.cell (i := 0) (j := 0) rfl rfl; have q1 := hS'.cell (i := 0) (j := 1) rfl rfl; have q2 := hS'.cell (i := 0) (j := 2) rfl rfl; have q3 := hS'.cell (i := 0) (j := 3) rfl rfl; have q4 := hS'.cell (i := 0) (j := 4) rfl rfl; have q5 := hS'.cell (i := 0) (j := 5) rfl rfl; have p0 := hS'.cell (i := 1) (j := 0) rfl rfl; have p1 := hS'.cell (i := 1) (j := 1) rfl rfl; have p2 := hS'.cell (i := 1) (j := 2) rfl rfl; have p3 := hS'.cell (i := 1) (j := 3) rfl rfl; have u0 := (hS'.bl.cell (p := ⟨b3, off3 + k * 5, none⟩) hb3).trans z0; have u1 := (hS'.bl.cell (p := ⟨b3, off3 + k * 5 + 1, none⟩) hb3).trans z1; have u2 := (hS'.bl.cell (p := ⟨b3, off3 + k * 5 + 2, none⟩) hb3).trans z2; have u3 := (hS'.bl.cell (p := ⟨b3, off3 + k * 5 + 3, none⟩) hb3).trans z3; have u4 := (hS'.bl.cell (p := ⟨b3, off3 + k * 5 + 4, none⟩) hb3).trans z4; rw [h6] at q4; go_simp; all_goals (with_reducible rfl)))
            try simp only [Act.put, pa, pb, pc]
            refine r1 18 (some 114) rfl (fun K hK => ?_)
            go_simp
            refine (specHeadRev_d _ d _ (rdDo d (HM.out.arg P2h.out) (HM.out.arg P3h.out) (HM.out.arg P4h.out)) hsd).mono ?_
            rintro e' W24 ⟨rfl, b'⟩
            replace HM := Lib.hid (HM.out.past b')
            clear b'
            clear hS
            refine hK.out _ _ (HM.out.pick (ks := [0, 1]) (by decide) rfl) (fun hS => ?_)
            clear hK K
            try simp only [Act.put, pa, pb, pc]
            first | refine tu 19 115 rfl hS ?_ | (refine tk (v := ?_) 19 115 rfl (fun w' hS' => ?_) hS ?_; rotate_left; · (go_simp; all_goals (with_reducible rfl)))
            try simp only [Act.put, pa, pb, pc]
            first | refine tu 20 116 rfl hS ?_ | (refine tk (v := ?_) 20 116 rfl (fun w' hS' => ?_) hS ?_; rotate_left; · (go_simp; all_goals (with_reducible rfl)))
            try simp only [Act.put, pa, pb, pc]
            try rw [g7]
            refine tk (v := ?_) 21 117 rfl (fun w' hS' => ?_) hS ?_
            rotate_left
            · go_simp; all_goals (with_reducible rfl)
            try simp only [Act.put, pa, pb, pc]
            refine wpAnyH_done (by kernel_rfl) ?_ _
            clear hS
            skip
            go_wp2
            go_roundw
            case rel => exact ⟨j + 1, by omega, by go_num, HJ.out, HM.out.pick (ks := [1]) (by decide) rfl⟩
            case measure => simp [intOf]; omega
          have g4 : decide (0 < j) = true := decide_eq_true (by omega)
          obtain ⟨q, hq⟩ : ∃ q, j = q + 1 := ⟨j - 1, by omega⟩
          obtain ⟨b2, off2, p, D5, d5, hA2, hb2, hp2, y0, -, -, -, -, -, -⟩ := atSus R2.out (i := q) (by omega)
          injection hA2 with hA2
          injection hA2 with hA3 hA4
          subst hA3 hA4
          have HN0 := Lib.hid (show idAt x.subs j = p.id by rw [hq]; exact idAt_of hp2)
          have hw : IntKind.i64.wrap (q : Int) = (q : Int) := IntWalk.i64_in _ (by omega)
          have hw0 : IntKind.i64.wrap ((j : Int) - 1) = (q : Int) := (IntWalk.i64_in _ (by omega)).trans (by omega)
          have hqj : q < x.subs.length := by omega
          clear h4 hp2
          by_cases h5 : p.id < e.id
          rotate_left
          · have HE := Lib.hid (show hubB x = false by rw [HD3.out, HI.out, HS.out, HN0.out, decide_eq_false h5, Bool.false_and, Bool.and_false, Bool.and_false, Bool.and_false])
            have g5 : decide (e.id ≤ p.id) = true := decide_eq_true (by omega)
            clear h5
            replace HM := Lib.hid (HM.out.drew)
            refine wp_region_held_drew (S := fun W => Ms w [.bx wr.heap.size (.cells #[.int .i64 e.id, .string e.doc, .int .i64 e.cap, .int .i64 e.next, .bool e.out, .slice C5 e.list.length c5] 73 (0, 0)), .bx w.heap.size (.cells #[.bool x.shut, .slice (some ⟨b3, off3, none⟩) x.docs.length ca, .slice (some ⟨b, off, none⟩) x.subs.length cb, .int .i64 x.last] 47 (0, 0))] W) (by kernel_rfl) (HM.out.pick (ks := [0, 1]) (by decide) rfl) (fun hS => ?_)
            generalize W12.drew = W25 at HM hS  ⊢
            refine tk (v := ?_) 0 64 rfl (fun w' hS' => ?_) hS ?_
            rotate_left
            · go_simp; all_goals (with_reducible rfl)
            try simp only [Act.put, pa, pb, pc]
            refine tk (v := ?_) 1 65 rfl (fun w' hS' => ?_) hS ?_
            rotate_left
            · (try dsimp only at hS'); have q0 := hS'.cell (i := 0) (j := 0) rfl rfl; have q1 := hS'.cell (i := 0) (j := 1) rfl rfl; have q2 := hS'.cell (i := 0) (j := 2) rfl rfl; have q3 := hS'.cell (i := 0) (j := 3) rfl rfl; have q4 := hS'.cell (i := 0) (j := 4) rfl rfl; have q5 := hS'.cell (i := 0) (j := 5) rfl rfl; have p0 := hS'.cell (i := 1) (j := 0) rfl rfl; have p1 := hS'.cell (i := 1) (j := 1) rfl rfl; have p2 := hS'.cell (i := 1) (j := 2) rfl rfl; have p3 := hS'.cell (i := 1) (j := 3) rfl rfl; have r0 := (hS'.bl.cell (p := ⟨b, off + q * 6, none⟩) hb2).trans y0; go_simp; all_goals (with_reducible rfl)
            try simp only [Act.put, pa, pb, pc]
            refine tk (v := ?_) 2 66 rfl (fun w' hS' => ?_) hS ?_
            rotate_left
            · go_simp; all_goals (with_reducible rfl)
            try simp only [Act.put, pa, pb, pc]
            refine tk (v := ?_) 3 67 rfl (fun w' hS' => ?_) hS ?_
            rotate_left
            · (try dsimp only at hS'); have q0 := hS'.cell (i := 0) (j := 0) rfl rfl; have q1 := hS'.cell (i := 0) (j := 1) rfl rfl; have q2 := hS'.cell (i := 0) (j := 2) rfl rfl; have q3 := hS'.cell (i := 0) (j := 3) rfl rfl; have q4 := hS'.cell (i := 0) (j := 4) rfl rfl; have q5 := hS'.cell (i := 0) (j := 5) rfl rfl; have p0 := hS'.cell (i := 1) (j := 0) rfl rfl; have p1 := hS'.cell (i := 1) (j := 1) rfl rfl; have p2 := hS'.cell (i := 1) (j := 2) rfl rfl; have p3 := hS'.cell (i := 1) (j := 3) rfl rfl; have r0 := (hS'.bl.cell (p := ⟨b, off + q * 6, none⟩) hb2).trans y0; go_simp; all_goals (with_reducible rfl)
            try simp only [Act.put, pa, pb, pc]
            refine r1 4 (some 68) rfl (fun K hK => ?_)
            go_simp
            refine (in_any _ _ _ _).mono ?_
            rw [h1.out]
            rintro e' w9 ⟨rfl, rfl⟩
            refine hK.out _ _ (HM.out.pick (ks := [0, 1]) (by decide) rfl) (fun hS => ?_)
            clear hK K
            try simp only [Act.put, pa, pb, pc]
            refine tk (v := ?_) 5 69 rfl (fun w' hS' => ?_) hS ?_
            rotate_left
            · go_simp; all_goals (with_reducible rfl)
            try simp only [Act.put, pa, pb, pc]
            refine tk (v := ?_) 6 70 rfl (fun w' hS' => ?_) hS ?_
            rotate_left
            · go_simp; all_goals (with_reducible rfl)
            try simp only [Act.put, pa, pb, pc]
            first | refine tu 7 71 rfl hS ?_ | (refine tk (v := ?_) 7 71 rfl (fun w' hS' => ?_) hS ?_; rotate_left; · (go_simp; all_goals (with_reducible rfl)))
            try simp only [Act.put, pa, pb, pc]
            first | refine tu 8 72 rfl hS ?_ | (refine tk (v := ?_) 8 72 rfl (fun w' hS' => ?_) hS ?_; rotate_left; · ((try dsimp only at hS'); have q0 := hS'.cell (i := 0) (j := 0) rfl rfl; have q1 := hS'.cell (i := 0) (j := 1) rfl rfl; have q2 := hS'.cell (i := 0) (j := 2) rfl rfl; have q3 := hS'.cell (i := 0) (j := 3) rfl rfl; have q4 := hS'.cell (i := 0) (j := 4) rfl rfl; have q5 := hS'.cell (i := 0) (j := 5) rfl rfl; have p0 := hS'.cell (i := 1) (j := 0) rfl rfl; have p1 := hS'.cell (i := 1) (j := 1) rfl rfl; have p2 := hS'.cell (i := 1) (j := 2) rfl rfl; have p3 := hS'.cell (i := 1) (j := 3) rfl rfl; have r0 := (hS'.bl.cell (p := ⟨b, off + q * 6, none⟩) hb2).trans y0; go_simp; all_goals (with_reducible rfl)))
            try simp only [Act.put, pa, pb, pc]
            refine r1 9 (some 73) rfl (fun K hK => ?_)
            go_simp
            refine (specRingOk_d _ (ringSu e) _ (rdRi (ringSu e) (HM.out.arg Q5h.out)) (show SmRi (ringSu e) from hse.list)).mono ?_
            rw [h2.out]
            rintro e' W26 ⟨rfl, b'⟩
            replace HM := Lib.hid (HM.out.past b')
            clear b'
            clear hS
            refine hK.out _ _ (HM.out.pick (ks := [0, 1]) (by decide) rfl) (fun hS => ?_)
            clear hK K
            try simp only [Act.put, pa, pb, pc]
            first | refine tu 10 74 rfl hS ?_ | (refine tk (v := ?_) 10 74 rfl (fun w' hS' => ?_) hS ?_; rotate_left; · (go_simp; all_goals (with_reducible rfl)))
            try simp only [Act.put, pa, pb, pc]
            refine tk (v := ?_) 11 75 rfl (fun w' hS' => ?_) hS ?_
            rotate_left
            · go_simp; all_goals (with_reducible rfl)
            try simp only [Act.put, pa, pb, pc]
            refine tk (v := ?_) 12 76 rfl (fun w' hS' => ?_) hS ?_
            rotate_left
            · go_simp; all_goals (with_reducible rfl)
            try simp only [Act.put, pa, pb, pc]
            first | refine tu 13 77 rfl hS ?_ | (refine tk (v := ?_) 13 77 rfl (fun w' hS' => ?_) hS ?_; rotate_left; · (go_simp; all_goals (with_reducible rfl)))
            try simp only [Act.put, pa, pb, pc]
            first | refine tu 14 78 rfl hS ?_ | (refine tk (v := ?_) 14 78 rfl (fun w' hS' => ?_) hS ?_; rotate_left; · (go_simp; all_goals (with_reducible rfl)))
            try simp only [Act.put, pa, pb, pc]
            try rw [g3]
            refine tk (v := ?_) 15 79 rfl (fun w' hS' => ?_) hS ?_
            rotate_left
            · go_simp; all_goals (with_reducible rfl)
            try simp only [Act.put, pa, pb, pc]
            refine tk (v := ?_) 16 80 rfl (fun w' hS' => ?_) hS ?_
            rotate_left
            · go_simp; all_goals (with_reducible rfl)
            try simp only [Act.put, pa, pb, pc]
            first | refine tu 17 81 rfl hS ?_ | (refine tk (v := ?_) 17 81 rfl (fun w' hS' => ?_) hS ?_; rotate_left; · (go_simp; all_goals (with_reducible rfl)))
            try simp only [Act.put, pa, pb, pc]
            first | refine tu 18 82 rfl hS ?_ | (refine tk (v := ?_) 18 82 rfl (fun w' hS' => ?_) hS ?_; rotate_left; · (go_simp; all_goals (with_reducible rfl)))
            try simp only [Act.put, pa, pb, pc]
            try rw [g4]
            first | refine tu 19 83 rfl hS ?_ | (refine tk (v := ?_) 19 83 rfl (fun w' hS' => ?_) hS ?_; rotate_left; · (go_simp; all_goals (with_reducible rfl)))
            try simp only [Act.put, pa, pb, pc]
            first | refine tu 20 84 rfl hS ?_ | (refine tk (v := ?_) 20 84 rfl (fun w' hS' => ?_) hS ?_; rotate_left; · (go_simp; all_goals (with_reducible rfl)))
            try simp only [Act.put, pa, pb, pc]
            first | refine tu 21 85 rfl hS ?_ | (refine tk (v := ?_) 21 85 rfl (fun w' hS' => ?_) hS ?_; rotate_left; · ((try dsimp only at hS'); have q0 := hS'.cell (i := 0) (j := 0) rfl rfl; have q1 := hS'.cell (i := 0) (j := 1) rfl rfl; have q2 := hS'.cell (i := 0) (j := 2) rfl rfl; have q3 := hS'.cell (i := 0) (j := 3) rfl rfl; have q4 := hS'.cell (i := 0) (j := 4) rfl rfl; have q5 := hS'.cell (i := 0) (j := 5) rfl rfl; have p0 := hS'.cell (i := 1) (j := 0) rfl rfl; have p1 := hS'.cell (i := 1) (j := 1) rfl rfl; have p2 := hS'.cell (i := 1) (j := 2) rfl rfl; have p3 := hS'.cell (i := 1) (j := 3) rfl rfl; have r0 := (hS'.bl.cell (p := ⟨b, off + q * 6, none⟩) hb2).trans y0; go_simp; all_goals (with_reducible rfl)))
            try simp only [Act.put, pa, pb, pc]
            first | refine tu 22 86 rfl hS ?_ | (refine tk (v := ?_) 22 86 rfl (fun w' hS' => ?_) hS ?_; rotate_left; · (go_simp; all_goals (with_reducible rfl)))
            try simp only [Act.put, pa, pb, pc]
            first | refine tu 23 87 rfl hS ?_ | (refine tk (v := ?_) 23 87 rfl (fun w' hS' => ?_) hS ?_; rotate_left; · (go_simp; all_goals (with_reducible rfl)))
            try simp only [Act.put, pa, pb, pc]
            first | refine tu 24 88 rfl hS ?_ | (refine tk (v := ?_) 24 88 rfl (fun w' hS' => ?_) hS ?_; rotate_left; · (go_simp; all_goals (with_reducible rfl)))
            try simp only [Act.put, pa, pb, pc]
            first | refine tu 25 89 rfl hS ?_ | (refine tk (v := ?_) 25 89 rfl (fun w' hS' => ?_) hS ?_; rotate_left; · (go_simp; all_goals (with_reducible rfl)))
            try simp only [Act.put, pa, pb, pc]
            first | refine tu 26 90 rfl hS ?_ | (refine tk (v := ?_) 26 90 rfl (fun w' hS' => ?_) hS ?_; rotate_left; · ((try dsimp only at hS'); have q0 := hS'.cell (i := 0) (j := 0) rfl rfl; have q1 := hS'.cell (i := 0) (j := 1) rfl rfl; have q2 := hS'.cell (i := 0) (j := 2) rfl rfl; have q3 := hS'.cell (i := 0) (j := 3) rfl rfl; have q4 := hS'.cell (i := 0) (j := 4) rfl rfl; have q5 := hS'.cell (i := 0) (j := 5) rfl rfl; have p0 := hS'.cell (i := 1) (j := 0) rfl rfl; have p1 := hS'.cell (i := 1) (j := 1) rfl rfl; have p2 := hS'.cell (i := 1) (j := 2) rfl rfl; have p3 := hS'.cell (i := 1) (j := 3) rfl rfl; have r0 := (hS'.bl.cell (p := ⟨b, off + q * 6, none⟩) hb2).trans y0; go_simp; all_goals (with_reducible rfl)))
            try simp only [Act.put, pa, pb, pc]
            first | refine tu 27 91 rfl hS ?_ | (refine tk (v := ?_) 27 91 rfl (fun w' hS' => ?_) hS ?_; rotate_left; · (go_simp; all_goals (with_reducible rfl)))
            try simp only [Act.put, pa, pb, pc]
            first | refine tu 28 92 rfl hS ?_ | (refine tk (v := ?_) 28 92 rfl (fun w' hS' => ?_) hS ?_; rotate_left; · ((try dsimp only at hS'); have q0 := hS'.cell (i := 0) (j := 0) rfl rfl; have q1 := hS'.cell (i := 0) (j := 1) rfl rfl; have q2 := hS'.cell (i := 0) (j := 2) rfl rfl; have q3 := hS'.cell (i := 0) (j := 3) rfl rfl; have q4 := hS'.cell (i := 0) (j := 4) rfl rfl; have q5 := hS'.cell (i := 0) (j := 5) rfl rfl; have p0 := hS'.cell (i := 1) (j := 0) rfl rfl; have p1 := hS'.cell (i := 1) (j := 1) rfl rfl; have p2 := hS'.cell (i := 1) (j := 2) rfl rfl; have p3 := hS'.cell (i := 1) (j := 3) rfl rfl; have r0 := (hS'.bl.cell (p := ⟨b, off + q * 6, none⟩) hb2).trans y0; go_simp; all_goals (with_reducible rfl)))
            try simp only [Act.put, pa, pb, pc]
            first | refine tu 29 93 rfl hS ?_ | (refine tk (v := ?_) 29 93 rfl (fun w' hS' => ?_) hS ?_; rotate_left; · (go_simp; all_goals (with_reducible rfl)))
            try simp only [Act.put, pa, pb, pc]
            try rw [g5]
            first | refine tu 30 94 rfl hS ?_ | (refine tk (v := ?_) 30 94 rfl (fun w' hS' => ?_) hS ?_; rotate_left; · (go_simp; all_goals (with_reducible rfl)))
            try simp only [Act.put, pa, pb, pc]
            refine tk (v := ?_) 31 95 rfl (fun w' hS' => ?_) hS ?_
            rotate_left
            · go_simp; all_goals (with_reducible rfl)
            try simp only [Act.put, pa, pb, pc]
            refine wpAnyH_done (by kernel_rfl) ?_ _
            clear hS
            go_wp2
            go_ret
            exact ⟨ret_b HE.out.symm, HM.out.bl⟩
          have g5 : decide (e.id ≤ p.id) = false := decide_eq_false (by omega)
          have HN := Lib.hid (show decide (idAt x.subs j < e.id) = true by rw [HN0.out]; exact decide_eq_true h5)
          clear h5
          replace HM := Lib.hid (HM.out.drew)
          refine wp_region_held_drew (S := fun W => Ms w [.bx wr.heap.size (.cells #[.int .i64 e.id, .string e.doc, .int .i64 e.cap, .int .i64 e.next, .bool e.out, .slice C5 e.list.length c5] 73 (0, 0)), .bx w.heap.size (.cells #[.bool x.shut, .slice (some ⟨b3, off3, none⟩) x.docs.length ca, .slice (some ⟨b, off, none⟩) x.subs.length cb, .int .i64 x.last] 47 (0, 0))] W) (by kernel_rfl) (HM.out.pick (ks := [0, 1]) (by decide) rfl) (fun hS => ?_)
          generalize W12.drew = W27 at HM hS  ⊢
          refine tk (v := ?_) 0 64 rfl (fun w' hS' => ?_) hS ?_
          rotate_left
          · go_simp; all_goals (with_reducible rfl)
          try simp only [Act.put, pa, pb, pc]
          refine tk (v := ?_) 1 65 rfl (fun w' hS' => ?_) hS ?_
          rotate_left
          · (try dsimp only at hS'); have q0 := hS'.cell (i := 0) (j := 0) rfl rfl; have q1 := hS'.cell (i := 0) (j := 1) rfl rfl; have q2 := hS'.cell (i := 0) (j := 2) rfl rfl; have q3 := hS'.cell (i := 0) (j := 3) rfl rfl; have q4 := hS'.cell (i := 0) (j := 4) rfl rfl; have q5 := hS'.cell (i := 0) (j := 5) rfl rfl; have p0 := hS'.cell (i := 1) (j := 0) rfl rfl; have p1 := hS'.cell (i := 1) (j := 1) rfl rfl; have p2 := hS'.cell (i := 1) (j := 2) rfl rfl; have p3 := hS'.cell (i := 1) (j := 3) rfl rfl; have r0 := (hS'.bl.cell (p := ⟨b, off + q * 6, none⟩) hb2).trans y0; go_simp; all_goals (with_reducible rfl)
          try simp only [Act.put, pa, pb, pc]
          refine tk (v := ?_) 2 66 rfl (fun w' hS' => ?_) hS ?_
          rotate_left
          · go_simp; all_goals (with_reducible rfl)
          try simp only [Act.put, pa, pb, pc]
          refine tk (v := ?_) 3 67 rfl (fun w' hS' => ?_) hS ?_
          rotate_left
          · (try dsimp only at hS'); have q0 := hS'.cell (i := 0) (j := 0) rfl rfl; have q1 := hS'.cell (i := 0) (j := 1) rfl rfl; have q2 := hS'.cell (i := 0) (j := 2) rfl rfl; have q3 := hS'.cell (i := 0) (j := 3) rfl rfl; have q4 := hS'.cell (i := 0) (j := 4) rfl rfl; have q5 := hS'.cell (i := 0) (j := 5) rfl rfl; have p0 := hS'.cell (i := 1) (j := 0) rfl rfl; have p1 := hS'.cell (i := 1) (j := 1) rfl rfl; have p2 := hS'.cell (i := 1) (j := 2) rfl rfl; have p3 := hS'.cell (i := 1) (j := 3) rfl rfl; have r0 := (hS'.bl.cell (p := ⟨b, off + q * 6, none⟩) hb2).trans y0; go_simp; all_goals (with_reducible rfl)
          try simp only [Act.put, pa, pb, pc]
          refine r1 4 (some 68) rfl (fun K hK => ?_)
          go_simp
          refine (in_any _ _ _ _).mono ?_
          rw [h1.out]
          rintro e' w9 ⟨rfl, rfl⟩
          refine hK.out _ _ (HM.out.pick (ks := [0, 1]) (by decide) rfl) (fun hS => ?_)
          clear hK K
          try simp only [Act.put, pa, pb, pc]
          refine tk (v := ?_) 5 69 rfl (fun w' hS' => ?_) hS ?_
          rotate_left
          · go_simp; all_goals (with_reducible rfl)
          try simp only [Act.put, pa, pb, pc]
          refine tk (v := ?_) 6 70 rfl (fun w' hS' => ?_) hS ?_
          rotate_left
          · go_simp; all_goals (with_reducible rfl)
          try simp only [Act.put, pa, pb, pc]
          first | refine tu 7 71 rfl hS ?_ | (refine tk (v := ?_) 7 71 rfl (fun w' hS' => ?_) hS ?_; rotate_left; · (go_simp; all_goals (with_reducible rfl)))
          try simp only [Act.put, pa, pb, pc]
          first | refine tu 8 72 rfl hS ?_ | (refine tk (v := ?_) 8 72 rfl (fun w' hS' => ?_) hS ?_; rotate_left; · ((try dsimp only at hS'); have q0 := hS'.cell (i := 0) (j := 0) rfl rfl; have q1 := hS'.cell (i := 0) (j := 1) rfl rfl; have q2 := hS'.cell (i := 0) (j := 2) rfl rfl; have q3 := hS'.cell (i := 0) (j := 3) rfl rfl; have q4 := hS'.cell (i := 0) (j := 4) rfl rfl; have q5 := hS'.cell (i := 0) (j := 5) rfl rfl; have p0 := hS'.cell (i := 1) (j := 0) rfl rfl; have p1 := hS'.cell (i := 1) (j := 1) rfl rfl; have p2 := hS'.cell (i := 1) (j := 2) rfl rfl; have p3 := hS'.cell (i := 1) (j := 3) rfl rfl; have r0 := (hS'.bl.cell (p := ⟨b, off + q * 6, none⟩) hb2).trans y0; go_simp; all_goals (with_reducible rfl)))
          try simp only [Act.put, pa, pb, pc]
          refine r1 9 (some 73) rfl (fun K hK => ?_)
          go_simp
          refine (specRingOk_d _ (ringSu e) _ (rdRi (ringSu e) (HM.out.arg Q5h.out)) (show SmRi (ringSu e) from hse.list)).mono ?_
          rw [h2.out]
          rintro e' W28 ⟨rfl, b'⟩
          replace HM := Lib.hid (HM.out.past b')
          clear b'
          clear hS
          refine hK.out _ _ (HM.out.pick (ks := [0, 1]) (by decide) rfl) (fun hS => ?_)
          clear hK K
          try simp only [Act.put, pa, pb, pc]
          first | refine tu 10 74 rfl hS ?_ | (refine tk (v := ?_) 10 74 rfl (fun w' hS' => ?_) hS ?_; rotate_left; · (go_simp; all_goals (with_reducible rfl)))
          try simp only [Act.put, pa, pb, pc]
          refine tk (v := ?_) 11 75 rfl (fun w' hS' => ?_) hS ?_
          rotate_left
          · go_simp; all_goals (with_reducible rfl)
          try simp only [Act.put, pa, pb, pc]
          refine tk (v := ?_) 12 76 rfl (fun w' hS' => ?_) hS ?_
          rotate_left
          · go_simp; all_goals (with_reducible rfl)
          try simp only [Act.put, pa, pb, pc]
          first | refine tu 13 77 rfl hS ?_ | (refine tk (v := ?_) 13 77 rfl (fun w' hS' => ?_) hS ?_; rotate_left; · (go_simp; all_goals (with_reducible rfl)))
          try simp only [Act.put, pa, pb, pc]
          first | refine tu 14 78 rfl hS ?_ | (refine tk (v := ?_) 14 78 rfl (fun w' hS' => ?_) hS ?_; rotate_left; · (go_simp; all_goals (with_reducible rfl)))
          try simp only [Act.put, pa, pb, pc]
          try rw [g3]
          refine tk (v := ?_) 15 79 rfl (fun w' hS' => ?_) hS ?_
          rotate_left
          · go_simp; all_goals (with_reducible rfl)
          try simp only [Act.put, pa, pb, pc]
          refine tk (v := ?_) 16 80 rfl (fun w' hS' => ?_) hS ?_
          rotate_left
          · go_simp; all_goals (with_reducible rfl)
          try simp only [Act.put, pa, pb, pc]
          first | refine tu 17 81 rfl hS ?_ | (refine tk (v := ?_) 17 81 rfl (fun w' hS' => ?_) hS ?_; rotate_left; · (go_simp; all_goals (with_reducible rfl)))
          try simp only [Act.put, pa, pb, pc]
          first | refine tu 18 82 rfl hS ?_ | (refine tk (v := ?_) 18 82 rfl (fun w' hS' => ?_) hS ?_; rotate_left; · (go_simp; all_goals (with_reducible rfl)))
          try simp only [Act.put, pa, pb, pc]
          try rw [g4]
          first | refine tu 19 83 rfl hS ?_ | (refine tk (v := ?_) 19 83 rfl (fun w' hS' => ?_) hS ?_; rotate_left; · (go_simp; all_goals (with_reducible rfl)))
          try simp only [Act.put, pa, pb, pc]
          first | refine tu 20 84 rfl hS ?_ | (refine tk (v := ?_) 20 84 rfl (fun w' hS' => ?_) hS ?_; rotate_left; · (go_simp; all_goals (with_reducible rfl)))
          try simp only [Act.put, pa, pb, pc]
          first | refine tu 21 85 rfl hS ?_ | (refine tk (v := ?_) 21 85 rfl (fun w' hS' => ?_) hS ?_; rotate_left; · ((try dsimp only at hS'); have q0 := hS'.cell (i := 0) (j := 0) rfl rfl; have q1 := hS'.cell (i := 0) (j := 1) rfl rfl; have q2 := hS'.cell (i := 0) (j := 2) rfl rfl; have q3 := hS'.cell (i := 0) (j := 3) rfl rfl; have q4 := hS'.cell (i := 0) (j := 4) rfl rfl; have q5 := hS'.cell (i := 0) (j := 5) rfl rfl; have p0 := hS'.cell (i := 1) (j := 0) rfl rfl; have p1 := hS'.cell (i := 1) (j := 1) rfl rfl; have p2 := hS'.cell (i := 1) (j := 2) rfl rfl; have p3 := hS'.cell (i := 1) (j := 3) rfl rfl; have r0 := (hS'.bl.cell (p := ⟨b, off + q * 6, none⟩) hb2).trans y0; go_simp; all_goals (with_reducible rfl)))
          try simp only [Act.put, pa, pb, pc]
          first | refine tu 22 86 rfl hS ?_ | (refine tk (v := ?_) 22 86 rfl (fun w' hS' => ?_) hS ?_; rotate_left; · (go_simp; all_goals (with_reducible rfl)))
          try simp only [Act.put, pa, pb, pc]
          first | refine tu 23 87 rfl hS ?_ | (refine tk (v := ?_) 23 87 rfl (fun w' hS' => ?_) hS ?_; rotate_left; · (go_simp; all_goals (with_reducible rfl)))
          try simp only [Act.put, pa, pb, pc]
          first | refine tu 24 88 rfl hS ?_ | (refine tk (v := ?_) 24 88 rfl (fun w' hS' => ?_) hS ?_; rotate_left; · (go_simp; all_goals (with_reducible rfl)))
          try simp only [Act.put, pa, pb, pc]
          first | refine tu 25 89 rfl hS ?_ | (refine tk (v := ?_) 25 89 rfl (fun w' hS' => ?_) hS ?_; rotate_left; · (go_simp; all_goals (with_reducible rfl)))
          try simp only [Act.put, pa, pb, pc]
          first | refine tu 26 90 rfl hS ?_ | (refine tk (v := ?_) 26 90 rfl (fun w' hS' => ?_) hS ?_; rotate_left; · ((try dsimp only at hS'); have q0 := hS'.cell (i := 0) (j := 0) rfl rfl; have q1 := hS'.cell (i := 0) (j := 1) rfl rfl; have q2 := hS'.cell (i := 0) (j := 2) rfl rfl; have q3 := hS'.cell (i := 0) (j := 3) rfl rfl; have q4 := hS'.cell (i := 0) (j := 4) rfl rfl; have q5 := hS'.cell (i := 0) (j := 5) rfl rfl; have p0 := hS'.cell (i := 1) (j := 0) rfl rfl; have p1 := hS'.cell (i := 1) (j := 1) rfl rfl; have p2 := hS'.cell (i := 1) (j := 2) rfl rfl; have p3 := hS'.cell (i := 1) (j := 3) rfl rfl; have r0 := (hS'.bl.cell (p := ⟨b, off + q * 6, none⟩) hb2).trans y0; go_simp; all_goals (with_reducible rfl)))
          try simp only [Act.put, pa, pb, pc]
          first | refine tu 27 91 rfl hS ?_ | (refine tk (v := ?_) 27 91 rfl (fun w' hS' => ?_) hS ?_; rotate_left; · (go_simp; all_goals (with_reducible rfl)))
          try simp only [Act.put, pa, pb, pc]
          first | refine tu 28 92 rfl hS ?_ | (refine tk (v := ?_) 28 92 rfl (fun w' hS' => ?_) hS ?_; rotate_left; · ((try dsimp only at hS'); have q0 := hS'.cell (i := 0) (j := 0) rfl rfl; have q1 := hS'.cell (i := 0) (j := 1) rfl rfl; have q2 := hS'.cell (i := 0) (j := 2) rfl rfl; have q3 := hS'.cell (i := 0) (j := 3) rfl rfl; have q4 := hS'.cell (i := 0) (j := 4) rfl rfl; have q5 := hS'.cell (i := 0) (j := 5) rfl rfl; have p0 := hS'.cell (i := 1) (j := 0) rfl rfl; have p1 := hS'.cell (i := 1) (j := 1) rfl rfl; have p2 := hS'.cell (i := 1) (j := 2) rfl rfl; have p3 := hS'.cell (i := 1) (j := 3) rfl rfl; have r0 := (hS'.bl.cell (p := ⟨b, off + q * 6, none⟩) hb2).trans y0; go_simp; all_goals (with_reducible rfl)))
          try simp only [Act.put, pa, pb, pc]
          first | refine tu 29 93 rfl hS ?_ | (refine tk (v := ?_) 29 93 rfl (fun w' hS' => ?_) hS ?_; rotate_left; · (go_simp; all_goals (with_reducible rfl)))
          try simp only [Act.put, pa, pb, pc]
          try rw [g5]
          first | refine tu 30 94 rfl hS ?_ | (refine tk (v := ?_) 30 94 rfl (fun w' hS' => ?_) hS ?_; rotate_left; · (go_simp; all_goals (with_reducible rfl)))
          try simp only [Act.put, pa, pb, pc]
          refine tk (v := ?_) 31 95 rfl (fun w' hS' => ?_) hS ?_
          rotate_left
          · go_simp; all_goals (with_reducible rfl)
          try simp only [Act.put, pa, pb, pc]
          refine wpAnyH_done (by kernel_rfl) ?_ _
          clear hS
          go_wp2
          rcases (show e.out = true ∨ e.out = false by cases e.out <;> simp) with h6 | h6
          · have HJ := Lib.hid (show subsB x.docs x.last 0 x.subs = subsB x.docs x.last (idAt x.subs (j + 1)) (x.subs.drop (j + 1)) by rw [HI.out, HS.out, h1.out, h2.out, HF.out, HN.out, h6, Bool.true_or, Bool.true_and, Bool.true_and, Bool.true_and, Bool.true_and])
            replace HM := Lib.hid (HM.out.drew)
            refine wp_region_held_drew (S := fun W => Ms w [.bx wr.heap.size (.cells #[.int .i64 e.id, .string e.doc, .int .i64 e.cap, .int .i64 e.next, .bool e.out, .slice C5 e.list.length c5] 73 (0, 0)), .bx w.heap.size (.cells #[.bool x.shut, .slice (some ⟨b3, off3, none⟩) x.docs.length ca, .slice (some ⟨b, off, none⟩) x.subs.length cb, .int .i64 x.last] 47 (0, 0))] W) (by kernel_rfl) (HM.out.pick (ks := [0, 1]) (by decide) rfl) (fun hS => ?_)
            generalize W28.drew = W29 at HM hS  ⊢
            refine tk (v := ?_) 0 96 rfl (fun w' hS' => ?_) hS ?_
            rotate_left
            · go_simp; all_goals (with_reducible rfl)
            try simp only [Act.put, pa, pb, pc]
            refine tk (v := ?_) 1 97 rfl (fun w' hS' => ?_) hS ?_
            rotate_left
            · go_simp; all_goals (with_reducible rfl)
            try simp only [Act.put, pa, pb, pc]
            refine tk (v := ?_) 2 98 rfl (fun w' hS' => ?_) hS ?_
            rotate_left
            · (try dsimp only at hS'); have q0 := hS'.cell (i := 0) (j := 0) rfl rfl; have q1 := hS'.cell (i := 0) (j := 1) rfl rfl; have q2 := hS'.cell (i := 0) (j := 2) rfl rfl; have q3 := hS'.cell (i := 0) (j := 3) rfl rfl; have q4 := hS'.cell (i := 0) (j := 4) rfl rfl; have q5 := hS'.cell (i := 0) (j := 5) rfl rfl; have p0 := hS'.cell (i := 1) (j := 0) rfl rfl; have p1 := hS'.cell (i := 1) (j := 1) rfl rfl; have p2 := hS'.cell (i := 1) (j := 2) rfl rfl; have p3 := hS'.cell (i := 1) (j := 3) rfl rfl; rw [h6] at q4; go_simp; all_goals (with_reducible rfl)
            try simp only [Act.put, pa, pb, pc]
            refine tk (v := ?_) 3 99 rfl (fun w' hS' => ?_) hS ?_
            rotate_left
            · go_simp; all_goals (with_reducible rfl)
            try simp only [Act.put, pa, pb, pc]
            refine tk (v := ?_) 4 100 rfl (fun w' hS' => ?_) hS ?_
            rotate_left
            · go_simp; all_goals (with_reducible rfl)
            try simp only [Act.put, pa, pb, pc]
            refine tu 5 101 rfl hS ?_
            try simp only [Act.put, pa, pb, pc]
            refine tu 6 102 rfl hS ?_
            try simp only [Act.put, pa, pb, pc]
            refine tu 7 103 rfl hS ?_
            try simp only [Act.put, pa, pb, pc]
            refine tu 8 104 rfl hS ?_
            try simp only [Act.put, pa, pb, pc]
            refine tu 9 105 rfl hS ?_
            try simp only [Act.put, pa, pb, pc]
            refine tu 10 106 rfl hS ?_
            try simp only [Act.put, pa, pb, pc]
            refine tu 11 107 rfl hS ?_
            try simp only [Act.put, pa, pb, pc]
            refine tu 12 108 rfl hS ?_
            try simp only [Act.put, pa, pb, pc]
            refine tu 13 109 rfl hS ?_
            try simp only [Act.put, pa, pb, pc]
            refine tu 14 110 rfl hS ?_
            try simp only [Act.put, pa, pb, pc]
            refine tu 15 111 rfl hS ?_
            try simp only [Act.put, pa, pb, pc]
            refine tu 16 112 rfl hS ?_
            try simp only [Act.put, pa, pb, pc]
            refine tu 17 113 rfl hS ?_
            try simp only [Act.put, pa, pb, pc]
            refine tu 18 114 rfl hS ?_
            try simp only [Act.put, pa, pb, pc]
            refine tu 19 115 rfl hS ?_
            try simp only [Act.put, pa, pb, pc]
            refine tu 20 116 rfl hS ?_
            try simp only [Act.put, pa, pb, pc]
            refine tk (v := ?_) 21 117 rfl (fun w' hS' => ?_) hS ?_
            rotate_left
            · go_simp; all_goals (with_reducible rfl)
            try simp only [Act.put, pa, pb, pc]
            refine wpAnyH_done (by kernel_rfl) ?_ _
            clear hS
            skip
            go_wp2
            go_roundw
            case rel => exact ⟨j + 1, by omega, by go_num, HJ.out, HM.out.pick (ks := [1]) (by decide) rfl⟩
            case measure => simp [intOf]; omega
          have hrb := RB.out
          have hn1 : e.next ≤ 1000000000 ∧ 1 ≤ e.next ∧ (e.list.length : Int) ≤ e.cap ∧ e.cap ≤ 6 := ⟨hrb.2.2.2.2.1, hrb.2.2.2.1, hrb.2.2.2.2.2.1, hrb.2.2.1⟩
          obtain ⟨hn1, hn2, hn3, hn4⟩ := hn1
          obtain ⟨hr1, hr2⟩ := HRE.out
          clear hrb
          have hw1 : IntKind.i64.wrap (e.next + (e.list.length : Int)) = e.next + (e.list.length : Int) := IntWalk.i64_in _ (by omega)
          have hw2 : IntKind.i64.wrap (headRevT d + 1) = headRevT d + 1 := IntWalk.i64_in _ (by omega)
          by_cases h7 : e.next + (e.list.length : Int) = headRevT d + 1
          rotate_left
          · have HE := Lib.hid (show hubB x = false by rw [HD3.out, HI.out, HS.out, h1.out, h2.out, HF.out, h6, decide_eq_false h7, Bool.or_false, Bool.false_and, Bool.and_false, Bool.and_false])
            have g7 : (e.next + (e.list.length : Int) != headRevT d + 1) = true := by rw [bne_iff_ne]; exact h7
            clear h7
            replace HM := Lib.hid (HM.out.drew)
            refine wp_region_held_drew (S := fun W => Ms w [.bx wr.heap.size (.cells #[.int .i64 e.id, .string e.doc, .int .i64 e.cap, .int .i64 e.next, .bool e.out, .slice C5 e.list.length c5] 73 (0, 0)), .bx w.heap.size (.cells #[.bool x.shut, .slice (some ⟨b3, off3, none⟩) x.docs.length ca, .slice (some ⟨b, off, none⟩) x.subs.length cb, .int .i64 x.last] 47 (0, 0))] W) (by kernel_rfl) (HM.out.pick (ks := [0, 1]) (by decide) rfl) (fun hS => ?_)
            generalize W28.drew = W30 at HM hS  ⊢
            refine tk (v := ?_) 0 96 rfl (fun w' hS' => ?_) hS ?_
            rotate_left
            · go_simp; all_goals (with_reducible rfl)
            try simp only [Act.put, pa, pb, pc]
            refine tk (v := ?_) 1 97 rfl (fun w' hS' => ?_) hS ?_
            rotate_left
            · go_simp; all_goals (with_reducible rfl)
            try simp only [Act.put, pa, pb, pc]
            refine tk (v := ?_) 2 98 rfl (fun w' hS' => ?_) hS ?_
            rotate_left
            · (try dsimp only at hS'); have q0 := hS'.cell (i := 0) (j := 0) rfl rfl; have q1 := hS'.cell (i := 0) (j := 1) rfl rfl; have q2 := hS'.cell (i := 0) (j := 2) rfl rfl; have q3 := hS'.cell (i := 0) (j := 3) rfl rfl; have q4 := hS'.cell (i := 0) (j := 4) rfl rfl; have q5 := hS'.cell (i := 0) (j := 5) rfl rfl; have p0 := hS'.cell (i := 1) (j := 0) rfl rfl; have p1 := hS'.cell (i := 1) (j := 1) rfl rfl; have p2 := hS'.cell (i := 1) (j := 2) rfl rfl; have p3 := hS'.cell (i := 1) (j := 3) rfl rfl; have u0 := (hS'.bl.cell (p := ⟨b3, off3 + k * 5, none⟩) hb3).trans z0; have u1 := (hS'.bl.cell (p := ⟨b3, off3 + k * 5 + 1, none⟩) hb3).trans z1; have u2 := (hS'.bl.cell (p := ⟨b3, off3 + k * 5 + 2, none⟩) hb3).trans z2; have u3 := (hS'.bl.cell (p := ⟨b3, off3 + k * 5 + 3, none⟩) hb3).trans z3; have u4 := (hS'.bl.cell (p := ⟨b3, off3 + k * 5 + 4, none⟩) hb3).trans z4; rw [h6] at q4; go_simp; all_goals (with_reducible rfl)
            try simp only [Act.put, pa, pb, pc]
            refine tk (v := ?_) 3 99 rfl (fun w' hS' => ?_) hS ?_
            rotate_left
            · go_simp; all_goals (with_reducible rfl)
            try simp only [Act.put, pa, pb, pc]
            refine tk (v := ?_) 4 100 rfl (fun w' hS' => ?_) hS ?_
            rotate_left
            · go_simp; all_goals (with_reducible rfl)
            try simp only [Act.put, pa, pb, pc]
            first | refine tu 5 101 rfl hS ?_ | (refine tk (v := ?_) 5 101 rfl (fun w' hS' => ?_) hS ?_; rotate_left; · (go_simp; all_goals (with_reducible rfl)))
            try simp only [Act.put, pa, pb, pc]
            first | refine tu 6 102 rfl hS ?_ | (refine tk (v := ?_) 6 102 rfl (fun w' hS' => ?_) hS ?_; rotate_left; · (go_simp; all_goals (with_reducible rfl)))
            try simp only [Act.put, pa, pb, pc]
            first | refine tu 7 103 rfl hS ?_ | (refine tk (v := ?_) 7 103 rfl (fun w' hS' => ?_) hS ?_; rotate_left; · ((try dsimp only at hS'); have q0 := hS'.cell (i := 0) (j := 0) rfl rfl; have q1 := hS'.cell (i := 0) (j := 1) rfl rfl; have q2 := hS'.cell (i := 0) (j := 2) rfl rfl; have q3 := hS'.cell (i := 0) (j := 3) rfl rfl; have q4 := hS'.cell (i := 0) (j := 4) rfl rfl; have q5 := hS'.cell (i := 0) (j := 5) rfl rfl; have p0 := hS'.cell (i := 1) (j := 0) rfl rfl; have p1 := hS'.cell (i := 1) (j := 1) rfl rfl; have p2 := hS'.cell (i := 1) (j := 2) rfl rfl; have p3 := hS'.cell (i := 1) (j := 3) rfl rfl; have u0 := (hS'.bl.cell (p := ⟨b3, off3 + k * 5, none⟩) hb3).trans z0; have u1 := (hS'.bl.cell (p := ⟨b3, off3 + k * 5 + 1, none⟩) hb3).trans z1; have u2 := (hS'.bl.cell (p := ⟨b3, off3 + k * 5 + 2, none⟩) hb3).trans z2; have u3 := (hS'.bl.cell (p := ⟨b3, off3 + k * 5 + 3, none⟩) hb3).trans z3; have u4 := (hS'.bl.cell (p := ⟨b3, off3 + k * 5 + 4, none⟩) hb3).trans z4; rw [h6] at q4; go_simp; all_goals (with_reducible rfl)))
            try simp only [Act.put, pa, pb, pc]
            first | refine tu 8 104 rfl hS ?_ | (refine tk (v := ?_) 8 104 rfl (fun w' hS' => ?_) hS ?_; rotate_left; · (go_simp; all_goals (with_reducible rfl)))
            try simp only [Act.put, pa, pb, pc]
            first | refine tu 9 105 rfl hS ?_ | (refine tk (v := ?_) 9 105 rfl (fun w' hS' => ?_) hS ?_; rotate_left; · (go_simp; all_goals (with_reducible rfl)))
            try simp only [Act.put, pa, pb, pc]
            first | refine tu 10 106 rfl hS ?_ | (refine tk (v := ?_) 10 106 rfl (fun w' hS' => ?_) hS ?_; rotate_left; · ((try dsimp only at hS'); have q0 := hS'.cell (i := 0) (j := 0) rfl rfl; have q1 := hS'.cell (i := 0) (j := 1) rfl rfl; have q2 := hS'.cell (i := 0) (j := 2) rfl rfl; have q3 := hS'.cell (i := 0) (j := 3) rfl rfl; have q4 := hS'.cell (i := 0) (j := 4) rfl rfl; have q5 := hS'.cell (i := 0) (j := 5) rfl rfl; have p0 := hS'.cell (i := 1) (j := 0) rfl rfl; have p1 := hS'.cell (i := 1) (j := 1) rfl rfl; have p2 := hS'.cell (i := 1) (j := 2) rfl rfl; have p3 := hS'.cell (i := 1) (j := 3) rfl rfl; have u0 := (hS'.bl.cell (p := ⟨b3, off3 + k * 5, none⟩) hb3).trans z0; have u1 := (hS'.bl.cell (p := ⟨b3, off3 + k * 5 + 1, none⟩) hb3).trans z1; have u2 := (hS'.bl.cell (p := ⟨b3, off3 + k * 5 + 2, none⟩) hb3).trans z2; have u3 := (hS'.bl.cell (p := ⟨b3, off3 + k * 5 + 3, none⟩) hb3).trans z3; have u4 := (hS'.bl.cell (p := ⟨b3, off3 + k * 5 + 4, none⟩) hb3).trans z4; rw [h6] at q4; go_simp; all_goals (with_reducible rfl)))
            try simp only [Act.put, pa, pb, pc]
            first | refine tu 11 107 rfl hS ?_ | (refine tk (v := ?_) 11 107 rfl (fun w' hS' => ?_) hS ?_; rotate_left; · (go_simp; all_goals (with_reducible rfl)))
            try simp only [Act.put, pa, pb, pc]
            first | refine tu 12 108 rfl hS ?_ | (refine tk (v := ?_) 12 108 rfl (fun w' hS' => ?_) hS ?_; rotate_left; · (go_simp; all_goals (with_reducible rfl)))
            try simp only [Act.put, pa, pb, pc]
            first | refine tu 13 109 rfl hS ?_ | (refine tk (v := ?_) 13 109 rfl (fun w' hS' => ?_) hS ?_; rotate_left; · (go_simp; all_goals (with_reducible rfl)))
            try simp only [Act.put, pa, pb, pc]
            first | refine tu 14 110 rfl hS ?_ | (refine tk (v := ?_) 14 110 rfl (fun w' hS' => ?_) hS ?_; rotate_left; · ((try dsimp only at hS'); have q0 := hS'.cell (i := 0) (j := 0) rfl rfl; have q1 := hS'.cell (i := 0) (j := 1) rfl rfl; have q2 := hS'.cell (i := 0) (j := 2) rfl rfl; have q3 := hS'.cell (i := 0) (j := 3) rfl rfl; have q4 := hS'.cell (i := 0) (j := 4) rfl rfl; have q5 := hS'.cell (i := 0) (j := 5) rfl rfl; have p0 := hS'.cell (i := 1) (j := 0) rfl rfl; have p1 := hS'.cell (i := 1) (j := 1) rfl rfl; have p2 := hS'.cell (i := 1) (j := 2) rfl rfl; have p3 := hS'.cell (i := 1) (j := 3) rfl rfl; have u0 := (hS'.bl.cell (p := ⟨b3, off3 + k * 5, none⟩) hb3).trans z0; have u1 := (hS'.bl.cell (p := ⟨b3, off3 + k * 5 + 1, none⟩) hb3).trans z1; have u2 := (hS'.bl.cell (p := ⟨b3, off3 + k * 5 + 2, none⟩) hb3).trans z2; have u3 := (hS'.bl.cell (p := ⟨b3, off3 + k * 5 + 3, none⟩) hb3).trans z3; have u4 := (hS'.bl.cell (p := ⟨b3, off3 + k * 5 + 4, none⟩) hb3).trans z4; rw [h6] at q4; go_simp; all_goals (with_reducible rfl)))
            try simp only [Act.put, pa, pb, pc]
            first | refine tu 15 111 rfl hS ?_ | (refine tk (v := ?_) 15 111 rfl (fun w' hS' => ?_) hS ?_; rotate_left; · (go_simp; all_goals (with_reducible rfl)))
            try simp only [Act.put, pa, pb, pc]
            first | refine tu 16 112 rfl hS ?_ | (refine tk (v := ?_) 16 112 rfl (fun w' hS' => ?_) hS ?_; rotate_left; · (go_simp; all_goals (with_reducible rfl)))
            try simp only [Act.put, pa, pb, pc]
            first | refine tu 17 113 rfl hS ?_ | (refine tk (v := ?_) 17 113 rfl (fun w' hS' => ?_) hS ?_; rotate_left; · ((try dsimp only at hS'); have q0 := hS'.cell (i := 0) (j := 0) rfl rfl; have q1 := hS'.cell (i := 0) (j := 1) rfl rfl; have q2 := hS'.cell (i := 0) (j := 2) rfl rfl; have q3 := hS'.cell (i := 0) (j := 3) rfl rfl; have q4 := hS'.cell (i := 0) (j := 4) rfl rfl; have q5 := hS'.cell (i := 0) (j := 5) rfl rfl; have p0 := hS'.cell (i := 1) (j := 0) rfl rfl; have p1 := hS'.cell (i := 1) (j := 1) rfl rfl; have p2 := hS'.cell (i := 1) (j := 2) rfl rfl; have p3 := hS'.cell (i := 1) (j := 3) rfl rfl; have u0 := (hS'.bl.cell (p := ⟨b3, off3 + k * 5, none⟩) hb3).trans z0; have u1 := (hS'.bl.cell (p := ⟨b3, off3 + k * 5 + 1, none⟩) hb3).trans z1; have u2 := (hS'.bl.cell (p := ⟨b3, off3 + k * 5 + 2, none⟩) hb3).trans z2; have u3 := (hS'.bl.cell (p := ⟨b3, off3 + k * 5 + 3, none⟩) hb3).trans z3; have u4 := (hS'.bl.cell (p := ⟨b3, off3 + k * 5 + 4, none⟩) hb3).trans z4; rw [h6] at q4; go_simp; all_goals (with_reducible rfl)))
            try simp only [Act.put, pa, pb, pc]
            refine r1 18 (some 114) rfl (fun K hK => ?_)
            go_simp
            refine (specHeadRev_d _ d _ (rdDo d (HM.out.arg P2h.out) (HM.out.arg P3h.out) (HM.out.arg P4h.out)) hsd).mono ?_
            rintro e' W31 ⟨rfl, b'⟩
            replace HM := Lib.hid (HM.out.past b')
            clear b'
            clear hS
            refine hK.out _ _ (HM.out.pick (ks := [0, 1]) (by decide) rfl) (fun hS => ?_)
            clear hK K
            try simp only [Act.put, pa, pb, pc]
            first | refine tu 19 115 rfl hS ?_ | (refine tk (v := ?_) 19 115 rfl (fun w' hS' => ?_) hS ?_; rotate_left; · (go_simp; all_goals (with_reducible rfl)))
            try simp only [Act.put, pa, pb, pc]
            first | refine tu 20 116 rfl hS ?_ | (refine tk (v := ?_) 20 116 rfl (fun w' hS' => ?_) hS ?_; rotate_left; · (go_simp; all_goals (with_reducible rfl)))
            try simp only [Act.put, pa, pb, pc]
            try rw [g7]
            refine tk (v := ?_) 21 117 rfl (fun w' hS' => ?_) hS ?_
            rotate_left
            · go_simp; all_goals (with_reducible rfl)
            try simp only [Act.put, pa, pb, pc]
            refine wpAnyH_done (by kernel_rfl) ?_ _
            clear hS
            go_wp2
            go_ret
            exact ⟨ret_b HE.out.symm, HM.out.bl⟩
          have HJ := Lib.hid (show subsB x.docs x.last 0 x.subs = subsB x.docs x.last (idAt x.subs (j + 1)) (x.subs.drop (j + 1)) by rw [HI.out, HS.out, h1.out, h2.out, HF.out, HN.out, h6, decide_eq_true h7, Bool.or_true, Bool.true_and, Bool.true_and, Bool.true_and, Bool.true_and])
          have g7 : (e.next + (e.list.length : Int) != headRevT d + 1) = false := by rw [bne_eq_false_iff_eq]; exact h7
          replace h7 := Lib.hid h7
          replace HM := Lib.hid (HM.out.drew)
          refine wp_region_held_drew (S := fun W => Ms w [.bx wr.heap.size (.cells #[.int .i64 e.id, .string e.doc, .int .i64 e.cap, .int .i64 e.next, .bool e.out, .slice C5 e.list.length c5] 73 (0, 0)), .bx w.heap.size (.cells #[.bool x.shut, .slice (some ⟨b3, off3, none⟩) x.docs.length ca, .slice (some ⟨b, off, none⟩) x.subs.length cb, .int .i64 x.last] 47 (0, 0))] W) (by kernel_rfl) (HM.out.pick (ks := [0, 1]) (by decide) rfl) (fun hS => ?_)
          generalize W28.drew = W32 at HM hS  ⊢
          refine tk (v := ?_) 0 96 rfl (fun w' hS' => ?_) hS ?_
          rotate_left
          · go_simp; all_goals (with_reducible rfl)
          try simp only [Act.put, pa, pb, pc]
          refine tk (v := ?_) 1 97 rfl (fun w' hS' => ?_) hS ?_
          rotate_left
          · go_simp; all_goals (with_reducible rfl)
          try simp only [Act.put, pa, pb, pc]
          refine tk (v := ?_) 2 98 rfl (fun w' hS' => ?_) hS ?_
          rotate_left
          · (try dsimp only at hS'); have q0 := hS'.cell (i := 0) (j := 0) rfl rfl; have q1 := hS'.cell (i := 0) (j := 1) rfl rfl; have q2 := hS'.cell (i := 0) (j := 2) rfl rfl; have q3 := hS'.cell (i := 0) (j := 3) rfl rfl; have q4 := hS'.cell (i := 0) (j := 4) rfl rfl; have q5 := hS'.cell (i := 0) (j := 5) rfl rfl; have p0 := hS'.cell (i := 1) (j := 0) rfl rfl; have p1 := hS'.cell (i := 1) (j := 1) rfl rfl; have p2 := hS'.cell (i := 1) (j := 2) rfl rfl; have p3 := hS'.cell (i := 1) (j := 3) rfl rfl; have u0 := (hS'.bl.cell (p := ⟨b3, off3 + k * 5, none⟩) hb3).trans z0; have u1 := (hS'.bl.cell (p := ⟨b3, off3 + k * 5 + 1, none⟩) hb3).trans z1; have u2 := (hS'.bl.cell (p := ⟨b3, off3 + k * 5 + 2, none⟩) hb3).trans z2; have u3 := (hS'.bl.cell (p := ⟨b3, off3 + k * 5 + 3, none⟩) hb3).trans z3; have u4 := (hS'.bl.cell (p := ⟨b3, off3 + k * 5 + 4, none⟩) hb3).trans z4; rw [h6] at q4; go_simp; all_goals (with_reducible rfl)
          try simp only [Act.put, pa, pb, pc]
          refine tk (v := ?_) 3 99 rfl (fun w' hS' => ?_) hS ?_
          rotate_left
          · go_simp; all_goals (with_reducible rfl)
          try simp only [Act.put, pa, pb, pc]
          refine tk (v := ?_) 4 100 rfl (fun w' hS' => ?_) hS ?_
          rotate_left
          · go_simp; all_goals (with_reducible rfl)
          try simp only [Act.put, pa, pb, pc]
          first | refine tu 5 101 rfl hS ?_ | (refine tk (v := ?_) 5 101 rfl (fun w' hS' => ?_) hS ?_; rotate_left; · (go_simp; all_goals (with_reducible rfl)))
          try simp only [Act.put, pa, pb, pc]
          first | refine tu 6 102 rfl hS ?_ | (refine tk (v := ?_) 6 102 rfl (fun w' hS' => ?_) hS ?_; rotate_left; · (go_simp; all_goals (with_reducible rfl)))
          try simp only [Act.put, pa, pb, pc]
          first | refine tu 7 103 rfl hS ?_ | (refine tk (v := ?_) 7 103 rfl (fun w' hS' => ?_) hS ?_; rotate_left; · ((try dsimp only at hS'); have q0 := hS'.cell (i := 0) (j := 0) rfl rfl; have q1 := hS'.cell (i := 0) (j := 1) rfl rfl; have q2 := hS'.cell (i := 0) (j := 2) rfl rfl; have q3 := hS'.cell (i := 0) (j := 3) rfl rfl; have q4 := hS'.cell (i := 0) (j := 4) rfl rfl; have q5 := hS'.cell (i := 0) (j := 5) rfl rfl; have p0 := hS'.cell (i := 1) (j := 0) rfl rfl; have p1 := hS'.cell (i := 1) (j := 1) rfl rfl; have p2 := hS'.cell (i := 1) (j := 2) rfl rfl; have p3 := hS'.cell (i := 1) (j := 3) rfl rfl; have u0 := (hS'.bl.cell (p := ⟨b3, off3 + k * 5, none⟩) hb3).trans z0; have u1 := (hS'.bl.cell (p := ⟨b3, off3 + k * 5 + 1, none⟩) hb3).trans z1; have u2 := (hS'.bl.cell (p := ⟨b3, off3 + k * 5 + 2, none⟩) hb3).trans z2; have u3 := (hS'.bl.cell (p := ⟨b3, off3 + k * 5 + 3, none⟩) hb3).trans z3; have u4 := (hS'.bl.cell (p := ⟨b3, off3 + k * 5 + 4, none⟩) hb3).trans z4; rw [h6] at q4; go_simp; all_goals (with_reducible rfl)))
          try simp only [Act.put, pa, pb, pc]
          first | refine tu 8 104 rfl hS ?_ | (refine tk (v := ?_) 8 104 rfl (fun w' hS' => ?_) hS ?_; rotate_left; · (go_simp; all_goals (with_reducible rfl)))
          try simp only [Act.put, pa, pb, pc]
          first | refine tu 9 105 rfl hS ?_ | (refine tk (v := ?_) 9 105 rfl (fun w' hS' => ?_) hS ?_; rotate_left; · (go_simp; all_goals (with_reducible rfl)))
          try simp only [Act.put, pa, pb, pc]
          first | refine tu 10 106 rfl hS ?_ | (refine tk (v := ?_) 10 106 rfl (fun w' hS' => ?_) hS ?_; rotate_left; · ((try dsimp only at hS'); have q0 := hS'.cell (i := 0) (j := 0) rfl rfl; have q1 := hS'.cell (i := 0) (j := 1) rfl rfl; have q2 := hS'.cell (i := 0) (j := 2) rfl rfl; have q3 := hS'.cell (i := 0) (j := 3) rfl rfl; have q4 := hS'.cell (i := 0) (j := 4) rfl rfl; have q5 := hS'.cell (i := 0) (j := 5) rfl rfl; have p0 := hS'.cell (i := 1) (j := 0) rfl rfl; have p1 := hS'.cell (i := 1) (j := 1) rfl rfl; have p2 := hS'.cell (i := 1) (j := 2) rfl rfl; have p3 := hS'.cell (i := 1) (j := 3) rfl rfl; have u0 := (hS'.bl.cell (p := ⟨b3, off3 + k * 5, none⟩) hb3).trans z0; have u1 := (hS'.bl.cell (p := ⟨b3, off3 + k * 5 + 1, none⟩) hb3).trans z1; have u2 := (hS'.bl.cell (p := ⟨b3, off3 + k * 5 + 2, none⟩) hb3).trans z2; have u3 := (hS'.bl.cell (p := ⟨b3, off3 + k * 5 + 3, none⟩) hb3).trans z3; have u4 := (hS'.bl.cell (p := ⟨b3, off3 + k * 5 + 4, none⟩) hb3).trans z4; rw [h6] at q4; go_simp; all_goals (with_reducible rfl)))
          try simp only [Act.put, pa, pb, pc]
          first | refine tu 11 107 rfl hS ?_ | (refine tk (v := ?_) 11 107 rfl (fun w' hS' => ?_) hS ?_; rotate_left; · (go_simp; all_goals (with_reducible rfl)))
          try simp only [Act.put, pa, pb, pc]
          first | refine tu 12 108 rfl hS ?_ | (refine tk (v := ?_) 12 108 rfl (fun w' hS' => ?_) hS ?_; rotate_left; · (go_simp; all_goals (with_reducible rfl)))
          try simp only [Act.put, pa, pb, pc]
          first | refine tu 13 109 rfl hS ?_ | (refine tk (v := ?_) 13 109 rfl (fun w' hS' => ?_) hS ?_; rotate_left; · (go_simp; all_goals (with_reducible rfl)))
          try simp only [Act.put, pa, pb, pc]
          first | refine tu 14 110 rfl hS ?_ | (refine tk (v := ?_) 14 110 rfl (fun w' hS' => ?_) hS ?_; rotate_left; · ((try dsimp only at hS'); have q0 := hS'.cell (i := 0) (j := 0) rfl rfl; have q1 := hS'.cell (i := 0) (j := 1) rfl rfl; have q2 := hS'.cell (i := 0) (j := 2) rfl rfl; have q3 := hS'.cell (i := 0) (j := 3) rfl rfl; have q4 := hS'.cell (i := 0) (j := 4) rfl rfl; have q5 := hS'.cell (i := 0) (j := 5) rfl rfl; have p0 := hS'.cell (i := 1) (j := 0) rfl rfl; have p1 := hS'.cell (i := 1) (j := 1) rfl rfl; have p2 := hS'.cell (i := 1) (j := 2) rfl rfl; have p3 := hS'.cell (i := 1) (j := 3) rfl rfl; have u0 := (hS'.bl.cell (p := ⟨b3, off3 + k * 5, none⟩) hb3).trans z0; have u1 := (hS'.bl.cell (p := ⟨b3, off3 + k * 5 + 1, none⟩) hb3).trans z1; have u2 := (hS'.bl.cell (p := ⟨b3, off3 + k * 5 + 2, none⟩) hb3).trans z2; have u3 := (hS'.bl.cell (p := ⟨b3, off3 + k * 5 + 3, none⟩) hb3).trans z3; have u4 := (hS'.bl.cell (p := ⟨b3, off3 + k * 5 + 4, none⟩) hb3).trans z4; rw [h6] at q4; go_simp; all_goals (with_reducible rfl)))
          try simp only [Act.put, pa, pb, pc]
          first | refine tu 15 111 rfl hS ?_ | (refine tk (v := ?_) 15 111 rfl (fun w' hS' => ?_) hS ?_; rotate_left; · (go_simp; all_goals (with_reducible rfl)))
          try simp only [Act.put, pa, pb, pc]
          first | refine tu 16 112 rfl hS ?_ | (refine tk (v := ?_) 16 112 rfl (fun w' hS' => ?_) hS ?_; rotate_left; · (go_simp; all_goals (with_reducible rfl)))
          try simp only [Act.put, pa, pb, pc]
          first | refine tu 17 113 rfl hS ?_ | (refine tk (v := ?_) 17 113 rfl (fun w' hS' => ?_) hS ?_; rotate_left; · ((try dsimp only at hS'); have q0 := hS'.cell (i := 0) (j := 0) rfl rfl; have q1 := hS'.cell (i := 0) (j := 1) rfl rfl; have q2 := hS'.cell (i := 0) (j := 2) rfl rfl; have q3 := hS'.cell (i := 0) (j := 3) rfl rfl; have q4 := hS'.cell (i := 0) (j := 4) rfl rfl; have q5 := hS'.cell (i := 0) (j := 5) rfl rfl; have p0 := hS'.cell (i := 1) (j := 0) rfl rfl; have p1 := hS'.cell (i := 1) (j := 1) rfl rfl; have p2 := hS'.cell (i := 1) (j := 2) rfl rfl; have p3 := hS'.cell (i := 1) (j := 3) rfl rfl; have u0 := (hS'.bl.cell (p := ⟨b3, off3 + k * 5, none⟩) hb3).trans z0; have u1 := (hS'.bl.cell (p := ⟨b3, off3 + k * 5 + 1, none⟩) hb3).trans z1; have u2 := (hS'.bl.cell (p := ⟨b3, off3 + k * 5 + 2, none⟩) hb3).trans z2; have u3 := (hS'.bl.cell (p := ⟨b3, off3 + k * 5 + 3, none⟩) hb3).trans z3; have u4 := (hS'.bl.cell (p := ⟨b3, off3 + k * 5 + 4, none⟩) hb3).trans z4; rw [h6] at q4; go_simp; all_goals (with_reducible rfl)))
          try simp only [Act.put, pa, pb, pc]
          refine r1 18 (some 114) rfl (fun K hK => ?_)
          go_simp
          refine (specHeadRev_d _ d _ (rdDo d (HM.out.arg P2h.out) (HM.out.arg P3h.out) (HM.out.arg P4h.out)) hsd).mono ?_
          rintro e' W33 ⟨rfl, b'⟩
          replace HM := Lib.hid (HM.out.past b')
          clear b'
          clear hS
          refine hK.out _ _ (HM.out.pick (ks := [0, 1]) (by decide) rfl) (fun hS => ?_)
          clear hK K
          try simp only [Act.put, pa, pb, pc]
          first | refine tu 19 115 rfl hS ?_ | (refine tk (v := ?_) 19 115 rfl (fun w' hS' => ?_) hS ?_; rotate_left; · (go_simp; all_goals (with_reducible rfl)))
          try simp only [Act.put, pa, pb, pc]
          first | refine tu 20 116 rfl hS ?_ | (refine tk (v := ?_) 20 116 rfl (fun w' hS' => ?_) hS ?_; rotate_left; · (go_simp; all_goals (with_reducible rfl)))
          try simp only [Act.put, pa, pb, pc]
          try rw [g7]
          refine tk (v := ?_) 21 117 rfl (fun w' hS' => ?_) hS ?_
          rotate_left
          · go_simp; all_goals (with_reducible rfl)
          try simp only [Act.put, pa, pb, pc]
          refine wpAnyH_done (by kernel_rfl) ?_ _
          clear hS
          skip
          go_wp2
          go_roundw
          case rel => exact ⟨j + 1, by omega, by go_num, HJ.out, HM.out.pick (ks := [1]) (by decide) rfl⟩
          case measure => simp [intOf]; omega
        · have h9 : x.subs.drop j = [] := List.drop_eq_nil_of_le (by omega)
          have HE := Lib.hid (show hubB x = true by rw [HD3.out, HI.out, h9]; rfl)
          clear h9
          go_wp2
          go_ret
          exact ⟨ret_b HE.out.symm, HM.out.bl⟩
end Go.Proofs.YtninppjomdhnmaaGreat.low


/-
  Contract of impl.RingSame. Written by mkring3.py.
-/
namespace Go.Proofs.YtninppjomdhnmaaGreat.low
open Go.RowKit
set_option linter.unusedVariables false

end Go.Proofs.YtninppjomdhnmaaGreat.low


/-
  Contracts of impl.SeenOf and DocSame. Written by mkimp8e.py.
-/
namespace Go.Proofs.YtninppjomdhnmaaGreat.low
open Go.RowKit
set_option linter.unusedVariables false

end Go.Proofs.YtninppjomdhnmaaGreat.low


/-
  Contracts of the program: registriesOf, document, subscriber, HubDoc, HubSub, subSame and HubSame. Written by mkhub2.py.
-/
namespace Go.Proofs.YtninppjomdhnmaaGreat.low
open Go.RowKit
set_option linter.unusedVariables false

set_option maxRecDepth 100000 in
set_option maxHeartbeats 3200000 in
theorem pickDo_any (v : Value) (y : Do) (s : ByteArray) (g : Nat) (w : World) (h : RdC w w.heap.size (datDo y) v) (hg : g < w.heap.size) (hc : w.cell? ⟨g, 0, none⟩ = some (.string s)) : Calls Tryz.prog 103 #[v, .pointer (some ⟨g, 0, none⟩)] w (Tells (eqSt y.name s) w) := by
  obtain ⟨C2, c2, C3, c3, C4, c4, rfl, -, -, -⟩ := aggDo h
  have hcx := hc
  have HM := Lib.hid (Ms.start w)
  replace HM := Lib.hid (HM.out.new #[.string y.name, .int .i64 y.from_, .slice C2 y.text.length c2, .slice C3 y.list.length c3, .slice C4 y.seen.length c4] 31)
  have hc1 := ((alloc_below w (.cells #[.string y.name, .int .i64 y.from_, .slice C2 y.text.length c2, .slice C3 y.list.length c3, .slice C4 y.seen.length c4] 31)).cell (p := ⟨g, 0, none⟩) hg).trans hc
  have HT := Lib.hid (show eqSt y.name s = (y.name.toList == s.toList) from rfl)
  clear hc hcx
  go_enter Tryz.func103, Tryz.ntmps103
  go_wp2
  go_ret
  exact ⟨ret_b (by rw [HT.out]), HM.out.bl⟩
set_option maxRecDepth 100000 in
set_option maxHeartbeats 3200000 in
theorem indexFDo_any (v : Value) (l : List Do) (s : ByteArray) (g : Nat) (w : World) (h : RdC w w.heap.size (encDos l) v) (hs : SmDos l) (hg : g < w.heap.size) (hc : w.cell? ⟨g, 0, none⟩ = some (.string s)) : Calls Tryz.prog 102 #[v, .func (.func 103) #[] #[.pointer (some ⟨g, 0, none⟩)]] w (Nums1 (ixInt (docIx l s)) w) := by
  obtain ⟨A, c, rfl⟩ := sliceDos h
  have hl := hs.len
  have HR := Lib.hid h
  have HC := Lib.hid hc
  have HG := Lib.hid hg
  clear h hc hg
  have HM := Lib.hid (Ms.start w)
  go_enter Tryz.func102, Tryz.ntmps102
  go_wp2
  go_loopw [8] (fun i wr => ∃ j : Nat, j ≤ l.length ∧ i = .int .i64 (j : Int) ∧ (∀ i, i < j → ∀ y, l[i]? = some y → eqSt y.name s = false) ∧ Ms w [] wr) (fun i _ => l.length - (intOf i).toNat)
  case atStart => exact ⟨0, Nat.zero_le _, rfl, fun i hi => absurd hi (Nat.not_lt_zero _), HM.out⟩
  case round =>
    obtain ⟨j, hj, rfl, hi, hm⟩ := hrel
    clear HM
    have HM := Lib.hid hm
    have HI := Lib.hid hi
    clear hm hi
    by_cases hlt : j < l.length
    · obtain ⟨b, off, y, C2, c2, C3, c3, C4, c4, rfl, hbb, hp, y0, y1, y2, y3, y4, q2, q3, q4⟩ := atDos HR.out hlt
      have x0 := (HM.out.bl.cell (p := ⟨b, off + j * 5, none⟩) hbb).trans y0
      have x1 := (HM.out.bl.cell (p := ⟨b, off + j * 5 + 1, none⟩) hbb).trans y1
      have x2 := (HM.out.bl.cell (p := ⟨b, off + j * 5 + 2, none⟩) hbb).trans y2
      have x3 := (HM.out.bl.cell (p := ⟨b, off + j * 5 + 3, none⟩) hbb).trans y3
      have x4 := (HM.out.bl.cell (p := ⟨b, off + j * 5 + 4, none⟩) hbb).trans y4
      clear y0 y1 y2 y3 y4
      have HP := Lib.hid hp
      clear hp
      have Q2h := Lib.hid q2
      clear q2
      have Q3h := Lib.hid q3
      clear q3
      have Q4h := Lib.hid q4
      clear q4
      go_wp2_with fail
      clear x0 x1 x2 x3 x4
      refine (pickDo_any _ y _ g _ (rdDo y (HM.out.arg Q2h.out) (HM.out.arg Q3h.out) (HM.out.arg Q4h.out)) (Nat.lt_of_lt_of_le HG.out HM.out.size) ((HM.out.bl.cell (p := ⟨g, 0, none⟩) HG.out).trans HC.out)).mono ?_
      rintro e' W1 ⟨rfl, b'⟩
      replace HM := Lib.hid (HM.out.past b')
      clear b'
      cases h1 : eqSt y.name s
      rotate_left
      · have HF := Lib.hid (show docIx l s = some j from ix_found (p := fun y : Do => eqSt y.name s) HP.out h1 HI.out)
        clear h1
        go_wp2
        go_ret
        exact ⟨ret_i (by rw [HF.out]; rfl), HM.out.bl⟩
      have HI2 := Lib.hid (ix_step (p := fun y : Do => eqSt y.name s) HP.out h1 HI.out)
      clear h1
      go_wp2
      go_roundw
      case rel => exact ⟨j + 1, by omega, by go_num, HI2.out, HM.out⟩
      case measure => simp [intOf]; omega
    · have HF := Lib.hid (show docIx l s = none from ix_none (p := fun y : Do => eqSt y.name s) (fun i hi y hy => HI.out i (by omega) y hy))
      go_wp2
      go_ret
      exact ⟨ret_i (by rw [HF.out]; rfl), HM.out.bl⟩
set_option maxRecDepth 100000 in
set_option maxHeartbeats 3200000 in
theorem document_any (v : Value) (l : List Do) (s : ByteArray) (g o : Nat) (w : World) (h : RdC w w.heap.size (encDos l) v) (hs : SmDos l) (hg : g < w.heap.size) (hc : w.cell? ⟨g, o, none⟩ = some v) : Calls Tryz.prog 79 #[.pointer (some ⟨g, o, none⟩), .string s] w (Nums1 (ixInt (docIx l s)) w) := by
  obtain ⟨A, c, rfl⟩ := sliceDos h
  have HR := Lib.hid h
  clear h
  have HM := Lib.hid (Ms.start w)
  replace HM := Lib.hid (HM.out.new #[.string s] 9)
  have hc1 := ((alloc_below w (.cells #[.string s] 9)).cell (p := ⟨g, o, none⟩) hg).trans hc
  clear hc hg
  have hmf : ∀ (fn : Fn) (first cap : Array Value) (w : World), (Instr.makeFunc fn first cap).run Tryz.prog w = .ok (.func fn first cap) w := fun _ _ _ _ => rfl
  go_enter Tryz.func79, Tryz.ntmps79
  go_wp2_with fail
  clear hc1
  obtain ⟨W1, hW, hm⟩ := HM.out.name
  rw [← hW]
  replace HM := Lib.hid hm
  clear hm hW
  refine (indexFDo_any _ l _ _ _ (HM.out.arg HR.out) hs (HM.out.glt (i := 0) rfl).2 (HM.out.cell (i := 0) (j := 0) rfl rfl)).mono ?_
  rintro e' W2 ⟨rfl, b'⟩
  replace HM := Lib.hid (HM.out.past b')
  clear b'
  go_wp2
  go_ret
  exact ⟨rfl, HM.out.bl⟩
set_option maxRecDepth 100000 in
set_option maxHeartbeats 3200000 in
theorem regs_any (sh : Bool) (A1 A2 : Option Addr) (n1 c1 n2 c2 : Nat) (la : Int) (w : World) : Calls Tryz.prog 47 #[.agg #[.bool sh, .slice A1 n1 c1, .slice A2 n2 c2, .int .i64 la]] w (fun e w' => ∃ g, e = .returned (.pointer (some ⟨g, 0, none⟩)) ∧ Ms w [.bx g (.cells #[.slice A1 n1 c1, .slice A2 n2 c2, .int .i64 la, .bool sh] 87 (0, 0))] w') := by
  have HM := Lib.hid (Ms.start w)
  replace HM := Lib.hid (HM.out.new #[.bool sh, .slice A1 n1 c1, .slice A2 n2 c2, .int .i64 la] 47)
  have hm := HM.out.new #[.slice A1 n1 c1, .slice A2 n2 c2, .int .i64 la, .bool sh] 87
  simp only [World.size_alloc] at hm
  replace HM := Lib.hid hm
  clear hm
  go_enter Tryz.func47, Tryz.ntmps47
  go_wp2
  go_ret
  exact ⟨_, rfl, HM.out.pick (ks := [0]) (by decide) rfl⟩
end Go.Proofs.YtninppjomdhnmaaGreat.low


/-
  Contracts of impl.RingOk, RingNew, RingLag, RingResync and copyRing. Written by mkring3.py.
-/
namespace Go.Proofs.YtninppjomdhnmaaGreat.low
open Go.RowKit
set_option linter.unusedVariables false

set_option maxRecDepth 100000 in
set_option maxHeartbeats 3200000 in
theorem implRingOk_d (v : Value) (x : Ri) (w : World) (h : RdC w w.heap.size (datRi x) v) (hs : SmRi x) : Calls Tryz.prog 78 #[v] w (Tells (ringB x) w) := by
  have HR := Lib.hid h
  obtain ⟨A3, c3, rfl, r3⟩ := aggRi h
  have R3 := Lib.hid r3
  have hl := hs.list.len
  clear h r3
  have HM := Lib.hid (Ms.start w)
  replace HM := Lib.hid (HM.out.new #[.int .i64 x.cap, .int .i64 x.next, .bool x.out, .slice A3 x.list.length c3] 71)
  have HB := Lib.hid (show ringB x = (x.list.all entryB && (inB x.cap 1 6 && (inB x.next 1 1000000000 && (decide ((x.list.length : Int) ≤ x.cap) && (!x.out || decide ((x.list.length : Int) = 0)))))) from rfl)
  by_cases h0 : x.cap < 1
  · have H9 := Lib.hid (show inB x.cap 1 6 = false from inB_f (by omega))
    have g0 : decide (x.cap < 1) = true := decide_eq_true h0
    go_enter Tryz.func78, Tryz.ntmps78
    go_wp2
    go_ret
    exact ⟨ret_b (show false = ringB x by rw [HB.out, H9.out]; simp), HM.out.bl⟩
  have g0 : decide (x.cap < 1) = false := decide_eq_false h0
  by_cases h1 : 6 < x.cap
  · have H9 := Lib.hid (show inB x.cap 1 6 = false from inB_f (by omega))
    have g1 : decide (6 < x.cap) = true := decide_eq_true h1
    go_enter Tryz.func78, Tryz.ntmps78
    go_wp2
    go_ret
    exact ⟨ret_b (show false = ringB x by rw [HB.out, H9.out]; simp), HM.out.bl⟩
  have g1 : decide (6 < x.cap) = false := decide_eq_false h1
  by_cases h2 : x.next < 1
  · have H9 := Lib.hid (show inB x.next 1 1000000000 = false from inB_f (by omega))
    have g2 : decide (x.next < 1) = true := decide_eq_true h2
    go_enter Tryz.func78, Tryz.ntmps78
    go_wp2
    go_ret
    exact ⟨ret_b (show false = ringB x by rw [HB.out, H9.out]; simp), HM.out.bl⟩
  have g2 : decide (x.next < 1) = false := decide_eq_false h2
  by_cases h3 : 1000000000 < x.next
  · have H9 := Lib.hid (show inB x.next 1 1000000000 = false from inB_f (by omega))
    have g3 : decide (1000000000 < x.next) = true := decide_eq_true h3
    go_enter Tryz.func78, Tryz.ntmps78
    go_wp2
    go_ret
    exact ⟨ret_b (show false = ringB x by rw [HB.out, H9.out]; simp), HM.out.bl⟩
  have g3 : decide (1000000000 < x.next) = false := decide_eq_false h3
  have HC := Lib.hid (show inB x.cap 1 6 = true ∧ inB x.next 1 1000000000 = true from ⟨inB_t (by omega), inB_t (by omega)⟩)
  by_cases h4 : x.cap < (x.list.length : Int)
  · have g4 : decide (x.cap < (x.list.length : Int)) = true := decide_eq_true h4
    have H9 := Lib.hid (show decide ((x.list.length : Int) ≤ x.cap) = false from decide_eq_false (by omega))
    go_enter Tryz.func78, Tryz.ntmps78
    go_wp2
    go_ret
    exact ⟨ret_b (show false = ringB x by rw [HB.out, H9.out]; simp), HM.out.bl⟩
  have g4 : decide (x.cap < (x.list.length : Int)) = false := decide_eq_false h4
  have H9 := Lib.hid (show decide ((x.list.length : Int) ≤ x.cap) = true from decide_eq_true (by omega))
  clear h0 h1 h2 h3 h4
  go_enter Tryz.func78, Tryz.ntmps78
  go_wp2_with fail
  obtain ⟨W1, hW, hm⟩ := HM.out.name
  rw [← hW]
  replace HM := Lib.hid hm
  clear hm hW
  refine (implEntriesOk_d _ x.list _ (HM.out.arg R3.out) hs.list).mono ?_
  rintro e' W2 ⟨rfl, b'⟩
  replace HM := Lib.hid (HM.out.past b')
  clear b'
  clear g0 g1 g2 g3 g4
  cases he : x.list.all entryB
  · go_wp2
    go_ret
    exact ⟨ret_b (show false = ringB x by rw [HB.out, he]; rfl), HM.out.bl⟩
  obtain ⟨kx0, kx1, kx2, kx3⟩ := HM.out.c4 0 rfl
  have HQ := Lib.hid (show ringB x = (!x.out || decide ((x.list.length : Int) = 0)) by rw [HB.out, he, HC.out.1, HC.out.2, H9.out]; rfl)
  rcases (show x.out = true ∨ x.out = false by cases x.out <;> simp) with hO | hO
  · rw [hO] at kx2
    have HQ2 := Lib.hid (show ringB x = decide ((x.list.length : Int) = 0) by rw [HQ.out, hO]; rfl)
    clear hO
    by_cases h5 : x.list.length = 0
    · have g5 : ((x.list.length : Int) == 0) = true := by simp [h5]
      have HQ3 := Lib.hid (show ringB x = true by rw [HQ2.out]; simp [h5])
      clear h5
      go_wp2
      go_ret
      exact ⟨ret_b (show true = ringB x by exact HQ3.out.symm), HM.out.bl⟩
    have g5 : ((x.list.length : Int) == 0) = false := by rw [beq_eq_false_iff_ne]; omega
    have HQ3 := Lib.hid (show ringB x = false by rw [HQ2.out]; exact decide_eq_false (by omega))
    clear h5
    go_wp2
    go_ret
    exact ⟨ret_b (show false = ringB x by exact HQ3.out.symm), HM.out.bl⟩
  rw [hO] at kx2
  have HQ2 := Lib.hid (show ringB x = true by rw [HQ.out, hO]; rfl)
  clear hO
  go_wp2
  go_ret
  exact ⟨ret_b (show true = ringB x by exact HQ2.out.symm), HM.out.bl⟩
end Go.Proofs.YtninppjomdhnmaaGreat.low

