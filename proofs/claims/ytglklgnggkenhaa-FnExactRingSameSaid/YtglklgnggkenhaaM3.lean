/-
  Texts that the proofs over this seat rest on, one behind the other (3 of 3).
-/
import Derived.Test.YtglklgnggkenhaaM2
set_option maxHeartbeats 12800000
set_option maxRecDepth 1000000
namespace Go.Proofs.Ytglklgnggkenhaa.low
open Go.RowKit
set_option linter.unusedVariables false
theorem implRingOk_d (v : Value) (x : Ri) (w : World) (h : RdC w w.heap.size (datRi x) v) (hs : SmRi x) : Calls Try.prog 14 #[v] w (Tells (ringB x) w) := by
 have HR := Lib.hid h
 obtain ⟨A3, c3, rfl, r3⟩ := aggRi h
 have R3 := Lib.hid r3
 have hl := hs.list.len
 clear h r3
 have HM := Lib.hid (Ms.start w)
 replace HM := Lib.hid (HM.out.new #[.int .i64 x.cap, .int .i64 x.next, .bool x.out, .slice A3 x.list.length c3] 27)
 have HB := Lib.hid (show ringB x = (x.list.all entryB && (inB x.cap 1 6 && (inB x.next 1 1000000000 && (decide ((x.list.length : Int) ≤ x.cap) && (!x.out || decide ((x.list.length : Int) = 0)))))) from rfl)
 by_cases h0 : x.cap < 1
 ·have H9 := Lib.hid (show inB x.cap 1 6 = false from inB_f (by omega))
  have g0 : decide (x.cap < 1) = true := decide_eq_true h0
  go_enter Try.func14, Try.ntmps14
  go_wp2
  go_ret
  exact ⟨ret_b (show false = ringB x by rw [HB.out, H9.out]; simp), HM.out.bl⟩
 have g0 : decide (x.cap < 1) = false := decide_eq_false h0
 by_cases h1 : 6 < x.cap
 ·have H9 := Lib.hid (show inB x.cap 1 6 = false from inB_f (by omega))
  have g1 : decide (6 < x.cap) = true := decide_eq_true h1
  go_enter Try.func14, Try.ntmps14
  go_wp2
  go_ret
  exact ⟨ret_b (show false = ringB x by rw [HB.out, H9.out]; simp), HM.out.bl⟩
 have g1 : decide (6 < x.cap) = false := decide_eq_false h1
 by_cases h2 : x.next < 1
 ·have H9 := Lib.hid (show inB x.next 1 1000000000 = false from inB_f (by omega))
  have g2 : decide (x.next < 1) = true := decide_eq_true h2
  go_enter Try.func14, Try.ntmps14
  go_wp2
  go_ret
  exact ⟨ret_b (show false = ringB x by rw [HB.out, H9.out]; simp), HM.out.bl⟩
 have g2 : decide (x.next < 1) = false := decide_eq_false h2
 by_cases h3 : 1000000000 < x.next
 ·have H9 := Lib.hid (show inB x.next 1 1000000000 = false from inB_f (by omega))
  have g3 : decide (1000000000 < x.next) = true := decide_eq_true h3
  go_enter Try.func14, Try.ntmps14
  go_wp2
  go_ret
  exact ⟨ret_b (show false = ringB x by rw [HB.out, H9.out]; simp), HM.out.bl⟩
 have g3 : decide (1000000000 < x.next) = false := decide_eq_false h3
 have HC := Lib.hid (show inB x.cap 1 6 = true ∧ inB x.next 1 1000000000 = true from ⟨inB_t (by omega), inB_t (by omega)⟩)
 by_cases h4 : x.cap < (x.list.length : Int)
 ·have g4 : decide (x.cap < (x.list.length : Int)) = true := decide_eq_true h4
  have H9 := Lib.hid (show decide ((x.list.length : Int) ≤ x.cap) = false from decide_eq_false (by omega))
  go_enter Try.func14, Try.ntmps14
  go_wp2
  go_ret
  exact ⟨ret_b (show false = ringB x by rw [HB.out, H9.out]; simp), HM.out.bl⟩
 have g4 : decide (x.cap < (x.list.length : Int)) = false := decide_eq_false h4
 have H9 := Lib.hid (show decide ((x.list.length : Int) ≤ x.cap) = true from decide_eq_true (by omega))
 clear h0 h1 h2 h3 h4
 go_enter Try.func14, Try.ntmps14
 go_wp2_with fail
 obtain ⟨W1, hW, hm⟩ := HM.out.name
 rw [← hW]
 replace HM := Lib.hid hm
 clear hm hW
 refine (implEntriesOk_d _ x.list _ (HM.out.arg R3.out) hs.list).mono ?_
 rintro e' W2 ⟨rfl, b'⟩
 replace HM := Lib.hid (HM.out.past b')
 clear b'
 clear g0 g1 g2 g3 g4
 cases he : x.list.all entryB
 ·go_wp2
  go_ret
  exact ⟨ret_b (show false = ringB x by rw [HB.out, he]; rfl), HM.out.bl⟩
 obtain ⟨kx0, kx1, kx2, kx3⟩ := HM.out.c4 0 rfl
 have HQ := Lib.hid (show ringB x = (!x.out || decide ((x.list.length : Int) = 0)) by rw [HB.out, he, HC.out.1, HC.out.2, H9.out]; rfl)
 rcases (show x.out = true ∨ x.out = false by cases x.out <;> simp) with hO | hO
 ·rw [hO] at kx2
  have HQ2 := Lib.hid (show ringB x = decide ((x.list.length : Int) = 0) by rw [HQ.out, hO]; rfl)
  clear hO
  by_cases h5 : x.list.length = 0
  ·have g5 : ((x.list.length : Int) == 0) = true := by simp [h5]
   have HQ3 := Lib.hid (show ringB x = true by rw [HQ2.out]; simp [h5])
   clear h5
   go_wp2
   go_ret
   exact ⟨ret_b (show true = ringB x by exact HQ3.out.symm), HM.out.bl⟩
  have g5 : ((x.list.length : Int) == 0) = false := by rw [beq_eq_false_iff_ne]; omega
  have HQ3 := Lib.hid (show ringB x = false by rw [HQ2.out]; exact decide_eq_false (by omega))
  clear h5
  go_wp2
  go_ret
  exact ⟨ret_b (show false = ringB x by exact HQ3.out.symm), HM.out.bl⟩
 rw [hO] at kx2
 have HQ2 := Lib.hid (show ringB x = true by rw [HQ.out, hO]; rfl)
 clear hO
 go_wp2
 go_ret
 exact ⟨ret_b (show true = ringB x by exact HQ2.out.symm), HM.out.bl⟩
theorem implRingNew_w (room rev : Int) (w : World) (hr : Rng rev) : Calls Try.prog 11 #[.int .i64 room, .int .i64 rev] w (ResB (datRi (ringNewT room rev)) (ringNewB room rev) w) := by
 have HM := Lib.hid (Ms.start w)
 replace HM := Lib.hid (HM.out.new #[.int .i64 0, .int .i64 0, .bool false, .slice none 0 0] 27)
 by_cases h1 : rev = 9223372036854775807
 ·have H1 := Lib.hid h1
  clear h1
  have HW1 := Lib.hid (show ringB ⟨room, -9223372036854775808, false, []⟩ = false by unfold ringB; rw [inB_f (n := (-9223372036854775808 : Int)) (by omega)]; simp)
  have HN := Lib.hid (ringNew_f (ringNew_big (room := room) (rev := rev) (by have := H1.out; omega)))
  have hw1 : IntKind.i64.wrap (rev + 1) = -9223372036854775808 := by rw [H1.out]; decide
  have hm := HM.out.new #[.int .i64 room, .int .i64 (-9223372036854775808), .bool false, .slice none 0 0] 27
  simp only [World.size_alloc] at hm
  replace HM := Lib.hid hm
  clear hm
  go_enter Try.func11, Try.ntmps11
  go_wp2_with fail
  obtain ⟨W1, hW, hm⟩ := HM.out.name
  rw [← hW]
  replace HM := Lib.hid hm
  clear hm hW
  refine (implRingOk_d _ ⟨room, -9223372036854775808, false, []⟩ _ (rdNew _ _ _ _) (smNew _ _)).mono ?_
  rw [HW1.out]
  rintro e' W2 ⟨rfl, b'⟩
  replace HM := Lib.hid (HM.out.past b')
  clear b'
  obtain ⟨kd0, kd1, kd2, kd3⟩ := HM.out.c4 0 rfl
  obtain ⟨kr0, kr1, kr2, kr3⟩ := HM.out.c4 1 rfl
  obtain ⟨fr0, fr1, fr2, fr3⟩ := HM.out.f4 1 rfl
  go_wp2
  have hm := HM.out.pk [1, 0] (by decide) (by simp)
  simp only [low.pk, low.gz, low.gs] at hm
  replace HM := Lib.hid hm
  clear hm
  have hm := HM.out.putRow (ys := [.int .i64 0, .int .i64 0, .bool false, .slice none 0 0]) rfl
  simp only [low.putRow, Nat.zero_add, Nat.reduceAdd] at hm
  replace HM := Lib.hid hm
  clear hm
  obtain ⟨W3, hW, hm⟩ := HM.out.name
  rw [← hW]
  replace HM := Lib.hid hm
  clear hm hW
  obtain ⟨kr0, kr1, kr2, kr3⟩ := HM.out.c4 0 rfl
  rw [HN.out.1, HN.out.2]
  exact bodyPost_ret (v := .tuple #[.agg #[.int .i64 0, .int .i64 0, .bool false, .slice none 0 0], .bool false]) (by simp [results, Try.results11, go_sem, kr0, kr1, kr2, kr3]) rfl (HM.out.noRi.resB false)
 have hr0 := hr.1
 have hr1 := hr.2
 have hw1 : IntKind.i64.wrap (rev + 1) = rev + 1 := IntWalk.i64_in _ (by omega)
 have HW1 := Lib.hid (show ringB ⟨room, rev + 1, false, []⟩ = ringNewB room rev by
  by_cases h2 : rev ≤ 1000000000
  ·exact ring_new h2
  ·rw [ringNew_big (by omega)]; unfold ringB; rw [inB_f (n := rev + 1) (by omega)]; simp)
 clear h1
 have hm := HM.out.new #[.int .i64 room, .int .i64 (rev + 1), .bool false, .slice none 0 0] 27
 simp only [World.size_alloc] at hm
 replace HM := Lib.hid hm
 clear hm
 go_enter Try.func11, Try.ntmps11
 go_wp2_with fail
 obtain ⟨W4, hW, hm⟩ := HM.out.name
 rw [← hW]
 replace HM := Lib.hid hm
 clear hm hW
 refine (implRingOk_d _ ⟨room, rev + 1, false, []⟩ _ (rdNew _ _ _ _) (smNew _ _)).mono ?_
 rw [HW1.out]
 rintro e' W5 ⟨rfl, b'⟩
 replace HM := Lib.hid (HM.out.past b')
 clear b'
 cases hb : ringNewB room rev
 ·have HN := Lib.hid (ringNew_f hb)
  obtain ⟨kd0, kd1, kd2, kd3⟩ := HM.out.c4 0 rfl
  obtain ⟨kr0, kr1, kr2, kr3⟩ := HM.out.c4 1 rfl
  obtain ⟨fr0, fr1, fr2, fr3⟩ := HM.out.f4 1 rfl
  go_wp2
  have hm := HM.out.pk [1, 0] (by decide) (by simp)
  simp only [low.pk, low.gz, low.gs] at hm
  replace HM := Lib.hid hm
  clear hm
  have hm := HM.out.putRow (ys := [.int .i64 0, .int .i64 0, .bool false, .slice none 0 0]) rfl
  simp only [low.putRow, Nat.zero_add, Nat.reduceAdd] at hm
  replace HM := Lib.hid hm
  clear hm
  obtain ⟨W6, hW, hm⟩ := HM.out.name
  rw [← hW]
  replace HM := Lib.hid hm
  clear hm hW
  obtain ⟨kr0, kr1, kr2, kr3⟩ := HM.out.c4 0 rfl
  rw [HN.out.1, HN.out.2]
  exact bodyPost_ret (v := .tuple #[.agg #[.int .i64 0, .int .i64 0, .bool false, .slice none 0 0], .bool false]) (by simp [results, Try.results11, go_sem, kr0, kr1, kr2, kr3]) rfl (HM.out.noRi.resB false)
 have HN := Lib.hid (ringNew_t hb)
 obtain ⟨kd0, kd1, kd2, kd3⟩ := HM.out.c4 0 rfl
 obtain ⟨kr0, kr1, kr2, kr3⟩ := HM.out.c4 1 rfl
 obtain ⟨fr0, fr1, fr2, fr3⟩ := HM.out.f4 1 rfl
 go_wp2
 have hm := HM.out.pk [1, 0] (by decide) (by simp)
 simp only [low.pk, low.gz, low.gs] at hm
 replace HM := Lib.hid hm
 clear hm
 have hm := HM.out.putRow (ys := [.int .i64 room, .int .i64 (rev + 1), .bool false, .slice none 0 0]) rfl
 simp only [low.putRow, Nat.zero_add, Nat.reduceAdd] at hm
 replace HM := Lib.hid hm
 clear hm
 obtain ⟨W7, hW, hm⟩ := HM.out.name
 rw [← hW]
 replace HM := Lib.hid hm
 clear hm hW
 obtain ⟨kr0, kr1, kr2, kr3⟩ := HM.out.c4 0 rfl
 rw [HN.out.1, HN.out.2]
 exact bodyPost_ret (v := .tuple #[.agg #[.int .i64 room, .int .i64 (rev + 1), .bool false, .slice none 0 0], .bool true]) (by simp [results, Try.results11, go_sem, kr0, kr1, kr2, kr3]) rfl ((HM.out.newRi room (rev + 1)).resB true)
theorem implRingNew_d (room rev : Int) (w : World) (hrc : Rng room) (hr : Rng rev) : Calls Try.prog 11 #[.int .i64 room, .int .i64 rev] w (ResB (datRi (ringNewT room rev)) (ringNewB room rev) w) := implRingNew_w room rev w hr
theorem implRingLag_d (v : Value) (x : Ri) (w : World) (h : RdC w w.heap.size (datRi x) v) (hs : SmRi x) : Calls Try.prog 12 #[v] w (Nums1 (ringLagT x) w) := by
 obtain ⟨A3, c3, rfl, -⟩ := aggRi h
 clear h
 unfold ringLagT
 generalize x.out = ou
 cases ou
 ·have HM := Lib.hid (Ms.start w)
  replace HM := Lib.hid (HM.out.new #[.int .i64 x.cap, .int .i64 x.next, .bool false, .slice A3 x.list.length c3] 27)
  go_enter Try.func12, Try.ntmps12
  go_wp2
  go_ret
  exact ⟨rfl, HM.out.bl⟩
 ·have HM := Lib.hid (Ms.start w)
  replace HM := Lib.hid (HM.out.new #[.int .i64 x.cap, .int .i64 x.next, .bool true, .slice A3 x.list.length c3] 27)
  go_enter Try.func12, Try.ntmps12
  go_wp2
  go_ret
  exact ⟨rfl, HM.out.bl⟩
theorem implRingResync_d (v : Value) (x : Ri) (rev : Int) (w : World) (h : RdC w w.heap.size (datRi x) v) (hs : SmRi x) (hr : Rng rev) : Calls Try.prog 17 #[v, .int .i64 rev] w (ResB (datRi (ringResyncT x rev)) (ringResyncB x rev) w) := by
 have HR := Lib.hid h
 obtain ⟨A3, c3, rfl, r3⟩ := aggRi h
 have R3 := Lib.hid r3
 have hl := hs.list.len
 clear h r3
 have HM := Lib.hid (Ms.start w)
 replace HM := Lib.hid (HM.out.new #[.int .i64 x.cap, .int .i64 x.next, .bool x.out, .slice A3 x.list.length c3] 27)
 have hm := HM.out.new #[.int .i64 0, .int .i64 0, .bool false, .slice none 0 0] 27
 simp only [World.size_alloc] at hm
 replace HM := Lib.hid hm
 clear hm
 go_enter Try.func17, Try.ntmps17
 go_wp2_with fail
 obtain ⟨W1, hW, hm⟩ := HM.out.name
 rw [← hW]
 replace HM := Lib.hid hm
 clear hm hW
 refine (implRingOk_d _ x _ (HM.out.arg HR.out) hs).mono ?_
 rintro e' W2 ⟨rfl, b'⟩
 replace HM := Lib.hid (HM.out.past b')
 clear b'
 cases hb : ringB x
 ·have HN := Lib.hid (ringRes_f (rev := rev) hb)
  obtain ⟨kr0, kr1, kr2, kr3⟩ := HM.out.c4 0 rfl
  obtain ⟨fr0, fr1, fr2, fr3⟩ := HM.out.f4 0 rfl
  go_wp2
  have hm := HM.out.putRow (ys := [.int .i64 0, .int .i64 0, .bool false, .slice none 0 0]) rfl
  simp only [low.putRow, Nat.zero_add, Nat.reduceAdd] at hm
  replace HM := Lib.hid hm
  clear hm
  obtain ⟨W3, hW, hm⟩ := HM.out.name
  rw [← hW]
  replace HM := Lib.hid hm
  clear hm hW
  obtain ⟨kr0, kr1, kr2, kr3⟩ := HM.out.c4 0 rfl
  rw [HN.out.1, HN.out.2]
  exact bodyPost_ret (v := .tuple #[.agg #[.int .i64 0, .int .i64 0, .bool false, .slice none 0 0], .bool false]) (by simp [results, Try.results17, go_sem, kr0, kr1, kr2, kr3]) rfl (HM.out.noRi.resB false)
 have HN := Lib.hid (ringRes_t (rev := rev) hb)
 obtain ⟨kx0, kx1, kx2, kx3⟩ := HM.out.c4 1 rfl
 go_wp2_with fail
 clear kx0 kx1 kx2 kx3
 refine (implRingNew_w x.cap rev _ hr).mono ?_
 rw [← HN.out.1, ← HN.out.2]
 rintro e' W4 ⟨v', rfl, o', b'⟩
 obtain ⟨An, cn, rfl, -⟩ := aggRi o'.read
 obtain ⟨bn, hm⟩ := HM.out.got o' b'
 clear o' b'
 replace HM := Lib.hid hm
 clear hm
 obtain ⟨kr0, kr1, kr2, kr3⟩ := HM.out.c4 1 rfl
 obtain ⟨fr0, fr1, fr2, fr3⟩ := HM.out.f4 1 rfl
 go_wp2
 have hm := HM.out.pk [1, 0, 2] (by decide) (by simp)
 simp only [low.pk, low.gz, low.gs] at hm
 replace HM := Lib.hid hm
 clear hm
 have hm := HM.out.putRow (ys := [.int .i64 (ringResyncT x rev).cap, .int .i64 (ringResyncT x rev).next, .bool (ringResyncT x rev).out, .slice An (ringResyncT x rev).list.length cn]) rfl
 simp only [low.putRow, Nat.zero_add, Nat.reduceAdd] at hm
 replace HM := Lib.hid hm
 clear hm
 obtain ⟨W5, hW, hm⟩ := HM.out.name
 rw [← hW]
 replace HM := Lib.hid hm
 clear hm hW
 obtain ⟨kr0, kr1, kr2, kr3⟩ := HM.out.c4 0 rfl
 have hm := HM.out.pk [1, 0, 2] (by decide) (by simp)
 simp only [low.pk, low.gz, low.gs] at hm
 replace HM := Lib.hid hm
 clear hm
 exact bodyPost_ret (v := .tuple #[.agg #[.int .i64 (ringResyncT x rev).cap, .int .i64 (ringResyncT x rev).next, .bool (ringResyncT x rev).out, .slice An (ringResyncT x rev).list.length cn], .bool (ringResyncB x rev)]) (by simp [results, Try.results17, go_sem, kr0, kr1, kr2, kr3]) rfl (HM.out.resB _)
theorem entriesB_ln : ∀ {l m : List En}, ¬ l.length = m.length → entriesB l m = false
 | [], [], h => absurd rfl h
 | [], _ :: _, _ => rfl
 | _ :: _, [], _ => rfl
 | a :: l, b :: m, h => by
  rw [entriesB, entriesB_ln (l := l) (m := m) (by simpa using h), Bool.and_false]
theorem specRingSame_d (v v' : Value) (x y : Ri) (w : World) (h : RdC w w.heap.size (datRi x) v) (h' : RdC w w.heap.size (datRi y) v') (hs : SmRi x) (hs' : SmRi y) : Calls Try.prog 28 #[v, v'] w (Tells (ringSameB x y) w) := by
 have HR := Lib.hid h
 have HS := Lib.hid h'
 obtain ⟨A3, c3, rfl, r3⟩ := aggRi h
 obtain ⟨B3, d3, rfl, s3⟩ := aggRi h'
 have R3 := Lib.hid r3
 have S3 := Lib.hid s3
 have hl := hs.list.len
 have hl' := hs'.list.len
 clear h h' r3 s3
 generalize hY : y.out = oy
 have HY := Lib.hid hY
 clear hY
 have HB := Lib.hid (show ringSameB x y = (decide (x.cap = y.cap) && (decide (x.next = y.next) && (x.out == y.out && entriesB x.list y.list))) from rfl)
 by_cases h0 : x.cap = y.cap
 rotate_left
 ·have g0 : (x.cap != y.cap) = true := by simp [h0]
  have H9 := Lib.hid (show decide (x.cap = y.cap) = false from decide_eq_false h0)
  clear h0
  have HM := Lib.hid (Ms.start w)
  replace HM := Lib.hid (HM.out.new #[.int .i64 x.cap, .int .i64 x.next, .bool x.out, .slice A3 x.list.length c3] 27)
  have hm := HM.out.new #[.int .i64 y.cap, .int .i64 y.next, .bool oy, .slice B3 y.list.length d3] 27
  simp only [World.size_alloc] at hm
  replace HM := Lib.hid hm
  clear hm
  go_enter Try.func28, Try.ntmps28
  go_wp2
  go_ret
  exact ⟨ret_b (show false = ringSameB x y by rw [HB.out, H9.out]; simp), HM.out.bl⟩
 have g0 : (x.cap != y.cap) = false := by simp [h0]
 have H0 := Lib.hid h0
 clear h0
 by_cases h1 : x.next = y.next
 rotate_left
 ·have g1 : (x.next != y.next) = true := by simp [h1]
  have H9 := Lib.hid (show decide (x.next = y.next) = false from decide_eq_false h1)
  clear h1
  have HM := Lib.hid (Ms.start w)
  replace HM := Lib.hid (HM.out.new #[.int .i64 x.cap, .int .i64 x.next, .bool x.out, .slice A3 x.list.length c3] 27)
  have hm := HM.out.new #[.int .i64 y.cap, .int .i64 y.next, .bool oy, .slice B3 y.list.length d3] 27
  simp only [World.size_alloc] at hm
  replace HM := Lib.hid hm
  clear hm
  go_enter Try.func28, Try.ntmps28
  go_wp2
  go_ret
  exact ⟨ret_b (show false = ringSameB x y by rw [HB.out, H9.out]; simp), HM.out.bl⟩
 have g1 : (x.next != y.next) = false := by simp [h1]
 have H1 := Lib.hid h1
 clear h1
 by_cases h2 : x.out = oy
 rotate_left
 ·obtain rfl : oy = !x.out := by revert h2; cases x.out <;> cases oy <;> simp
  have H9 := Lib.hid (show (x.out == y.out) = false by rw [HY.out]; cases x.out <;> rfl)
  clear h2
  have HM := Lib.hid (Ms.start w)
  replace HM := Lib.hid (HM.out.new #[.int .i64 x.cap, .int .i64 x.next, .bool x.out, .slice A3 x.list.length c3] 27)
  have hm := HM.out.new #[.int .i64 y.cap, .int .i64 y.next, .bool (!x.out), .slice B3 y.list.length d3] 27
  simp only [World.size_alloc] at hm
  replace HM := Lib.hid hm
  clear hm
  go_enter Try.func28, Try.ntmps28
  go_wp2
  go_ret
  exact ⟨ret_b (show false = ringSameB x y by rw [HB.out, H9.out]; simp), HM.out.bl⟩
 subst h2
 have H2 := Lib.hid (show (x.out == y.out) = true by rw [HY.out]; simp)
 have HM := Lib.hid (Ms.start w)
 replace HM := Lib.hid (HM.out.new #[.int .i64 x.cap, .int .i64 x.next, .bool x.out, .slice A3 x.list.length c3] 27)
 have hm := HM.out.new #[.int .i64 y.cap, .int .i64 y.next, .bool x.out, .slice B3 y.list.length d3] 27
 simp only [World.size_alloc] at hm
 replace HM := Lib.hid hm
 clear hm
 have HQ := Lib.hid (show ringSameB x y = entriesB x.list y.list by rw [HB.out, decide_eq_true H0.out, decide_eq_true H1.out, H2.out]; rfl)
 by_cases hlen : x.list.length = y.list.length
 rotate_left
 ·have gl : ((x.list.length : Int) != (y.list.length : Int)) = true := by simp; omega
  have HQ2 := Lib.hid (show ringSameB x y = false by rw [HQ.out]; exact entriesB_ln hlen)
  clear hlen
  go_enter Try.func28, Try.ntmps28
  go_wp2
  go_ret
  exact ⟨ret_b HQ2.out.symm, HM.out.bl⟩
 have gl : ((x.list.length : Int) != (y.list.length : Int)) = false := by simp [hlen]
 have HL := Lib.hid hlen
 clear hlen
 go_enter Try.func28, Try.ntmps28
 go_wp2
 obtain ⟨W1, hW, hm⟩ := HM.out.name
 rw [← hW]
 replace HM := Lib.hid hm
 clear hm hW
 go_loopw [38] (fun i wr => ∃ j : Nat, j ≤ x.list.length ∧ i = .int .i64 (j : Int) ∧ ringSameB x y = entriesB (x.list.drop j) (y.list.drop j) ∧ Ms w [.bx (w.heap.size + 1) (.cells #[.int .i64 y.cap, .int .i64 y.next, .bool x.out, .slice B3 y.list.length d3] 27 (0, 0)), .bx w.heap.size (.cells #[.int .i64 x.cap, .int .i64 x.next, .bool x.out, .slice A3 x.list.length c3] 27 (0, 0))] wr) (fun i _ => x.list.length - (intOf i).toNat)
 case atStart => exact ⟨0, Nat.zero_le _, rfl, by simpa using HQ.out, HM.out⟩
 case round =>
  obtain ⟨j, hj, rfl, hi, hm⟩ := hrel
  clear HM g0 g1 gl
  have HM := Lib.hid hm
  have HI := Lib.hid hi
  clear hm hi
  by_cases hlt : j < x.list.length
  ·have hlt2 : j < y.list.length := by have := HL.out; omega
   obtain ⟨b, off, e, A5, c5, rfl, hbb, hp, y0, y1, y2, q2⟩ := atEns R3.out hlt
   obtain ⟨b', off', u, B5, d5, rfl, hbb', hp', z0, z1, z2, p2⟩ := atEns S3.out hlt2
   have x0 := (HM.out.bl.cell (p := ⟨b, off + j * 3, none⟩) hbb).trans y0
   have x1 := (HM.out.bl.cell (p := ⟨b, off + j * 3 + 1, none⟩) hbb).trans y1
   have x2 := (HM.out.bl.cell (p := ⟨b, off + j * 3 + 2, none⟩) hbb).trans y2
   clear y0 y1 y2
   have hse := hs.list.at_ (List.mem_of_getElem? hp)
   have hse' := hs'.list.at_ (List.mem_of_getElem? hp')
   have HSt := Lib.hid (entriesB_step hp hp')
   clear hp hp'
   have Q2 := Lib.hid q2
   have P2 := Lib.hid p2
   have Z := Lib.hid (And.intro z0 (And.intro z1 z2))
   clear q2 p2 z0 z1 z2
   replace HM := Lib.hid (HM.out.new #[.int .i64 e.client, .int .i64 e.seq, .slice A5 e.o.length c5] 32)
   go_wp2
   clear x0 x1 x2
   obtain ⟨W2, hW, hm⟩ := HM.out.name
   rw [← hW]
   replace HM := Lib.hid hm
   clear hm hW
   replace HM := Lib.hid (HM.out.drew)
   refine wp_region_held_drew (S := fun W => Ms w [.bx wr.heap.size (.cells #[.int .i64 e.client, .int .i64 e.seq, .slice A5 e.o.length c5] 32 (0, 0)), .bx (w.heap.size + 1) (.cells #[.int .i64 y.cap, .int .i64 y.next, .bool x.out, .slice (some ⟨b', off', none⟩) y.list.length d3] 27 (0, 0))] W ∧ W.cell? ⟨b', off' + j * 3, none⟩ = some (.int .i64 u.client) ∧ W.cell? ⟨b', off' + j * 3 + 1, none⟩ = some (.int .i64 u.seq) ∧ W.cell? ⟨b', off' + j * 3 + 2, none⟩ = some (.slice B5 u.o.length d5)) (by kernel_rfl) ⟨HM.out.pick (ks := [0, 1]) (by decide) rfl, ⟨(HM.out.bl.cell (p := ⟨b', off' + j * 3, none⟩) hbb').trans Z.out.1, (HM.out.bl.cell (p := ⟨b', off' + j * 3 + 1, none⟩) hbb').trans Z.out.2.1, (HM.out.bl.cell (p := ⟨b', off' + j * 3 + 2, none⟩) hbb').trans Z.out.2.2⟩⟩ (fun hS => ?_)
   generalize W2.drew = W3 at HM hS  ⊢
   refine tk (v := ?_) 0 43 rfl (fun w' hS' => ?_) hS ?_
   rotate_left
   ·(try dsimp only at hS'); obtain ⟨p0, p1, p2⟩ := hS'.1.c3 0 rfl; obtain ⟨q0, q1, q2, q3⟩ := hS'.1.c4 1 rfl; obtain ⟨u0, u1, u2⟩ := hS'.2; go_simp; all_goals (with_reducible rfl)
   try simp only [Act.put, pa, pb, pc]
   refine tk (v := ?_) 1 44 rfl (fun w' hS' => ?_) hS ?_
   rotate_left
   ·go_simp; all_goals (with_reducible rfl)
   try simp only [Act.put, pa, pb, pc]
   refine tk (v := ?_) 2 45 rfl (fun w' hS' => ?_) hS ?_
   rotate_left
   ·(try dsimp only at hS'); obtain ⟨p0, p1, p2⟩ := hS'.1.c3 0 rfl; obtain ⟨q0, q1, q2, q3⟩ := hS'.1.c4 1 rfl; obtain ⟨u0, u1, u2⟩ := hS'.2; go_simp; all_goals (with_reducible rfl)
   try simp only [Act.put, pa, pb, pc]
   refine tk (v := ?_) 3 46 rfl (fun w' hS' => ?_) hS ?_
   rotate_left
   ·go_simp; all_goals (with_reducible rfl)
   try simp only [Act.put, pa, pb, pc]
   refine tk (v := ?_) 4 47 rfl (fun w' hS' => ?_) hS ?_
   rotate_left
   ·go_simp; all_goals (with_reducible rfl)
   try simp only [Act.put, pa, pb, pc]
   refine tk (v := ?_) 5 48 rfl (fun w' hS' => ?_) hS ?_
   rotate_left
   ·(try dsimp only at hS'); obtain ⟨p0, p1, p2⟩ := hS'.1.c3 0 rfl; obtain ⟨q0, q1, q2, q3⟩ := hS'.1.c4 1 rfl; obtain ⟨u0, u1, u2⟩ := hS'.2; go_simp; all_goals (with_reducible rfl)
   try simp only [Act.put, pa, pb, pc]
   refine r1 6 (some 49) rfl (fun K hK => ?_)
   go_simp
   refine (specEntrySame_d _ _ e u _ (rdEn e (HM.out.arg Q2.out)) (rdEn u (HM.out.arg P2.out)) hse hse').mono ?_
   rintro e' W4 ⟨rfl, b9'⟩
   replace HM := Lib.hid (HM.out.past b9')
   clear b9'
   clear hS
   refine hK.out _ _ ⟨HM.out.pick (ks := [0, 1]) (by decide) rfl, ⟨(HM.out.bl.cell (p := ⟨b', off' + j * 3, none⟩) hbb').trans Z.out.1, (HM.out.bl.cell (p := ⟨b', off' + j * 3 + 1, none⟩) hbb').trans Z.out.2.1, (HM.out.bl.cell (p := ⟨b', off' + j * 3 + 2, none⟩) hbb').trans Z.out.2.2⟩⟩ (fun hS => ?_)
   clear hK K
   try simp only [Act.put, pa, pb, pc]
   refine tk (v := ?_) 7 50 rfl (fun w' hS' => ?_) hS ?_
   rotate_left
   ·go_simp; all_goals (with_reducible rfl)
   try simp only [Act.put, pa, pb, pc]
   refine wpAnyH_done (by kernel_rfl) ?_ _
   clear hS
   cases hee : entrySameB e u
   ·go_wp2
    go_ret
    exact ⟨ret_b (by rw [HI.out, HSt.out, hee]; rfl), HM.out.bl⟩
   have HN := Lib.hid (show ringSameB x y = entriesB (x.list.drop (j + 1)) (y.list.drop (j + 1)) by rw [HI.out, HSt.out, hee]; rfl)
   clear hee
   go_wp2
   go_roundw
   case rel => exact ⟨j + 1, by omega, by go_num, HN.out, HM.out.pick (ks := [1, 2]) (by decide) rfl⟩
   case measure => simp [intOf]; omega
  ·obtain rfl : j = x.list.length := by omega
   have HN := Lib.hid (show ringSameB x y = true by rw [HI.out, List.drop_eq_nil_of_le (Nat.le_refl _), List.drop_eq_nil_of_le (by have := HL.out; omega)]; rfl)
   go_wp2
   go_ret
   exact ⟨ret_b HN.out.symm, HM.out.bl⟩
theorem implRingSame_d (v v' : Value) (x y : Ri) (w : World) (h : RdC w w.heap.size (datRi x) v) (h' : RdC w w.heap.size (datRi y) v') (hs : SmRi x) (hs' : SmRi y) : Calls Try.prog 18 #[v, v'] w (Tells (ringSameB x y) w) := by
 have HR := Lib.hid h
 have HS := Lib.hid h'
 obtain ⟨A3, c3, rfl, r3⟩ := aggRi h
 obtain ⟨B3, d3, rfl, s3⟩ := aggRi h'
 have R3 := Lib.hid r3
 have S3 := Lib.hid s3
 have hl := hs.list.len
 have hl' := hs'.list.len
 clear h h' r3 s3
 generalize hY : y.out = oy
 have HY := Lib.hid hY
 clear hY
 have HB := Lib.hid (show ringSameB x y = (decide (x.cap = y.cap) && (decide (x.next = y.next) && (x.out == y.out && entriesB x.list y.list))) from rfl)
 by_cases h0 : x.cap = y.cap
 rotate_left
 ·have g0 : (x.cap == y.cap) = false := by simp [h0]
  have H9 := Lib.hid (show decide (x.cap = y.cap) = false from decide_eq_false h0)
  clear h0
  have HM := Lib.hid (Ms.start w)
  replace HM := Lib.hid (HM.out.new #[.int .i64 x.cap, .int .i64 x.next, .bool x.out, .slice A3 x.list.length c3] 27)
  have hm := HM.out.new #[.int .i64 y.cap, .int .i64 y.next, .bool oy, .slice B3 y.list.length d3] 27
  simp only [World.size_alloc] at hm
  replace HM := Lib.hid hm
  clear hm
  go_enter Try.func18, Try.ntmps18
  go_wp2
  go_ret
  exact ⟨ret_b (show false = ringSameB x y by rw [HB.out, H9.out]; simp), HM.out.bl⟩
 have g0 : (x.cap == y.cap) = true := by simp [h0]
 have H0 := Lib.hid h0
 clear h0
 by_cases h1 : x.next = y.next
 rotate_left
 ·have g1 : (x.next == y.next) = false := by simp [h1]
  have H9 := Lib.hid (show decide (x.next = y.next) = false from decide_eq_false h1)
  clear h1
  have HM := Lib.hid (Ms.start w)
  replace HM := Lib.hid (HM.out.new #[.int .i64 x.cap, .int .i64 x.next, .bool x.out, .slice A3 x.list.length c3] 27)
  have hm := HM.out.new #[.int .i64 y.cap, .int .i64 y.next, .bool oy, .slice B3 y.list.length d3] 27
  simp only [World.size_alloc] at hm
  replace HM := Lib.hid hm
  clear hm
  go_enter Try.func18, Try.ntmps18
  go_wp2
  go_ret
  exact ⟨ret_b (show false = ringSameB x y by rw [HB.out, H9.out]; simp), HM.out.bl⟩
 have g1 : (x.next == y.next) = true := by simp [h1]
 have H1 := Lib.hid h1
 clear h1
 by_cases h2 : x.out = oy
 rotate_left
 ·obtain rfl : oy = !x.out := by revert h2; cases x.out <;> cases oy <;> simp
  have H9 := Lib.hid (show (x.out == y.out) = false by rw [HY.out]; cases x.out <;> rfl)
  clear h2
  have HM := Lib.hid (Ms.start w)
  replace HM := Lib.hid (HM.out.new #[.int .i64 x.cap, .int .i64 x.next, .bool x.out, .slice A3 x.list.length c3] 27)
  have hm := HM.out.new #[.int .i64 y.cap, .int .i64 y.next, .bool (!x.out), .slice B3 y.list.length d3] 27
  simp only [World.size_alloc] at hm
  replace HM := Lib.hid hm
  clear hm
  go_enter Try.func18, Try.ntmps18
  go_wp2
  go_ret
  exact ⟨ret_b (show false = ringSameB x y by rw [HB.out, H9.out]; simp), HM.out.bl⟩
 subst h2
 have H2 := Lib.hid (show (x.out == y.out) = true by rw [HY.out]; simp)
 have HM := Lib.hid (Ms.start w)
 replace HM := Lib.hid (HM.out.new #[.int .i64 x.cap, .int .i64 x.next, .bool x.out, .slice A3 x.list.length c3] 27)
 have hm := HM.out.new #[.int .i64 y.cap, .int .i64 y.next, .bool x.out, .slice B3 y.list.length d3] 27
 simp only [World.size_alloc] at hm
 replace HM := Lib.hid hm
 clear hm
 have HQ := Lib.hid (show ringSameB x y = entriesB x.list y.list by rw [HB.out, decide_eq_true H0.out, decide_eq_true H1.out, H2.out]; rfl)
 go_enter Try.func18, Try.ntmps18
 go_wp2_with fail
 obtain ⟨W1, hW, hm⟩ := HM.out.name
 rw [← hW]
 replace HM := Lib.hid hm
 clear hm hW
 refine (equalEn_d _ _ x.list y.list _ (HM.out.arg R3.out) (HM.out.arg S3.out) hs.list hs'.list).mono ?_
 rintro e' W2 ⟨rfl, b'⟩
 replace HM := Lib.hid (HM.out.past b')
 clear b'
 go_wp2
 go_ret
 exact ⟨ret_b HQ.out.symm, HM.out.bl⟩
end Go.Proofs.Ytglklgnggkenhaa.low
