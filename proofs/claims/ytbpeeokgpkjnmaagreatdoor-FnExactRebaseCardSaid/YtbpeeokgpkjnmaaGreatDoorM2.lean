/-
  Texts that the proofs over this seat rest on, one behind the other (2 of 6).
-/
import Derived.Test.YtbpeeokgpkjnmaaGreatDoorM1
import Derived.Deep.RegionLaw
import Derived.StillTailTactics
import Derived.Deep.RegionHeld3
set_option maxHeartbeats 12800000
set_option maxRecDepth 1000000
namespace Go.Proofs.YtbpeeokgpkjnmaaGreatDoor.low
open Go.RowKit
set_option linter.unusedVariables false
structure Do where
 name : ByteArray
 from_ : Int
 text : List Int
 list : List En
 seen : List Se
def encDo (x : Do) : List Dat := [.str x.name, .int x.from_, encInts x.text, encEns x.list, encSes x.seen]
def datDo (x : Do) : Dat := .agg (encDo x)
def totDo (x : Do) : Nat := x.name.size + totI x.text + totEns x.list + totSes x.seen
def LimDo (x : Do) : Prop := x.name.size ≤ maxLen ∧ LimI x.text ∧ LimEns x.list ∧ LimSes x.seen
def SmDo (x : Do) : Prop := totDo x ≤ 1048576
def totDos (l : List Do) : Nat := l.length + sumN totDo l
def SmDos (l : List Do) : Prop := totDos l ≤ 1048576
theorem SmDos.len {l : List Do} (h : SmDos l) : l.length ≤ 1048576 := by unfold SmDos totDos at h; omega
theorem SmDos.at_ {l : List Do} (h : SmDos l) {x : Do} (hx : x ∈ l) : SmDo x := by
 unfold SmDos totDos at h
 have := sumN_at (f := totDo) hx
 unfold SmDo
 omega
theorem SmDo.text {x : Do} (h : SmDo x) : SmI x.text := smI_of (by unfold SmDo totDo at h; omega)
theorem SmDo.list {x : Do} (h : SmDo x) : SmEns x.list := smEns_of (by unfold SmDo totDo at h; omega)
theorem SmDo.seen {x : Do} (h : SmDo x) : SmSes x.seen := smSes_of (by unfold SmDo totDo at h; omega)
theorem aggDo {w : World} {B : Nat} {x : Do} {v : Value} (h : RdC w B (datDo x) v) : ∃ (A2 : Option Addr) (c2 : Nat) (A3 : Option Addr) (c3 : Nat) (A4 : Option Addr) (c4 : Nat), v = .agg #[.string x.name, .int .i64 x.from_, .slice A2 x.text.length c2, .slice A3 x.list.length c3, .slice A4 x.seen.length c4] ∧ RdC w B (encInts x.text) (.slice A2 x.text.length c2) ∧ RdC w B (encEns x.list) (.slice A3 x.list.length c3) ∧ RdC w B (encSes x.seen) (.slice A4 x.seen.length c4) := by
 obtain ⟨vs, rfl, v0, _, rfl, rfl, v1, _, rfl, rfl, v2, _, rfl, r2, v3, _, rfl, r3, v4, _, rfl, r4, rfl⟩ := h
 obtain ⟨A2, c2, rfl⟩ := sliceI r2
 obtain ⟨A3, c3, rfl⟩ := sliceEns r3
 obtain ⟨A4, c4, rfl⟩ := sliceSes r4
 exact ⟨A2, c2, A3, c3, A4, c4, rfl, r2, r3, r4⟩
theorem rdDo {w : World} {B : Nat} (x : Do) {v2 : Value} {v3 : Value} {v4 : Value} (r2 : RdC w B (encInts x.text) v2) (r3 : RdC w B (encEns x.list) v3) (r4 : RdC w B (encSes x.seen) v4) : RdC w B (datDo x) (.agg #[.string x.name, .int .i64 x.from_, v2, v3, v4]) := ⟨_, rfl, _, _, rfl, rfl, _, _, rfl, rfl, _, _, rfl, r2, _, _, rfl, r3, _, _, rfl, r4, rfl⟩
theorem cntDo_a (x : Do) : cntC (datDo x) = cntC (encInts x.text) + cntC (encEns x.list) + cntC (encSes x.seen) := by
 show cntA [.str x.name, .int x.from_, encInts x.text, encEns x.list, encSes x.seen] = _
 simp only [cntA, cntF, encEns, encInts, encSes, cntC]
 try omega
theorem mkDo_a (k : Int) (x : Do) : mkC k (datDo x) = .agg [.str x.name, .int x.from_, mkC (k) (encInts x.text), mkC (k + (cntC (encInts x.text) : Int)) (encEns x.list), mkC (k + (cntC (encInts x.text) : Int) + (cntC (encEns x.list) : Int)) (encSes x.seen)] := by
 show Dat.agg (mkA k [.str x.name, .int x.from_, encInts x.text, encEns x.list, encSes x.seen]) = _
 simp [mkA, mkF, cntF, mkC, cntC, encEns, encInts, encSes]
theorem cntDo {x : Do} (h : SmDo x) : cntC (datDo x) ≤ 3145728 := by
 rw [cntDo_a]
 unfold SmDo totDo at h
 have h2 := cntI_le x.text
 have h3 := cntEns_le x.list
 have h4 := cntSes_le x.seen
 omega
theorem szDo (v : Value) (x : Do) (left : Int) (w : World) (h : RdC w w.heap.size (datDo x) v) (h0 : 0 ≤ left) (h1 : left ≤ 1048576) (hl : LimDo x) : Calls Tryz.prog 6 #[v, .int .i64 left] w (Sized (totDo x) left w) := by
 obtain ⟨A2, c2, A3, c3, A4, c4, rfl, r2, r3, r4⟩ := aggDo h
 have b0 := alloc_below w (.cells #[.string x.name, .int .i64 x.from_, .slice A2 x.text.length c2, .slice A3 x.list.length c3, .slice A4 x.seen.length c4] 26)
 have hlt : w.heap.size < (w.alloc (.cells #[.string x.name, .int .i64 x.from_, .slice A2 x.text.length c2, .slice A3 x.list.length c3, .slice A4 x.seen.length c4] 26)).heap.size := by rw [World.size_alloc]; omega
 have D0 : Below (w.alloc (.cells #[.string x.name, .int .i64 x.from_, .slice A2 x.text.length c2, .slice A3 x.list.length c3, .slice A4 x.seen.length c4] 26)).heap.size (w.alloc (.cells #[.string x.name, .int .i64 x.from_, .slice A2 x.text.length c2, .slice A3 x.list.length c3, .slice A4 x.seen.length c4] 26)) (w.alloc (.cells #[.string x.name, .int .i64 x.from_, .slice A2 x.text.length c2, .slice A3 x.list.length c3, .slice A4 x.seen.length c4] 26)) := Below.refl _ _
 unfold LimDo at hl
 have HT := Lib.hid (show totDo x = x.name.size + totI x.text + totEns x.list + totSes x.seen from rfl)
 unfold maxLen at hl
 by_cases hn1 : (x.name.size : Int) ≤ left
 case neg =>
  have hn1' : left - (x.name.size : Int) < 0 := by omega
  go_enter Tryz.func6, Tryz.ntmps6
  go_wp2
  go_ret
  exact ⟨_, rfl, .inl rfl, b0⟩
 go_enter Tryz.func6, Tryz.ntmps6
 go_wp2_with fail
 refine (szI_ _ x.text (left - (x.name.size : Int)) _ ((r2.past b0).past D0) (by omega) (by omega) hl.2.1).mono ?_
 rintro e w2 ⟨e2, rfl, hr2, k2⟩
 have D2 := D0.trans (k2.mono D0.size)
 rcases hr2 with rfl | ⟨p2, q2⟩
 ·go_wp2
  go_ret
  exact ⟨_, rfl, .inl rfl, b0.trans (D2.mono b0.size)⟩
 have t2 : e2 ≤ 1048576 := by omega
 have Q2 := Lib.hid q2
 clear q2 k2
 have y3 := (D2.cell (p := ⟨w.heap.size, 3, none⟩) hlt).trans (bxnew (w := w) (cs := #[.string x.name, .int .i64 x.from_, .slice A2 x.text.length c2, .slice A3 x.list.length c3, .slice A4 x.seen.length c4]) (j := 3) rfl)
 go_wp2_with fail
 refine (szEns _ x.list e2 _ ((r3.past b0).past D2) (by omega) (by omega) hl.2.2.1).mono ?_
 rintro e w3 ⟨e3, rfl, hr3, k3⟩
 have D3 := D2.trans (k3.mono D2.size)
 rcases hr3 with rfl | ⟨p3, q3⟩
 ·go_wp2
  go_ret
  exact ⟨_, rfl, .inl rfl, b0.trans (D3.mono b0.size)⟩
 have t3 : e3 ≤ 1048576 := by omega
 have Q3 := Lib.hid q3
 clear q3 k3
 have y4 := (D3.cell (p := ⟨w.heap.size, 4, none⟩) hlt).trans (bxnew (w := w) (cs := #[.string x.name, .int .i64 x.from_, .slice A2 x.text.length c2, .slice A3 x.list.length c3, .slice A4 x.seen.length c4]) (j := 4) rfl)
 go_wp2_with fail
 refine (szSes _ x.seen e3 _ ((r4.past b0).past D3) (by omega) (by omega) hl.2.2.2).mono ?_
 rintro e w4 ⟨e4, rfl, hr4, k4⟩
 have D4 := D3.trans (k4.mono D3.size)
 rcases hr4 with rfl | ⟨p4, q4⟩
 ·go_wp2
  go_ret
  exact ⟨_, rfl, .inl rfl, b0.trans (D4.mono b0.size)⟩
 have t4 : e4 ≤ 1048576 := by omega
 have Q4 := Lib.hid q4
 clear q4 k4
 go_wp2
 go_ret
 refine ⟨_, rfl, .inr ⟨by omega, ?_⟩, b0.trans (D4.mono b0.size)⟩
 rw [HT.out]
 have := Q2.out
 have := Q3.out
 have := Q4.out
 omega
theorem toDo (v : Value) (x : Do) (w : World) (h : RdC w w.heap.size (datDo x) v) (hs : SmDo x) : Calls Tryz.prog 9 #[v] w (OwnPost (datDo x) w) := by
 obtain ⟨A2, c2, A3, c3, A4, c4, rfl, r2, r3, r4⟩ := aggDo h
 go_enter Tryz.func9, Tryz.ntmps9
 have s0 := ToS.start w #[.string x.name, .int .i64 x.from_, .slice A2 x.text.length c2, .slice A3 x.list.length c3, .slice A4 x.seen.length c4] 26 #[.string ⟨#[]⟩, .int .i64 0, .slice none 0 0, .slice none 0 0, .slice none 0 0] 36 #[.string x.name, .int .i64 x.from_, .slice none 0 0, .slice none 0 0, .slice none 0 0]
 go_wp2_with fail
 generalize hW0 : (((w.alloc (.cells #[.string x.name, .int .i64 x.from_, .slice A2 x.text.length c2, .slice A3 x.list.length c3, .slice A4 x.seen.length c4] 26)).alloc (.cells #[.string ⟨#[]⟩, .int .i64 0, .slice none 0 0, .slice none 0 0, .slice none 0 0] 36)).alloc (.cells #[.string x.name, .int .i64 x.from_, .slice none 0 0, .slice none 0 0, .slice none 0 0] 36)) = W0 at s0 ⊢
 clear hW0
 have l0 := s0.lt
 refine (toI _ x.text W0 (r2.past s0.bel) hs.text).mono ?_
 rintro e w1 ⟨v1, rfl, o1, k1⟩
 obtain ⟨B2, d2, rfl⟩ := sliceI o1.read
 have zk1 := k1.size
 have u1 := s0.past k1
 have y2 : w1.cell? ⟨w.heap.size + 1 + 1, 2, none⟩ = some (.slice none 0 0) := bxcell u1.b2 rfl
 have f2 : w1.frozen? ⟨w.heap.size + 1 + 1, 2, none⟩ = false := bxfree u1.b2
 have z3 : w1.cell? ⟨w.heap.size, 3, none⟩ = some (.slice A3 x.list.length c3) := bxcell u1.b0 rfl
 have s1 : ToS w #[.string x.name, .int .i64 x.from_, .slice A2 x.text.length c2, .slice A3 x.list.length c3, .slice A4 x.seen.length c4] 26 #[.string ⟨#[]⟩, .int .i64 0, .slice none 0 0, .slice none 0 0, .slice none 0 0] 36 #[.string x.name, .int .i64 x.from_, .slice B2 x.text.length d2, .slice none 0 0, .slice none 0 0] (w1.setCell ⟨w.heap.size + 1 + 1, 2, none⟩ (.slice B2 x.text.length d2)) := u1.set 2 _
 clear u1
 go_wp2_with fail
 have o1 := o1.setUnder (g := w.heap.size + 1 + 1) (o := 2) (.inl (by omega)) (.slice B2 x.text.length d2)
 have zW1 : (w1.setCell ⟨w.heap.size + 1 + 1, 2, none⟩ (.slice B2 x.text.length d2)).heap.size = w1.heap.size := by simp [World.setCell]
 generalize w1.setCell ⟨w.heap.size + 1 + 1, 2, none⟩ (.slice B2 x.text.length d2) = W1 at s1 o1 zW1 ⊢
 have l1 := s1.lt
 refine (toEns _ x.list W1 (r3.past s1.bel) hs.list).mono ?_
 rintro e w2 ⟨v2, rfl, o2, k2⟩
 obtain ⟨B3, d3, rfl⟩ := sliceEns o2.read
 have o1 := o1.past k2
 have zk2 := k2.size
 have u2 := s1.past k2
 have y3 : w2.cell? ⟨w.heap.size + 1 + 1, 3, none⟩ = some (.slice none 0 0) := bxcell u2.b2 rfl
 have f3 : w2.frozen? ⟨w.heap.size + 1 + 1, 3, none⟩ = false := bxfree u2.b2
 have z4 : w2.cell? ⟨w.heap.size, 4, none⟩ = some (.slice A4 x.seen.length c4) := bxcell u2.b0 rfl
 have s2 : ToS w #[.string x.name, .int .i64 x.from_, .slice A2 x.text.length c2, .slice A3 x.list.length c3, .slice A4 x.seen.length c4] 26 #[.string ⟨#[]⟩, .int .i64 0, .slice none 0 0, .slice none 0 0, .slice none 0 0] 36 #[.string x.name, .int .i64 x.from_, .slice B2 x.text.length d2, .slice B3 x.list.length d3, .slice none 0 0] (w2.setCell ⟨w.heap.size + 1 + 1, 3, none⟩ (.slice B3 x.list.length d3)) := u2.set 3 _
 clear u2
 go_wp2_with fail
 have o1 := o1.setUnder (g := w.heap.size + 1 + 1) (o := 3) (.inl (by omega)) (.slice B3 x.list.length d3)
 have o2 := o2.setUnder (g := w.heap.size + 1 + 1) (o := 3) (.inl (by omega)) (.slice B3 x.list.length d3)
 have zW2 : (w2.setCell ⟨w.heap.size + 1 + 1, 3, none⟩ (.slice B3 x.list.length d3)).heap.size = w2.heap.size := by simp [World.setCell]
 generalize w2.setCell ⟨w.heap.size + 1 + 1, 3, none⟩ (.slice B3 x.list.length d3) = W2 at s2 o1 o2 zW2 ⊢
 have l2 := s2.lt
 refine (toSes _ x.seen W2 (r4.past s2.bel) hs.seen).mono ?_
 rintro e w3 ⟨v3, rfl, o3, k3⟩
 obtain ⟨B4, d4, rfl⟩ := sliceSes o3.read
 have o1 := o1.past k3
 have o2 := o2.past k3
 have zk3 := k3.size
 have u3 := s2.past k3
 have y4 : w3.cell? ⟨w.heap.size + 1 + 1, 4, none⟩ = some (.slice none 0 0) := bxcell u3.b2 rfl
 have f4 : w3.frozen? ⟨w.heap.size + 1 + 1, 4, none⟩ = false := bxfree u3.b2
 have t0 : w3.cell? ⟨w.heap.size + 1 + 1, 0, none⟩ = some (.string x.name) := bxcell u3.b2 rfl
 have q0 : w3.cell? ⟨w.heap.size + 1, 0, none⟩ = some (.string ⟨#[]⟩) := bxcell u3.b1 rfl
 have g0 : w3.frozen? ⟨w.heap.size + 1, 0, none⟩ = false := bxfree u3.b1
 have t1 : w3.cell? ⟨w.heap.size + 1 + 1, 1, none⟩ = some (.int .i64 x.from_) := bxcell u3.b2 rfl
 have q1 : w3.cell? ⟨w.heap.size + 1, 1, none⟩ = some (.int .i64 0) := bxcell u3.b1 rfl
 have g1 : w3.frozen? ⟨w.heap.size + 1, 1, none⟩ = false := bxfree u3.b1
 have t2 : w3.cell? ⟨w.heap.size + 1 + 1, 2, none⟩ = some (.slice B2 x.text.length d2) := bxcell u3.b2 rfl
 have q2 : w3.cell? ⟨w.heap.size + 1, 2, none⟩ = some (.slice none 0 0) := bxcell u3.b1 rfl
 have g2 : w3.frozen? ⟨w.heap.size + 1, 2, none⟩ = false := bxfree u3.b1
 have t3 : w3.cell? ⟨w.heap.size + 1 + 1, 3, none⟩ = some (.slice B3 x.list.length d3) := bxcell u3.b2 rfl
 have q3 : w3.cell? ⟨w.heap.size + 1, 3, none⟩ = some (.slice none 0 0) := bxcell u3.b1 rfl
 have g3 : w3.frozen? ⟨w.heap.size + 1, 3, none⟩ = false := bxfree u3.b1
 have q4 : w3.cell? ⟨w.heap.size + 1, 4, none⟩ = some (.slice none 0 0) := bxcell u3.b1 rfl
 have g4 : w3.frozen? ⟨w.heap.size + 1, 4, none⟩ = false := bxfree u3.b1
 have s3 : ToS w #[.string x.name, .int .i64 x.from_, .slice A2 x.text.length c2, .slice A3 x.list.length c3, .slice A4 x.seen.length c4] 26 #[.string ⟨#[]⟩, .int .i64 0, .slice none 0 0, .slice none 0 0, .slice none 0 0] 36 #[.string x.name, .int .i64 x.from_, .slice B2 x.text.length d2, .slice B3 x.list.length d3, .slice B4 x.seen.length d4] (w3.setCell ⟨w.heap.size + 1 + 1, 4, none⟩ (.slice B4 x.seen.length d4)) := u3.set 4 _
 clear u3
 have o1 := (o1.setUnder (g := w.heap.size + 1 + 1) (o := 4) (.inl (by omega)) (.slice B4 x.seen.length d4)).putRow (g := w.heap.size + 1) (.inl (by omega)) [.string x.name, .int .i64 x.from_, .slice B2 x.text.length d2, .slice B3 x.list.length d3, .slice B4 x.seen.length d4] _ 0
 have o2 := (o2.setUnder (g := w.heap.size + 1 + 1) (o := 4) (.inl (by omega)) (.slice B4 x.seen.length d4)).putRow (g := w.heap.size + 1) (.inl (by omega)) [.string x.name, .int .i64 x.from_, .slice B2 x.text.length d2, .slice B3 x.list.length d3, .slice B4 x.seen.length d4] _ 0
 have o3 := (o3.setUnder (g := w.heap.size + 1 + 1) (o := 4) (.inl (by omega)) (.slice B4 x.seen.length d4)).putRow (g := w.heap.size + 1) (.inl (by omega)) [.string x.name, .int .i64 x.from_, .slice B2 x.text.length d2, .slice B3 x.list.length d3, .slice B4 x.seen.length d4] _ 0
 have hB : Below w.heap.size w (putRow (w3.setCell ⟨w.heap.size + 1 + 1, 4, none⟩ (.slice B4 x.seen.length d4)) (w.heap.size + 1) 0 [.string x.name, .int .i64 x.from_, .slice B2 x.text.length d2, .slice B3 x.list.length d3, .slice B4 x.seen.length d4]) := putRow_below (by omega) _ _ _ s3.bel
 have hZ : (putRow (w3.setCell ⟨w.heap.size + 1 + 1, 4, none⟩ (.slice B4 x.seen.length d4)) (w.heap.size + 1) 0 [.string x.name, .int .i64 x.from_, .slice B2 x.text.length d2, .slice B3 x.list.length d3, .slice B4 x.seen.length d4]).heap.size = w3.heap.size := (putRow_size _ _ _ _).trans (by simp [World.setCell])
 have hF : ∀ m, m ≤ w3.heap.size → m ≤ (putRow (w3.setCell ⟨w.heap.size + 1 + 1, 4, none⟩ (.slice B4 x.seen.length d4)) (w.heap.size + 1) 0 [.string x.name, .int .i64 x.from_, .slice B2 x.text.length d2, .slice B3 x.list.length d3, .slice B4 x.seen.length d4]).heap.size := fun m hm => by rw [hZ]; exact hm
 go_wp2
 refine bodyPost_ret (v := .agg #[.string x.name, .int .i64 x.from_, .slice B2 x.text.length d2, .slice B3 x.list.length d3, .slice B4 x.seen.length d4]) (by simp [results, Tryz.results9, go_sem, q0, q1, q2, q3, q4]) rfl ⟨_, rfl, ?_, hB⟩
 exact OwnL.agg (OwnL.flat rfl (OwnL.flat rfl (OwnL.own (lo := w.heap.size) (mid := w1.heap.size) (o1.wide (by omega) (Nat.le_refl _) (hF _ (by omega))) (OwnL.own (lo := w1.heap.size) (mid := w2.heap.size) (o2.wide (by omega) (Nat.le_refl _) (hF _ (by omega))) (OwnL.own (lo := w2.heap.size) (mid := w3.heap.size) (o3.wide (by omega) (Nat.le_refl _) (hF _ (by omega))) (OwnL.nil (Nat.le_refl _) (hF _ (by omega))))))))
theorem eqDo (v v' : Value) (x : Do) (w : World) (h : RdC w w.heap.size (datDo x) v) (h' : RdC w w.heap.size (datDo x) v') (hs : SmDo x) : Calls Tryz.prog 13 #[v, v'] w (Tells true w) := by
 obtain ⟨A2, c2, A3, c3, A4, c4, rfl, r2, r3, r4⟩ := aggDo h
 obtain ⟨B2, d2, B3, d3, B4, d4, rfl, s2, s3, s4⟩ := aggDo h'
 obtain ⟨g1, g2, b0⟩ := two_boxes w #[.string x.name, .int .i64 x.from_, .slice A2 x.text.length c2, .slice A3 x.list.length c3, .slice A4 x.seen.length c4] #[.string x.name, .int .i64 x.from_, .slice B2 x.text.length d2, .slice B3 x.list.length d3, .slice B4 x.seen.length d4] 36
 have D0 : Below ((w.alloc (.cells #[.string x.name, .int .i64 x.from_, .slice A2 x.text.length c2, .slice A3 x.list.length c3, .slice A4 x.seen.length c4] 36)).alloc (.cells #[.string x.name, .int .i64 x.from_, .slice B2 x.text.length d2, .slice B3 x.list.length d3, .slice B4 x.seen.length d4] 36)).heap.size ((w.alloc (.cells #[.string x.name, .int .i64 x.from_, .slice A2 x.text.length c2, .slice A3 x.list.length c3, .slice A4 x.seen.length c4] 36)).alloc (.cells #[.string x.name, .int .i64 x.from_, .slice B2 x.text.length d2, .slice B3 x.list.length d3, .slice B4 x.seen.length d4] 36)) ((w.alloc (.cells #[.string x.name, .int .i64 x.from_, .slice A2 x.text.length c2, .slice A3 x.list.length c3, .slice A4 x.seen.length c4] 36)).alloc (.cells #[.string x.name, .int .i64 x.from_, .slice B2 x.text.length d2, .slice B3 x.list.length d3, .slice B4 x.seen.length d4] 36)) := Below.refl _ _
 have lt2 := lt_of_some g2
 have lt1 := lt_of_some g1
 have n0 : (x.name.toList == x.name.toList) = true := by simp
 have n1 : (x.from_ != x.from_) = false := by simp
 go_enter Tryz.func13, Tryz.ntmps13
 go_wp2_with fail
 refine (eqI _ _ x.text _ ((r2.past b0).past D0) ((s2.past b0).past D0) hs.text).mono ?_
 rintro e w1 ⟨rfl, k1⟩
 have D1 := D0.trans (k1.mono D0.size)
 clear k1
 have y3 : w1.cell? ⟨w.heap.size, 3, none⟩ = some (.slice A3 x.list.length c3) := (D1.cell (p := ⟨w.heap.size, 3, none⟩) lt1).trans (bxcell g1 rfl)
 have z3 : w1.cell? ⟨w.heap.size + 1, 3, none⟩ = some (.slice B3 x.list.length d3) := (D1.cell (p := ⟨w.heap.size + 1, 3, none⟩) lt2).trans (bxcell g2 rfl)
 go_wp2_with fail
 refine (eqEns _ _ x.list _ ((r3.past b0).past D1) ((s3.past b0).past D1) hs.list).mono ?_
 rintro e w2 ⟨rfl, k2⟩
 have D2 := D1.trans (k2.mono D1.size)
 clear k2
 have y4 : w2.cell? ⟨w.heap.size, 4, none⟩ = some (.slice A4 x.seen.length c4) := (D2.cell (p := ⟨w.heap.size, 4, none⟩) lt1).trans (bxcell g1 rfl)
 have z4 : w2.cell? ⟨w.heap.size + 1, 4, none⟩ = some (.slice B4 x.seen.length d4) := (D2.cell (p := ⟨w.heap.size + 1, 4, none⟩) lt2).trans (bxcell g2 rfl)
 go_wp2_with fail
 refine (eqSes _ _ x.seen _ ((r4.past b0).past D2) ((s4.past b0).past D2) hs.seen).mono ?_
 rintro e w3 ⟨rfl, k3⟩
 have D3 := D2.trans (k3.mono D2.size)
 clear k3
 go_wp2
 go_ret
 exact ⟨rfl, b0.trans (D3.mono b0.size)⟩
theorem owDo {w : World} {x : Do} {v : Value} {bs : List Nat} (h : OwC w (datDo x) v bs) : ∃ (A2 : Option Addr) (c2 : Nat) (A3 : Option Addr) (c3 : Nat) (A4 : Option Addr) (c4 : Nat) (b2 : List Nat) (b3 : List Nat) (b4 : List Nat), v = .agg #[.string x.name, .int .i64 x.from_, .slice A2 x.text.length c2, .slice A3 x.list.length c3, .slice A4 x.seen.length c4] ∧ bs = b2 ++ (b3 ++ (b4)) ∧ OwC w (encInts x.text) (.slice A2 x.text.length c2) b2 ∧ OwC w (encEns x.list) (.slice A3 x.list.length c3) b3 ∧ OwC w (encSes x.seen) (.slice A4 x.seen.length c4) b4 := by
 obtain ⟨vs, rfl, v0, _, b0, t0, rfl, rfl, ⟨rfl, rfl⟩, v1, _, b1, t1, rfl, rfl, ⟨rfl, rfl⟩, v2, _, b2, t2, rfl, rfl, q2, v3, _, b3, t3, rfl, rfl, q3, v4, _, b4, t4, rfl, rfl, q4, rfl, rfl⟩ := h
 obtain ⟨A2, c2, rfl⟩ := sliceI (q2.read _ _ _ (fun b hb => q2.lt _ _ _ b hb))
 obtain ⟨A3, c3, rfl⟩ := sliceEns (q3.read _ _ _ (fun b hb => q3.lt _ _ _ b hb))
 obtain ⟨A4, c4, rfl⟩ := sliceSes (q4.read _ _ _ (fun b hb => q4.lt _ _ _ b hb))
 exact ⟨A2, c2, A3, c3, A4, c4, b2, b3, b4, rfl, by simp, q2, q3, q4⟩
theorem mkDo_r (v : Value) (x : Do) (bs : List Nat) (k : Int) (w : World) (h : OwC w (datDo x) v bs) (hnd : bs.Nodup) (h0 : 0 ≤ k) (h1 : k + (cntC (datDo x) : Int) ≤ 4503599627370496) (hs : SmDo x) :
  Calls Tryz.prog 14 #[v, .int .i64 k] w (MarkG k (datDo x) v bs w) := by
 obtain ⟨A2, c2, A3, c3, A4, c4, b2, b3, b4, rfl, rfl, q2, q3, q4⟩ := owDo h
 rw [cntDo_a] at h1
 have HCN := Lib.hid (cntDo_a x)
 have HMK := Lib.hid (mkDo_a k x)
 have b0 := alloc_below w (.cells #[.string x.name, .int .i64 x.from_, .slice A2 x.text.length c2, .slice A3 x.list.length c3, .slice A4 x.seen.length c4] 36)
 have hlt : w.heap.size < (w.alloc (.cells #[.string x.name, .int .i64 x.from_, .slice A2 x.text.length c2, .slice A3 x.list.length c3, .slice A4 x.seen.length c4] 36)).heap.size := by rw [World.size_alloc]; omega
 obtain ⟨nd2, hn0, ds2⟩ := List.nodup_append.1 hnd
 obtain ⟨nd3, hn1, ds3⟩ := List.nodup_append.1 hn0
 have nd4 := hn1
 have lt2 : ∀ b ∈ b2, b < w.heap.size := fun b hb => q2.lt _ _ _ b hb
 have q2 := OwC.keep _ _ _ q2 (fun b hb => b0.block b (lt2 b hb))
 have lt3 : ∀ b ∈ b3, b < w.heap.size := fun b hb => q3.lt _ _ _ b hb
 have q3 := OwC.keep _ _ _ q3 (fun b hb => b0.block b (lt3 b hb))
 have lt4 : ∀ b ∈ b4, b < w.heap.size := fun b hb => q4.lt _ _ _ b hb
 have q4 := OwC.keep _ _ _ q4 (fun b hb => b0.block b (lt4 b hb))
 have y2 : (w.alloc (.cells #[.string x.name, .int .i64 x.from_, .slice A2 x.text.length c2, .slice A3 x.list.length c3, .slice A4 x.seen.length c4] 36)).cell? ⟨w.heap.size, 2, none⟩ = some (.slice A2 x.text.length c2) := bxnew rfl
 have y3 : (w.alloc (.cells #[.string x.name, .int .i64 x.from_, .slice A2 x.text.length c2, .slice A3 x.list.length c3, .slice A4 x.seen.length c4] 36)).cell? ⟨w.heap.size, 3, none⟩ = some (.slice A3 x.list.length c3) := bxnew rfl
 have y4 : (w.alloc (.cells #[.string x.name, .int .i64 x.from_, .slice A2 x.text.length c2, .slice A3 x.list.length c3, .slice A4 x.seen.length c4] 36)).cell? ⟨w.heap.size, 4, none⟩ = some (.slice A4 x.seen.length c4) := bxnew rfl
 generalize hW0 : w.alloc (.cells #[.string x.name, .int .i64 x.from_, .slice A2 x.text.length c2, .slice A3 x.list.length c3, .slice A4 x.seen.length c4] 36) = W0 at *
 have T0 : Touch (fun b => b ∈ b2 ++ (b3 ++ (b4))) W0 W0 := Touch.refl _ _
 go_enter Tryz.func14, Tryz.ntmps14
 go_wp2_with fail
 refine (mkI_r _ x.text b2 (k) _ q2 nd2 (by omega) (by omega) hs.text).mono ?_
 rintro e w1 ⟨rfl, q2, t2⟩
 have q3 := OwC.keep _ _ _ q3 (w' := w1) (fun b hb => t2.block b (fun h => ds2 b h b (by simp [hb]) rfl))
 have q4 := OwC.keep _ _ _ q4 (w' := w1) (fun b hb => t2.block b (fun h => ds2 b h b (by simp [hb]) rfl))
 have y3 : w1.cell? ⟨w.heap.size, 3, none⟩ = some (.slice A3 x.list.length c3) := (t2.cellKeep (fun h => by have := lt2 _ h; omega)).trans y3
 have y4 : w1.cell? ⟨w.heap.size, 4, none⟩ = some (.slice A4 x.seen.length c4) := (t2.cellKeep (fun h => by have := lt2 _ h; omega)).trans y4
 have T1 := T0.trans (t2.mono (fun b hb => by simp [hb]))
 clear t2
 go_wp2_with fail
 refine (mkEns_r _ x.list b3 (k + (cntC (encInts x.text) : Int)) _ q3 nd3 (by omega) (by omega) hs.list).mono ?_
 rintro e w2 ⟨rfl, q3, t3⟩
 have q2 := OwC.keep _ _ _ q2 (w' := w2) (fun b hb => t3.block b (fun h => ds2 b hb b (by simp [h]) rfl))
 have q4 := OwC.keep _ _ _ q4 (w' := w2) (fun b hb => t3.block b (fun h => ds3 b h b (by simp [hb]) rfl))
 have y4 : w2.cell? ⟨w.heap.size, 4, none⟩ = some (.slice A4 x.seen.length c4) := (t3.cellKeep (fun h => by have := lt3 _ h; omega)).trans y4
 have T2 := T1.trans (t3.mono (fun b hb => by simp [hb]))
 clear t3
 go_wp2_with fail
 refine (mkSes_r _ x.seen b4 (k + (cntC (encInts x.text) : Int) + (cntC (encEns x.list) : Int)) _ q4 nd4 (by omega) (by omega) hs.seen).mono ?_
 rintro e w3 ⟨rfl, q4, t4⟩
 have q2 := OwC.keep _ _ _ q2 (w' := w3) (fun b hb => t4.block b (fun h => ds2 b hb b (by simp [h]) rfl))
 have q3 := OwC.keep _ _ _ q3 (w' := w3) (fun b hb => t4.block b (fun h => ds3 b hb b (by simp [h]) rfl))
 have T3 := T2.trans (t4.mono (fun b hb => by simp [hb]))
 clear t4
 go_wp2
 go_ret
 refine ⟨?_, ?_, W0, b0, T3⟩
 ·rw [HCN.out]
  exact ret_i (by push_cast; omega)
 ·rw [HMK.out]
  have hbs : b2 ++ (b3 ++ (b4)) = [] ++ ([] ++ (b2 ++ (b3 ++ (b4 ++ ([]))))) := by simp
  rw [hbs]
  exact ⟨_, rfl, _, _, [], _, rfl, rfl, ⟨rfl, rfl⟩, _, _, [], _, rfl, rfl, ⟨rfl, rfl⟩, _, _, b2, _, rfl, rfl, q2, _, _, b3, _, rfl, rfl, q3, _, _, b4, _, rfl, rfl, q4, rfl, rfl⟩
theorem markDo (v : Value) (x : Do) (b : List Nat) (k : Int) (w : World) (h : OwC w (datDo x) v b) (hnd : b.Nodup) (h0 : 0 ≤ k) (h1 : k ≤ 1125899906842624) (hs : SmDo x) : Calls Tryz.prog 14 #[v, .int .i64 k] w (MarkG k (datDo x) v b w) := mkDo_r v x b k w h hnd h0 (by have := cntDo hs; omega) hs
end Go.Proofs.YtbpeeokgpkjnmaaGreatDoor.low
namespace Go.Proofs.YtbpeeokgpkjnmaaGreatDoor.low
open Go.RowKit Go.ChangeShapes Go.WideShapes Go.Deep
set_option linter.unusedVariables false
theorem cellsLEn : Tryz.prog.cellsOf 89 = 3 := by kernel_rfl
theorem cellsLEns : Tryz.prog.cellsOf 23 = 1 := by kernel_rfl
section
variable {H : Type} {enc : TypeId × Value → H} {w : World} {base : Nat} {spare : Nat → Bool} {held : Bool}
theorem open_dEn {fuel : Nat} {cs : List Value} {x : DataW H × List MemPlace} (h : DataW.trod enc Tryz.prog w base spare held fuel 89 cs = some x) :
  ∃ (r : En) (A2 : Option Addr) (c2 : Nat), cs = [.int .i64 r.client, .int .i64 r.seq, .slice A2 r.o.length c2] ∧ RdC w w.heap.size (encPs r.o) (.slice A2 r.o.length c2) ∧ LimEn r := by
 obtain ⟨xs, n, _, _, hl, hxl, hf⟩ := DataW.trod_struct Tryz.underlying89 h
 rw [cellsLEn] at hl
 match cs, hl with
 | [k0, k1, k2], _ =>
  match xs, hxl with
  | [y0, y1, y2], _ =>
   have h0 := hf 0 _ rfl
   have h1 := hf 1 _ rfl
   have h2 := hf 2 _ rfl
   simp [cellsInt] at h0
   simp [cellsInt] at h1
   simp [cellsParts] at h2
   obtain ⟨z0, e0, _, _⟩ := DataW.trod_int Tryz.underlying3 h0
   obtain ⟨z1, e1, _, _⟩ := DataW.trod_int Tryz.underlying3 h1
   obtain ⟨z2, A2, c2, e2, r2, l2⟩ := open_dparts h2
   simp at e0 e1 e2
   subst e0
   subst e1
   subst e2
   exact ⟨⟨z0, z1, z2⟩, A2, c2, rfl, r2, l2⟩
theorem open_dEns {fuel : Nat} {cs : List Value} {x : DataW H × List MemPlace} (h : DataW.trod enc Tryz.prog w base spare held fuel 23 cs = some x) :
  ∃ (l : List En) (A : Option Addr) (c : Nat), cs = [.slice A l.length c] ∧ RdC w w.heap.size (encEns l) (.slice A l.length c) ∧ LimEns l := by
 rcases open_slice Tryz.underlying23 h with ⟨hcs, _⟩ | ⟨a, len, cap, m, n, D, Pl, hcs, _, hl, hm, hmm, _, hi⟩
 ·exact ⟨[], none, 0, hcs, ⟨none, 0, rfl, Nat.le_refl _, fun hn => absurd hn (by simp)⟩, Nat.zero_le _, by simp⟩
 ·have hlm : len ≤ m := by rw [hmm]; split <;> omega
  have hrow : ∀ i, i < len → ∃ p : En, a.block < w.heap.size ∧ (0 < len → a.spot = none) ∧ RdL w w.heap.size a (i * 3) (encEn p) ∧ LimEn p := fun i hil => by
   have hs : a.spot = none := by
    obtain ⟨cs', hc, ht⟩ := hi 0 (by omega)
    obtain ⟨p, A2, c2, rfl, _⟩ := open_dEn ht
    rw [cellsLEn] at hc
    obtain ⟨_, _, hcell⟩ := World.cells?_some hc
    have k0 := hcell 0 (by omega)
    simp only [List.getElem?_cons_zero] at k0
    simpa [Addr.add] using World.cell?_spot k0
   obtain ⟨b, off, spot⟩ := a
   simp only at hs
   subst hs
   obtain ⟨cs', hc, ht⟩ := hi i (by omega)
   obtain ⟨p, A2, c2, rfl, r2, hz⟩ := open_dEn ht
   rw [cellsLEn] at hc
   obtain ⟨_, _, hcell⟩ := World.cells?_some hc
   have k0 := hcell 0 (by omega)
   have k1 := hcell 1 (by omega)
   have k2 := hcell 2 (by omega)
   simp only [List.getElem?_cons_zero, List.getElem?_cons_succ] at k0 k1 k2
   rw [add_at, add_at] at k0 k1 k2
   have hb := cell_lt k0
   refine ⟨p, hb, fun _ => rfl, ⟨⟨_, ?_, rfl⟩, ⟨_, ?_, rfl⟩, ⟨_, ?_, r2⟩, trivial⟩, hz⟩
   ·rw [add_at]; exact k0
   ·rw [add_at]; exact k1
   ·rw [add_at]; exact k2
  obtain ⟨ps, e1, e2, e3⟩ := open_rows (α := En) (f := encEn) (P := fun p => LimEn p ∧ (0 < len → a.spot = none)) (sz := 3) (e := 86) (w := w) (a := a) hl (fun hd => by
   rcases hd with hd | hd
   ·cases hd
   ·obtain ⟨p, _, hs, _⟩ := hrow 0 hd
    exact .inl (hs hd)) (fun i hil => by
   obtain ⟨p, h1, h2, h3, h4⟩ := hrow i hil
   exact ⟨p, h1, h3, h4, h2⟩)
  subst e1
  exact ⟨ps, some a, cap, hcs, e2, by omega, fun p hp => (e3 p hp).1⟩
end
theorem cellsLSe : Tryz.prog.cellsOf 104 = 3 := by kernel_rfl
theorem cellsLSes : Tryz.prog.cellsOf 24 = 1 := by kernel_rfl
section
variable {H : Type} {enc : TypeId × Value → H} {w : World} {base : Nat} {spare : Nat → Bool} {held : Bool}
theorem open_dSe {fuel : Nat} {cs : List Value} {x : DataW H × List MemPlace} (h : DataW.trod enc Tryz.prog w base spare held fuel 104 cs = some x) :
  ∃ (r : Se), cs = [.int .i64 r.client, .int .i64 r.seq, .int .i64 r.rev] ∧ LimSe r := by
 obtain ⟨xs, n, _, _, hl, hxl, hf⟩ := DataW.trod_struct Tryz.underlying104 h
 rw [cellsLSe] at hl
 match cs, hl with
 | [k0, k1, k2], _ =>
  match xs, hxl with
  | [y0, y1, y2], _ =>
   have h0 := hf 0 _ rfl
   have h1 := hf 1 _ rfl
   have h2 := hf 2 _ rfl
   simp [cellsInt] at h0
   simp [cellsInt] at h1
   simp [cellsInt] at h2
   obtain ⟨z0, e0, _, _⟩ := DataW.trod_int Tryz.underlying3 h0
   obtain ⟨z1, e1, _, _⟩ := DataW.trod_int Tryz.underlying3 h1
   obtain ⟨z2, e2, _, _⟩ := DataW.trod_int Tryz.underlying3 h2
   simp at e0 e1 e2
   subst e0
   subst e1
   subst e2
   exact ⟨⟨z0, z1, z2⟩, rfl, trivial⟩
theorem open_dSes {fuel : Nat} {cs : List Value} {x : DataW H × List MemPlace} (h : DataW.trod enc Tryz.prog w base spare held fuel 24 cs = some x) :
  ∃ (l : List Se) (A : Option Addr) (c : Nat), cs = [.slice A l.length c] ∧ RdC w w.heap.size (encSes l) (.slice A l.length c) ∧ LimSes l := by
 rcases open_slice Tryz.underlying24 h with ⟨hcs, _⟩ | ⟨a, len, cap, m, n, D, Pl, hcs, _, hl, hm, hmm, _, hi⟩
 ·exact ⟨[], none, 0, hcs, ⟨none, 0, rfl, Nat.le_refl _, fun hn => absurd hn (by simp)⟩, Nat.zero_le _, by simp⟩
 ·have hlm : len ≤ m := by rw [hmm]; split <;> omega
  have hrow : ∀ i, i < len → ∃ p : Se, a.block < w.heap.size ∧ (0 < len → a.spot = none) ∧ RdL w w.heap.size a (i * 3) (encSe p) ∧ LimSe p := fun i hil => by
   have hs : a.spot = none := by
    obtain ⟨cs', hc, ht⟩ := hi 0 (by omega)
    obtain ⟨p, rfl, _⟩ := open_dSe ht
    rw [cellsLSe] at hc
    obtain ⟨_, _, hcell⟩ := World.cells?_some hc
    have k0 := hcell 0 (by omega)
    simp only [List.getElem?_cons_zero] at k0
    simpa [Addr.add] using World.cell?_spot k0
   obtain ⟨b, off, spot⟩ := a
   simp only at hs
   subst hs
   obtain ⟨cs', hc, ht⟩ := hi i (by omega)
   obtain ⟨p, rfl, hz⟩ := open_dSe ht
   rw [cellsLSe] at hc
   obtain ⟨_, _, hcell⟩ := World.cells?_some hc
   have k0 := hcell 0 (by omega)
   have k1 := hcell 1 (by omega)
   have k2 := hcell 2 (by omega)
   simp only [List.getElem?_cons_zero, List.getElem?_cons_succ] at k0 k1 k2
   rw [add_at, add_at] at k0 k1 k2
   have hb := cell_lt k0
   refine ⟨p, hb, fun _ => rfl, ⟨⟨_, ?_, rfl⟩, ⟨_, ?_, rfl⟩, ⟨_, ?_, rfl⟩, trivial⟩, hz⟩
   ·rw [add_at]; exact k0
   ·rw [add_at]; exact k1
   ·rw [add_at]; exact k2
  obtain ⟨ps, e1, e2, e3⟩ := open_rows (α := Se) (f := encSe) (P := fun p => LimSe p ∧ (0 < len → a.spot = none)) (sz := 3) (e := 95) (w := w) (a := a) hl (fun hd => by
   rcases hd with hd | hd
   ·cases hd
   ·obtain ⟨p, _, hs, _⟩ := hrow 0 hd
    exact .inl (hs hd)) (fun i hil => by
   obtain ⟨p, h1, h2, h3, h4⟩ := hrow i hil
   exact ⟨p, h1, h3, h4, h2⟩)
  subst e1
  exact ⟨ps, some a, cap, hcs, e2, by omega, fun p hp => (e3 p hp).1⟩
end
theorem cellsLDo : Tryz.prog.cellsOf 26 = 5 := by kernel_rfl
section
variable {H : Type} {enc : TypeId × Value → H} {w : World} {base : Nat} {spare : Nat → Bool} {held : Bool}
theorem open_dDo {fuel : Nat} {cs : List Value} {x : DataW H × List MemPlace} (h : DataW.trod enc Tryz.prog w base spare held fuel 26 cs = some x) :
  ∃ (r : Do) (A2 : Option Addr) (c2 : Nat) (A3 : Option Addr) (c3 : Nat) (A4 : Option Addr) (c4 : Nat), cs = [.string r.name, .int .i64 r.from_, .slice A2 r.text.length c2, .slice A3 r.list.length c3, .slice A4 r.seen.length c4] ∧ RdC w w.heap.size (encInts r.text) (.slice A2 r.text.length c2) ∧ RdC w w.heap.size (encEns r.list) (.slice A3 r.list.length c3) ∧ RdC w w.heap.size (encSes r.seen) (.slice A4 r.seen.length c4) ∧ LimDo r := by
 obtain ⟨xs, n, _, _, hl, hxl, hf⟩ := DataW.trod_struct Tryz.underlying26 h
 rw [cellsLDo] at hl
 match cs, hl with
 | [k0, k1, k2, k3, k4], _ =>
  match xs, hxl with
  | [y0, y1, y2, y3, y4], _ =>
   have h0 := hf 0 _ rfl
   have h1 := hf 1 _ rfl
   have h2 := hf 2 _ rfl
   have h3 := hf 3 _ rfl
   have h4 := hf 4 _ rfl
   simp [cellsStr] at h0
   simp [cellsInt] at h1
   simp [cellsInts] at h2
   simp [cellsLEns] at h3
   simp [cellsLSes] at h4
   obtain ⟨z0, e0, _, l0⟩ := DataW.trod_string Tryz.underlying9 h0
   obtain ⟨z1, e1, _, _⟩ := DataW.trod_int Tryz.underlying3 h1
   obtain ⟨A2, c2, z2, e2, r2, l2⟩ := open_dints h2
   obtain ⟨z3, A3, c3, e3, r3, l3⟩ := open_dEns h3
   obtain ⟨z4, A4, c4, e4, r4, l4⟩ := open_dSes h4
   simp at e0 e1 e2 e3 e4
   subst e0
   subst e1
   subst e2
   subst e3
   subst e4
   exact ⟨⟨z0, z1, z2, z3, z4⟩, A2, c2, A3, c3, A4, c4, rfl, r2, r3, r4, ⟨l0, l2, l3, l4⟩⟩
end
end Go.Proofs.YtbpeeokgpkjnmaaGreatDoor.low
namespace Go.Proofs.YtbpeeokgpkjnmaaGreatDoor.low
open Go.RowKit
set_option linter.unusedVariables false
theorem free_grown {w w0 w1 : World} {g o : Nat} {cs : Array Value} {T : TypeId} {r : Option Nat} (hg : w.heap[g]? = some (.cells cs T (0, 0))) (h0 : Below w.heap.size w w0) (hgrow : w0.grownBy w1 r) (hne : ¬ r = some g) : w1.frozen? ⟨g, o, none⟩ = false := by
 have hlt := lt_of_some hg
 have : w1.heap[g]? = some (.cells cs T (0, 0)) := by rw [hgrow.block g (Nat.lt_of_lt_of_le hlt h0.size) (fun e => hne e.symm), h0.block g hlt]; exact hg
 simp [World.frozen?, this]
theorem below_made (w : World) (o : Obj) : Below w.heap.size w (w.alloc o).drew := ((Below.refl _ _).alloc (Nat.le_refl _) o).drew
theorem cell_grown {w w0 w1 : World} {g : Nat} {cs : Array Value} {T : TypeId} {r : Option Nat} (o : Nat) (hg : w.heap[g]? = some (.cells cs T (0, 0))) (h0 : Below w.heap.size w w0) (hgrow : w0.grownBy w1 r) (hne : ¬ r = some g) : w1.cell? ⟨g, o, none⟩ = cs[o]? := by
 have hlt := lt_of_some hg
 have : w1.heap[g]? = some (.cells cs T (0, 0)) := by rw [hgrow.block g (Nat.lt_of_lt_of_le hlt h0.size) (fun e => hne e.symm), h0.block g hlt]; exact hg
 exact cell_of_row _ _ o _ _ _ this
theorem Box.drew {lo g : Nat} {T : TypeId} {w : World} {v u : Value} {d : Int} {ps : List Pt} {us : List Value} (h : Box lo g T w v u d ps us) : Box lo g T w.drew v u d ps us := ⟨h.box, h.row.drew, h.len, h.low⟩
theorem Apart.drew {lo hi : Nat} {w : World} {ps : List Pt} {us : List Value} (h : Apart lo hi w ps us) : Apart lo hi w.drew ps us := h.keep (Nat.le_refl _) (fun _ _ _ _ _ _ => rfl)
theorem Apart.drewS {lo : Nat} {w : World} {ps : List Pt} {us : List Value} (h : Apart lo w.heap.size w ps us) : Apart lo w.drew.heap.size w.drew ps us := h.drew
def putL (put : List Int) : List Pt := if put.length = 0 then [] else [⟨2, 0, put⟩]
def dropL (d : Int) : List Pt := if 0 < d then [⟨3, d, []⟩] else []
def BAt (lo g : Nat) (T : TypeId) (w : World) (ps : List Pt) (put : List Int) (d : Int) : Prop :=
 ∃ v u us, Box lo g T w v u d ps us ∧ Apart lo w.heap.size w (ps ++ [⟨2, 0, put⟩]) (us ++ [u])
def Built (lo g : Nat) (T : TypeId) (w : World) (ps : List Pt) (put : List Int) (d : Int) (e : Ending) (w' : World) : Prop := e = .returned (.tuple #[]) ∧ BAt lo g T w' ps put d ∧ Below lo w w'
theorem Apart.init {lo hi : Nat} {w : World} {ps : List Pt} {us : List Value} {p : Pt} {u : Value} (h : Apart lo hi w (ps ++ [p]) (us ++ [u])) (hl : us.length = ps.length) : Apart lo hi w ps us := by
 obtain ⟨h1, h2, h3⟩ := h
 refine ⟨hl, fun i q x hq hx => h2 i q x ?_ ?_, fun i j k a b ha hb => h3 i j k a b ?_ ?_⟩
 ·rw [List.getElem?_append_left (idx_lt hq)]; exact hq
 ·rw [List.getElem?_append_left (idx_lt hx)]; exact hx
 ·rw [List.getElem?_append_left (idx_lt ha)]; exact ha
 ·rw [List.getElem?_append_left (idx_lt hb)]; exact hb
theorem Apart.last {lo hi : Nat} {w : World} {ps : List Pt} {us : List Value} {p : Pt} {u : Value} (h : Apart lo hi w (ps ++ [p]) (us ++ [u])) (hl : us.length = ps.length) : w.ownsRow lo 3 1 u p.signs.length (p.signs.map (Value.int .i64)) := by
 have := (h.2.1 ps.length p u (by simp) (by rw [← hl]; simp)).1
 exact this
theorem Apart.bare {lo hi : Nat} {w : World} {ps : List Pt} {us : List Value} (k n : Int) (h : Apart lo hi w ps us) : Apart lo hi w (ps ++ [⟨k, n, []⟩]) (us ++ [.slice none 0 0]) :=
 h.snoc (World.ownsRow_nil _ _ _ _) (fun k hk => by simp [Value.ownBlock] at hk) (fun i v k _ _ he => by simp [Value.ownBlock] at he)
def BNil (lo g : Nat) (T : TypeId) (w : World) (ps : List Pt) : Prop := ∃ v us, Box lo g T w v (.slice none 0 0) 0 ps us ∧ Apart lo w.heap.size w ps us
theorem BNil.at_ {lo g : Nat} {T : TypeId} {w : World} {ps : List Pt} (h : BNil lo g T w ps) : BAt lo g T w ps [] 0 := by
 obtain ⟨v, us, hx, ha⟩ := h
 exact ⟨v, _, us, hx, Apart.bare 2 0 ha⟩
def Flushed (lo g : Nat) (T : TypeId) (w : World) (ps : List Pt) (e : Ending) (w' : World) : Prop := e = .returned (.tuple #[]) ∧ BNil lo g T w' ps ∧ Below lo w w'
theorem Box.clear {lo g : Nat} {T : TypeId} {w : World} {v u : Value} {d : Int} {ps : List Pt} {us : List Value} (h : Box lo g T w v u d ps us) (hT1 : ¬ T = 3) (hT2 : ¬ T = 71) (ha : Apart lo w.heap.size w ps us) :
  BNil lo g T ((w.setCell ⟨g, 1, none⟩ (.slice none 0 0)).setCell ⟨g, 2, none⟩ (.int .i64 0)) ps ∧ Below lo w ((w.setCell ⟨g, 1, none⟩ (.slice none 0 0)).setCell ⟨g, 2, none⟩ (.int .i64 0)) := by
 refine ⟨⟨v, us, ⟨?_, ?_, h.len, h.low⟩, ?_⟩, ((Below.refl _ _).setCell h.low _).setCell h.low _⟩
 ·rw [heap_setCell_same _ _ _ _ _ _ (heap_setCell_same _ _ _ _ _ _ h.box)]; rfl
 ·exact ownsRow_setCell_other (ownsRow_setCell_other h.row (own_far h.row h.box hT2) _) (own_far h.row h.box hT2) _
 ·refine ha.keep (by simp) (fun i x k hx hk1 hk2 => ?_)
  obtain ⟨q, hq⟩ := idx_some (l := ps) (i := i) (by rw [← ha.1]; exact idx_lt hx)
  have hkg : ¬ k = g := fun e => own_far (ha.2.1 i q x hq hx).1 h.box hT1 (by rw [hk1, e])
  rw [Below.heap_setCell _ _ _ _ hkg, Below.heap_setCell _ _ _ _ hkg]
def OwnS (S : Nat → Prop) (g : Nat) (v : Value) (us : List Value) : Prop := S g ∧ (∀ k, v.ownBlock = some k → S k) ∧ ∀ (i k : Nat) (x : Value), us[i]? = some x → x.ownBlock = some k → S k
structure Fr (S : Nat → Prop) (w w' : World) : Prop where
 size : w.heap.size ≤ w'.heap.size
 block : ∀ b, b < w.heap.size → ¬ S b → w'.heap[b]? = w.heap[b]?
theorem Fr.refl (S : Nat → Prop) (w : World) : Fr S w w := ⟨Nat.le_refl _, fun _ _ _ => rfl⟩
theorem Fr.trans {S : Nat → Prop} {a b c : World} (h : Fr S a b) (k : Fr S b c) : Fr S a c := ⟨Nat.le_trans h.size k.size, fun i hi hs => (k.block i (Nat.lt_of_lt_of_le hi h.size) hs).trans (h.block i hi hs)⟩
theorem Fr.setCell {S : Nat → Prop} {a w : World} (h : Fr S a w) {p : Addr} (hp : S p.block) (u : Value) : Fr S a (w.setCell p u) :=
 h.trans ⟨by simp [World.setCell], fun b _ hb => Below.heap_setCell _ _ _ _ (fun e => hb (by rw [e]; exact hp))⟩
theorem Fr.drew {S : Nat → Prop} {a w : World} (h : Fr S a w) : Fr S a w.drew := h.trans ⟨Nat.le_refl _, fun _ _ _ => rfl⟩
theorem Fr.below {S : Nat → Prop} {w w' : World} (h : Below w.heap.size w w') : Fr S w w' := ⟨h.size, fun b hb _ => h.block b hb⟩
theorem Fr.grown {S : Nat → Prop} {a w w' : World} {r : Option Nat} (h : Fr S a w) (hg : w.grownBy w' r) (hr : ∀ k, r = some k → S k) : Fr S a w' :=
 h.trans ⟨hg.size, fun b hb hs => hg.block b hb (fun e => hs (hr b e.symm))⟩
theorem OwnS.push {S : Nat → Prop} {g gg cap n H : Nat} {v u' : Value} {us : List Value} (h : OwnS S g v us) (hu : ∀ k, u'.ownBlock = some k → S k) (hat : v.ownBlock = some gg ∨ gg = H) (hH : S H) : OwnS S g (.slice (some ⟨gg, 0, none⟩) n cap) (us ++ [u']) := by
 refine ⟨h.1, fun k hk => ?_, fun i k x hx hk => ?_⟩
 ·have e : gg = k := by simpa [Value.ownBlock] using hk
  subst e
  rcases hat with e | e
  ·exact h.2.1 _ e
  ·rw [e]; exact hH
 ·by_cases hi : i < us.length
  ·rw [List.getElem?_append_left hi] at hx
   exact h.2.2 i k x hx hk
  ·rw [List.getElem?_append_right (by omega)] at hx
   have hx' : i - us.length = 0 := by
    have := idx_lt hx
    simp at this
    omega
   rw [hx'] at hx
   simp at hx
   subst hx
   exact hu k hk
theorem OwnS.init {S : Nat → Prop} {g : Nat} {v u : Value} {us : List Value} (h : OwnS S g v (us ++ [u])) : OwnS S g v us := ⟨h.1, h.2.1, fun i k x hx hk => h.2.2 i k x (by rw [List.getElem?_append_left (idx_lt hx)]; exact hx) hk⟩
theorem OwnS.last {S : Nat → Prop} {g : Nat} {v u : Value} {us : List Value} (h : OwnS S g v (us ++ [u])) : ∀ k, u.ownBlock = some k → S k := fun k hk => h.2.2 us.length k u (by simp) hk
theorem nil_own {S : Nat → Prop} : ∀ k, (Value.slice none 0 0).ownBlock = some k → S k := fun k hk => by simp [Value.ownBlock] at hk
theorem push_fr {S : Nat → Prop} {g : Nat} {v : Value} {us : List Value} {w w0 w1 : World} (h : OwnS S g v us) (h0 : Below w.heap.size w w0) (hg : w0.grownBy w1 v.ownBlock) (x : Value) : Fr S w (w1.setCell ⟨g, 0, none⟩ x) :=
 ((Fr.below h0).grown hg (fun k hk => h.2.1 k hk)).setCell h.1 x
def BAtS (S : Nat → Prop) (lo g : Nat) (T : TypeId) (w : World) (ps : List Pt) (put : List Int) (d : Int) : Prop :=
 ∃ v u us, Box lo g T w v u d ps us ∧ Apart lo w.heap.size w (ps ++ [⟨2, 0, put⟩]) (us ++ [u]) ∧ OwnS S g v (us ++ [u])
def BNilS (S : Nat → Prop) (lo g : Nat) (T : TypeId) (w : World) (ps : List Pt) : Prop := ∃ v us, Box lo g T w v (.slice none 0 0) 0 ps us ∧ Apart lo w.heap.size w ps us ∧ OwnS S g v us
def FlushedS (S : Nat → Prop) (lo g : Nat) (T : TypeId) (w : World) (ps : List Pt) (e : Ending) (w' : World) : Prop := e = .returned (.tuple #[]) ∧ BNilS S lo g T w' ps ∧ Below lo w w' ∧ Fr S w w'
def BuiltS (S : Nat → Prop) (lo g : Nat) (T : TypeId) (w : World) (ps : List Pt) (put : List Int) (d : Int) (e : Ending) (w' : World) : Prop := e = .returned (.tuple #[]) ∧ BAtS S lo g T w' ps put d ∧ Below lo w w' ∧ Fr S w w'
theorem BAt.all {lo g : Nat} {T : TypeId} {w : World} {ps : List Pt} {put : List Int} {d : Int} (h : BAt lo g T w ps put d) : BAtS (fun _ => True) lo g T w ps put d := by
 obtain ⟨v, u, us, hx, ha⟩ := h
 exact ⟨v, u, us, hx, ha, trivial, fun _ _ => trivial, fun _ _ _ _ _ => trivial⟩
theorem BAtS.any {S : Nat → Prop} {lo g : Nat} {T : TypeId} {w : World} {ps : List Pt} {put : List Int} {d : Int} (h : BAtS S lo g T w ps put d) : BAt lo g T w ps put d := by
 obtain ⟨v, u, us, hx, ha, _⟩ := h
 exact ⟨v, u, us, hx, ha⟩
theorem FlushedS.any {S : Nat → Prop} {lo g : Nat} {T : TypeId} {w w' : World} {ps : List Pt} {e : Ending} (h : FlushedS S lo g T w ps e w') : Flushed lo g T w ps e w' := by
 obtain ⟨h1, ⟨v, us, hx, ha, _⟩, b, _⟩ := h
 exact ⟨h1, ⟨v, us, hx, ha⟩, b⟩
theorem BuiltS.any {S : Nat → Prop} {lo g : Nat} {T : TypeId} {w w' : World} {ps : List Pt} {put : List Int} {d : Int} {e : Ending} (h : BuiltS S lo g T w ps put d e w') : Built lo g T w ps put d e w' := ⟨h.1, h.2.1.any, h.2.2.1⟩
theorem BNilS.at_ {S : Nat → Prop} {lo g : Nat} {T : TypeId} {w : World} {ps : List Pt} (h : BNilS S lo g T w ps) : BAtS S lo g T w ps [] 0 := by
 obtain ⟨v, us, hx, ha, ho⟩ := h
 refine ⟨v, _, us, hx, Apart.bare 2 0 ha, ho.1, ho.2.1, fun i k x hxi hk => ?_⟩
 by_cases hi : i < us.length
 ·rw [List.getElem?_append_left hi] at hxi
  exact ho.2.2 i k x hxi hk
 ·rw [List.getElem?_append_right (by omega)] at hxi
  have hx' : i - us.length = 0 := by
   have := idx_lt hxi
   simp at this
   omega
  rw [hx'] at hxi
  simp at hxi
  subst hxi
  simp [Value.ownBlock] at hk
theorem Box.clearS {S : Nat → Prop} {lo g : Nat} {T : TypeId} {w : World} {v u : Value} {d : Int} {ps : List Pt} {us : List Value} (h : Box lo g T w v u d ps us) (hT1 : ¬ T = 3) (hT2 : ¬ T = 71) (ha : Apart lo w.heap.size w ps us) (ho : OwnS S g v us) :
  BNilS S lo g T ((w.setCell ⟨g, 1, none⟩ (.slice none 0 0)).setCell ⟨g, 2, none⟩ (.int .i64 0)) ps ∧ Below lo w ((w.setCell ⟨g, 1, none⟩ (.slice none 0 0)).setCell ⟨g, 2, none⟩ (.int .i64 0)) ∧ Fr S w ((w.setCell ⟨g, 1, none⟩ (.slice none 0 0)).setCell ⟨g, 2, none⟩ (.int .i64 0)) := by
 refine ⟨⟨v, us, ⟨?_, ?_, h.len, h.low⟩, ?_, ho⟩, ((Below.refl _ _).setCell h.low _).setCell h.low _, ((Fr.refl S w).setCell (p := ⟨g, 1, none⟩) ho.1 _).setCell (p := ⟨g, 2, none⟩) ho.1 _⟩
 ·rw [heap_setCell_same _ _ _ _ _ _ (heap_setCell_same _ _ _ _ _ _ h.box)]; rfl
 ·exact ownsRow_setCell_other (ownsRow_setCell_other h.row (own_far h.row h.box hT2) _) (own_far h.row h.box hT2) _
 ·refine ha.keep (by simp) (fun i x k hx hk1 hk2 => ?_)
  obtain ⟨q, hq⟩ := idx_some (l := ps) (i := i) (by rw [← ha.1]; exact idx_lt hx)
  have hkg : ¬ k = g := fun e => own_far (ha.2.1 i q x hq hx).1 h.box hT1 (by rw [hk1, e])
  rw [Below.heap_setCell _ _ _ _ hkg, Below.heap_setCell _ _ _ _ hkg]
theorem specFlush_f (S : Nat → Prop) (lo g : Nat) (ps : List Pt) (put : List Int) (d : Int) (w : World) (hb : BAtS S lo g 134 w ps put d) (hS : ∀ b, w.heap.size ≤ b → S b) (hl : ps.length ≤ 4294967296) (hp : put.length ≤ 4294967296) :
  Calls Tryz.prog 126 #[.pointer (some ⟨g, 0, none⟩)] w (FlushedS S lo g 134 w (ps ++ putL put ++ dropL d)) := by
 obtain ⟨i0, hi0, hz0, hz1, hz2⟩ := info_parts part_info
 obtain ⟨v, u, us, hx, ha, hos⟩ := hb
 have HS := Lib.hid hS
 have HOS := Lib.hid hos
 clear hS hos
 have ha0 := ha.init hx.len
 obtain ⟨A, c, rfl⟩ := own_form (ha.last hx.len)
 have c0 := hx.cell0
 have c1 := hx.cell1
 have c2 := hx.cell2
 have f0 := hx.free 0
 have f1 := hx.free 1
 have f2 := hx.free 2
 have HX := Lib.hid hx
 have HA := Lib.hid ha
 have HA0 := Lib.hid ha0
 clear hx ha ha0
 by_cases hput : put.length = 0
 ·have e1 : putL put = [] := by simp [putL, hput]
  rw [e1, List.append_nil]
  by_cases hd : 0 < d
  ·have e2 : dropL d = [⟨3, d, []⟩] := by simp [dropL, hd]
   rw [e2]
   go_enter Tryz.func126, Tryz.ntmps126
   go_wp2_with fail
   have lg := HX.out.lt
   have hlo : lo ≤ w.heap.size := Nat.le_trans HX.out.low (Nat.le_of_lt lg)
   have hne := own_far HX.out.row HX.out.box (by decide)
   go_region_law ((refine step_append_lies _ (by rfl) (.tmp 31) (.tmp 37) 30 (by rfl) lo 71 i0 _ 3 40 Tryz.underlying30 hi0 hz0 hz1 hz2 rfl (by omega) v ps.length (cellsOf ps us) (by rfl) ((HX.out.row.alloc _).drew) ⟨w.heap.size, 0, none⟩ 1 1 [.int .i64 3, .int .i64 d, .slice none 0 0] (by rfl) (by rfl) (World.news_of_block (cs := #[.int .i64 3, .int .i64 d, .slice none 0 0]) (t := 71) (fr := (0, 0)) (heap_alloc_new w _)) (by simp [Value.oneCell']) (by omega) (by unfold maxLen; omega) (by omega) (by simp; omega) (w.heap.size + 1) (by simp) ?_; intro gg cap w1 hown1 hgrow hat hlt; have hf := free_grown (o := 0) HX.out.box (below_made w _) hgrow hne; have hf1 := free_grown (o := 1) HX.out.box (below_made w _) hgrow hne; have hf2 := free_grown (o := 2) HX.out.box (below_made w _) hgrow hne; have hc : w1.cell? ⟨g, 0, none⟩ = some v := cell_grown 0 HX.out.box (below_made w _) hgrow hne; have hc1 : w1.cell? ⟨g, 1, none⟩ = some (.slice A put.length c) := cell_grown 1 HX.out.box (below_made w _) hgrow hne; have hc2 : w1.cell? ⟨g, 2, none⟩ = some (.int .i64 d) := cell_grown 2 HX.out.box (below_made w _) hgrow hne))
   all_goals
    obtain ⟨hx2, ha2, b2⟩ := Box.push (p := ⟨3, d, []⟩) HX.out (by decide) (by decide) (Apart.bare 3 d HA0.out) (below_made w _) hown1 hgrow
    have HO2 := Lib.hid (HOS.out.init.push (n := ps.length + 1) (cap := cap) nil_own hat (HS.out _ (by omega)))
    have HR2 := Lib.hid (push_fr HOS.out.init (below_made w _) hgrow (.slice (some ⟨gg, 0, none⟩) (ps.length + 1) cap))
    have HX2 := Lib.hid hx2
    have HA2 := Lib.hid ha2
    have HB2 := Lib.hid b2
    clear hx2 ha2 b2
    go_wp2
    go_end0
    obtain ⟨r1, r2, r3⟩ := HX2.out.clearS (by decide) (by decide) HA2.out HO2.out
    exact ⟨rfl, r1, HB2.out.trans r2, HR2.out.trans r3⟩
  ·have e2 : dropL d = [] := by simp [dropL]; omega
   rw [e2, List.append_nil]
   go_enter Tryz.func126, Tryz.ntmps126
   go_wp2_with fail
   go_end0
   obtain ⟨r1, r2, r3⟩ := HX.out.clearS (by decide) (by decide) HA0.out HOS.out.init
   exact ⟨rfl, r1, r2, r3⟩
 ·have hput' : (0 : Int) < (put.length : Int) := by omega
  have e1 : putL put = [⟨2, 0, put⟩] := by simp [putL, hput]
  rw [e1]
  by_cases hd : 0 < d
  ·have e2 : dropL d = [⟨3, d, []⟩] := by simp [dropL, hd]
   rw [e2]
   generalize hQ : ps ++ [⟨2, 0, put⟩] ++ [⟨3, d, []⟩] = Q
   have HQ := Lib.hid hQ
   clear hQ
   go_enter Tryz.func126, Tryz.ntmps126
   go_wp2_with fail
   have lg := HX.out.lt
   have hlo : lo ≤ w.heap.size := Nat.le_trans HX.out.low (Nat.le_of_lt lg)
   have hne := own_far HX.out.row HX.out.box (by decide)
   go_region_law ((refine step_append_lies _ (by rfl) (.tmp 12) (.tmp 18) 30 (by rfl) lo 71 i0 _ 3 40 Tryz.underlying30 hi0 hz0 hz1 hz2 rfl (by omega) v ps.length (cellsOf ps us) (by rfl) ((HX.out.row.alloc _).drew) ⟨w.heap.size, 0, none⟩ 1 1 [.int .i64 2, .int .i64 0, .slice A put.length c] (by rfl) (by rfl) (World.news_of_block (cs := #[.int .i64 2, .int .i64 0, .slice A put.length c]) (t := 71) (fr := (0, 0)) (heap_alloc_new w _)) (by simp [Value.oneCell']) (by omega) (by unfold maxLen; omega) (by omega) (by simp; omega) (w.heap.size + 1) (by simp) ?_; intro gg cap w1 hown1 hgrow hat hlt; have hf := free_grown (o := 0) HX.out.box (below_made w _) hgrow hne; have hf1 := free_grown (o := 1) HX.out.box (below_made w _) hgrow hne; have hf2 := free_grown (o := 2) HX.out.box (below_made w _) hgrow hne; have hc : w1.cell? ⟨g, 0, none⟩ = some v := cell_grown 0 HX.out.box (below_made w _) hgrow hne; have hc1 : w1.cell? ⟨g, 1, none⟩ = some (.slice A put.length c) := cell_grown 1 HX.out.box (below_made w _) hgrow hne; have hc2 : w1.cell? ⟨g, 2, none⟩ = some (.int .i64 d) := cell_grown 2 HX.out.box (below_made w _) hgrow hne))
   all_goals
    obtain ⟨hx1, ha1, b1⟩ := Box.push (p := ⟨2, 0, put⟩) HX.out (by decide) (by decide) HA.out (below_made w _) hown1 hgrow
    have HO1 := Lib.hid (HOS.out.init.push (n := ps.length + 1) (cap := cap) HOS.out.last hat (HS.out _ (by omega)))
    have HR1 := Lib.hid (push_fr HOS.out.init (below_made w _) hgrow (.slice (some ⟨gg, 0, none⟩) (ps.length + 1) cap))
    clear hown1 hgrow hat hlt hlo hne lg c0 c1 c2 f0 f1 f2
    have HX1 := Lib.hid hx1
    have HA1 := Lib.hid ha1
    have HB1 := Lib.hid b1
    clear hx1 ha1 b1
    go_wp2_with fail
    clear hf hf1 hf2 hc hc1 hc2
    generalize (Value.slice (some ⟨gg, 0, none⟩) (ps.length + 1) cap) = v1 at *
    generalize w1.setCell ⟨g, 0, none⟩ v1 = W1 at *
    have c0 := HX1.out.cell0
    have c1 := HX1.out.cell1
    have c2 := HX1.out.cell2
    have f0 := HX1.out.free 0
    have f1 := HX1.out.free 1
    have f2 := HX1.out.free 2
    generalize hps : ps ++ [⟨2, 0, put⟩] = ps1 at *
    have hl1 : ps1.length ≤ 4294967297 := by rw [← hps]; simp; omega
    clear hps
    generalize us ++ [Value.slice A put.length c] = us1 at *
    have lg := HX1.out.lt
    have hlo : lo ≤ W1.heap.size := Nat.le_trans HX1.out.low (Nat.le_of_lt lg)
    have hne := own_far HX1.out.row HX1.out.box (by decide)
    go_region_law ((refine step_append_lies _ (by rfl) (.tmp 31) (.tmp 37) 30 (by rfl) lo 71 i0 _ 3 40 Tryz.underlying30 hi0 hz0 hz1 hz2 rfl (by omega) v1 ps1.length (cellsOf ps1 us1) (by rfl) ((HX1.out.row.alloc _).drew) ⟨W1.heap.size, 0, none⟩ 1 1 [.int .i64 3, .int .i64 d, .slice none 0 0] (by rfl) (by rfl) (World.news_of_block (cs := #[.int .i64 3, .int .i64 d, .slice none 0 0]) (t := 71) (fr := (0, 0)) (heap_alloc_new W1 _)) (by simp [Value.oneCell']) (by omega) (by unfold maxLen; omega) (by omega) (by simp; omega) (W1.heap.size + 1) (by simp) ?_; intro gg cap w1 hown1 hgrow hat hlt; have hf := free_grown (o := 0) HX1.out.box (below_made W1 _) hgrow hne; have hf1 := free_grown (o := 1) HX1.out.box (below_made W1 _) hgrow hne; have hf2 := free_grown (o := 2) HX1.out.box (below_made W1 _) hgrow hne; have hc : w1.cell? ⟨g, 0, none⟩ = some v1 := cell_grown 0 HX1.out.box (below_made W1 _) hgrow hne; have hc1 : w1.cell? ⟨g, 1, none⟩ = some (.slice A put.length c) := cell_grown 1 HX1.out.box (below_made W1 _) hgrow hne; have hc2 : w1.cell? ⟨g, 2, none⟩ = some (.int .i64 d) := cell_grown 2 HX1.out.box (below_made W1 _) hgrow hne))
    all_goals
     obtain ⟨hx2, ha2, b2⟩ := Box.push (p := ⟨3, d, []⟩) HX1.out (by decide) (by decide) (Apart.bare 3 d HA1.out) (below_made W1 _) hown1 hgrow
     have HO2 := Lib.hid (HO1.out.push (n := ps1.length + 1) (cap := cap) nil_own hat (HS.out _ (by have := HR1.out.size; omega)))
     have HR2 := Lib.hid (push_fr HO1.out (below_made W1 _) hgrow (.slice (some ⟨gg, 0, none⟩) (ps1.length + 1) cap))
     have HX2 := Lib.hid hx2
     have HA2 := Lib.hid ha2
     have HB2 := Lib.hid b2
     clear hx2 ha2 b2
     go_wp2
     go_end0
     obtain ⟨r1, r2, r3⟩ := HX2.out.clearS (by decide) (by decide) HA2.out HO2.out
     exact ⟨rfl, by rw [← HQ.out]; exact r1, HB1.out.trans (HB2.out.trans r2), HR1.out.trans (HR2.out.trans r3)⟩
  ·have e2 : dropL d = [] := by simp [dropL]; omega
   rw [e2, List.append_nil]
   go_enter Tryz.func126, Tryz.ntmps126
   go_wp2_with fail
   have lg := HX.out.lt
   have hlo : lo ≤ w.heap.size := Nat.le_trans HX.out.low (Nat.le_of_lt lg)
   have hne := own_far HX.out.row HX.out.box (by decide)
   go_region_law ((refine step_append_lies _ (by rfl) (.tmp 12) (.tmp 18) 30 (by rfl) lo 71 i0 _ 3 40 Tryz.underlying30 hi0 hz0 hz1 hz2 rfl (by omega) v ps.length (cellsOf ps us) (by rfl) ((HX.out.row.alloc _).drew) ⟨w.heap.size, 0, none⟩ 1 1 [.int .i64 2, .int .i64 0, .slice A put.length c] (by rfl) (by rfl) (World.news_of_block (cs := #[.int .i64 2, .int .i64 0, .slice A put.length c]) (t := 71) (fr := (0, 0)) (heap_alloc_new w _)) (by simp [Value.oneCell']) (by omega) (by unfold maxLen; omega) (by omega) (by simp; omega) (w.heap.size + 1) (by simp) ?_; intro gg cap w1 hown1 hgrow hat hlt; have hf := free_grown (o := 0) HX.out.box (below_made w _) hgrow hne; have hf1 := free_grown (o := 1) HX.out.box (below_made w _) hgrow hne; have hf2 := free_grown (o := 2) HX.out.box (below_made w _) hgrow hne; have hc : w1.cell? ⟨g, 0, none⟩ = some v := cell_grown 0 HX.out.box (below_made w _) hgrow hne; have hc1 : w1.cell? ⟨g, 1, none⟩ = some (.slice A put.length c) := cell_grown 1 HX.out.box (below_made w _) hgrow hne; have hc2 : w1.cell? ⟨g, 2, none⟩ = some (.int .i64 d) := cell_grown 2 HX.out.box (below_made w _) hgrow hne))
   all_goals
    obtain ⟨hx1, ha1, b1⟩ := Box.push (p := ⟨2, 0, put⟩) HX.out (by decide) (by decide) HA.out (below_made w _) hown1 hgrow
    have HO2 := Lib.hid (HOS.out.init.push (n := ps.length + 1) (cap := cap) HOS.out.last hat (HS.out _ (by omega)))
    have HR2 := Lib.hid (push_fr HOS.out.init (below_made w _) hgrow (.slice (some ⟨gg, 0, none⟩) (ps.length + 1) cap))
    have HX2 := Lib.hid hx1
    have HA2 := Lib.hid ha1
    have HB2 := Lib.hid b1
    clear hx1 ha1 b1
    go_wp2
    go_end0
    obtain ⟨r1, r2, r3⟩ := HX2.out.clearS (by decide) (by decide) HA2.out HO2.out
    exact ⟨rfl, r1, HB2.out.trans r2, HR2.out.trans r3⟩
theorem run_append_zero {P : Program} {w : World} (base : Nat) (t ty e : TypeId) (i : TypeInfo) (size : Nat) (ht : P.underlying t = some (.slice e)) (hi : P.info? e = some i)
  (v : Value) (n : Nat) (xs : List Value) (hown : w.ownsRow base e size v n xs) (A : Option Addr) (c : Nat) :
  (Builtin.append_ #[t, t] ty #[v, .slice A 0 c]).run P w = .ok v w := by
 rcases hown.2 with ⟨rfl, rfl⟩ | ⟨g, cap, cur, rfl, _, _, hnc, _⟩
 ·cases A <;> simp [Builtin.append_, run_underlying ht, sizeOf, typeInfo, hi, Builtin.lenOf, Builtin.firstCells, loadCells, loadCellsFrom]
 ·cases A <;> simp [Builtin.append_, run_underlying ht, sizeOf, typeInfo, hi, Builtin.lenOf, Builtin.firstCells, loadCells, loadCellsFrom, hnc, storeCells]
theorem wpList_append_zero {P : Program} {w : World} {ops : Array Oper} {rest : List Oper} {o : Oper} {a : Act} {Q : Exit → Act → World → Prop} (hgd : o.guard = none) (s x : Operand) (t : TypeId)
  (ho : o.op = .call { callee := .builtin .append, args := #[s, x], argTypes := #[t, t] })
  (base : Nat) (e : TypeId) (i : TypeInfo) (size : Nat) (ht : P.underlying t = some (.slice e)) (hi : P.info? e = some i)
  (v : Value) (n : Nat) (xs : List Value) (hs : a.eval s = v) (hown : w.ownsRow base e size v n xs) (A : Option Addr) (c : Nat) (hx : a.eval x = .slice A 0 c)
  (h : wpList P ops Q rest (a.put o.dst v) w) : wpList P ops Q (o :: rest) a w := by
 refine wpList_plain hgd fun K hK => ?_
 have hrun := run_append_zero (P := P) (w := w) base t o.type e i size ht hi v n xs hown A c
 unfold Oper.wp
 simp [execOp, ho, resolve, invoke, builtin, hs, hx, hrun, Result.andThen]
 exact hK _ _ h
theorem Apart.far {lo hi : Nat} {w : World} {ps : List Pt} {us : List Value} {p : Pt} {u : Value} (h : Apart lo hi w (ps ++ [p]) (us ++ [u])) (hl : us.length = ps.length) {i k : Nat} {x : Value} (hx : us[i]? = some x) (hk : x.ownBlock = some k) : ¬ u.ownBlock = some k := fun hu => by
 have := h.2.2 i us.length k x u (by rw [List.getElem?_append_left (idx_lt hx)]; exact hx) (by simp) hk hu
 have := idx_lt hx
 omega
theorem Box.moreS {S : Nat → Prop} {lo g : Nat} {T : TypeId} {w w1 : World} {v u v' : Value} {d : Int} {ps : List Pt} {us : List Value} {put put' : List Int} (h : Box lo g T w v u d ps us) (hT1 : ¬ T = 3) (hT2 : ¬ T = 71)
  (ha : Apart lo w.heap.size w (ps ++ [⟨2, 0, put⟩]) (us ++ [u])) (hown : w1.ownsRow lo 3 1 v' put'.length (put'.map (Value.int .i64))) (hgrow : w.grownBy w1 u.ownBlock) (hat : v'.ownBlock = u.ownBlock ∨ v'.ownBlock = some w.heap.size) (hos : OwnS S g v (us ++ [u])) (hS : S w.heap.size) :
  BAtS S lo g T (w1.setCell ⟨g, 1, none⟩ v') ps put' d ∧ Below lo w (w1.setCell ⟨g, 1, none⟩ v') ∧ Fr S w (w1.setCell ⟨g, 1, none⟩ v') := by
 have hlt := h.lt
 have hu := ha.last h.len
 have ha0 := ha.init h.len
 have hold : ∀ k, k < w.heap.size → ¬ u.ownBlock = some k → w1.heap[k]? = w.heap[k]? := fun k hk hne => hgrow.block k hk (fun e => hne e.symm)
 have hg1 : w1.heap[g]? = some (.cells #[v, u, .int .i64 d] T (0, 0)) := by rw [hold g hlt (own_far hu h.box hT1)]; exact h.box
 have hvg := own_far hown hg1 hT1
 have hlow : lo ≤ w.heap.size := Nat.le_trans h.low (Nat.le_of_lt hlt)
 have hv' : ∀ k, v'.ownBlock = some k → S k := fun k hk => by
  rcases hat with e | e
  ·exact hos.last k (by rw [← e]; exact hk)
  ·rw [e] at hk
   injection hk with hk
   rw [← hk]; exact hS
 have hos' : OwnS S g v (us ++ [v']) := ⟨hos.1, hos.2.1, fun i k x hx hk => by
  by_cases hi : i < us.length
  ·rw [List.getElem?_append_left hi] at hx
   exact hos.init.2.2 i k x hx hk
  ·rw [List.getElem?_append_right (by omega)] at hx
   have hx' : i - us.length = 0 := by
    have := idx_lt hx
    simp at this
    omega
   rw [hx'] at hx
   simp at hx
   subst hx
   exact hv' k hk⟩
 have hfr : Fr S w (w1.setCell ⟨g, 1, none⟩ v') := ((Fr.refl S w).grown hgrow (fun k hk => hos.last k hk)).setCell (p := ⟨g, 1, none⟩) hos.1 _
 refine ⟨⟨v, v', us, ⟨?_, ?_, h.len, h.low⟩, ?_, hos'⟩, ?_, hfr⟩
 ·rw [heap_setCell_same _ _ _ _ _ _ hg1]; rfl
 ·refine own_keep h.row (fun k hk1 hk2 => ?_)
  have hkg : ¬ k = g := fun e => own_far h.row h.box hT2 (by rw [hk1, e])
  rw [Below.heap_setCell _ _ _ _ hkg]
  refine hold k hk2 (fun hk3 => ?_)
  obtain ⟨c1, e1⟩ := own_blk h.row hk1
  exact own_far hu e1 (by decide) hk3
 ·have hkeep : Apart lo (w1.setCell ⟨g, 1, none⟩ v').heap.size (w1.setCell ⟨g, 1, none⟩ v') ps us := by
   refine ha0.keep (by simp; exact hgrow.size) (fun i x k hx hk1 hk2 => ?_)
   obtain ⟨q, hq⟩ := idx_some (l := ps) (i := i) (by rw [← h.len]; exact idx_lt hx)
   have hkg : ¬ k = g := fun e => own_far (ha0.2.1 i q x hq hx).1 h.box hT1 (by rw [hk1, e])
   rw [Below.heap_setCell _ _ _ _ hkg]
   exact hold k hk2 (ha.far h.len hx hk1)
  refine hkeep.snoc (ownsRow_setCell_other hown hvg _) (fun k hk => ?_) (fun i x k hx hk1 hk2 => ?_)
  ·obtain ⟨c1, e1⟩ := own_blk hown hk
   have := lt_of_some e1
   simpa using this
  ·obtain ⟨q, hq⟩ := idx_some (l := ps) (i := i) (by rw [← h.len]; exact idx_lt hx)
   rcases hat with e | e
   ·exact ha.far h.len hx hk1 (by rw [← e]; exact hk2)
   ·obtain ⟨c1, e1⟩ := own_blk (ha0.2.1 i q x hq hx).1 hk1
    have := lt_of_some e1
    rw [hk2] at e
    injection e with e
    omega
 ·refine Below.setCell ?_ h.low _
  exact (Below.refl _ _).grown hgrow hlow (fun k hk => own_ge hu k hk)
theorem Box.dropS {S : Nat → Prop} {lo g : Nat} {T : TypeId} {w : World} {v u : Value} {d d' : Int} {ps : List Pt} {us : List Value} {put : List Int} (h : Box lo g T w v u d ps us) (hT1 : ¬ T = 3) (hT2 : ¬ T = 71)
  (ha : Apart lo w.heap.size w (ps ++ [⟨2, 0, put⟩]) (us ++ [u])) (hos : OwnS S g v (us ++ [u])) :
  BAtS S lo g T (w.setCell ⟨g, 2, none⟩ (.int .i64 d')) ps put d' ∧ Below lo w (w.setCell ⟨g, 2, none⟩ (.int .i64 d')) ∧ Fr S w (w.setCell ⟨g, 2, none⟩ (.int .i64 d')) := by
 refine ⟨⟨v, u, us, ⟨?_, ownsRow_setCell_other h.row (own_far h.row h.box hT2) _, h.len, h.low⟩, ha.keep (by simp) (fun i x k hx hk1 hk2 => ?_), hos⟩, (Below.refl _ _).setCell h.low _, (Fr.refl S w).setCell (p := ⟨g, 2, none⟩) hos.1 _⟩
 ·rw [heap_setCell_same _ _ _ _ _ _ h.box]; rfl
 ·obtain ⟨q, hq⟩ := idx_some (l := ps ++ [⟨2, 0, put⟩]) (i := i) (by rw [← ha.1]; exact idx_lt hx)
  have hkg : ¬ k = g := fun e => own_far (ha.2.1 i q x hq hx).1 h.box hT1 (by rw [hk1, e])
  rw [Below.heap_setCell _ _ _ _ hkg]
theorem ints_info : (Tryz.prog.info? 3).map (fun i => (i.zero, i.size, i.bytes)) = some (some (.int .i64 0), 1, 8) := by kernel_rfl
theorem specDrop_f (S : Nat → Prop) (lo g : Nat) (ps : List Pt) (put : List Int) (d n : Int) (w : World) (hb : BAtS S lo g 134 w ps put d) (hS : ∀ b, w.heap.size ≤ b → S b) (h0 : 0 ≤ d) (h1 : d ≤ 4611686018427387904) (h2 : 0 ≤ n) (h3 : n ≤ 1048576) :
  Calls Tryz.prog 102 #[.pointer (some ⟨g, 0, none⟩), .int .i64 n] w (BuiltS S lo g 134 w ps put (d + n)) := by
 obtain ⟨v, u, us, hx, ha, hos⟩ := hb
 have HS := Lib.hid hS
 have HOS := Lib.hid hos
 clear hS hos
 have c2 := hx.cell2
 have f2 := hx.free 2
 have HX := Lib.hid hx
 have HA := Lib.hid ha
 clear hx ha
 go_enter Tryz.func102, Tryz.ntmps102
 go_wp2
 go_end0
 obtain ⟨r1, r2, r3⟩ := HX.out.dropS (d' := d + n) (by decide) (by decide) HA.out HOS.out
 exact ⟨rfl, r1, r2, r3⟩
theorem specPut_f (S : Nat → Prop) (lo g : Nat) (ps : List Pt) (put : List Int) (d : Int) (A : Option Addr) (c : Nat) (zs : List Int) (w : World) (hb : BAtS S lo g 134 w ps put d) (hS : ∀ b, w.heap.size ≤ b → S b) (hr : Row (Value.int .i64) w w.heap.size A zs) (hp : put.length ≤ 4294967296) (hz : zs.length ≤ 4294967296) :
  Calls Tryz.prog 101 #[.pointer (some ⟨g, 0, none⟩), .slice A zs.length c] w (BuiltS S lo g 134 w ps (put ++ zs) d) := by
 obtain ⟨i0, hi0, hz0, hz1, hz2⟩ := info_parts ints_info
 obtain ⟨v, u, us, hx, ha, hos⟩ := hb
 have HS := Lib.hid hS
 have HOS := Lib.hid hos
 clear hS hos
 obtain ⟨Au, cu, rfl⟩ := own_form (ha.last hx.len)
 simp only at hx ha
 have c1 := hx.cell1
 have f1 := hx.free 1
 have ho := Lib.hid (ha.last hx.len)
 have hlo : lo ≤ w.heap.size := Nat.le_trans hx.low (Nat.le_of_lt hx.lt)
 have HX := Lib.hid hx
 have HA := Lib.hid ha
 clear hx ha
 by_cases hn : 0 < zs.length
 ·obtain ⟨ad, rfl, hbk, hcs⟩ := hr hn
  have hcs' : ∀ j x, (zs.map (Value.int .i64))[j]? = some x → w.cell? (ad.add j) = some x := fun j x hx => by
   rw [List.getElem?_map] at hx
   obtain ⟨z, hz, rfl⟩ := Option.map_eq_some_iff.1 hx
   exact hcs j z hz
  have HC := Lib.hid hcs'
  clear hcs hcs' hr
  have hug := own_far ho.out HX.out.box (by decide)
  go_enter Tryz.func101, Tryz.ntmps101
  go_wp2_with (at_builtin; refine wpList_append_lies _ rfl (.tmp 8) (.tmp 9) 22 rfl lo 3 i0 (.int .i64 0) 1 8 Tryz.underlying22 hi0 hz0 hz1 hz2 rfl (by decide) (.slice Au put.length cu) put.length (put.map (Value.int .i64)) rfl ho.out ad zs.length c (zs.map (Value.int .i64)) rfl (by simp) HC.out (by simp [Value.oneCell']) (by omega) (by unfold maxLen; omega) (by omega) hlo w.heap.size rfl ?_; intro gg cap w1 hown1 hgrow hat hlt; have hf := free_grown (o := 1) HX.out.box (Below.refl _ _) hgrow hug; have hc : w1.cell? ⟨g, 1, none⟩ = some (.slice Au put.length cu) := cell_grown 1 HX.out.box (Below.refl _ _) hgrow hug)
  go_end0
  obtain ⟨r1, r2, r3⟩ := Box.moreS (put' := put ++ zs) HX.out (by decide) (by decide) HA.out (by simpa using hown1) hgrow (hat.elim (fun e => .inl (by rw [e]; rfl)) (fun e => .inr (by rw [← e]; rfl))) HOS.out (HS.out _ (Nat.le_refl _))
  exact ⟨rfl, r1, r2, r3⟩
 ·have e0 : zs = [] := List.eq_nil_of_length_eq_zero (by omega)
  subst e0
  rw [List.append_nil]
  go_enter Tryz.func101, Tryz.ntmps101
  go_wp2_with (at_builtin; refine wpList_append_zero rfl (.tmp 8) (.tmp 9) 22 rfl lo 3 i0 1 Tryz.underlying22 hi0 (.slice Au put.length cu) put.length (put.map (Value.int .i64)) rfl ho.out A c rfl ?_)
  go_end0
  obtain ⟨r1, r2, r3⟩ := Box.moreS (put' := put) HX.out (by decide) (by decide) HA.out ho.out ⟨rfl, rfl, rfl, Nat.le_refl _, fun _ _ _ => rfl⟩ (.inl rfl) HOS.out (HS.out _ (Nat.le_refl _))
  exact ⟨rfl, r1, r2, r3⟩
theorem specDrop_any (lo g : Nat) (ps : List Pt) (put : List Int) (d n : Int) (w : World) (hb : BAt lo g 134 w ps put d) (h0 : 0 ≤ d) (h1 : d ≤ 4611686018427387904) (h2 : 0 ≤ n) (h3 : n ≤ 1048576) :
  Calls Tryz.prog 102 #[.pointer (some ⟨g, 0, none⟩), .int .i64 n] w (Built lo g 134 w ps put (d + n)) :=
 (specDrop_f (fun _ => True) lo g ps put d n w hb.all (fun _ _ => trivial) h0 h1 h2 h3).mono fun e w' h => h.any
theorem specPut_any (lo g : Nat) (ps : List Pt) (put : List Int) (d : Int) (A : Option Addr) (c : Nat) (zs : List Int) (w : World) (hb : BAt lo g 134 w ps put d) (hr : Row (Value.int .i64) w w.heap.size A zs) (hp : put.length ≤ 4294967296) (hz : zs.length ≤ 4294967296) :
  Calls Tryz.prog 101 #[.pointer (some ⟨g, 0, none⟩), .slice A zs.length c] w (Built lo g 134 w ps (put ++ zs) d) :=
 (specPut_f (fun _ => True) lo g ps put d A c zs w hb.all (fun _ _ => trivial) hr hp hz).mono fun e w' h => h.any
theorem below_new (w : World) (o : Obj) : Below w.heap.size w (w.alloc o) := (Below.refl _ _).alloc (Nat.le_refl _) o
def keepTo (q : List Pt) (n : Int) : List Pt :=
 match q.getLast? with
 | some p => if p.kind = 1 then q.set (q.length - 1) ⟨p.kind, p.n + n, p.signs⟩ else q ++ [⟨1, n, []⟩]
 | none => q ++ [⟨1, n, []⟩]
theorem keepTo_nil (n : Int) : keepTo [] n = [⟨1, n, []⟩] := rfl
theorem keepTo_t {r : List Pt} {p : Pt} (n : Int) (h : p.kind = 1) : keepTo (r ++ [p]) n = r ++ [⟨p.kind, p.n + n, p.signs⟩] := by
 simp [keepTo, h]
theorem keepTo_f {r : List Pt} {p : Pt} (n : Int) (h : ¬ p.kind = 1) : keepTo (r ++ [p]) n = r ++ [p] ++ [⟨1, n, []⟩] := by
 simp [keepTo, h]
theorem cellsOf_setN : ∀ (ps : List Pt) (us : List Value) (i : Nat) (p : Pt) (b : Int), us.length = ps.length → ps[i]? = some p →
  (cellsOf ps us).set (i * 3 + 1) (.int .i64 b) = cellsOf (ps.set i ⟨p.kind, b, p.signs⟩) us
 | [], us, i, p, b, _, h => by simp at h
 | _ :: _, [], i, p, b, hl, _ => by simp at hl
 | x :: ps, u :: us, 0, p, b, hl, h => by
  simp at h
  subst h
  rfl
 | x :: ps, u :: us, i + 1, p, b, hl, h => by
  have e0 : (i + 1) * 3 + 1 = i * 3 + 1 + 1 + 1 + 1 := by omega
  rw [e0]
  show .int .i64 x.kind :: .int .i64 x.n :: u :: (cellsOf ps us).set (i * 3 + 1) (.int .i64 b) = .int .i64 x.kind :: .int .i64 x.n :: u :: cellsOf (ps.set i ⟨p.kind, b, p.signs⟩) us
  rw [cellsOf_setN ps us i p b (by simpa using hl) (by simpa using h)]
theorem Apart.setN {lo hi : Nat} {w : World} {r : List Pt} {p q : Pt} {us : List Value} (h : Apart lo hi w (r ++ [p]) us) (hq : q.signs = p.signs) : Apart lo hi w (r ++ [q]) us := by
 refine ⟨by simpa using h.1, fun i x u hx hu => ?_, h.2.2⟩
 by_cases hi' : i < r.length
 ·rw [List.getElem?_append_left hi'] at hx
  exact h.2.1 i x u (by rw [List.getElem?_append_left hi']; exact hx) hu
 ·have e : i = r.length := by have := idx_lt hx; simp at this; omega
  subst e
  simp at hx
  subst hx
  have := h.2.1 r.length p u (by simp) hu
  rw [hq]
  exact this
theorem Box.setN {lo g gv cap : Nat} {T : TypeId} {w : World} {u : Value} {d b : Int} {r : List Pt} {p : Pt} {us : List Value} (h : Box lo g T w (.slice (some ⟨gv, 0, none⟩) (r.length + 1) cap) u d (r ++ [p]) us) (hT1 : ¬ T = 3) (hT2 : ¬ T = 71)
  (ha : Apart lo w.heap.size w (r ++ [p]) us) :
  Box lo g T (w.setCell ⟨gv, r.length * 3 + 1, none⟩ (.int .i64 b)) (.slice (some ⟨gv, 0, none⟩) (r.length + 1) cap) u d (r ++ [⟨p.kind, b, p.signs⟩]) us ∧
  Apart lo (w.setCell ⟨gv, r.length * 3 + 1, none⟩ (.int .i64 b)).heap.size (w.setCell ⟨gv, r.length * 3 + 1, none⟩ (.int .i64 b)) (r ++ [⟨p.kind, b, p.signs⟩]) us ∧
  Below lo w (w.setCell ⟨gv, r.length * 3 + 1, none⟩ (.int .i64 b)) := by
 have hgv := own_far h.row h.box hT2
 have hge := own_ge h.row gv rfl
 have hl : us.length = (r ++ [p]).length := h.len
 refine ⟨⟨?_, ?_, by simpa using hl, h.low⟩, ?_, (Below.refl _ _).setCell hge _⟩
 ·rw [Below.heap_setCell _ _ _ _ (fun e => hgv (by simp [Value.ownBlock]; exact e.symm))]; exact h.box
 ·have e1 := cellsOf_setN (r ++ [p]) us r.length p b hl (by simp)
  have e2 : (r ++ [p]).set r.length ⟨p.kind, b, p.signs⟩ = r ++ [⟨p.kind, b, p.signs⟩] := by simp
  rw [e2] at e1
  rw [← e1]
  have := (World.ownsRow.stored (n := r.length + 1) (by simpa using h.row) (r.length * 3 + 1) (.int .i64 b)).1
  simpa using this
 ·refine Apart.setN (p := p) (ha.keep (by simp) (fun i x k hx hk1 hk2 => ?_)) rfl
  obtain ⟨q, hq⟩ := idx_some (l := r ++ [p]) (i := i) (by rw [← hl]; exact idx_lt hx)
  obtain ⟨c1, e1⟩ := own_blk (ha.2.1 i q x hq hx).1 hk1
  have hne : ¬ k = gv := fun e => by
   subst e
   exact own_far h.row e1 (by decide) rfl
  rw [Below.heap_setCell _ _ _ _ hne]
theorem setN_fr {S : Nat → Prop} {g gv n cap o : Nat} {us : List Value} {w : World} (h : OwnS S g (.slice (some ⟨gv, 0, none⟩) n cap) us) (x : Value) : Fr S w (w.setCell ⟨gv, o, none⟩ x) := (Fr.refl S w).setCell (p := ⟨gv, o, none⟩) (h.2.1 gv rfl) x
def Gone (lo : Nat) (ps : List Pt) (w : World) (e : Ending) (w' : World) : Prop := ∃ v, e = .returned v ∧ PBuf lo w'.heap.size w' v ps ∧ Below lo w w'
def GoneS (S : Nat → Prop) (lo : Nat) (ps : List Pt) (w : World) (e : Ending) (w' : World) : Prop := ∃ v us, e = .returned v ∧ PBuf lo w'.heap.size w' v ps ∧ Below lo w w' ∧ Fr S w w' ∧ w'.ownsRow lo 71 3 v ps.length (cellsOf ps us) ∧ us.length = ps.length ∧ (∀ k, v.ownBlock = some k → S k) ∧ ∀ (i k : Nat) (x : Value), us[i]? = some x → x.ownBlock = some k → S k
theorem Box.parts {lo g : Nat} {T : TypeId} {w : World} {v u : Value} {d : Int} {ps : List Pt} {us : List Value} (h : Box lo g T w v u d ps us) (ha : Apart lo w.heap.size w ps us) : PBuf lo w.heap.size w v ps :=
 ⟨us, h.row, ha, fun k hk => by obtain ⟨c1, e1⟩ := own_blk h.row hk; exact lt_of_some e1, Nat.le_refl _, Nat.le_trans h.low (Nat.le_of_lt h.lt)⟩
theorem specDone_f (S : Nat → Prop) (lo g : Nat) (ps : List Pt) (put : List Int) (d : Int) (w : World) (hb : BAtS S lo g 134 w ps put d) (hS : ∀ b, w.heap.size ≤ b → S b) (hl : ps.length ≤ 4294967296) (hp : put.length ≤ 4294967296) :
  Calls Tryz.prog 103 #[.pointer (some ⟨g, 0, none⟩)] w (GoneS S lo (ps ++ putL put ++ dropL d) w) := by
 go_enter Tryz.func103, Tryz.ntmps103
 go_wp2_with fail
 refine (specFlush_f S lo g ps put d w hb hS hl hp).mono ?_
 rintro e w1 ⟨rfl, ⟨v, us, hx, ha, hos⟩, b1, fr1⟩
 have HS := Lib.hid hS
 have HOS := Lib.hid hos
 have HR := Lib.hid fr1
 clear hS hos fr1
 obtain ⟨Av, cv, rfl⟩ := own_form hx.row
 have c0 := hx.cell0
 have HX := Lib.hid hx
 have HA := Lib.hid ha
 clear hx ha
 generalize ps ++ putL put ++ dropL d = q at *
 go_wp2
 go_ret
 exact ⟨_, us, rfl, HX.out.parts HA.out, b1, HR.out, HX.out.row, HX.out.len, HOS.out.2.1, HOS.out.2.2⟩
theorem specKeep_f (S : Nat → Prop) (lo g : Nat) (ps : List Pt) (put : List Int) (d n : Int) (w : World) (hb : BAtS S lo g 134 w ps put d) (hS : ∀ b, w.heap.size ≤ b → S b) (hl : ps.length ≤ 4294967296) (hp : put.length ≤ 4294967296) (hn : ¬ n = 0) (hn0 : 0 ≤ n) (hn1 : n ≤ 1048576)
  (hq : ∀ p ∈ ps ++ putL put ++ dropL d, 0 ≤ p.n ∧ p.n ≤ 4611686018427387904) (hql : (ps ++ putL put ++ dropL d).length ≤ 4294967298) :
  Calls Tryz.prog 100 #[.pointer (some ⟨g, 0, none⟩), .int .i64 n] w (FlushedS S lo g 134 w (keepTo (ps ++ putL put ++ dropL d) n)) := by
 obtain ⟨i0, hi0, hz0, hz1, hz2⟩ := info_parts part_info
 go_enter Tryz.func100, Tryz.ntmps100
 go_wp2_with fail
 refine (specFlush_f S lo g ps put d w hb hS hl hp).mono ?_
 rintro e w1 ⟨rfl, ⟨v, us, hx, ha, hos⟩, b1, fr1⟩
 have HS := Lib.hid hS
 have HOS := Lib.hid hos
 have HR := Lib.hid fr1
 clear hS hos fr1
 generalize ps ++ putL put ++ dropL d = q at *
 have c0 := hx.cell0
 have f0 := hx.free 0
 have hne := own_far hx.row hx.box (by decide)
 have hlo : lo ≤ w1.heap.size := Nat.le_trans hx.low (Nat.le_of_lt hx.lt)
 rcases q.eq_nil_or_concat with rfl | ⟨r, p, rfl⟩
 ·obtain ⟨Av, cv, rfl⟩ := own_form hx.row
  have HX := Lib.hid hx
  have HA := Lib.hid ha
  clear hx ha
  go_wp2_with (at_builtin; refine wpList_append_lies _ rfl (.tmp 51) (.tmp 54) 30 rfl lo 71 i0 _ 3 40 Tryz.underlying30 hi0 hz0 hz1 hz2 rfl (by omega) (.slice Av 0 cv) 0 (cellsOf [] us) rfl (HX.out.row.alloc _) ⟨w1.heap.size, 0, none⟩ 1 1 [.int .i64 1, .int .i64 n, .slice none 0 0] rfl rfl (World.news_of_block (cs := #[.int .i64 1, .int .i64 n, .slice none 0 0]) (t := 71) (fr := (0, 0)) (heap_alloc_new w1 _)) (by simp [Value.oneCell']) (by omega) (by unfold maxLen; omega) (by omega) (by simp; omega) (w1.heap.size + 1) (by simp) ?_; intro gg cap w2 hown1 hgrow hat hlt; have hf := free_grown (o := 0) HX.out.box (below_new w1 _) hgrow hne; have hc : w2.cell? ⟨g, 0, none⟩ = some (.slice Av 0 cv) := cell_grown 0 HX.out.box (below_new w1 _) hgrow hne)
  go_end0
  obtain ⟨hx2, ha2, b2⟩ := Box.push (p := ⟨1, n, []⟩) HX.out (by decide) (by decide) (Apart.bare 1 n HA.out) (below_new w1 _) hown1 hgrow
  refine ⟨rfl, ?_, b1.trans b2, HR.out.trans (push_fr HOS.out (below_new w1 _) hgrow _)⟩
  rw [keepTo_nil]
  exact ⟨_, _, hx2, ha2, HOS.out.push nil_own hat (HS.out _ (by have := HR.out.size; omega))⟩
 ·rw [List.concat_eq_append] at *
  have hrl : (r ++ [p]).length = r.length + 1 := by simp
  rw [hrl] at hql
  have hp0 := hq p (by simp)
  clear hq
  rcases hx.row.2 with ⟨_, h0⟩ | ⟨gv, cap0, cur, rfl, hgv, hhv, hcap, hcap2, _, _⟩
  ·simp at h0
  rw [hrl] at c0 hne hcap hx
  have hrow : w1.ownsRow lo 71 3 (.slice (some ⟨gv, 0, none⟩) (r.length + 1) cap0) (r.length + 1) (cellsOf (r ++ [p]) us) := by have := hx.row; rwa [hrl] at this
  have k0 : w1.cell? ⟨gv, r.length * 3, none⟩ = some (.int .i64 p.kind) := by
   have := hrow.cellAt (r.length * 3) (by omega)
   obtain ⟨u, hu⟩ := idx_some (l := us) (i := r.length) (by rw [hx.len]; simp)
   rw [this, (cellsOf_at (r ++ [p]) us r.length p u (by simp) hu).1]
  have k1 : w1.cell? ⟨gv, r.length * 3 + 1, none⟩ = some (.int .i64 p.n) := by
   have := hrow.cellAt (r.length * 3 + 1) (by omega)
   obtain ⟨u, hu⟩ := idx_some (l := us) (i := r.length) (by rw [hx.len]; simp)
   rw [this, (cellsOf_at (r ++ [p]) us r.length p u (by simp) hu).2.1]
  have fv := hrow.frozenAt (r.length * 3 + 1)
  have HRW := Lib.hid hrow
  clear hrow
  have HX := Lib.hid hx
  have HA := Lib.hid ha
  clear hx ha hhv
  by_cases hk : p.kind = 1
  ·go_wp2_with fail
   have dx := Lib.hid HX.out.drew
   have da := Lib.hid HA.out.drewS
   have hw1 : IntKind.i64.wrap (r.length : Int) = (r.length : Int) := by rw [IntKind.wrap_i64]; omega
   have hw2 : IntKind.i64.wrap (p.n + n) = p.n + n := by rw [IntKind.wrap_i64]; omega
   have hi1 : (r.length : Int) < (r.length : Int) + 1 := by omega
   go_still_tail 19, (by kernel_rfl)
   clear hw1 hw2
   go_wp2
   go_end0
   obtain ⟨hx2, ha2, b2⟩ := Box.setN (b := p.n + n) dx.out (by decide) (by decide) da.out
   refine ⟨rfl, ?_, b1.trans ((Below.refl _ _).drew.trans b2), HR.out.drew.trans (setN_fr HOS.out _)⟩
   rw [keepTo_t n hk]
   exact ⟨_, _, hx2, ha2, HOS.out⟩
  ·go_wp2_with (at_builtin; refine wpList_append_lies _ rfl (.tmp 51) (.tmp 54) 30 rfl lo 71 i0 _ 3 40 Tryz.underlying30 hi0 hz0 hz1 hz2 rfl (by omega) (.slice (some ⟨gv, 0, none⟩) (r.length + 1) cap0) (r.length + 1) (cellsOf (r ++ [p]) us) rfl (HRW.out.alloc _) ⟨w1.heap.size, 0, none⟩ 1 1 [.int .i64 1, .int .i64 n, .slice none 0 0] rfl rfl (World.news_of_block (cs := #[.int .i64 1, .int .i64 n, .slice none 0 0]) (t := 71) (fr := (0, 0)) (heap_alloc_new w1 _)) (by simp [Value.oneCell']) (by omega) (by unfold maxLen; omega) (by omega) (by simp; omega) (w1.heap.size + 1) (by simp) ?_; intro gg cap w2 hown1 hgrow hat hlt; have hf := free_grown (o := 0) HX.out.box (below_new w1 _) hgrow hne; have hc : w2.cell? ⟨g, 0, none⟩ = some (.slice (some ⟨gv, 0, none⟩) (r.length + 1) cap0) := cell_grown 0 HX.out.box (below_new w1 _) hgrow hne)
   go_end0
   obtain ⟨hx2, ha2, b2⟩ := Box.push (p := ⟨1, n, []⟩) HX.out (by decide) (by decide) (Apart.bare 1 n HA.out) (below_new w1 _) (by rw [hrl]; exact hown1) hgrow
   rw [hrl] at hx2 ha2 b2
   refine ⟨rfl, ?_, b1.trans b2, HR.out.trans (push_fr HOS.out (below_new w1 _) hgrow _)⟩
   rw [keepTo_f n hk]
   exact ⟨_, _, hx2, ha2, HOS.out.push nil_own hat (HS.out _ (by have := HR.out.size; omega))⟩
theorem GoneS.any {S : Nat → Prop} {lo : Nat} {ps : List Pt} {w w' : World} {e : Ending} (h : GoneS S lo ps w e w') : Gone lo ps w e w' := by
 obtain ⟨v, us, h1, h2, h3, _⟩ := h
 exact ⟨v, h1, h2, h3⟩
theorem specDone_any (lo g : Nat) (ps : List Pt) (put : List Int) (d : Int) (w : World) (hb : BAt lo g 134 w ps put d) (hl : ps.length ≤ 4294967296) (hp : put.length ≤ 4294967296) :
  Calls Tryz.prog 103 #[.pointer (some ⟨g, 0, none⟩)] w (Gone lo (ps ++ putL put ++ dropL d) w) :=
 (specDone_f (fun _ => True) lo g ps put d w hb.all (fun _ _ => trivial) hl hp).mono fun e w' h => h.any
theorem specKeep_any (lo g : Nat) (ps : List Pt) (put : List Int) (d n : Int) (w : World) (hb : BAt lo g 134 w ps put d) (hl : ps.length ≤ 4294967296) (hp : put.length ≤ 4294967296) (hn : ¬ n = 0) (hn0 : 0 ≤ n) (hn1 : n ≤ 1048576)
  (hq : ∀ p ∈ ps ++ putL put ++ dropL d, 0 ≤ p.n ∧ p.n ≤ 4611686018427387904) (hql : (ps ++ putL put ++ dropL d).length ≤ 4294967298) :
  Calls Tryz.prog 100 #[.pointer (some ⟨g, 0, none⟩), .int .i64 n] w (Flushed lo g 134 w (keepTo (ps ++ putL put ++ dropL d) n)) :=
 (specKeep_f (fun _ => True) lo g ps put d n w hb.all (fun _ _ => trivial) hl hp hn hn0 hn1 hq hql).mono fun e w' h => h.any
def stepN (s : List Pt × List Int × Int) (p : Pt) : List Pt × List Int × Int :=
 if p.kind = 1 then (if p.n = 0 then s else (keepTo (s.1 ++ putL s.2.1 ++ dropL s.2.2) p.n, [], 0))
 else if p.kind = 2 then (s.1, s.2.1 ++ p.signs, s.2.2) else (s.1, s.2.1, s.2.2 + p.n)
def foldN (ps : List Pt) : List Pt × List Int × Int := ps.foldl stepN ([], [], 0)
def doneN (s : List Pt × List Int × Int) : List Pt := s.1 ++ putL s.2.1 ++ dropL s.2.2
def normL (ps : List Pt) : List Pt := if okOp ps = true then doneN (foldN ps) else []
theorem foldN_snoc {ps : List Pt} {k : Nat} {p : Pt} (h : ps[k]? = some p) : foldN (ps.take (k + 1)) = stepN (foldN (ps.take k)) p := by
 unfold foldN
 rw [List.take_add_one, h]
 simp
theorem signsIn_app (a b : List Pt) : signsIn (a ++ b) = signsIn a + signsIn b := by simp [signsIn]
theorem putL_len (z : List Int) : (putL z).length ≤ 1 ∧ signsIn (putL z) = z.length ∧ ∀ p ∈ putL z, p.n = 0 := by
 unfold putL
 split
 ·rename_i h; simp [signsIn, h]
 ·simp [signsIn]
theorem dropL_len (d : Int) : (dropL d).length ≤ 1 ∧ signsIn (dropL d) = 0 ∧ ∀ p ∈ dropL d, p.n = d ∧ 0 ≤ d := by
 unfold dropL
 split
 ·rename_i h; simp [signsIn]; omega
 ·simp [signsIn]
structure Fit (j m : Nat) (s : List Pt × List Int × Int) : Prop where
 len : s.1.length ≤ 3 * j
 signs : signsIn s.1 + s.2.1.length ≤ m
 d0 : 0 ≤ s.2.2
 d1 : s.2.2 ≤ 200 * (j : Int)
 ns : ∀ p ∈ s.1, 0 ≤ p.n ∧ p.n ≤ 200 * (j : Int)
theorem Fit.done {j m : Nat} {s : List Pt × List Int × Int} (h : Fit j m s) : (doneN s).length ≤ 3 * j + 2 ∧ signsIn (doneN s) ≤ m ∧ ∀ p ∈ doneN s, 0 ≤ p.n ∧ p.n ≤ 200 * (j : Int) := by
 obtain ⟨a1, a2, a3⟩ := putL_len s.2.1
 obtain ⟨b1, b2, b3⟩ := dropL_len s.2.2
 have h1 := h.len
 have h2 := h.signs
 have h3 := h.d0
 have h4 := h.d1
 refine ⟨by unfold doneN; simp; omega, by unfold doneN; rw [signsIn_app, signsIn_app]; omega, fun p hp => ?_⟩
 unfold doneN at hp
 rcases List.mem_append.1 hp with hp | hp
 ·rcases List.mem_append.1 hp with hp | hp
  ·exact h.ns p hp
  ·have := a3 p hp; omega
 ·have := b3 p hp; omega
theorem keepTo_fit {q : List Pt} {n M : Int} (hn : 0 ≤ n) (hM : 0 ≤ M) (hq : ∀ p ∈ q, 0 ≤ p.n ∧ p.n ≤ M) : (keepTo q n).length ≤ q.length + 1 ∧ signsIn (keepTo q n) = signsIn q ∧ ∀ p ∈ keepTo q n, 0 ≤ p.n ∧ p.n ≤ M + n := by
 rcases q.eq_nil_or_concat with rfl | ⟨r, p, rfl⟩
 ·rw [keepTo_nil]
  refine ⟨by simp, by simp [signsIn], fun x hx => ?_⟩
  simp at hx
  subst hx
  simp only
  omega
 ·rw [List.concat_eq_append] at *
  have hp := hq p (by simp)
  by_cases hk : p.kind = 1
  ·rw [keepTo_t n hk]
   refine ⟨by simp, by rw [signsIn_app, signsIn_app]; simp [signsIn], fun x hx => ?_⟩
   rcases List.mem_append.1 hx with hx | hx
   ·have := hq x (by simp [hx]); omega
   ·simp at hx
    subst hx
    simp only
    omega
  ·rw [keepTo_f n hk]
   refine ⟨by simp, by rw [signsIn_app, signsIn_app]; simp [signsIn], fun x hx => ?_⟩
   rcases List.mem_append.1 hx with hx | hx
   ·have := hq x hx; omega
   ·simp at hx
    subst hx
    simp only
    omega
theorem Fit.step {j m : Nat} {s : List Pt × List Int × Int} {p : Pt} (h : Fit j m s) (hp : okPt p = true) : Fit (j + 1) (m + p.signs.length) (stepN s p) := by
 have hok := of_okPt hp
 obtain ⟨d1, d2, d3⟩ := h.done
 have h1 := h.len
 have h2 := h.signs
 have h3 := h.d0
 have h4 := h.d1
 have hns := h.ns
 unfold stepN
 split
 ·rename_i hk
  have hn : 0 ≤ p.n ∧ p.n ≤ 200 := by omega
  split
  ·exact ⟨by omega, by omega, h3, by omega, fun x hx => by have := hns x hx; omega⟩
  ·have hM : p.n ≤ 200 * ((j : Int) + 1) := by omega
   obtain ⟨k1, k2, k3⟩ := keepTo_fit (q := doneN s) hn.1 (M := 200 * (j : Int)) (by omega) d3
   refine ⟨?_, ?_, by simp, by simp; omega, fun x hx => ?_⟩
   ·show (keepTo (doneN s) p.n).length ≤ _; omega
   ·show signsIn (keepTo (doneN s) p.n) + 0 ≤ _; omega
   ·have := k3 x hx; omega
 ·split
  ·rename_i hk
   refine ⟨by simp; omega, by simp; omega, h3, by simp; omega, fun x hx => by have := hns x hx; omega⟩
  ·have hn : 0 ≤ p.n ∧ p.n ≤ 200 := by omega
   refine ⟨by simp; omega, by simp; omega, by simp; omega, by simp; omega, fun x hx => by have := hns x hx; omega⟩
theorem Fit.start : Fit 0 0 ([], [], 0) := ⟨by simp, by simp [signsIn], by simp, by simp, fun p hp => by simp at hp⟩
theorem foldN_fit {ps : List Pt} (h : okPs ps = true) : ∀ k, k ≤ ps.length → Fit k (signsIn (ps.take k)) (foldN (ps.take k))
 | 0, _ => by simpa [foldN, signsIn] using Fit.start
 | k + 1, hk => by
  obtain ⟨p, hp⟩ := idx_some (l := ps) (i := k) (by omega)
  rw [foldN_snoc hp, signsIn_snoc hp]
  exact (foldN_fit h k (by omega)).step (okPs_at hp h)
theorem drewN_below (w : World) (n : Nat) : Below w.heap.size w (w.drewN n) := ⟨rfl, rfl, rfl, Nat.le_refl _, fun _ _ => rfl⟩
theorem specOpSame_any (A B : Option Addr) (c d : Nat) (ps qs : List Pt) (w : World) (hx : PRow w w.heap.size A ps) (hy : PRow w w.heap.size B qs)
  (hl : ps.length ≤ 4294967296) (hl2 : qs.length ≤ 4294967296) (hs : ∀ p ∈ ps, p.signs.length ≤ 4294967296) (hs2 : ∀ p ∈ qs, p.signs.length ≤ 4294967296) :
  Calls Tryz.prog 99 #[.slice A ps.length c, .slice B qs.length d] w (Tells (samePs ps qs) w) := by
 by_cases hlen : ps.length = qs.length
 ·have HL := Lib.hid hlen
  have hb : ((ps.length : Int) != (qs.length : Int)) = false := by simp [hlen]
  clear hlen
  go_enter Tryz.func99, Tryz.ntmps99
  go_wp2
  go_loopw [14] (fun i wr => ∃ k : Nat, k ≤ ps.length ∧ i = .int .i64 k ∧ samePs (ps.take k) (qs.take k) = true ∧ Below w.heap.size w wr) (fun i _ => ps.length - (intOf i).toNat)
  case atStart => exact ⟨0, Nat.zero_le _, rfl, rfl, Below.refl _ _⟩
  case round =>
   obtain ⟨k, hk, rfl, ht, hbel⟩ := hrel
   have HT := Lib.hid ht
   clear ht
   by_cases hlt : k < ps.length
   ·have hlt2 : k < qs.length := by have := HL.out; omega
    obtain ⟨b1, o1, p, rfl, hb1, hp, hc1⟩ := hx.at_ hlt
    obtain ⟨b2, o2, q, rfl, hb2, hq, hc2⟩ := hy.at_ (k := k) hlt2
    obtain ⟨x0, x1, A1, e1, x2, r1⟩ := hc1.keep (w' := wr) hb1 (fun _ hq => hbel.cell hq)
    have hsp := hs p (List.mem_of_getElem? hp)
    have hsq := hs2 q (List.mem_of_getElem? hq)
    have HP := Lib.hid hp
    have HQ := Lib.hid hq
    clear hp hq hc1
    have bW := alloc_below wr (.cells #[.int .i64 p.kind, .int .i64 p.n, .slice A1 p.signs.length e1] 71)
    have dW := hbel.trans (bW.mono hbel.size)
    obtain ⟨y0, y1, A2, e2, y2, r2⟩ := hc2.keep (w' := wr.alloc (.cells #[.int .i64 p.kind, .int .i64 p.n, .slice A1 p.signs.length e1] 71)) hb2 (fun _ hq => dW.cell hq)
    have rr1 := (r1.more hbel.size).past bW
    have rr2 := r2.more dW.size
    have R1 := Lib.hid rr1
    have R2 := Lib.hid rr2
    clear hc2 r1 r2 rr1 rr2
    by_cases hk : p.kind = q.kind
    ·by_cases hn : p.n = q.n
     ·cases hss : sameB p.signs q.signs
      ·have HS := Lib.hid (show samePt p q = false by unfold samePt; rw [hss]; simp)
       have hkb : (p.kind != q.kind) = false := by simp [hk]
       have hnb : (p.n != q.n) = false := by simp [hn]
       clear hk hn
       go_wp2
       go_quiet ((go_at_call 125; exact Calls.quiet_of (specSignsSame_any A1 A2 e1 e2 p.signs q.signs _ R1.out R2.out hsp hsq)))
       go_wp2
       go_ret
       exact ⟨ret_bool (by rw [samePs_at ps qs k p q HP.out HQ.out HS.out]), dW.trans ((drewN_below _ _).mono dW.size)⟩
      ·have HS := Lib.hid (show samePt p q = true by unfold samePt; rw [hss]; simp [hk, hn])
       have hkb : (p.kind != q.kind) = false := by simp [hk]
       have hnb : (p.n != q.n) = false := by simp [hn]
       clear hk hn
       go_wp2
       go_quiet ((go_at_call 125; exact Calls.quiet_of (specSignsSame_any A1 A2 e1 e2 p.signs q.signs _ R1.out R2.out hsp hsq)))
       go_wp2
       go_roundw
       case rel => exact ⟨k + 1, by omega, by go_num, samePs_snoc ps qs k p q HP.out HQ.out HS.out HT.out, dW.trans ((drewN_below _ _).mono dW.size)⟩
       case measure => simp [intOf]; omega
     ·have HS := Lib.hid (show samePt p q = false by unfold samePt; simp [hn])
      have hkb : (p.kind != q.kind) = false := by simp [hk]
      have hnb : (p.n != q.n) = true := by simp [hn]
      clear hk hn
      go_wp2
      go_quiet (fail)
      go_wp2
      go_ret
      exact ⟨ret_bool (by rw [samePs_at ps qs k p q HP.out HQ.out HS.out]), dW.trans ((drewN_below _ _).mono dW.size)⟩
    ·have HS := Lib.hid (show samePt p q = false by unfold samePt; simp [hk])
     have hkb : (p.kind != q.kind) = true := by simp [hk]
     clear hk
     go_wp2
     go_quiet (fail)
     go_wp2
     go_ret
     exact ⟨ret_bool (by rw [samePs_at ps qs k p q HP.out HQ.out HS.out]), dW.trans ((drewN_below _ _).mono dW.size)⟩
   ·have H := Lib.hid (show samePs ps qs = true by have := HT.out; rwa [List.take_of_length_le (by omega), List.take_of_length_le (by have := HL.out; omega)] at this)
    go_wp2
    go_ret
    exact ⟨ret_bool (by rw [H.out]), hbel⟩
 ·have hb : ((ps.length : Int) != (qs.length : Int)) = true := by simp; omega
  have H := Lib.hid (show samePs ps qs = false by cases h : samePs ps qs; rfl; exact absurd (samePs_len ps qs h) hlen)
  clear hlen
  go_enter Tryz.func99, Tryz.ntmps99
  go_wp2
  go_ret
  exact ⟨ret_bool (by rw [H.out]), Below.refl _ _⟩
theorem BAt.past {lo g : Nat} {T : TypeId} {w w' : World} {ps : List Pt} {put : List Int} {d : Int} (h : BAt lo g T w ps put d) (hb : Below w.heap.size w w') : BAt lo g T w' ps put d := by
 obtain ⟨v, u, us, hx, ha⟩ := h
 exact ⟨v, u, us, ⟨(hb.block g hx.lt).trans hx.box, own_keep hx.row (fun k _ hk2 => hb.block k hk2), hx.len, hx.low⟩, ha.keep hb.size (fun i x k _ _ hk2 => hb.block k hk2)⟩
theorem BAt.new (lo : Nat) (T : TypeId) (w : World) (h : lo ≤ w.heap.size) : BAt lo w.heap.size T (w.alloc (.cells #[.slice none 0 0, .slice none 0 0, .int .i64 0] T)) [] [] 0 :=
 ⟨.slice none 0 0, .slice none 0 0, [], ⟨heap_alloc_new w _, World.ownsRow_nil _ _ _ _, rfl, h⟩, Apart.bare 2 0 ⟨rfl, fun i p u hp _ => by simp at hp, fun i j k u v hu _ _ _ => by simp at hu⟩⟩
theorem specKeep_zero (g : Nat) (w : World) : Calls Tryz.prog 100 #[.pointer (some ⟨g, 0, none⟩), .int .i64 0] w fun e w' => e = .returned (.tuple #[]) ∧ w = w' := by
 go_enter Tryz.func100, Tryz.ntmps100
 go_wp2
 first | go_end0 | (refine bodyPost_ret (results_none rfl _ _ _) rfl ?_)
 exact ⟨rfl, rfl⟩
theorem specOpNorm_any (A : Option Addr) (c : Nat) (ps : List Pt) (w : World) (hr : PRow w w.heap.size A ps) (hl : ps.length ≤ 4294967296) (hls : ∀ p ∈ ps, p.signs.length ≤ 4294967296) (hss : signsIn ps ≤ 1048576) :
  Calls Tryz.prog 81 #[.slice A ps.length c] w (PsPost (normL ps) w) := by
 cases hok : okOp ps
 ·have e1 : normL ps = [] := by simp [normL, hok]
  rw [e1]
  go_enter Tryz.func81, Tryz.ntmps81
  go_wp2_with fail
  refine (specOpOk_any A c ps _ hr hl hls).mono ?_
  rintro e w1 ⟨rfl, b1⟩
  rw [hok] at *
  go_wp2
  go_ret
  refine ⟨_, rfl, ⟨[], World.ownsRow_nil _ _ _ _, ⟨rfl, fun i p u hp _ => by simp at hp, fun i j k u v hu _ _ _ => by simp at hu⟩, fun k hk => by simp [Value.ownBlock] at hk, Nat.le_refl _, b1.size⟩, b1⟩
 ·have e1 : normL ps = doneN (foldN ps) := by simp [normL, hok]
  rw [e1]
  have hpb : partsB ps = true := by
   unfold okOp at hok
   cases h : partsB ps
   ·rw [h] at hok; simp at hok
   ·rfl
  have HPB := Lib.hid (partsB_of hpb)
  clear hpb
  go_enter Tryz.func81, Tryz.ntmps81
  go_wp2_with fail
  refine (specOpOk_any A c ps _ hr hl hls).mono ?_
  rintro e w1 ⟨rfl, b1⟩
  rw [hok] at *
  clear hok
  go_wp2
  have hnew := BAt.new w.heap.size 134 w1 b1.size
  have hbn := b1.trans ((alloc_below w1 (.cells #[.slice none 0 0, .slice none 0 0, .int .i64 0] 134)).mono b1.size)
  have hgl : w.heap.size ≤ w1.heap.size := b1.size
  generalize w1.alloc (.cells #[.slice none 0 0, .slice none 0 0, .int .i64 0] 134) = w2 at *
  generalize w1.heap.size = g at *
  clear b1
  go_loopw [13] (fun i wr => ∃ k : Nat, k ≤ ps.length ∧ i = .int .i64 k ∧ BAt w.heap.size g 134 wr (foldN (ps.take k)).1 (foldN (ps.take k)).2.1 (foldN (ps.take k)).2.2 ∧ Below w.heap.size w wr) (fun i _ => ps.length - (intOf i).toNat)
  case atStart => exact ⟨0, Nat.zero_le _, rfl, hnew, hbn⟩
  case round =>
   obtain ⟨k, hk, rfl, hat, hbel⟩ := hrel
   clear hnew hbn
   have hfit := foldN_fit HPB.out.1 k hk
   have hpl := HPB.out.2
   by_cases hlt : k < ps.length
   ·obtain ⟨b, off, p, rfl, hb, hp, hc⟩ := hr.at_ hlt
    obtain ⟨x0, x1, A1, e1, x2, r1⟩ := hc.keep (w' := wr) hb (fun _ hq => hbel.cell hq)
    have hokp := okPs_at hp HPB.out.1
    have hok := of_okPt hokp
    have hsl := hls p (List.mem_of_getElem? hp)
    have K1 := Lib.hid (foldN_snoc hp)
    have hsg : signsIn (ps.take k) ≤ signsIn ps := signsIn_take ps k
    clear hp hc
    generalize foldN (ps.take k) = st at *
    obtain ⟨qs, put, d⟩ := st
    have hf1 := hfit.len
    have hf2 := hfit.signs
    have hf3 := hfit.d0
    have hf4 := hfit.d1
    have hdn := Lib.hid hfit.done
    simp only at hf1 hf2 hf3 hf4 hat
    obtain ⟨pk, pn, pz⟩ := p
    simp only at x0 x1 x2 hok r1 hsl
    rcases (show pk = 1 ∨ pk = 2 ∨ pk = 3 by omega) with rfl | rfl | rfl
    ·have hn1 : 0 ≤ pn := by omega
     have hn2 : pn ≤ 200 := by omega
     clear hok
     by_cases hz : pn = 0
     ·subst hz
      go_wp2_with fail
      refine (specKeep_zero g _).mono ?_
      rintro e w' ⟨rfl, rfl⟩
      go_wp2
      go_roundw
      case rel => exact ⟨k + 1, by omega, by go_num, by rw [K1.out]; exact hat.past (alloc_below wr _), hbel.trans ((alloc_below wr _).mono hbel.size)⟩
      case measure => simp [intOf]; omega
     ·go_wp2_with fail
      refine (specKeep_any w.heap.size g qs put d pn _ (hat.past (alloc_below wr _)) (by omega) (by omega) hz hn1 (by omega) (fun p hp => by have := hdn.out.2.2 p hp; omega) (by have := hdn.out.1; exact Nat.le_trans this (by omega))).mono ?_
      rintro e w3 ⟨rfl, hn3, b3⟩
      go_wp2
      go_roundw
      case rel => exact ⟨k + 1, by omega, by go_num, by rw [K1.out]; simp only [stepN, if_neg hz]; exact hn3.at_, hbel.trans (((alloc_below wr _).mono hbel.size).trans b3)⟩
      case measure => simp [intOf]; omega
    ·clear hok
     go_wp2_with fail
     refine (specPut_any w.heap.size g qs put d A1 e1 pz _ (hat.past (alloc_below wr _)) (Row.past_alloc (r1.more hbel.size) _) (by omega) (by omega)).mono ?_
     rintro e w3 ⟨rfl, hn3, b3⟩
     go_wp2
     go_roundw
     case rel => exact ⟨k + 1, by omega, by go_num, by rw [K1.out]; exact hn3, hbel.trans (((alloc_below wr _).mono hbel.size).trans b3)⟩
     case measure => simp [intOf]; omega
    ·have hn1 : 0 ≤ pn := by omega
     have hn2 : pn ≤ 200 := by omega
     clear hok
     go_wp2_with fail
     refine (specDrop_any w.heap.size g qs put d pn _ (hat.past (alloc_below wr _)) (by omega) (by omega) (by omega) (by omega)).mono ?_
     rintro e w3 ⟨rfl, hn3, b3⟩
     go_wp2
     go_roundw
     case rel => exact ⟨k + 1, by omega, by go_num, by rw [K1.out]; exact hn3, hbel.trans (((alloc_below wr _).mono hbel.size).trans b3)⟩
     case measure => simp [intOf]; omega
   ·have hke : ps.take k = ps := List.take_of_length_le (by omega)
    rw [hke] at hat hfit
    have hf1 := hfit.len
    have hf2 := hfit.signs
    go_wp2_with fail
    refine (specDone_any w.heap.size g _ _ _ _ hat (by omega) (by omega)).mono ?_
    rintro e w3 ⟨v, rfl, p3, b3⟩
    change PBuf _ _ _ _ (doneN (foldN ps)) at p3
    generalize doneN (foldN ps) = L at *
    obtain ⟨B3, d3, rfl, q3⟩ := p3.slice
    have HP3 := Lib.hid p3
    clear p3
    go_wp2
    go_ret
    exact ⟨_, rfl, HP3.out, hbel.trans b3⟩
theorem normL_fit {ps : List Pt} (hs : signsIn ps ≤ 1048576) : (normL ps).length ≤ 1802 ∧ signsIn (normL ps) ≤ 1048576 := by
 unfold normL
 split
 ·rename_i hok
  have hpb : partsB ps = true := by
   unfold okOp at hok
   cases h : partsB ps
   ·rw [h] at hok; simp at hok
   ·rfl
  obtain ⟨h1, h2⟩ := partsB_of hpb
  have hf := (foldN_fit h1 ps.length (Nat.le_refl _)).done
  rw [List.take_length] at hf
  exact ⟨by have := hf.1; omega, Nat.le_trans hf.2.1 hs⟩
 ·simp [signsIn]
def isNormL (ps : List Pt) : Bool := okOp ps && samePs (normL ps) ps
theorem specIsNorm_any (A : Option Addr) (c : Nat) (ps : List Pt) (w : World) (hr : PRow w w.heap.size A ps) (hl : ps.length ≤ 4294967296) (hls : ∀ p ∈ ps, p.signs.length ≤ 4294967296) (hss : signsIn ps ≤ 1048576) :
  Calls Tryz.prog 79 #[.slice A ps.length c] w (Tells (isNormL ps) w) := by
 obtain ⟨n1, n2⟩ := normL_fit hss
 have hls' : ∀ p ∈ normL ps, p.signs.length ≤ 4294967296 := fun p hp => by
  obtain ⟨i, hi⟩ := List.getElem?_of_mem hp
  have := signsIn_at hi
  omega
 cases hok : okOp ps
 ·have HS := Lib.hid (show isNormL ps = false by unfold isNormL; rw [hok]; rfl)
  go_enter Tryz.func79, Tryz.ntmps79
  go_wp2_with fail
  refine (specOpOk_any A c ps _ hr hl hls).mono ?_
  rintro e w1 ⟨rfl, b1⟩
  rw [hok] at *
  go_wp2
  go_ret
  exact ⟨ret_bool (by rw [HS.out]), b1⟩
 ·have HS := Lib.hid (show isNormL ps = samePs (normL ps) ps by unfold isNormL; rw [hok]; rfl)
  go_enter Tryz.func79, Tryz.ntmps79
  go_wp2_with fail
  refine (specOpOk_any A c ps _ hr hl hls).mono ?_
  rintro e w1 ⟨rfl, b1⟩
  rw [hok] at *
  clear hok
  go_wp2_with fail
  refine (specOpNorm_any A c ps _ (hr.past b1) hl hls hss).mono ?_
  rintro e w2 ⟨v2, rfl, p2, b2⟩
  obtain ⟨B2, d2, rfl, q2⟩ := p2.slice
  have d2' := b1.trans (b2.mono b1.size)
  generalize normL ps = L at *
  go_wp2_with fail
  refine (specOpSame_any B2 A d2 c L ps _ q2 (hr.past d2') (by omega) hl hls' hls).mono ?_
  rintro e w3 ⟨rfl, b3⟩
  go_wp2
  go_ret
  exact ⟨ret_bool (by rw [HS.out]), d2'.trans (b3.mono d2'.size)⟩
def okText (t : List Int) : Bool := allB t && decide (t.length ≤ 200)
def fitsB (ps : List Pt) (t : List Int) : Bool := okOp ps && okText t && decide (sumK ps + sumD ps = (t.length : Int))
def stepA (t : List Int) (s : Nat × List Int) (p : Pt) : Nat × List Int :=
 if p.kind = 1 then (s.1 + p.n.toNat, s.2 ++ (t.drop s.1).take p.n.toNat) else if p.kind = 2 then (s.1, s.2 ++ p.signs) else (s.1 + p.n.toNat, s.2)
def foldA (t : List Int) (ps : List Pt) : Nat × List Int := ps.foldl (stepA t) (0, [])
def applyT (ps : List Pt) (t : List Int) : List Int := if fitsB ps t = true then (foldA t ps).2 else []
theorem foldA_snoc {t : List Int} {ps : List Pt} {k : Nat} {p : Pt} (h : ps[k]? = some p) : foldA t (ps.take (k + 1)) = stepA t (foldA t (ps.take k)) p := by
 unfold foldA
 rw [List.take_add_one, h]
 simp
theorem okPs_mem' {ps : List Pt} (h : okPs ps = true) {p : Pt} (hp : p ∈ ps) : okPt p = true := by unfold okPs at h; exact List.all_eq_true.1 h p hp
theorem foldA_fit {t : List Int} {ps : List Pt} (hok : okPs ps = true) : ∀ k, k ≤ ps.length → ((foldA t (ps.take k)).1 : Int) = sumOf keepOf (ps.take k) + sumOf dropOf (ps.take k) ∧ ((foldA t (ps.take k)).2.length : Int) ≤ sumOf keepOf (ps.take k) + sumOf putOf (ps.take k)
 | 0, _ => by simp [foldA, sumOf]
 | k + 1, hk => by
  obtain ⟨p, hp⟩ := idx_some (l := ps) (i := k) (by omega)
  obtain ⟨i1, i2⟩ := foldA_fit (t := t) hok k (by omega)
  have hp' := of_okPt (okPs_at hp hok)
  rw [foldA_snoc hp, sumOf_snoc hp, sumOf_snoc hp, sumOf_snoc hp]
  generalize foldA t (ps.take k) = s at *
  generalize sumOf keepOf (ps.take k) = q1 at *
  generalize sumOf putOf (ps.take k) = q2 at *
  generalize sumOf dropOf (ps.take k) = q3 at *
  unfold stepA keepOf putOf dropOf
  rcases (show p.kind = 1 ∨ p.kind = 2 ∨ p.kind = 3 by omega) with e | e | e
  ·simp only [e, if_true]
   refine ⟨by simp; omega, ?_⟩
   rw [List.length_append, List.length_take, List.length_drop]
   simp
   omega
  ·simp only [e]
   simp
   omega
  ·simp only [e]
   simp
   omega
theorem sumOf_take {f : Pt → Int} {ps : List Pt} (h : ∀ p ∈ ps, 0 ≤ f p) (k : Nat) : sumOf f (ps.take k) ≤ sumOf f ps := by
 have e : sumOf f ps = sumOf f (ps.take k) + sumOf f (ps.drop k) := by
  unfold sumOf
  rw [← List.sum_append, ← List.map_append, List.take_append_drop]
 have : 0 ≤ sumOf f (ps.drop k) := by
  unfold sumOf
  have hd : ∀ p ∈ ps.drop k, 0 ≤ f p := fun p hp => h p (List.mem_of_mem_drop hp)
  clear e
  generalize ps.drop k = qs at *
  induction qs with
  | nil => simp
  | cons q qs ih =>
   rw [List.map_cons, List.sum_cons]
   have h1 := hd q (by simp)
   have h2 := ih (fun p hp => hd p (by simp [hp]))
   omega
 omega
theorem fits_of {ps : List Pt} {t : List Int} (h : fitsB ps t = true) : okPs ps = true ∧ ps.length ≤ 600 ∧ sumOf keepOf ps + sumOf dropOf ps = (t.length : Int) ∧ sumOf keepOf ps + sumOf putOf ps ≤ 200 ∧ okText t = true ∧ t.length ≤ 200 ∧ okOp ps = true := by
 unfold fitsB at h
 rw [Bool.and_eq_true, Bool.and_eq_true] at h
 obtain ⟨⟨h1, h2⟩, h3⟩ := h
 have h1' := h1
 unfold okOp at h1
 rw [Bool.and_eq_true, Bool.and_eq_true] at h1
 obtain ⟨⟨h4, h5⟩, h6⟩ := h1
 have h7 := partsB_of h4
 obtain ⟨t1, t2, t3⟩ := sum_t h4
 have h3 := of_decide_eq_true h3
 have h6 := of_decide_eq_true h6
 rw [t1, t3] at h3
 rw [t1, t2] at h6
 have h2' := h2
 unfold okText at h2'
 rw [Bool.and_eq_true] at h2'
 exact ⟨h7.1, h7.2, h3, h6, h2, of_decide_eq_true h2'.2, h1'⟩
theorem foldA_in {t : List Int} {ps : List Pt} {k : Nat} {p : Pt} (h : fitsB ps t = true) (hp : ps[k]? = some p) (hk : p.kind = 1 ∨ p.kind = 3) : ((foldA t (ps.take k)).1 : Int) + p.n ≤ (t.length : Int) := by
 obtain ⟨h1, h2, h3, _⟩ := fits_of h
 have hlt := idx_lt hp
 have f := (foldA_fit (t := t) h1 k (by omega)).1
 have a1 := sumOf_take (f := keepOf) (ps := ps) (fun q hq => (ok_bd (okPs_mem' h1 hq)).1.1) (k + 1)
 have a2 := sumOf_take (f := dropOf) (ps := ps) (fun q hq => (ok_bd (okPs_mem' h1 hq)).2.2.1) (k + 1)
 rw [sumOf_snoc hp] at a1 a2
 have : keepOf p + dropOf p = p.n := by
  unfold keepOf dropOf
  rcases hk with e | e <;> simp [e]
 omega
theorem apply_len (ps : List Pt) (t : List Int) : (applyT ps t).length ≤ 200 := by
 unfold applyT
 split
 ·rename_i h
  obtain ⟨h1, h2, h3, h4, _⟩ := fits_of h
  have f := (foldA_fit (t := t) h1 ps.length (Nat.le_refl _)).2
  rw [List.take_length] at f
  omega
 ·simp
theorem apply_small {ps : List Pt} {t : List Int} (h0 : SmP ps) (h1 : SmI t) : SmI (applyT ps t) := by
 have := apply_len ps t
 unfold SmI
 omega
theorem grown_refl (w : World) (r : Option Nat) : w.grownBy w r := ⟨rfl, rfl, rfl, Nat.le_refl _, fun _ _ _ => rfl⟩
theorem wpList_append_ints {w : World} {ops : Array Oper} {rest : List Oper} {o : Oper} {a : Act} {Q : Exit → Act → World → Prop} (hgd : o.guard = none) (s x : Operand)
  (ho : o.op = .call { callee := .builtin .append, args := #[s, x], argTypes := #[22, 22] })
  (base : Nat) (v : Value) (zs : List Int) (hs : a.eval s = v) (hown : w.ownsRow base 3 1 v zs.length (zs.map (Value.int .i64)))
  (A : Option Addr) (m c : Nat) (ys : List Int) (hx : a.eval x = .slice A m c) (hm : ys.length = m) (hr : Row (Value.int .i64) w w.heap.size A ys)
  (h63 : zs.length + m ≤ 1000000000) (hbase : base ≤ w.heap.size)
  (h : ∀ A' c' w', w'.ownsRow base 3 1 (.slice A' (zs.length + m) c') (zs ++ ys).length ((zs ++ ys).map (Value.int .i64)) → w.grownBy w' v.ownBlock → wpList Tryz.prog ops Q rest (a.put o.dst (.slice A' (zs.length + m) c')) w') : wpList Tryz.prog ops Q (o :: rest) a w := by
 obtain ⟨i0, hi0, hz0, hz1, hz2⟩ := info_parts ints_info
 by_cases h0 : 0 < m
 ·obtain ⟨ad, rfl, hbk, hcs⟩ := hr (by omega)
  refine wpList_append_lies _ hgd s x 22 ho base 3 i0 (.int .i64 0) 1 8 Tryz.underlying22 hi0 hz0 hz1 hz2 rfl (by decide) v zs.length (zs.map (Value.int .i64)) hs hown ad m c (ys.map (Value.int .i64)) hx (by simp [hm]) (fun j u hu => ?_) (by simp [Value.oneCell']) h0 (by unfold maxLen; omega) (by omega) hbase w.heap.size rfl ?_
  ·rw [List.getElem?_map] at hu
   obtain ⟨z, hz, rfl⟩ := Option.map_eq_some_iff.1 hu
   exact hcs j z hz
  ·intro g cap w' hown' hg _ _
   exact h _ cap w' (by simpa [hm] using hown') hg
 ·have e0 : ys = [] := List.eq_nil_of_length_eq_zero (by omega)
  subst e0
  obtain rfl : m = 0 := by omega
  refine wpList_append_zero hgd s x 22 ho base 3 i0 1 Tryz.underlying22 hi0 v zs.length (zs.map (Value.int .i64)) hs hown A c hx ?_
  obtain ⟨Av, cv, rfl⟩ := own_form hown
  exact h Av cv w (by simpa using hown) (grown_refl _ _)
theorem grown_cell {w w' : World} {r : Option Nat} {p : Addr} (h : w.grownBy w' r) (hb : p.block < w.heap.size) (hne : ¬ r = some p.block) : w'.cell? p = w.cell? p := World.cell?_of_block (w := w) (h.block p.block hb (fun e => hne e.symm))
theorem box_cell {w w' : World} {base n size : Nat} {v : Value} {e T : TypeId} {xs : List Value} {cs : Array Value} (ho : w.ownsRow base e size v n xs) (h : (w.alloc (.cells cs T)).grownBy w' v.ownBlock) (i : Nat) : w'.cell? ⟨w.heap.size, i, none⟩ = cs[i]? := by
 rw [grown_cell h (by simp) (fun e => by have := own_in ho e; simp at this)]
 exact cell_of_row _ _ i _ _ _ (heap_alloc_new w _)
theorem Row.piece {w : World} {B : Nat} {ad : Addr} {zs : List Int} (h : Row (Value.int .i64) w B (some ad) zs) (at_ m : Nat) (hl : at_ + m ≤ zs.length) : Row (Value.int .i64) w B (some (ad.add at_)) ((zs.drop at_).take m) := fun hn => by
 have hlen : ((zs.drop at_).take m).length = m := by rw [List.length_take, List.length_drop]; omega
 obtain ⟨ad', e, hb, hc⟩ := h (by omega)
 injection e with e
 subst e
 refine ⟨_, rfl, by rw [block_of_add]; exact hb, fun k z hz => ?_⟩
 have hk : k < m := by have := idx_lt hz; omega
 rw [List.getElem?_take, if_pos hk, List.getElem?_drop] at hz
 have := hc (at_ + k) z hz
 rwa [show ∀ (p : Addr) (i j : Nat), (p.add i).add j = p.add (i + j) from fun p i j => by
  unfold Addr.add
  by_cases hi : i = 0
  ·subst hi; simp
  ·by_cases hj : j = 0
   ·subst hj; simp [hi]
   ·simp [hi, hj, Nat.add_assoc]]
theorem piece_len {zs : List Int} {at_ m : Nat} (hl : at_ + m ≤ zs.length) : ((zs.drop at_).take m).length = m := by rw [List.length_take, List.length_drop]; omega
theorem specTextOk_d (v : Value) (t : List Int) (w : World) (h : RdC w w.heap.size (encInts t) v) (hs : SmI t) : Calls Tryz.prog 56 #[v] w (Tells (okText t) w) := by
 obtain ⟨A, c, rfl, hr, _⟩ := ints_rd h
 have hl : t.length ≤ 1048576 := hs
 cases ha : allB t
 ·have HS := Lib.hid (show okText t = false by unfold okText; rw [ha]; rfl)
  go_enter Tryz.func56, Tryz.ntmps56
  go_wp2_with fail
  refine (specSignsOk_any A c t _ hr (by omega)).mono ?_
  rintro e w1 ⟨rfl, rfl⟩
  rw [ha]
  go_wp2
  go_ret
  exact ⟨ret_bool (by rw [HS.out]), Below.refl _ _⟩
 ·have HS := Lib.hid (show okText t = decide ((t.length : Int) ≤ 200) by unfold okText; rw [ha, Bool.true_and]; congr 1; apply propext; omega)
  go_enter Tryz.func56, Tryz.ntmps56
  go_wp2_with fail
  refine (specSignsOk_any A c t _ hr (by omega)).mono ?_
  rintro e w1 ⟨rfl, rfl⟩
  rw [ha]
  go_wp2
  go_ret
  exact ⟨ret_bool (by rw [HS.out]), Below.refl _ _⟩
theorem SmP.all4 {ps : List Pt} (h : SmP ps) : ∀ p ∈ ps, p.signs.length ≤ 4294967296 := fun p hp => Nat.le_trans (h.all p hp) (by omega)
theorem specFits_d (v v' : Value) (ps : List Pt) (t : List Int) (w : World) (h : RdC w w.heap.size (encPs ps) v) (h' : RdC w w.heap.size (encInts t) v') (hs : SmP ps) (hs' : SmI t) : Calls Tryz.prog 63 #[v, v'] w (Tells (fitsB ps t) w) := by
 obtain ⟨A, c, rfl, hr, _⟩ := parts_rd h
 obtain ⟨A', c', rfl, hr', _⟩ := ints_rd h'
 have hl := hs.1
 cases ho : okOp ps
 ·have HS := Lib.hid (show fitsB ps t = false by unfold fitsB; rw [ho]; rfl)
  go_enter Tryz.func63, Tryz.ntmps63
  go_wp2_with fail
  refine (specOpOk_any A c ps _ hr (by omega) hs.all4).mono ?_
  rintro e w1 ⟨rfl, b1⟩
  rw [ho]
  go_wp2
  go_ret
  exact ⟨ret_bool (by rw [HS.out]), b1⟩
 ·cases ht : okText t
  ·have HS := Lib.hid (show fitsB ps t = false by unfold fitsB; rw [ho, ht]; rfl)
   go_enter Tryz.func63, Tryz.ntmps63
   go_wp2_with fail
   refine (specOpOk_any A c ps _ hr (by omega) hs.all4).mono ?_
   rintro e w1 ⟨rfl, b1⟩
   rw [ho]
   go_wp2_with fail
   refine (specTextOk_d _ t _ (h'.past b1) hs').mono ?_
   rintro e w2 ⟨rfl, b2⟩
   rw [ht]
   go_wp2
   go_ret
   exact ⟨ret_bool (by rw [HS.out]), b1.trans (b2.mono b1.size)⟩
  ·have HS := Lib.hid (show fitsB ps t = (sumK ps + sumD ps == (t.length : Int)) by unfold fitsB; rw [ho, ht, Bool.true_and]; cases hq : (sumK ps + sumD ps == (t.length : Int)) <;> simp_all)
   go_enter Tryz.func63, Tryz.ntmps63
   go_wp2_with fail
   refine (specOpOk_any A c ps _ hr (by omega) hs.all4).mono ?_
   rintro e w1 ⟨rfl, b1⟩
   rw [ho]
   go_wp2_with fail
   refine (specTextOk_d _ t _ (h'.past b1) hs').mono ?_
   rintro e w2 ⟨rfl, b2⟩
   rw [ht]
   have d2 := b1.trans (b2.mono b1.size)
   go_wp2_with fail
   refine (specOpFrom_any A c ps _ (hr.past d2) (by omega) hs.all4).mono ?_
   rintro e w3 ⟨rfl, b3⟩
   generalize sumK ps + sumD ps = q at *
   go_wp2
   go_ret
   exact ⟨ret_bool (by rw [HS.out]), d2.trans (b3.mono d2.size)⟩
theorem specApply_d (v v' : Value) (ps : List Pt) (t : List Int) (w : World) (h : RdC w w.heap.size (encPs ps) v) (h' : RdC w w.heap.size (encInts t) v') (hs : SmP ps) (hs' : SmI t) : Calls Tryz.prog 35 #[v, v'] w (ResB (encInts (applyT ps t)) (fitsB ps t) w) := by
 obtain ⟨A, c, rfl, hr, _⟩ := parts_rd h
 obtain ⟨A', c', rfl, hr', hcap⟩ := ints_rd h'
 obtain ⟨i0, hi0, hz0, hz1, hz2⟩ := info_parts ints_info
 cases hf : fitsB ps t
 ·have e1 : applyT ps t = [] := by simp [applyT, hf]
  rw [e1]
  go_enter Tryz.func35, Tryz.ntmps35
  go_wp2_with fail
  refine (specFits_d _ _ ps t _ h h' hs hs').mono ?_
  rintro e w1 ⟨rfl, b1⟩
  rw [hf]
  go_wp2
  go_ret2
  exact ⟨_, rfl, ⟨[], ⟨[], [], World.ownsRow_nil _ _ _ _, ⟨rfl, rfl⟩, rfl⟩, by simp, fun b hb => by simp at hb, Nat.le_refl _, b1.size⟩, b1⟩
 ·have e1 : applyT ps t = (foldA t ps).2 := by simp [applyT, hf]
  rw [e1]
  have HF := Lib.hid hf
  have HFO := Lib.hid (fits_of hf)
  have hl := HFO.out.2.1
  have ht := HFO.out.2.2.2.2.2.1
  go_enter Tryz.func35, Tryz.ntmps35
  go_wp2_with fail
  refine (specFits_d _ _ ps t _ h h' hs hs').mono ?_
  rintro e w1 ⟨rfl, b1⟩
  rw [hf]
  clear hf e1
  go_wp2
  have hbn := b1.trans ((alloc_below w1 (.cells #[] 3)).mono b1.size)
  have hib : (w1.alloc (.cells #[] 3)).ownsRow w.heap.size 3 1 (.slice (some ⟨w1.heap.size, 0, none⟩) 0 0) 0 [] := ⟨rfl, .inr ⟨w1.heap.size, 0, #[], rfl, b1.size, heap_alloc_new w1 _, Nat.le_refl _, by unfold maxLen; omega, rfl, rfl⟩⟩
  generalize w1.alloc (.cells #[] 3) = w2 at *
  generalize (Value.slice (some ⟨w1.heap.size, 0, none⟩) 0 0) = v0 at *
  clear b1
  go_loopw [6, 7, 17] (fun o a i wr => ∃ k : Nat, k ≤ ps.length ∧ i = .int .i64 k ∧ a = .int .i64 ((foldA t (ps.take k)).1 : Int) ∧ wr.ownsRow w.heap.size 3 1 o (foldA t (ps.take k)).2.length ((foldA t (ps.take k)).2.map (Value.int .i64)) ∧ Below w.heap.size w wr) (fun _ _ i _ => ps.length - (intOf i).toNat)
  case atStart => exact ⟨0, Nat.zero_le _, rfl, rfl, hib, hbn⟩
  case round =>
   obtain ⟨k, hk, rfl, rfl, ho, hbel⟩ := hrel
   clear hib hbn
   have hfit := Lib.hid (foldA_fit (t := t) HFO.out.1 k hk)
   obtain ⟨Ao, co, rfl⟩ := own_form ho
   by_cases hlt : k < ps.length
   ·obtain ⟨b, off, p, rfl, hb, hp, hc⟩ := hr.at_ hlt
    obtain ⟨x0, x1, A1, e1, x2, r1⟩ := hc.keep (w' := wr) hb (fun _ hq => hbel.cell hq)
    have hokp := okPs_at hp HFO.out.1
    have hok := of_okPt hokp
    have K1 := Lib.hid (foldA_snoc (t := t) hp)
    have hin := foldA_in HF.out hp
    have hsl := hs.all p (List.mem_of_getElem? hp)
    clear hp hc
    have hlen : (foldA t (ps.take k)).2.length ≤ 200 ∧ (foldA t (ps.take k)).1 ≤ 200 := by
     have f := hfit.out
     have a1 := sumOf_take (f := keepOf) (ps := ps) (fun q hq => (ok_bd (okPs_mem' HFO.out.1 hq)).1.1) k
     have a2 := sumOf_take (f := putOf) (ps := ps) (fun q hq => (ok_bd (okPs_mem' HFO.out.1 hq)).2.1.1) k
     have a3 := sumOf_take (f := dropOf) (ps := ps) (fun q hq => (ok_bd (okPs_mem' HFO.out.1 hq)).2.2.1) k
     have g1 := HFO.out.2.2.1
     have g2 := HFO.out.2.2.2.1
     omega
    generalize foldA t (ps.take k) = st at *
    obtain ⟨at_, out⟩ := st
    obtain ⟨pk, pn, pz⟩ := p
    simp only at x0 x1 x2 hok r1 hin ho hlen
    obtain ⟨hlen, hat⟩ := hlen
    have HO := Lib.hid ho
    clear ho
    rcases (show pk = 1 ∨ pk = 2 ∨ pk = 3 by omega) with rfl | rfl | rfl
    ·have hn1 : 0 ≤ pn := by omega
     have hn2 : pn ≤ 200 := by omega
     have hin' := hin (.inl rfl)
     clear hok hin
     obtain ⟨m, rfl⟩ := Int.eq_ofNat_of_zero_le hn1
     have hb0 := hbel.trans ((alloc_below wr (.cells #[.int .i64 1, .int .i64 (m : Int), .slice A1 pz.length e1] 71)).mono hbel.size)
     have hrow := HO.out.alloc (.cells #[.int .i64 1, .int .i64 (m : Int), .slice A1 pz.length e1] 71)
     have HRW := Lib.hid hrow
     clear hrow
     cases A' with
     | none =>
      have ht0 : t.length = 0 := by
       rcases Nat.eq_zero_or_pos t.length with h | h
       ·exact h
       ·obtain ⟨_, hn, _⟩ := hr' h
        cases hn
      obtain rfl : m = 0 := by omega
      obtain rfl : at_ = 0 := by omega
      go_wp2_with (at_builtin; refine wpList_append_ints rfl (.tmp 29) (.tmp 36) rfl w.heap.size (.slice Ao out.length co) out rfl HRW.out none _ _ [] rfl rfl Row.nil (by omega) hb0.size ?_; intro An cn wn hon hgn; have hcx : wn.cell? ⟨wr.heap.size, 1, none⟩ = some (.int .i64 ((0 : Nat) : Int)) := box_cell HO.out hgn 1)
      go_roundw
      case rel => exact ⟨_, _, _, _, ⟨k + 1, by omega, by go_num, by rw [K1.out]; rfl, by rw [K1.out]; simpa [stepA] using hon, hb0.grown hgn hb0.size (fun q hq => own_ge HO.out q hq)⟩, rfl, rfl, rfl, rfl⟩
      case measure => simp [intOf]; omega
     | some ad =>
      by_cases hac : at_ = c'
      ·obtain rfl : m = 0 := by omega
       subst hac
       go_wp2_with (at_builtin; refine wpList_append_ints rfl (.tmp 29) (.tmp 36) rfl w.heap.size (.slice Ao out.length co) out rfl HRW.out (some ad) 0 _ [] rfl rfl Row.nil (by omega) hb0.size ?_; intro An cn wn hon hgn; have hcx : wn.cell? ⟨wr.heap.size, 1, none⟩ = some (.int .i64 ((0 : Nat) : Int)) := box_cell HO.out hgn 1)
       go_roundw
       case rel => exact ⟨k + 1, by omega, by go_num, by rw [K1.out]; rfl, by rw [K1.out]; simpa [stepA] using hon, hb0.grown hgn hb0.size (fun q hq => own_ge HO.out q hq)⟩
       case measure => simp [intOf]; omega
      ·have hpc := Lib.hid ((hr'.past hb0).piece at_ m (by omega))
       go_wp2_with (at_builtin; refine wpList_append_ints rfl (.tmp 29) (.tmp 36) rfl w.heap.size (.slice Ao out.length co) out rfl HRW.out (some (ad.add at_)) _ _ ((t.drop at_).take m) rfl (by rw [piece_len (by omega)]; omega) hpc.out (by omega) hb0.size ?_; intro An cn wn hon hgn; have hcx : wn.cell? ⟨wr.heap.size, 1, none⟩ = some (.int .i64 (m : Int)) := box_cell HO.out hgn 1)
       go_roundw
       case rel => exact ⟨k + 1, by omega, by go_num, by rw [K1.out]; rfl, by rw [K1.out]; simpa [stepA, List.length_take, List.length_drop, Nat.min_eq_left (show m ≤ t.length - at_ by omega)] using hon, hb0.grown hgn hb0.size (fun q hq => own_ge HO.out q hq)⟩
       case measure => simp [intOf]; omega
    ·have hn3 : pz.length ≤ 200 := by omega
     clear hok hin
     have hb0 := hbel.trans ((alloc_below wr (.cells #[.int .i64 2, .int .i64 pn, .slice A1 pz.length e1] 71)).mono hbel.size)
     have HRW := Lib.hid (HO.out.alloc (.cells #[.int .i64 2, .int .i64 pn, .slice A1 pz.length e1] 71))
     have hpc := Lib.hid (Row.past_alloc (r1.more hbel.size) (.cells #[.int .i64 2, .int .i64 pn, .slice A1 pz.length e1] 71))
     clear r1
     go_wp2_with (at_builtin; refine wpList_append_ints rfl (.tmp 44) (.tmp 46) rfl w.heap.size (.slice Ao out.length co) out rfl HRW.out A1 pz.length _ pz rfl rfl hpc.out (by omega) hb0.size ?_; intro An cn wn hon hgn)
     go_roundw
     case rel => exact ⟨k + 1, by omega, by go_num, by rw [K1.out]; rfl, by rw [K1.out]; simpa [stepA] using hon, hb0.grown hgn hb0.size (fun q hq => own_ge HO.out q hq)⟩
     case measure => simp [intOf]; omega
    ·have hn1 : 0 ≤ pn := by omega
     have hn2 : pn ≤ 200 := by omega
     clear hok hin
     obtain ⟨m, rfl⟩ := Int.eq_ofNat_of_zero_le hn1
     go_wp2
     go_roundw
     case rel => exact ⟨k + 1, by omega, by go_num, by rw [K1.out]; rfl, by rw [K1.out]; exact HO.out.alloc _, hbel.trans ((alloc_below wr _).mono hbel.size)⟩
     case measure => simp [intOf]; omega
   ·have hke : ps.take k = ps := List.take_of_length_le (by omega)
    rw [hke] at ho ⊢
    generalize (foldA t ps).2 = out at *
    have HO := Lib.hid ho
    clear ho
    go_wp2
    go_ret2
    exact ⟨_, rfl, ⟨_, ow_ints HO.out, by cases Ao <;> simp [Value.ownBlock], fun b hb => by
     have hb' : (Value.slice Ao out.length co).ownBlock = some b := by simpa using hb
     exact ⟨own_ge HO.out b hb', own_in HO.out hb'⟩, Nat.le_refl _, hbel.size⟩, hbel⟩
def szP_ (p : Pt) : Prop := (p.kind = 1 ∨ p.kind = 2 ∨ p.kind = 3) ∧ 0 ≤ p.n ∧ p.n ≤ 200 ∧ p.signs.length ≤ 200
theorem szP_of {p : Pt} (h : okPt p = true) : szP_ p := by
 have := of_okPt h
 unfold szP_
 omega
theorem Fit.stepZ {j m : Nat} {s : List Pt × List Int × Int} {p : Pt} (h : Fit j m s) (hp : szP_ p) : Fit (j + 1) (m + p.signs.length) (stepN s p) := by
 unfold szP_ at hp
 obtain ⟨d1, d2, d3⟩ := h.done
 have h1 := h.len
 have h2 := h.signs
 have h3 := h.d0
 have h4 := h.d1
 have hns := h.ns
 unfold stepN
 split
 ·rename_i hk
  have hn : 0 ≤ p.n ∧ p.n ≤ 200 := by omega
  split
  ·exact ⟨by omega, by omega, h3, by omega, fun x hx => by have := hns x hx; omega⟩
  ·obtain ⟨k1, k2, k3⟩ := keepTo_fit (q := doneN s) hn.1 (M := 200 * (j : Int)) (by omega) d3
   refine ⟨?_, ?_, by simp, by simp; omega, fun x hx => ?_⟩
   ·show (keepTo (doneN s) p.n).length ≤ _; omega
   ·show signsIn (keepTo (doneN s) p.n) + 0 ≤ _; omega
   ·have := k3 x hx; omega
 ·split
  ·refine ⟨by simp; omega, by simp; omega, h3, by simp; omega, fun x hx => by have := hns x hx; omega⟩
  ·refine ⟨by simp; omega, by simp; omega, by simp; omega, by simp; omega, fun x hx => by have := hns x hx; omega⟩
theorem foldN_app (L : List Pt) (p : Pt) : foldN (L ++ [p]) = stepN (foldN L) p := by unfold foldN; simp
theorem foldN_fitZ {L : List Pt} (h : ∀ p ∈ L, szP_ p) : Fit L.length (signsIn L) (foldN L) := by
 have key : ∀ k, k ≤ L.length → Fit k (signsIn (L.take k)) (foldN (L.take k)) := by
  intro k
  induction k with
  | zero => intro _; simpa [foldN, signsIn] using Fit.start
  | succ k ih =>
   intro hk
   obtain ⟨p, hp⟩ := idx_some (l := L) (i := k) (by omega)
   rw [foldN_snoc hp, signsIn_snoc hp]
   exact (ih (by omega)).stepZ (h p (List.mem_of_getElem? hp))
 have := key L.length (Nat.le_refl _)
 rwa [List.take_length] at this
theorem OwnS.mono {S S' : Nat → Prop} {g : Nat} {v : Value} {us : List Value} (h : OwnS S g v us) (hs : ∀ b, S b → S' b) : OwnS S' g v us := ⟨hs _ h.1, fun k hk => hs k (h.2.1 k hk), fun i k x hx hk => hs k (h.2.2 i k x hx hk)⟩
theorem BAtS.mono {S S' : Nat → Prop} {lo g : Nat} {T : TypeId} {w : World} {ps : List Pt} {put : List Int} {d : Int} (h : BAtS S lo g T w ps put d) (hs : ∀ b, S b → S' b) : BAtS S' lo g T w ps put d := by
 obtain ⟨v, u, us, hx, ha, ho⟩ := h
 exact ⟨v, u, us, hx, ha, ho.mono hs⟩
theorem BAtS.shrink {S : Nat → Prop} {lo g : Nat} {T : TypeId} {w : World} {ps : List Pt} {put : List Int} {d : Int} (h : BAtS S lo g T w ps put d) : BAtS (fun b => S b ∧ b < w.heap.size) lo g T w ps put d := by
 obtain ⟨v, u, us, hx, ha, ho⟩ := h
 refine ⟨v, u, us, hx, ha, ⟨ho.1, hx.lt⟩, fun k hk => ⟨ho.2.1 k hk, own_in hx.row hk⟩, fun i k x hxi hk => ⟨ho.2.2 i k x hxi hk, ?_⟩⟩
 obtain ⟨q, hq⟩ := idx_some (l := ps ++ [⟨2, 0, put⟩]) (i := i) (by rw [← ha.1]; exact idx_lt hxi)
 exact own_in (ha.2.1 i q x hq hxi).1 hk
theorem BAtS.keep {S : Nat → Prop} {lo g : Nat} {T : TypeId} {w w' : World} {ps : List Pt} {put : List Int} {d : Int} (h : BAtS S lo g T w ps put d) (hsz : w.heap.size ≤ w'.heap.size) (hk : ∀ b, b < w.heap.size → S b → w'.heap[b]? = w.heap[b]?) : BAtS S lo g T w' ps put d := by
 obtain ⟨v, u, us, hx, ha, ho⟩ := h
 exact ⟨v, u, us, ⟨(hk g hx.lt ho.1).trans hx.box, own_keep hx.row (fun k h1 h2 => hk k h2 (ho.2.1 k h1)), hx.len, hx.low⟩, ha.keep hsz (fun i x k hxi h1 h2 => hk k h2 (ho.2.2 i k x hxi h1)), ho⟩
structure Bld (O : Nat → Prop) (lo g : Nat) (T : TypeId) (w : World) (L : List Pt) : Prop where
 at_ : BAtS O lo g T w (foldN L).1 (foldN L).2.1 (foldN L).2.2
 sz : ∀ p ∈ L, szP_ p
 len : L.length ≤ 100000
 old : ∀ b, O b → b < w.heap.size
structure Grew (O O' : Nat → Prop) (w w' : World) : Prop where
 size : w.heap.size ≤ w'.heap.size
 block : ∀ b, b < w.heap.size → ¬ O b → w'.heap[b]? = w.heap[b]?
 more : ∀ b, O' b → O b ∨ w.heap.size ≤ b
def BldP (O : Nat → Prop) (lo g : Nat) (T : TypeId) (L : List Pt) (w : World) (e : Ending) (w' : World) : Prop := e = .returned (.tuple #[]) ∧ ∃ O', Bld O' lo g T w' L ∧ Below lo w w' ∧ Grew O O' w w'
theorem signsIn_le {L : List Pt} (h : ∀ p ∈ L, szP_ p) : signsIn L ≤ 200 * L.length := by
 induction L with
 | nil => simp [signsIn]
 | cons p L ih =>
  have h1 := (h p (by simp)).2.2.2
  have h2 := ih (fun q hq => h q (by simp [hq]))
  have e : signsIn (p :: L) = p.signs.length + signsIn L := by simp [signsIn]
  rw [e, List.length_cons]
  omega
theorem Bld.fit {O : Nat → Prop} {lo g : Nat} {T : TypeId} {w : World} {L : List Pt} (h : Bld O lo g T w L) : Fit L.length (signsIn L) (foldN L) := foldN_fitZ h.sz
theorem Bld.keep {O : Nat → Prop} {lo g : Nat} {T : TypeId} {w w' : World} {L : List Pt} (h : Bld O lo g T w L) (hsz : w.heap.size ≤ w'.heap.size) (hk : ∀ b, b < w.heap.size → O b → w'.heap[b]? = w.heap[b]?) : Bld O lo g T w' L := ⟨h.at_.keep hsz hk, h.sz, h.len, fun b hb => Nat.lt_of_lt_of_le (h.old b hb) hsz⟩
theorem Bld.past {O : Nat → Prop} {lo g : Nat} {T : TypeId} {w w' : World} {L : List Pt} (h : Bld O lo g T w L) (hb : Below w.heap.size w w') : Bld O lo g T w' L := h.keep hb.size (fun b hlt _ => hb.block b hlt)
theorem Bld.apart {O P P' : Nat → Prop} {lo g : Nat} {T : TypeId} {w w' : World} {L : List Pt} (h : Bld O lo g T w L) (hg : Grew P P' w w') (hd : ∀ b, O b → ¬ P b) : Bld O lo g T w' L ∧ ∀ b, O b → ¬ P' b :=
 ⟨h.keep hg.size (fun b hlt ho => hg.block b hlt (hd b ho)), fun b ho hp => by
  rcases hg.more b hp with h1 | h1
  ·exact hd b ho h1
  ·have := h.old b ho; omega⟩
theorem Bld.new (lo : Nat) (T : TypeId) (w : World) (h : lo ≤ w.heap.size) : Bld (fun b => b = w.heap.size) lo w.heap.size T (w.alloc (.cells #[.slice none 0 0, .slice none 0 0, .int .i64 0] T)) [] :=
 ⟨show BAtS (fun b => b = w.heap.size) lo w.heap.size T (w.alloc (.cells #[.slice none 0 0, .slice none 0 0, .int .i64 0] T)) [] [] 0 from ⟨.slice none 0 0, .slice none 0 0, [], ⟨heap_alloc_new w _, World.ownsRow_nil _ _ _ _, rfl, h⟩, Apart.bare 2 0 ⟨rfl, fun i p u hp _ => by simp at hp, fun i j k u v hu _ _ _ => by simp at hu⟩, rfl, fun k hk => by simp [Value.ownBlock] at hk, fun i k x hx hk => by
   cases i with
   | zero => simp at hx; subst hx; simp [Value.ownBlock] at hk
   | succ i => simp at hx⟩, fun p hp => by simp at hp, by simp, fun b hb => by
   have hb' : b = w.heap.size := hb
   rw [hb']
   exact lt_of_some (heap_alloc_new w _)⟩
theorem Bld.low {O : Nat → Prop} {lo g : Nat} {T : TypeId} {w : World} {L : List Pt} (h : Bld O lo g T w L) : lo ≤ w.heap.size := by
 obtain ⟨v, u, us, hx, _⟩ := h.at_
 exact Nat.le_trans hx.low (Nat.le_of_lt hx.lt)
theorem Bld.add {O : Nat → Prop} {lo g : Nat} {T : TypeId} {w w' : World} {L : List Pt} {p : Pt} (h : Bld O lo g T w L) (hl : L.length < 100000) (hp : szP_ p) (hb : Below lo w w') (hf : Fr (fun b => O b ∨ w.heap.size ≤ b) w w') (ha : BAtS (fun b => O b ∨ w.heap.size ≤ b) lo g T w' (stepN (foldN L) p).1 (stepN (foldN L) p).2.1 (stepN (foldN L) p).2.2) : ∃ O', Bld O' lo g T w' (L ++ [p]) ∧ Below lo w w' ∧ Grew O O' w w' :=
 ⟨fun b => (O b ∨ w.heap.size ≤ b) ∧ b < w'.heap.size, ⟨by rw [foldN_app]; exact ha.shrink, fun q hq => by rcases List.mem_append.1 hq with hq | hq; exact h.sz q hq; simp at hq; subst hq; exact hp, by simp; omega, fun b hb => hb.2⟩, hb, hf.size, fun b hlt ho => hf.block b hlt (fun hs => by rcases hs with hs | hs; exact ho hs; omega), fun b hb => hb.1⟩
theorem OwB.grew {O O' : Nat → Prop} {lo hi : Nat} {w w' : World} {d : Dat} {v : Value} {b : List Nat} (h : OwB lo hi w d v b) (hg : Grew O O' w w') (hO : ∀ x, O x → x < lo ∨ hi ≤ x) : OwB lo hi w' d v b :=
 ⟨OwC.keep d v b h.ow (fun x hx => hg.block x (OwC.lt d v b h.ow x hx) (fun ho => by have := h.rng x hx; have := hO x ho; omega)), h.nd, h.rng, Nat.le_trans h.top hg.size, h.le⟩
theorem Grew.out {O O' : Nat → Prop} {lo hi : Nat} {w w' : World} (hg : Grew O O' w w') (hO : ∀ x, O x → x < lo ∨ hi ≤ x) (hh : hi ≤ w.heap.size) : ∀ x, O' x → x < lo ∨ hi ≤ x := fun x hx => by
 rcases hg.more x hx with h | h
 ·exact hO x h
 ·exact .inr (Nat.le_trans hh h)
def DoneP (O : Nat → Prop) (lo : Nat) (L : List Pt) (w : World) (e : Ending) (w' : World) : Prop := ∃ v b, e = .returned v ∧ OwB lo w'.heap.size w' (encPs (doneN (foldN L))) v b ∧ (∀ x ∈ b, O x ∨ w.heap.size ≤ x) ∧ Below lo w w' ∧ Grew O (fun x => x ∈ b) w w'
theorem GoneS.done {O : Nat → Prop} {lo : Nat} {L : List Pt} {w w' : World} {e : Ending} (h : GoneS (fun b => O b ∨ w.heap.size ≤ b) lo (doneN (foldN L)) w e w') : DoneP O lo L w e w' := by
 obtain ⟨v, us, e1, p, b, fr, ho, hl, hv, hu⟩ := h
 have hp := p
 obtain ⟨us', ho', ha', _⟩ := p
 obtain ⟨bs, oc, nd, rng, top, le⟩ := own_parts hp
 have heq : ∀ x ∈ bs, O x ∨ w.heap.size ≤ x := fun x hx => by
  obtain ⟨xs, cs, hox, hor, hb⟩ := oc
  rw [hb] at hx
  rcases List.mem_append.1 hx with hx | hx
  ·exact hv x (by simpa using hx)
  ·obtain ⟨us2, k1, k2, k3, k4⟩ := owR_parts hor
   rw [k3] at hx
   obtain ⟨i, u, hui, hk⟩ := mem_blks.1 hx
   have e2 : cellsOf (doneN (foldN L)) us2 = cellsOf (doneN (foldN L)) us := by
    rw [← k2]
    rcases ho.2 with ⟨rfl, h0⟩ | ⟨g, cap, cur, rfl, _, hh, _, _, _, ht⟩
    ·have : doneN (foldN L) = [] := List.eq_nil_of_length_eq_zero h0
     have l1 := hox.1
     have l2 := ho.1
     rw [this] at l1 l2 ⊢
     simp at l1
     rw [l1]
     rfl
    ·rcases hox.2 with ⟨hn, _⟩ | ⟨g', cap', cur', hv', _, hh', _, _, _, ht'⟩
     ·cases hn
     ·injection hv' with q1 q2 q3
      injection q1 with q1
      injection q1 with q1
      subst q1
      rw [hh] at hh'
      injection hh' with hh'
      injection hh' with hc _ _
      subst hc
      rw [← ht', ← ht]
      simp
   have e3 : us2[i]? = us[i]? := by
    obtain ⟨q, hq⟩ := idx_some (l := doneN (foldN L)) (i := i) (by rw [← k1]; exact idx_lt hui)
    obtain ⟨u2, hu2⟩ := idx_some (l := us) (i := i) (by rw [hl, ← k1]; exact idx_lt hui)
    have a1 := (cellsOf_at _ us2 i q u hq hui).2.2
    have a2 := (cellsOf_at _ us i q u2 hq hu2).2.2
    rw [e2, a2] at a1
    rw [hui, hu2]
    exact a1.symm
   exact hu i x u (by rw [← e3]; exact hui) hk
 exact ⟨v, bs, e1, ⟨oc, nd, rng, top, le⟩, heq, b, fr.size, fun x hlt ho => fr.block x hlt (fun hs => by rcases hs with hs | hs; exact ho hs; omega), heq⟩
theorem sumOf_app {f : Pt → Int} (a b : List Pt) : sumOf f (a ++ b) = sumOf f a + sumOf f b := by unfold sumOf; simp
theorem sumOf_cons {f : Pt → Int} (p : Pt) (a : List Pt) : sumOf f (p :: a) = f p + sumOf f a := by unfold sumOf; simp
theorem sumOf_nil {f : Pt → Int} : sumOf f [] = 0 := rfl
theorem sum_done (s : List Pt × List Int × Int) (h : 0 ≤ s.2.2) : sumOf keepOf (doneN s) = sumOf keepOf s.1 ∧ sumOf putOf (doneN s) = sumOf putOf s.1 + (s.2.1.length : Int) ∧ sumOf dropOf (doneN s) = sumOf dropOf s.1 + s.2.2 := by
 unfold doneN putL dropL
 split <;> split <;> simp [sumOf_app, sumOf_cons, sumOf_nil, keepOf, putOf, dropOf] <;> omega
theorem sum_keepTo (q : List Pt) (n : Int) : sumOf keepOf (keepTo q n) = sumOf keepOf q + n ∧ sumOf putOf (keepTo q n) = sumOf putOf q ∧ sumOf dropOf (keepTo q n) = sumOf dropOf q := by
 rcases q.eq_nil_or_concat with rfl | ⟨r, p, rfl⟩
 ·rw [keepTo_nil]
  simp [sumOf_cons, sumOf_nil, keepOf, putOf, dropOf]
 ·rw [List.concat_eq_append]
  by_cases hk : p.kind = 1
  ·rw [keepTo_t n hk]
   simp [sumOf_app, sumOf_cons, sumOf_nil, keepOf, putOf, dropOf, hk]
   omega
  ·rw [keepTo_f n hk]
   simp [sumOf_app, sumOf_cons, sumOf_nil, keepOf, putOf, dropOf]
   omega
theorem sum_step {s : List Pt × List Int × Int} {p : Pt} (h : 0 ≤ s.2.2) (hp : szP_ p) : 0 ≤ (stepN s p).2.2 ∧ sumOf keepOf (doneN (stepN s p)) = sumOf keepOf (doneN s) + keepOf p ∧ sumOf putOf (doneN (stepN s p)) = sumOf putOf (doneN s) + putOf p ∧ sumOf dropOf (doneN (stepN s p)) = sumOf dropOf (doneN s) + dropOf p := by
 obtain ⟨hk, hn0, hn1, hz⟩ := hp
 rcases hk with e | e | e
 ·by_cases h0 : p.n = 0
  ·have : stepN s p = s := by unfold stepN; rw [if_pos e, if_pos h0]
   rw [this]
   simp [keepOf, putOf, dropOf, e, h0]
   exact h
  ·have : stepN s p = (keepTo (doneN s) p.n, [], 0) := by unfold stepN; rw [if_pos e, if_neg h0]; rfl
   rw [this]
   obtain ⟨a1, a2, a3⟩ := sum_keepTo (doneN s) p.n
   obtain ⟨b1, b2, b3⟩ := sum_done (keepTo (doneN s) p.n, [], 0) (by simp)
   rw [b1, b2, b3]
   simp only [a1, a2, a3]
   simp [keepOf, putOf, dropOf, e]
 ·have : stepN s p = (s.1, s.2.1 ++ p.signs, s.2.2) := by unfold stepN; rw [if_neg (by omega), if_pos e]
  rw [this]
  obtain ⟨b1, b2, b3⟩ := sum_done (s.1, s.2.1 ++ p.signs, s.2.2) h
  obtain ⟨c1, c2, c3⟩ := sum_done s h
  rw [b1, b2, b3, c1, c2, c3]
  simp [keepOf, putOf, dropOf, e]
  omega
 ·have : stepN s p = (s.1, s.2.1, s.2.2 + p.n) := by unfold stepN; rw [if_neg (by omega), if_neg (by omega)]
  rw [this]
  have h' : 0 ≤ s.2.2 + p.n := by omega
  obtain ⟨b1, b2, b3⟩ := sum_done (s.1, s.2.1, s.2.2 + p.n) h'
  obtain ⟨c1, c2, c3⟩ := sum_done s h
  rw [b1, b2, b3, c1, c2, c3]
  simp [keepOf, putOf, dropOf, e]
  omega
theorem sum_fold : ∀ (L : List Pt) (s : List Pt × List Int × Int), 0 ≤ s.2.2 → (∀ p ∈ L, szP_ p) → 0 ≤ (L.foldl stepN s).2.2 ∧ sumOf keepOf (doneN (L.foldl stepN s)) = sumOf keepOf (doneN s) + sumOf keepOf L ∧ sumOf putOf (doneN (L.foldl stepN s)) = sumOf putOf (doneN s) + sumOf putOf L ∧ sumOf dropOf (doneN (L.foldl stepN s)) = sumOf dropOf (doneN s) + sumOf dropOf L
 | [], s, h, _ => by simp [sumOf_nil]; exact h
 | p :: L, s, h, hp => by
  obtain ⟨a0, a1, a2, a3⟩ := sum_step h (hp p (by simp))
  obtain ⟨b0, b1, b2, b3⟩ := sum_fold L (stepN s p) a0 (fun q hq => hp q (by simp [hq]))
  rw [List.foldl_cons, b1, b2, b3, a1, a2, a3, sumOf_cons, sumOf_cons, sumOf_cons]
  exact ⟨b0, by omega, by omega, by omega⟩
theorem sum_norm {L : List Pt} (h : ∀ p ∈ L, szP_ p) : sumOf keepOf (doneN (foldN L)) = sumOf keepOf L ∧ sumOf putOf (doneN (foldN L)) = sumOf putOf L ∧ sumOf dropOf (doneN (foldN L)) = sumOf dropOf L := by
 obtain ⟨_, h1, h2, h3⟩ := sum_fold L ([], [], 0) (by simp) h
 have e : doneN ([], [], 0) = [] := by simp [doneN, putL, dropL]
 rw [e] at h1 h2 h3
 simp only [sumOf_nil, Int.zero_add] at h1 h2 h3
 exact ⟨h1, h2, h3⟩
def tidy (p : Pt) : Prop := (p.kind = 1 ∧ 0 < p.n ∧ p.signs = []) ∨ (p.kind = 2 ∧ p.n = 0 ∧ 0 < p.signs.length) ∨ (p.kind = 3 ∧ 0 < p.n ∧ p.signs = [])
def nextOk (p q : Pt) : Prop := (p.kind = 1 → q.kind = 2 ∨ q.kind = 3) ∧ (p.kind = 2 → q.kind = 1 ∨ q.kind = 3) ∧ (p.kind = 3 → q.kind = 1)
def inOrder : List Pt → Prop
 | [] => True
 | [_] => True
 | p :: q :: r => nextOk p q ∧ inOrder (q :: r)
def normal (L : List Pt) : Prop := (∀ p ∈ L, tidy p) ∧ inOrder L
theorem inOrder_app : ∀ (a : List Pt) (p q : Pt) (b : List Pt), inOrder (a ++ [p]) → nextOk p q → inOrder (q :: b) → inOrder (a ++ p :: q :: b)
 | [], p, q, b, _, h2, h3 => ⟨h2, h3⟩
 | [x], p, q, b, h1, h2, h3 => ⟨h1.1, h2, h3⟩
 | x :: y :: a, p, q, b, h1, h2, h3 => ⟨h1.1, inOrder_app (y :: a) p q b h1.2 h2 h3⟩
theorem inOrder_init : ∀ (a b : List Pt), inOrder (a ++ b) → inOrder a
 | [], _, _ => trivial
 | [_], _, _ => trivial
 | x :: y :: a, b, h => ⟨h.1, inOrder_init (y :: a) b h.2⟩
def lastK (L : List Pt) : Int := match L.getLast? with | some p => p.kind | none => 0
theorem lastK_app (a : List Pt) (p : Pt) : lastK (a ++ [p]) = p.kind := by simp [lastK]
theorem normal_snoc {L : List Pt} {q : Pt} (h : normal L) (hq : tidy q) (hl : ∀ p, L.getLast? = some p → nextOk p q) : normal (L ++ [q]) := by
 refine ⟨fun p hp => ?_, ?_⟩
 ·rcases List.mem_append.1 hp with hp | hp
  ·exact h.1 p hp
  ·simp at hp; subst hp; exact hq
 ·rcases L.eq_nil_or_concat with rfl | ⟨a, p, rfl⟩
  ·trivial
  ·rw [List.concat_eq_append] at *
   have := inOrder_app a p q [] h.2 (hl p (by simp)) trivial
   simpa using this
def okS_ (s : List Pt × List Int × Int) : Prop := normal s.1 ∧ (s.1 = [] ∨ lastK s.1 = 1) ∧ 0 ≤ s.2.2
theorem getLast_kind {L : List Pt} {p : Pt} (h : L = [] ∨ lastK L = 1) (hp : L.getLast? = some p) : p.kind = 1 := by
 rcases h with rfl | h
 ·simp at hp
 ·unfold lastK at h
  rw [hp] at h
  exact h
theorem normal_done {s : List Pt × List Int × Int} (h : okS_ s) : normal (doneN s) := by
 obtain ⟨h1, h2, h3⟩ := h
 unfold doneN putL dropL
 by_cases hp : s.2.1.length = 0
 ·rw [if_pos hp, List.append_nil]
  by_cases hd : 0 < s.2.2
  ·rw [if_pos hd]
   refine normal_snoc h1 (.inr (.inr ⟨rfl, hd, rfl⟩)) (fun p hp' => ?_)
   have := getLast_kind h2 hp'
   exact ⟨fun _ => .inr rfl, fun e => by omega, fun e => by omega⟩
  ·rw [if_neg hd, List.append_nil]
   exact h1
 ·rw [if_neg hp]
  have hn : normal (s.1 ++ [⟨2, 0, s.2.1⟩]) := normal_snoc h1 (.inr (.inl ⟨rfl, rfl, by simp; omega⟩)) (fun p hp' => by
   have := getLast_kind h2 hp'
   exact ⟨fun _ => .inl rfl, fun e => by omega, fun e => by omega⟩)
  by_cases hd : 0 < s.2.2
  ·rw [if_pos hd]
   refine normal_snoc hn (.inr (.inr ⟨rfl, hd, rfl⟩)) (fun p hp' => ?_)
   simp at hp'
   subst hp'
   exact ⟨fun e => by simp at e, fun _ => .inr rfl, fun e => by simp at e⟩
  ·rw [if_neg hd, List.append_nil]
   exact hn
theorem normal_keepTo {q : List Pt} {n : Int} (h : normal q) (hn : 0 < n) : normal (keepTo q n) ∧ lastK (keepTo q n) = 1 := by
 rcases q.eq_nil_or_concat with rfl | ⟨r, p, rfl⟩
 ·rw [keepTo_nil]
  exact ⟨⟨fun p hp => by simp at hp; subst hp; exact .inl ⟨rfl, hn, rfl⟩, trivial⟩, rfl⟩
 ·rw [List.concat_eq_append] at *
  by_cases hk : p.kind = 1
  ·rw [keepTo_t n hk]
   have hp := h.1 p (by simp)
   refine ⟨⟨fun x hx => ?_, ?_⟩, by rw [lastK_app]; exact hk⟩
   ·rcases List.mem_append.1 hx with hx | hx
    ·exact h.1 x (by simp [hx])
    ·simp at hx
     subst hx
     unfold tidy at *
     simp only
     rcases hp with ⟨a, b, c⟩ | ⟨a, b, c⟩ | ⟨a, b, c⟩
     ·exact .inl ⟨a, by omega, c⟩
     ·omega
     ·omega
   ·rcases r.eq_nil_or_concat with rfl | ⟨a, x, rfl⟩
    ·trivial
    ·rw [List.concat_eq_append] at *
     have h2 : inOrder (a ++ x :: p :: []) := by simpa using h.2
     have hx : nextOk x p := by
      clear hp hk h
      induction a with
      | nil => exact h2.1
      | cons y a ih =>
       cases a with
       | nil => exact h2.2.1
       | cons z a => exact ih h2.2
     have := inOrder_app a x ⟨p.kind, p.n + n, p.signs⟩ [] (inOrder_init (a ++ [x]) [p] (by simpa using h2)) hx trivial
     simpa using this
  ·rw [keepTo_f n hk]
   refine ⟨normal_snoc h (.inl ⟨rfl, hn, rfl⟩) (fun x hx => ?_), by rw [lastK_app]⟩
   simp at hx
   subst hx
   exact ⟨fun e => absurd e hk, fun _ => .inl rfl, fun _ => rfl⟩
theorem okS_step {s : List Pt × List Int × Int} {p : Pt} (h : okS_ s) (hp : szP_ p) : okS_ (stepN s p) := by
 obtain ⟨hk, hn0, hn1, hz⟩ := hp
 rcases hk with e | e | e
 ·by_cases h0 : p.n = 0
  ·have : stepN s p = s := by unfold stepN; rw [if_pos e, if_pos h0]
   rw [this]; exact h
  ·have : stepN s p = (keepTo (doneN s) p.n, [], 0) := by unfold stepN; rw [if_pos e, if_neg h0]; rfl
   rw [this]
   obtain ⟨a, b⟩ := normal_keepTo (normal_done h) (show 0 < p.n by omega)
   exact ⟨a, .inr b, by simp⟩
 ·have : stepN s p = (s.1, s.2.1 ++ p.signs, s.2.2) := by unfold stepN; rw [if_neg (by omega), if_pos e]
  rw [this]; exact h
 ·have : stepN s p = (s.1, s.2.1, s.2.2 + p.n) := by unfold stepN; rw [if_neg (by omega), if_neg (by omega)]
  rw [this]; exact ⟨h.1, h.2.1, by have := h.2.2; simp only; omega⟩
theorem okS_fold : ∀ (L : List Pt) (s : List Pt × List Int × Int), okS_ s → (∀ p ∈ L, szP_ p) → okS_ (L.foldl stepN s)
 | [], s, h, _ => h
 | p :: L, s, h, hp => okS_fold L (stepN s p) (okS_step h (hp p (by simp))) (fun q hq => hp q (by simp [hq]))
theorem normal_fold {L : List Pt} (h : ∀ p ∈ L, szP_ p) : normal (doneN (foldN L)) := normal_done (okS_fold L ([], [], 0) ⟨⟨fun p hp => by simp at hp, trivial⟩, .inl rfl, by simp⟩ h)
theorem len_step (s : List Pt × List Int × Int) (p : Pt) (h0 : 0 ≤ s.2.2) : (doneN (stepN s p)).length ≤ (doneN s).length + 1 := by
 unfold stepN
 split
 ·split
  ·omega
  ·have e : doneN (keepTo (s.1 ++ putL s.2.1 ++ dropL s.2.2) p.n, [], 0) = keepTo (doneN s) p.n := by simp [doneN, putL, dropL]
   rw [e]
   rcases (doneN s).eq_nil_or_concat with e0 | ⟨a, q, e0⟩
   ·rw [e0, keepTo_nil]; simp
   ·rw [List.concat_eq_append] at e0
    rw [e0]
    by_cases hk : q.kind = 1
    ·rw [keepTo_t _ hk]; simp
    ·rw [keepTo_f _ hk]; simp
 ·split
  ·unfold doneN
   have a1 : (putL (s.2.1 ++ p.signs)).length ≤ (putL s.2.1).length + 1 := by have := (putL_len (s.2.1 ++ p.signs)).1; omega
   simp only [List.length_append]
   omega
  ·unfold doneN
   have a1 : (dropL (s.2.2 + p.n)).length ≤ (dropL s.2.2).length + 1 := by have := (dropL_len (s.2.2 + p.n)).1; omega
   simp only [List.length_append]
   omega
theorem len_fold : ∀ (L : List Pt) (s : List Pt × List Int × Int), 0 ≤ s.2.2 → (∀ p ∈ L, szP_ p) → (doneN (L.foldl stepN s)).length ≤ (doneN s).length + L.length
 | [], s, _, _ => by simp
 | p :: L, s, h, hp => by
  have a := len_step s p h
  have b := len_fold L (stepN s p) (sum_step h (hp p (by simp))).1 (fun q hq => hp q (by simp [hq]))
  rw [List.foldl_cons, List.length_cons]
  omega
theorem norm_length {L : List Pt} (h : ∀ p ∈ L, szP_ p) : (doneN (foldN L)).length ≤ L.length := by
 have e : doneN ([], [], 0) = [] := by simp [doneN, putL, dropL]
 have := len_fold L ([], [], 0) (by simp) h
 rw [e, List.length_nil, Nat.zero_add] at this
 exact this
theorem allB_app (a b : List Int) : allB (a ++ b) = (allB a && allB b) := by simp [allB]
def okA (s : List Pt × List Int × Int) : Prop := (∀ p ∈ s.1, allB p.signs = true) ∧ allB s.2.1 = true
theorem okA_done {s : List Pt × List Int × Int} (h : okA s) : ∀ p ∈ doneN s, allB p.signs = true := fun p hp => by
 unfold doneN putL dropL at hp
 rcases List.mem_append.1 hp with hp | hp
 ·rcases List.mem_append.1 hp with hp | hp
  ·exact h.1 p hp
  ·split at hp
   ·simp at hp
   ·simp at hp; subst hp; exact h.2
 ·split at hp
  ·simp at hp; subst hp; rfl
  ·simp at hp
theorem okA_step {s : List Pt × List Int × Int} {p : Pt} (h : okA s) (hp : allB p.signs = true) : okA (stepN s p) := by
 unfold stepN
 split
 ·split
  ·exact h
  ·have hd := okA_done h
   refine ⟨?_, rfl⟩
   change ∀ q ∈ keepTo (doneN s) p.n, _
   rcases (doneN s).eq_nil_or_concat with e0 | ⟨a, q, e0⟩
   ·rw [e0, keepTo_nil]; intro x hx; simp at hx; subst hx; rfl
   ·rw [List.concat_eq_append] at e0
    rw [e0] at hd ⊢
    intro x hx
    by_cases hk : q.kind = 1
    ·rw [keepTo_t _ hk] at hx
     rcases List.mem_append.1 hx with hx | hx
     ·exact hd x (by simp [hx])
     ·simp at hx; subst hx; exact hd q (by simp)
    ·rw [keepTo_f _ hk] at hx
     rcases List.mem_append.1 hx with hx | hx
     ·exact hd x hx
     ·simp at hx; subst hx; rfl
 ·split
  ·exact ⟨h.1, by simp only; rw [allB_app, h.2, hp]; rfl⟩
  ·exact h
theorem okA_fold : ∀ (L : List Pt) (s : List Pt × List Int × Int), okA s → (∀ p ∈ L, allB p.signs = true) → okA (L.foldl stepN s)
 | [], s, h, _ => h
 | p :: L, s, h, hp => okA_fold L (stepN s p) (okA_step h (hp p (by simp))) (fun q hq => hp q (by simp [hq]))
theorem norm_allB {L : List Pt} (h : ∀ p ∈ L, allB p.signs = true) : ∀ p ∈ doneN (foldN L), allB p.signs = true := okA_done (okA_fold L ([], [], 0) ⟨fun p hp => by simp at hp, rfl⟩ h)
theorem sumOf_mem {f : Pt → Int} : ∀ {L : List Pt} {p : Pt}, (∀ q ∈ L, 0 ≤ f q) → p ∈ L → f p ≤ sumOf f L
 | [], _, _, h => by simp at h
 | q :: L, p, h0, h => by
  rw [sumOf_cons]
  have hs : 0 ≤ sumOf f L := by
   have hL : ∀ q ∈ L, 0 ≤ f q := fun q hq => h0 q (by simp [hq])
   clear h h0
   induction L with
   | nil => simp [sumOf_nil]
   | cons x L ih => rw [sumOf_cons]; have := hL x (by simp); have := ih (fun q hq => hL q (by simp [hq])); omega
  rcases List.mem_cons.1 h with rfl | h
  ·omega
  ·have := sumOf_mem (f := f) (fun q hq => h0 q (by simp [hq])) h
   have := h0 q (by simp)
   omega
theorem tidy_nonneg {p : Pt} (h : tidy p) : 0 ≤ keepOf p ∧ 0 ≤ putOf p ∧ 0 ≤ dropOf p := by
 unfold keepOf putOf dropOf
 rcases h with ⟨a, b, c⟩ | ⟨a, b, c⟩ | ⟨a, b, c⟩ <;> simp [a] <;> omega
theorem tidy_ok {L : List Pt} (ht : ∀ p ∈ L, tidy p) (ha : ∀ p ∈ L, allB p.signs = true) (h1 : sumOf keepOf L ≤ 200) (h2 : sumOf putOf L ≤ 200) (h3 : sumOf dropOf L ≤ 200) : okPs L = true := by
 unfold okPs
 rw [List.all_eq_true]
 intro p hp
 have k1 := sumOf_mem (f := keepOf) (fun q hq => (tidy_nonneg (ht q hq)).1) hp
 have k2 := sumOf_mem (f := putOf) (fun q hq => (tidy_nonneg (ht q hq)).2.1) hp
 have k3 := sumOf_mem (f := dropOf) (fun q hq => (tidy_nonneg (ht q hq)).2.2) hp
 have k1 := Int.le_trans k1 h1
 have k2 := Int.le_trans k2 h2
 have k3 := Int.le_trans k3 h3
 unfold keepOf at k1
 unfold putOf at k2
 unfold dropOf at k3
 apply okPt_t
 rcases ht p hp with ⟨a, b, c⟩ | ⟨a, b, c⟩ | ⟨a, b, c⟩
 ·rw [if_pos a] at k1
  exact .inl ⟨.inl a, ⟨by omega, by omega⟩, by rw [c]; rfl⟩
 ·rw [if_pos a] at k2
  exact .inr ⟨a, b, ha p hp, by omega⟩
 ·rw [if_pos a] at k3
  exact .inl ⟨.inr a, ⟨by omega, by omega⟩, by rw [c]; rfl⟩
theorem okOp_of {ps : List Pt} (h : okOp ps = true) : okPs ps = true ∧ ps.length ≤ 600 ∧ sumOf keepOf ps + sumOf dropOf ps ≤ 200 ∧ sumOf keepOf ps + sumOf putOf ps ≤ 200 ∧ 0 ≤ sumOf keepOf ps ∧ 0 ≤ sumOf putOf ps ∧ 0 ≤ sumOf dropOf ps := by
 unfold okOp at h
 rw [Bool.and_eq_true, Bool.and_eq_true] at h
 obtain ⟨⟨h4, h5⟩, h6⟩ := h
 have h7 := partsB_of h4
 obtain ⟨t1, t2, t3⟩ := sum_t h4
 have h5 := of_decide_eq_true h5
 have h6 := of_decide_eq_true h6
 rw [t1, t3] at h5
 rw [t1, t2] at h6
 have := sums_bd h7.1 h7.2
 exact ⟨h7.1, h7.2, h5, h6, this.1.1, this.2.1.1, this.2.2.1⟩
theorem of_okOp {ps : List Pt} (h1 : okPs ps = true) (h2 : ps.length ≤ 600) (h3 : sumOf keepOf ps + sumOf dropOf ps ≤ 200) (h4 : sumOf keepOf ps + sumOf putOf ps ≤ 200) : okOp ps = true := by
 have hb : partsB ps = true := by unfold partsB; rw [h1, decide_eq_true h2]; rfl
 obtain ⟨t1, t2, t3⟩ := sum_t hb
 unfold okOp
 rw [hb, t1, t2, t3, decide_eq_true h3, decide_eq_true h4]
 rfl
theorem okPs_sz {ps : List Pt} (h : okPs ps = true) : ∀ p ∈ ps, szP_ p := fun p hp => szP_of (by unfold okPs at h; exact List.all_eq_true.1 h p hp)
theorem okPs_allB {ps : List Pt} (h : okPs ps = true) : ∀ p ∈ ps, allB p.signs = true := fun p hp => by
 have := of_okPt (show okPt p = true by unfold okPs at h; exact List.all_eq_true.1 h p hp)
 rcases this with ⟨_, _, hz⟩ | ⟨_, _, ha, _⟩
 ·rw [List.eq_nil_of_length_eq_zero hz]; rfl
 ·exact ha
theorem norm_ok {ps : List Pt} (h : okOp ps = true) : okOp (normL ps) = true ∧ normal (normL ps) ∧ sumOf keepOf (normL ps) = sumOf keepOf ps ∧ sumOf putOf (normL ps) = sumOf putOf ps ∧ sumOf dropOf (normL ps) = sumOf dropOf ps := by
 obtain ⟨h1, h2, h3, h4, h5, h6, h7⟩ := okOp_of h
 have e : normL ps = doneN (foldN ps) := by unfold normL; rw [if_pos h]
 obtain ⟨s1, s2, s3⟩ := sum_norm (okPs_sz h1)
 have hn := normal_fold (okPs_sz h1)
 have hl := norm_length (okPs_sz h1)
 have ha := norm_allB (okPs_allB h1)
 rw [e]
 refine ⟨of_okOp (tidy_ok hn.1 ha (by omega) (by omega) (by omega)) (by omega) (by omega) (by omega), hn, s1, s2, s3⟩
inductive U where
 | k
 | p (x : Int)
 | d
def unitsP (p : Pt) : List U := if p.kind = 1 then List.replicate p.n.toNat .k else if p.kind = 2 then p.signs.map .p else List.replicate p.n.toNat .d
def units (L : List Pt) : List U := L.flatMap unitsP
theorem units_nil : units [] = [] := rfl
theorem units_cons (p : Pt) (L : List Pt) : units (p :: L) = unitsP p ++ units L := by simp [units]
theorem units_app (a b : List Pt) : units (a ++ b) = units a ++ units b := by simp [units]
def stepU (s : List Pt × List Int × Int) : U → List Pt × List Int × Int
 | .k => (keepTo (doneN s) 1, [], 0)
 | .p x => (s.1, s.2.1 ++ [x], s.2.2)
 | .d => (s.1, s.2.1, s.2.2 + 1)
def foldU (us : List U) : List Pt × List Int × Int := us.foldl stepU ([], [], 0)
theorem done_plain (q : List Pt) : doneN (q, [], 0) = q := by simp [doneN, putL, dropL]
theorem keepTo_keepTo (q : List Pt) (m n : Int) : keepTo (keepTo q m) n = keepTo q (m + n) := by
 rcases q.eq_nil_or_concat with rfl | ⟨r, p, rfl⟩
 ·rw [keepTo_nil, keepTo_nil]
  have := keepTo_t (r := []) (p := ⟨1, m, []⟩) n rfl
  simpa using this
 ·rw [List.concat_eq_append]
  by_cases hk : p.kind = 1
  ·rw [keepTo_t m hk, keepTo_t (m + n) hk, keepTo_t (p := ⟨p.kind, p.n + m, p.signs⟩) n hk]
   simp only [Int.add_assoc]
  ·rw [keepTo_f m hk, keepTo_f (m + n) hk]
   have := keepTo_t (r := r ++ [p]) (p := ⟨1, m, []⟩) n rfl
   simpa using this
theorem fold_k : ∀ (m : Nat) (q : List Pt), (List.replicate m U.k).foldl stepU (q, [], 0) = if m = 0 then (q, [], 0) else (keepTo q (m : Int), [], 0)
 | 0, q => by simp
 | m + 1, q => by
  rw [List.replicate_succ, List.foldl_cons]
  show (List.replicate m U.k).foldl stepU (keepTo (doneN (q, [], 0)) 1, [], 0) = _
  rw [done_plain, fold_k m (keepTo q 1)]
  by_cases h : m = 0
  ·subst h; simp
  ·rw [if_neg h, if_neg (by omega), keepTo_keepTo]
   congr 2
   omega
theorem fold_p : ∀ (zs : List Int) (s : List Pt × List Int × Int), (zs.map U.p).foldl stepU s = (s.1, s.2.1 ++ zs, s.2.2)
 | [], s => by simp
 | z :: zs, s => by
  rw [List.map_cons, List.foldl_cons, fold_p zs]
  simp [stepU]
theorem fold_d : ∀ (m : Nat) (s : List Pt × List Int × Int), (List.replicate m U.d).foldl stepU s = (s.1, s.2.1, s.2.2 + (m : Int))
 | 0, s => by simp
 | m + 1, s => by
  rw [List.replicate_succ, List.foldl_cons, fold_d m]
  simp [stepU]
  omega
theorem stepN_units (s : List Pt × List Int × Int) {p : Pt} (hp : szP_ p) : stepN s p = (unitsP p).foldl stepU s := by
 obtain ⟨hk, h0, h1, _⟩ := hp
 obtain ⟨m, hm⟩ := Int.eq_ofNat_of_zero_le h0
 rcases hk with e | e | e
 ·unfold stepN unitsP
  rw [if_pos e, if_pos e, hm]
  cases m with
  | zero => simp
  | succ m =>
   rw [if_neg (by omega), show ((m + 1 : Nat) : Int).toNat = m + 1 from rfl, List.replicate_succ, List.foldl_cons]
   show _ = (List.replicate m U.k).foldl stepU (keepTo (doneN s) 1, [], 0)
   rw [fold_k]
   by_cases h : m = 0
   ·subst h; simp [doneN]
   ·rw [if_neg h, keepTo_keepTo]
    have : (1 : Int) + (m : Int) = ((m + 1 : Nat) : Int) := by omega
    rw [this]
    rfl
 ·unfold stepN unitsP
  rw [if_neg (by omega), if_pos e, if_neg (by omega), if_pos e, fold_p]
 ·unfold stepN unitsP
  rw [if_neg (by omega), if_neg (by omega), if_neg (by omega), if_neg (by omega), fold_d, hm]
  rfl
theorem foldN_units {L : List Pt} (h : ∀ p ∈ L, szP_ p) : foldN L = foldU (units L) := by
 unfold foldN foldU
 generalize (([], [], 0) : List Pt × List Int × Int) = s
 induction L generalizing s with
 | nil => rfl
 | cons p L ih =>
  rw [List.foldl_cons, units_cons, List.foldl_append, ← stepN_units s (h p (by simp))]
  exact ih (fun q hq => h q (by simp [hq])) _
def nfGo : List U → List Int → Nat → List U
 | [], ps, n => ps.map U.p ++ List.replicate n U.d
 | .k :: us, ps, n => ps.map U.p ++ (List.replicate n U.d ++ U.k :: nfGo us [] 0)
 | .p x :: us, ps, n => nfGo us (ps ++ [x]) n
 | .d :: us, ps, n => nfGo us ps (n + 1)
def nfU (us : List U) : List U := nfGo us [] 0
theorem units_putL (zs : List Int) : units (putL zs) = zs.map U.p := by
 unfold putL
 split
 ·rename_i h
  rw [List.eq_nil_of_length_eq_zero h]
  rfl
 ·simp [units, unitsP]
theorem units_dropL (n : Nat) : units (dropL (n : Int)) = List.replicate n U.d := by
 unfold dropL
 split
 ·simp [units, unitsP]
 ·rename_i h
  have : n = 0 := by omega
  subst this
  rfl
theorem units_keepTo (q : List Pt) (hq : ∀ p ∈ q, 0 ≤ p.n) : units (keepTo q 1) = units q ++ [U.k] := by
 rcases q.eq_nil_or_concat with rfl | ⟨r, p, rfl⟩
 ·rw [keepTo_nil]; rfl
 ·rw [List.concat_eq_append] at *
  by_cases hk : p.kind = 1
  ·rw [keepTo_t 1 hk, units_app, units_app, units_cons, units_cons, units_nil, List.append_nil, List.append_nil, List.append_assoc]
   congr 1
   unfold unitsP
   simp only [hk, if_true]
   have := hq p (by simp)
   rw [show (p.n + 1).toNat = p.n.toNat + 1 by omega, List.replicate_succ']
  ·rw [keepTo_f 1 hk, units_app, units_cons, units_nil]
   rfl
theorem units_done (q : List Pt) (ps : List Int) (n : Nat) : units (doneN (q, ps, (n : Int))) = units q ++ (ps.map U.p ++ List.replicate n U.d) := by
 unfold doneN
 rw [units_app, units_app, units_putL, units_dropL, List.append_assoc]
theorem done_nonneg {q : List Pt} (ps : List Int) (n : Nat) (hq : ∀ p ∈ q, 0 ≤ p.n) : ∀ p ∈ doneN (q, ps, (n : Int)), 0 ≤ p.n := fun p hp => by
 unfold doneN putL dropL at hp
 rcases List.mem_append.1 hp with hp | hp
 ·rcases List.mem_append.1 hp with hp | hp
  ·exact hq p hp
  ·split at hp
   ·simp at hp
   ·simp at hp; subst hp; simp
 ·split at hp
  ·simp at hp; subst hp; simp
  ·simp at hp
theorem keepTo_nonneg {q : List Pt} (hq : ∀ p ∈ q, 0 ≤ p.n) : ∀ p ∈ keepTo q 1, 0 ≤ p.n := fun x hx => by
 rcases q.eq_nil_or_concat with rfl | ⟨r, p, rfl⟩
 ·rw [keepTo_nil] at hx; simp at hx; subst hx; simp
 ·rw [List.concat_eq_append] at *
  by_cases hk : p.kind = 1
  ·rw [keepTo_t 1 hk] at hx
   rcases List.mem_append.1 hx with hx | hx
   ·exact hq x (by simp [hx])
   ·simp at hx; subst hx; have := hq p (by simp); simp only; omega
  ·rw [keepTo_f 1 hk] at hx
   rcases List.mem_append.1 hx with hx | hx
   ·exact hq x hx
   ·simp at hx; subst hx; simp
theorem units_fold : ∀ (us : List U) (q : List Pt) (ps : List Int) (n : Nat), (∀ p ∈ q, 0 ≤ p.n) → units (doneN (us.foldl stepU (q, ps, (n : Int)))) = units q ++ nfGo us ps n
 | [], q, ps, n, _ => by rw [List.foldl_nil, units_done, nfGo]
 | .k :: us, q, ps, n, hq => by
  have hd := done_nonneg ps n hq
  have := units_fold us (keepTo (doneN (q, ps, (n : Int))) 1) [] 0 (keepTo_nonneg hd)
  rw [List.foldl_cons]
  show units (doneN (us.foldl stepU (keepTo (doneN (q, ps, (n : Int))) 1, [], ((0 : Nat) : Int)))) = _
  rw [this, units_keepTo _ hd, units_done, nfGo]
  simp
 | .p x :: us, q, ps, n, hq => by
  rw [List.foldl_cons, nfGo]
  exact units_fold us q (ps ++ [x]) n hq
 | .d :: us, q, ps, n, hq => by
  rw [List.foldl_cons, nfGo]
  have := units_fold us q ps (n + 1) hq
  rw [← this]
  rfl
theorem units_norm (us : List U) : units (doneN (foldU us)) = nfU us := by
 have := units_fold us [] [] 0 (fun p hp => by simp at hp)
 simpa [foldU, nfU, units_nil] using this
def applyU : List U → List Int → List Int
 | [], _ => []
 | .k :: us, t => t.take 1 ++ applyU us (t.drop 1)
 | .p x :: us, t => x :: applyU us t
 | .d :: us, t => applyU us (t.drop 1)
theorem applyU_ps : ∀ (ps : List Int) (us : List U) (t : List Int), applyU (ps.map U.p ++ us) t = ps ++ applyU us t
 | [], us, t => rfl
 | x :: ps, us, t => by
  show x :: applyU (ps.map U.p ++ us) t = _
  rw [applyU_ps ps us t]
  rfl
theorem applyU_ds : ∀ (n : Nat) (us : List U) (t : List Int), applyU (List.replicate n U.d ++ us) t = applyU us (t.drop n)
 | 0, us, t => by simp
 | n + 1, us, t => by
  rw [List.replicate_succ]
  show applyU (List.replicate n U.d ++ us) (t.drop 1) = _
  rw [applyU_ds n us, List.drop_drop, Nat.add_comm]
theorem applyU_ks : ∀ (n : Nat) (us : List U) (t : List Int), applyU (List.replicate n U.k ++ us) t = t.take n ++ applyU us (t.drop n)
 | 0, us, t => by simp
 | n + 1, us, t => by
  rw [List.replicate_succ]
  show t.take 1 ++ applyU (List.replicate n U.k ++ us) (t.drop 1) = _
  rw [applyU_ks n us, List.drop_drop, ← List.append_assoc, Nat.add_comm 1 n]
  congr 1
  rw [← List.take_add, Nat.add_comm]
def src : List U → Nat
 | [] => 0
 | .k :: us => src us + 1
 | .p _ :: us => src us
 | .d :: us => src us + 1
def tgt : List U → Nat
 | [] => 0
 | .k :: us => tgt us + 1
 | .p _ :: us => tgt us + 1
 | .d :: us => tgt us
theorem src_app : ∀ a b : List U, src (a ++ b) = src a + src b
 | [], b => by simp [src]
 | .k :: a, b => by simp only [List.cons_append, src, src_app a b]; omega
 | .p _ :: a, b => by simp only [List.cons_append, src, src_app a b]
 | .d :: a, b => by simp only [List.cons_append, src, src_app a b]; omega
theorem tgt_app : ∀ a b : List U, tgt (a ++ b) = tgt a + tgt b
 | [], b => by simp [tgt]
 | .k :: a, b => by simp only [List.cons_append, tgt, tgt_app a b]; omega
 | .p _ :: a, b => by simp only [List.cons_append, tgt, tgt_app a b]; omega
 | .d :: a, b => by simp only [List.cons_append, tgt, tgt_app a b]
theorem apply_len_u : ∀ (us : List U) (t : List Int), src us = t.length → (applyU us t).length = tgt us
 | [], t, _ => rfl
 | .k :: us, [], h => by simp [src] at h
 | .k :: us, x :: t, h => by
  have := apply_len_u us t (by simpa [src] using h)
  simp [applyU, tgt, this]
 | .p x :: us, t, h => by
  have := apply_len_u us t h
  simp [applyU, tgt, this]
 | .d :: us, [], h => by simp [src] at h
 | .d :: us, x :: t, h => by
  have := apply_len_u us t (by simpa [src] using h)
  simp [applyU, tgt, this]
def comp : List U → List U → List U
 | [], [] => []
 | [], .p x :: b => .p x :: comp [] b
 | [], .k :: b => []
 | [], .d :: b => []
 | .d :: a, b => .d :: comp a b
 | .k :: a, [] => []
 | .k :: a, .p x :: b => .p x :: comp (.k :: a) b
 | .k :: a, .k :: b => .k :: comp a b
 | .k :: a, .d :: b => .d :: comp a b
 | .p y :: a, [] => []
 | .p y :: a, .p x :: b => .p x :: comp (.p y :: a) b
 | .p y :: a, .k :: b => .p y :: comp a b
 | .p y :: a, .d :: b => comp a b
termination_by a b => a.length + b.length
def xf : List U → List U → List U × List U
 | [], [] => ([], [])
 | .p x :: a, b => (.p x :: (xf a b).1, .k :: (xf a b).2)
 | [], .p x :: b => (.k :: (xf [] b).1, .p x :: (xf [] b).2)
 | [], .k :: b => ([], [])
 | [], .d :: b => ([], [])
 | .k :: a, [] => ([], [])
 | .k :: a, .p x :: b => (.k :: (xf (.k :: a) b).1, .p x :: (xf (.k :: a) b).2)
 | .k :: a, .k :: b => (.k :: (xf a b).1, .k :: (xf a b).2)
 | .k :: a, .d :: b => ((xf a b).1, .d :: (xf a b).2)
 | .d :: a, [] => ([], [])
 | .d :: a, .p x :: b => (.k :: (xf (.d :: a) b).1, .p x :: (xf (.d :: a) b).2)
 | .d :: a, .k :: b => (.d :: (xf a b).1, (xf a b).2)
 | .d :: a, .d :: b => xf a b
termination_by a b => a.length + b.length
theorem xf_meet (a b : List U) : ∀ t : List Int, src a = t.length → src b = t.length →
  applyU (xf a b).2 (applyU a t) = applyU (xf a b).1 (applyU b t) ∧ src (xf a b).1 = tgt b ∧ src (xf a b).2 = tgt a ∧ tgt (xf a b).1 = tgt (xf a b).2 := by
 induction a, b using xf.induct with
 | case1 => intro t h1 h2; simp [xf, applyU, src, tgt]
 | case2 x a b ih =>
  intro t h1 h2
  obtain ⟨i1, i2, i3, i4⟩ := ih t (by simpa [src] using h1) h2
  rw [xf]
  refine ⟨?_, by simpa [src] using i2, by simp [src, tgt, i3], by simp [tgt, i4]⟩
  show applyU (.k :: (xf a b).2) (x :: applyU a t) = x :: applyU (xf a b).1 (applyU b t)
  simp [applyU, i1]
 | case3 x b ih =>
  intro t h1 h2
  obtain ⟨i1, i2, i3, i4⟩ := ih t h1 (by simpa [src] using h2)
  rw [xf]
  refine ⟨?_, by simp [src, tgt, i2], by simpa [src] using i3, by simp [tgt, i4]⟩
  show x :: applyU (xf [] b).2 (applyU [] t) = applyU (.k :: (xf [] b).1) (x :: applyU b t)
  simp [applyU] at i1 ⊢
  exact i1
 | case4 b => intro t h1 h2; simp [src] at h1 h2; omega
 | case5 b => intro t h1 h2; simp [src] at h1 h2; omega
 | case6 a => intro t h1 h2; simp [src] at h1 h2; omega
 | case7 a x b ih =>
  intro t h1 h2
  obtain ⟨i1, i2, i3, i4⟩ := ih t h1 (by simpa [src] using h2)
  rw [xf]
  refine ⟨?_, by simp [src, tgt, i2], by simpa [src] using i3, by simp [tgt, i4]⟩
  show x :: applyU (xf (.k :: a) b).2 (applyU (.k :: a) t) = applyU (.k :: (xf (.k :: a) b).1) (x :: applyU b t)
  rw [i1]
  simp [applyU]
 | case8 a b ih =>
  intro t h1 h2
  cases t with
  | nil => simp [src] at h1
  | cons y t =>
   obtain ⟨i1, i2, i3, i4⟩ := ih t (by simpa [src] using h1) (by simpa [src] using h2)
   simp [xf, applyU, src, tgt, i1, i2, i3, i4]
 | case9 a b ih =>
  intro t h1 h2
  cases t with
  | nil => simp [src] at h1
  | cons y t =>
   obtain ⟨i1, i2, i3, i4⟩ := ih t (by simpa [src] using h1) (by simpa [src] using h2)
   simp [xf, applyU, src, tgt, i1, i2, i3, i4]
 | case10 a => intro t h1 h2; simp [src] at h1 h2; omega
 | case11 a x b ih =>
  intro t h1 h2
  obtain ⟨i1, i2, i3, i4⟩ := ih t h1 (by simpa [src] using h2)
  rw [xf]
  refine ⟨?_, by simp [src, tgt, i2], by simpa [src] using i3, by simp [tgt, i4]⟩
  show x :: applyU (xf (.d :: a) b).2 (applyU (.d :: a) t) = applyU (.k :: (xf (.d :: a) b).1) (x :: applyU b t)
  rw [i1]
  simp [applyU]
 | case12 a b ih =>
  intro t h1 h2
  cases t with
  | nil => simp [src] at h1
  | cons y t =>
   obtain ⟨i1, i2, i3, i4⟩ := ih t (by simpa [src] using h1) (by simpa [src] using h2)
   simp [xf, applyU, src, tgt, i1, i2, i3, i4]
 | case13 a b ih =>
  intro t h1 h2
  cases t with
  | nil => simp [src] at h1
  | cons y t =>
   obtain ⟨i1, i2, i3, i4⟩ := ih t (by simpa [src] using h1) (by simpa [src] using h2)
   simp [xf, applyU, tgt, i1, i2, i3, i4]
theorem src_rk : ∀ n : Nat, src (List.replicate n U.k) = n ∧ tgt (List.replicate n U.k) = n
 | 0 => ⟨rfl, rfl⟩
 | n + 1 => by rw [List.replicate_succ]; simp [src, tgt, src_rk n]
theorem src_rd : ∀ n : Nat, src (List.replicate n U.d) = n ∧ tgt (List.replicate n U.d) = 0
 | 0 => ⟨rfl, rfl⟩
 | n + 1 => by rw [List.replicate_succ]; simp [src, tgt, src_rd n]
theorem src_mp : ∀ zs : List Int, src (zs.map U.p) = 0 ∧ tgt (zs.map U.p) = zs.length
 | [] => ⟨rfl, rfl⟩
 | z :: zs => by rw [List.map_cons]; simp [src, tgt, src_mp zs]
theorem src_units {L : List Pt} (h : ∀ p ∈ L, szP_ p) : (src (units L) : Int) = sumOf keepOf L + sumOf dropOf L ∧ (tgt (units L) : Int) = sumOf keepOf L + sumOf putOf L := by
 induction L with
 | nil => simp [units_nil, src, tgt, sumOf_nil]
 | cons p L ih =>
  obtain ⟨i1, i2⟩ := ih (fun q hq => h q (by simp [hq]))
  obtain ⟨hk, h0, _, _⟩ := h p (by simp)
  rw [units_cons, src_app, tgt_app, sumOf_cons, sumOf_cons, sumOf_cons]
  generalize sumOf keepOf L = q1 at *
  generalize sumOf putOf L = q2 at *
  generalize sumOf dropOf L = q3 at *
  unfold unitsP keepOf putOf dropOf
  rcases hk with e | e | e
  ·simp [e, src_rk]; omega
  ·simp [e, src_mp]; omega
  ·simp [e, src_rd]; omega
theorem apply_fold : ∀ (L : List Pt) (t : List Int) (s : Nat × List Int), (∀ p ∈ L, szP_ p) → (L.foldl (stepA t) s).2 = s.2 ++ applyU (units L) (t.drop s.1)
 | [], t, s, _ => by simp [units_nil, applyU]
 | p :: L, t, s, h => by
  obtain ⟨hk, h0, _, _⟩ := h p (by simp)
  rw [List.foldl_cons, apply_fold L t _ (fun q hq => h q (by simp [hq])), units_cons]
  unfold stepA unitsP
  rcases hk with e | e | e
  ·simp only [e, if_true]
   rw [applyU_ks, List.append_assoc, List.drop_drop]
  ·simp [e, applyU_ps]
  ·simp [e, applyU_ds, List.drop_drop]
theorem applyT_units {ps : List Pt} {t : List Int} (h : fitsB ps t = true) : applyT ps t = applyU (units ps) t := by
 have := apply_fold ps t (0, []) (okPs_sz (fits_of h).1)
 unfold applyT foldA
 rw [if_pos h, this]
 simp
def sizeP (p : Pt) : Nat := if p.kind = 2 then p.signs.length else p.n.toNat
theorem unitsP_len (p : Pt) : (unitsP p).length = sizeP p := by
 unfold unitsP sizeP
 by_cases h1 : p.kind = 1
 ·simp [h1]
 ·by_cases h2 : p.kind = 2
  ·simp [h2]
  ·simp [h1, h2]
theorem sizeP_le {p : Pt} (h : szP_ p) : sizeP p ≤ 200 := by
 obtain ⟨_, _, h1, h2⟩ := h
 unfold sizeP
 split <;> omega
def rem (ps : List Pt) (at_ done : Nat) : List U := (units (ps.drop at_)).drop done
theorem drop_at {α : Type} {l : List α} {k : Nat} {x : α} (h : l[k]? = some x) : l.drop k = x :: l.drop (k + 1) := by
 have hk := idx_lt h
 rw [List.drop_eq_getElem_cons hk]
 congr 1
 have := List.getElem?_eq_getElem hk
 rw [h] at this
 injection this with this
 exact this.symm
theorem rem_next {ps : List Pt} {at_ : Nat} {p : Pt} (h : ps[at_]? = some p) : rem ps at_ (sizeP p) = rem ps (at_ + 1) 0 := by
 unfold rem
 rw [drop_at h, units_cons, ← unitsP_len p]
 simp
theorem rem_end {ps : List Pt} {at_ : Nat} (h : ps.length ≤ at_) (d : Nat) : rem ps at_ d = [] := by
 unfold rem
 rw [List.drop_eq_nil_of_le h]
 simp [units_nil]
theorem rem_in {ps : List Pt} {at_ done : Nat} {p : Pt} (h : ps[at_]? = some p) (hd : done ≤ sizeP p) : rem ps at_ done = (unitsP p).drop done ++ rem ps (at_ + 1) 0 := by
 unfold rem
 rw [drop_at h, units_cons, List.drop_append_of_le_length (by rw [unitsP_len]; exact hd)]
 simp
theorem specSize_d (p : Pt) (A : Option Addr) (c : Nat) (w : World) (h : szP_ p) : Calls Tryz.prog 127 #[.agg #[.int .i64 p.kind, .int .i64 p.n, .slice A p.signs.length c]] w (Nums1 (sizeP p : Int) w) := by
 obtain ⟨k, n, zs⟩ := p
 obtain ⟨hk, h0, h1, h2⟩ := h
 simp only at hk h0 h1 h2
 by_cases e : k = 2
 ·have he : (k == 2) = true := by simp [e]
  have HS := Lib.hid (show sizeP ⟨k, n, zs⟩ = zs.length by simp [sizeP, e])
  clear hk e
  go_enter Tryz.func127, Tryz.ntmps127
  go_wp2
  go_ret
  rw [HS.out]
  exact ⟨rfl, alloc_below _ _⟩
 ·have he : (k == 2) = false := by simp [e]
  have HS := Lib.hid (show ((sizeP ⟨k, n, zs⟩ : Nat) : Int) = n by simp [sizeP, e]; omega)
  clear hk e
  go_enter Tryz.func127, Tryz.ntmps127
  go_wp2
  go_ret
  rw [HS.out]
  exact ⟨rfl, alloc_below _ _⟩
structure Cur (g : Nat) (T : TypeId) (w : World) (A : Option Addr) (c : Nat) (ps : List Pt) (at_ done : Nat) : Prop where
 box : w.heap[g]? = some (.cells #[.slice A ps.length c, .int .i64 (at_ : Int), .int .i64 (done : Int)] T (0, 0))
 le : at_ ≤ ps.length
 part : ∀ p, ps[at_]? = some p → done ≤ sizeP p
 stop : at_ = ps.length → done = 0
theorem Cur.cell {g : Nat} {T : TypeId} {w : World} {A : Option Addr} {c : Nat} {ps : List Pt} {at_ done : Nat} (h : Cur g T w A c ps at_ done) (i : Nat) : w.cell? ⟨g, i, none⟩ = #[Value.slice A ps.length c, .int .i64 (at_ : Int), .int .i64 (done : Int)][i]? := cell_of_row _ _ i _ _ _ h.box
theorem Cur.free {g : Nat} {T : TypeId} {w : World} {A : Option Addr} {c : Nat} {ps : List Pt} {at_ done : Nat} (h : Cur g T w A c ps at_ done) (o : Nat) : w.frozen? ⟨g, o, none⟩ = false := by simp [World.frozen?, h.box]
theorem Cur.lt {g : Nat} {T : TypeId} {w : World} {A : Option Addr} {c : Nat} {ps : List Pt} {at_ done : Nat} (h : Cur g T w A c ps at_ done) : g < w.heap.size := lt_of_some h.box
theorem Cur.keep {g : Nat} {T : TypeId} {w w' : World} {A : Option Addr} {c : Nat} {ps : List Pt} {at_ done : Nat} (h : Cur g T w A c ps at_ done) (hk : w'.heap[g]? = w.heap[g]?) : Cur g T w' A c ps at_ done := ⟨hk.trans h.box, h.le, h.part, h.stop⟩
theorem Cur.move {g : Nat} {T : TypeId} {w : World} {A : Option Addr} {c : Nat} {ps : List Pt} {at_ done : Nat} (h : Cur g T w A c ps at_ done) (at' done' : Nat) (h1 : at' ≤ ps.length) (h2 : ∀ p, ps[at']? = some p → done' ≤ sizeP p) (h3 : at' = ps.length → done' = 0) :
  Cur g T ((w.setCell ⟨g, 1, none⟩ (.int .i64 (at' : Int))).setCell ⟨g, 2, none⟩ (.int .i64 (done' : Int))) A c ps at' done' := by
 refine ⟨?_, h1, h2, h3⟩
 rw [heap_setCell_same _ _ _ _ _ _ (heap_setCell_same _ _ _ _ _ _ h.box)]
 rfl
def atOf (g : Nat) (w : World) : Nat := match w.cell? ⟨g, 1, none⟩ with
 | some (.int _ n) => n.toNat
 | _ => 0
theorem Cur.atOf {g : Nat} {T : TypeId} {w : World} {A : Option Addr} {c : Nat} {ps : List Pt} {at_ done : Nat} (h : Cur g T w A c ps at_ done) : atOf g w = at_ := by
 unfold low.atOf
 rw [h.cell 1]
 rfl
theorem below_drewN {lo n : Nat} {w wr : World} (h : Below lo w wr) : Below lo w (wr.drewN n) := ⟨h.os, h.tape, h.output, h.size, h.block⟩
theorem fr_drewN {S : Nat → Prop} {n : Nat} {w wr : World} (h : Fr S w wr) : Fr S w (wr.drewN n) := ⟨h.size, h.block⟩
def KS (wr W : World) : Prop := Below wr.heap.size wr W
theorem KS.start (wr : World) : KS wr wr.drew := (Below.refl _ _).drew
theorem sk_past {wr W W' : World} {g b o : Nat} {v0 v1 v2 u0 u1 u2 : Value} (hg : g < wr.heap.size) (hb : b < wr.heap.size)
  (h : W.cell? ⟨g, 0, none⟩ = some v0 ∧ W.cell? ⟨g, 1, none⟩ = some v1 ∧ W.cell? ⟨g, 2, none⟩ = some v2 ∧ W.cell? ⟨b, o, none⟩ = some u0 ∧ W.cell? ⟨b, o + 1, none⟩ = some u1 ∧ W.cell? ⟨b, o + 2, none⟩ = some u2 ∧ KS wr W) (h2 : Below W.heap.size W W') :
  W'.cell? ⟨g, 0, none⟩ = some v0 ∧ W'.cell? ⟨g, 1, none⟩ = some v1 ∧ W'.cell? ⟨g, 2, none⟩ = some v2 ∧ W'.cell? ⟨b, o, none⟩ = some u0 ∧ W'.cell? ⟨b, o + 1, none⟩ = some u1 ∧ W'.cell? ⟨b, o + 2, none⟩ = some u2 ∧ KS wr W' := by
 obtain ⟨a0, a1, a2, c0, c1, c2, hk⟩ := h
 have hs := hk.size
 have g' : g < W.heap.size := Nat.lt_of_lt_of_le hg hs
 have b' : b < W.heap.size := Nat.lt_of_lt_of_le hb hs
 exact ⟨(h2.cell (p := ⟨g, 0, none⟩) g').trans a0, (h2.cell (p := ⟨g, 1, none⟩) g').trans a1, (h2.cell (p := ⟨g, 2, none⟩) g').trans a2, (h2.cell (p := ⟨b, o, none⟩) b').trans c0, (h2.cell (p := ⟨b, o + 1, none⟩) b').trans c1, (h2.cell (p := ⟨b, o + 2, none⟩) b').trans c2, hk.trans (h2.mono hs)⟩
def KindP (lo g : Nat) (T : TypeId) (A : Option Addr) (c : Nat) (ps : List Pt) (R : List U) (w : World) (e : Ending) (w' : World) : Prop :=
 ∃ at_ done, Cur g T w' A c ps at_ done ∧ rem ps at_ done = R ∧ Below lo w w' ∧ Fr (fun b => b = g) w w' ∧
  ((at_ = ps.length ∧ e = .returned (.int .i64 0)) ∨ ∃ p, ps[at_]? = some p ∧ done < sizeP p ∧ e = .returned (.int .i64 p.kind))
theorem specKind_d (lo g : Nat) (A : Option Addr) (c : Nat) (ps : List Pt) (at0 done0 : Nat) (w : World) (hc : Cur g 140 w A c ps at0 done0) (hlo : lo ≤ g) (B : Nat) (hB : B ≤ g) (hr : PRow w B A ps) (hsz : ∀ p ∈ ps, szP_ p) (hl : ps.length ≤ 1048576) :
  Calls Tryz.prog 104 #[.pointer (some ⟨g, 0, none⟩)] w (KindP lo g 140 A c ps (rem ps at0 done0) w) := by
 have hgw := hc.lt
 go_enter Tryz.func104, Tryz.ntmps104
 go_wp2
 go_loopw [13] (fun _ wr => ∃ at_ done, Cur g 140 wr A c ps at_ done ∧ rem ps at_ done = rem ps at0 done0 ∧ Below lo w wr ∧ Fr (fun b => b = g) w wr) (fun _ wr => ps.length - atOf g wr)
 case atStart => exact ⟨at0, done0, hc, rfl, Below.refl _ _, Fr.refl _ _⟩
 case round =>
  obtain ⟨at_, done, hcu, hrem, hbel, hfr⟩ := hrel
  have c0 := hcu.cell 0
  have c1 := hcu.cell 1
  have c2 := hcu.cell 2
  have f1 := hcu.free 1
  have f2 := hcu.free 2
  have hle := hcu.le
  have hat := hcu.atOf
  have HC := Lib.hid hcu
  have HR := Lib.hid hrem
  have HF := Lib.hid hfr
  clear hcu hrem hfr hc
  simp at c0 c1 c2
  by_cases hend : at_ = ps.length
  ·have g0 : decide (at_ < ps.length) = false := decide_eq_false (by omega)
   have g1 : ((at_ : Int) == (ps.length : Int)) = true := by simp [hend]
   have HE := Lib.hid hend
   clear hend
   go_wp2
   go_quiet (fail)
   go_wp2
   go_quiet (fail)
   go_wp2
   go_ret
   exact ⟨at_, done, HC.out.keep rfl, HR.out, below_drewN (below_drewN hbel), fr_drewN (fr_drewN HF.out), .inl ⟨HE.out, rfl⟩⟩
  ·have hlt : at_ < ps.length := by omega
   have g0 : decide (at_ < ps.length) = true := decide_eq_true hlt
   have g1 : ((at_ : Int) == (ps.length : Int)) = false := by rw [beq_eq_false_iff_ne]; omega
   have hgl := HC.out.lt
   have hrw : PRow wr B A ps := hr.keep (fun q hq => World.cell?_of_block (HF.out.block q.block (by omega) (by intro e; omega)))
   obtain ⟨b, off, p, rfl, hb, hp, hpt⟩ := hrw.at_ hlt
   obtain ⟨x0, x1, A1, e1, x2, r1⟩ := hpt
   have hps := hsz p (List.mem_of_getElem? hp)
   have hdn := HC.out.part p hp
   have hs200 := sizeP_le hps
   have HP := Lib.hid hp
   have hk0 := KS.start wr
   have hbl : b < wr.heap.size := by omega
   clear hp hrw r1
   by_cases hfull : done = sizeP p
   ·have g2 : ((done : Int) == ((sizeP p : Nat) : Int)) = true := by simp [hfull]
    have HD := Lib.hid hfull
    clear hfull
    go_wp2
    go_region_held3 (fun W => W.cell? ⟨g, 0, none⟩ = some (.slice (some ⟨b, off, none⟩) ps.length c) ∧ W.cell? ⟨g, 1, none⟩ = some (.int .i64 (at_ : Int)) ∧ W.cell? ⟨g, 2, none⟩ = some (.int .i64 (done : Int)) ∧ W.cell? ⟨b, off + at_ * 3, none⟩ = some (.int .i64 p.kind) ∧ W.cell? ⟨b, off + at_ * 3 + 1, none⟩ = some (.int .i64 p.n) ∧ W.cell? ⟨b, off + at_ * 3 + 2, none⟩ = some (.slice A1 p.signs.length e1) ∧ KS wr W)
     (first | go_keep | (exact sk_past hgl hbl (by assumption) b2))
     (first | (go_at_call 127; refine (specSize_d p A1 e1 _ hps).mono ?_; rintro e w2 ⟨rfl, b2⟩))
    rename_i hS2
    obtain ⟨y0, y1, y2, z0, z1, z2, hks⟩ := hS2
    have hcu2 := HC.out.keep (hks.block g hgl)
    have f1' := hcu2.free 1
    have f2' := hcu2.free 2
    have HC2 := Lib.hid hcu2
    have HB2 := Lib.hid (show Below lo w _ from hbel.trans (hks.mono (Nat.le_trans hlo (Nat.le_of_lt hgl))))
    have HF2 := Lib.hid (show Fr (fun b => b = g) w _ from HF.out.trans (Fr.below hks))
    clear hcu2 b2 hk0
    go_wp2
    have hmv := HC2.out.move (at_ + 1) 0 (by omega) (fun q _ => Nat.zero_le _) (fun _ => rfl)
    have hmv' : Cur g 140 ((w2.setCell ⟨g, 1, none⟩ (.int .i64 ((at_ : Int) + 1))).setCell ⟨g, 2, none⟩ (.int .i64 0)) (some ⟨b, off, none⟩) c ps (at_ + 1) 0 := by simpa using hmv
    go_roundw
    case rel => exact ⟨at_ + 1, 0, hmv', by rw [← HR.out, HD.out, rem_next HP.out], (HB2.out.setCell hlo _).setCell hlo _, (HF2.out.setCell (p := ⟨g, 1, none⟩) rfl _).setCell (p := ⟨g, 2, none⟩) rfl _⟩
    case measure => rw [hmv'.atOf, hat]; omega
   ·have g2 : ((done : Int) == ((sizeP p : Nat) : Int)) = false := by rw [beq_eq_false_iff_ne]; omega
    have hlt2 : done < sizeP p := by omega
    clear hfull
    go_wp2
    go_region_held3 (fun W => W.cell? ⟨g, 0, none⟩ = some (.slice (some ⟨b, off, none⟩) ps.length c) ∧ W.cell? ⟨g, 1, none⟩ = some (.int .i64 (at_ : Int)) ∧ W.cell? ⟨g, 2, none⟩ = some (.int .i64 (done : Int)) ∧ W.cell? ⟨b, off + at_ * 3, none⟩ = some (.int .i64 p.kind) ∧ W.cell? ⟨b, off + at_ * 3 + 1, none⟩ = some (.int .i64 p.n) ∧ W.cell? ⟨b, off + at_ * 3 + 2, none⟩ = some (.slice A1 p.signs.length e1) ∧ KS wr W)
     (first | go_keep | (exact sk_past hgl hbl (by assumption) b2))
     (first | (go_at_call 127; refine (specSize_d p A1 e1 _ hps).mono ?_; rintro e w2 ⟨rfl, b2⟩))
    rename_i hS2
    obtain ⟨y0, y1, y2, z0, z1, z2, hks⟩ := hS2
    have hcu2 := HC.out.keep (hks.block g hgl)
    have f1' := hcu2.free 1
    have f2' := hcu2.free 2
    have HC2 := Lib.hid hcu2
    have HB2 := Lib.hid (show Below lo w _ from hbel.trans (hks.mono (Nat.le_trans hlo (Nat.le_of_lt hgl))))
    have HF2 := Lib.hid (show Fr (fun b => b = g) w _ from HF.out.trans (Fr.below hks))
    clear hcu2 b2 hk0
    go_wp2
    go_quiet (fail)
    go_wp2
    go_quiet (fail)
    go_wp2
    go_ret
    exact ⟨at_, done, HC2.out.keep rfl, HR.out, below_drewN (below_drewN HB2.out), fr_drewN (fr_drewN HF2.out), .inr ⟨p, HP.out, hlt2, rfl⟩⟩
theorem ret_b {a b : Bool} (h : a = b) : Ending.returned (.bool a) = .returned (.bool b) := by rw [h]
def lowerAt (s : ByteArray) (i : Nat) : Bool := if h : i < s.size then decide (97 ≤ (s[i]'h).toNat ∧ (s[i]'h).toNat ≤ 122) else true
def lowersTo (s : ByteArray) : Nat → Bool
 | 0 => true
 | k + 1 => lowersTo s k && lowerAt s k
def nameB (s : ByteArray) : Bool := lowersTo s s.size && inB (s.size : Int) 1 8
theorem lowersTo_f {s : ByteArray} {k : Nat} (h : lowerAt s k = false) : ∀ n, k < n → lowersTo s n = false
 | 0, hk => by omega
 | n + 1, hk => by
  rw [lowersTo]
  by_cases e : k = n
  ·rw [e] at h
   rw [h]
   simp
  ·rw [lowersTo_f h n (by omega)]
   rfl
theorem specNameOk_d (s : ByteArray) (w : World) (hs : s.size ≤ 1048576) : Calls Tryz.prog 54 #[.string s] w (Tells (nameB s) w) := by
 go_enter Tryz.func54, Tryz.ntmps54
 go_wp2
 go_loopw [3] (fun i wr => ∃ j : Nat, j ≤ s.size ∧ i = .int .i64 (j : Int) ∧ lowersTo s j = true ∧ Below w.heap.size w wr) (fun i _ => s.size - (intOf i).toNat)
 case atStart => exact ⟨0, Nat.zero_le _, rfl, rfl, Below.refl _ _⟩
 case round =>
  obtain ⟨j, hj, rfl, hi, hbel⟩ := hrel
  have HI := Lib.hid hi
  clear hi
  by_cases hlt : j < s.size
  ·obtain ⟨c, hc⟩ : ∃ c : Nat, c = (s[j]'hlt).toNat := ⟨_, rfl⟩
   have HLO := Lib.hid (show lowerAt s j = decide (97 ≤ c ∧ c ≤ 122) by unfold lowerAt; rw [dif_pos hlt, ← hc])
   by_cases h1 : c < 97
   ·have HF := Lib.hid (lowersTo_f (s := s) (k := j) (by rw [HLO.out]; simp; omega) s.size hlt)
    go_wp2
    go_ret
    refine ⟨ret_b ?_, hbel⟩
    unfold nameB
    rw [HF.out]
    rfl
   by_cases h2 : 122 < c
   ·have HF := Lib.hid (lowersTo_f (s := s) (k := j) (by rw [HLO.out]; simp; omega) s.size hlt)
    go_wp2
    go_ret
    refine ⟨ret_b ?_, hbel⟩
    unfold nameB
    rw [HF.out]
    rfl
   ·have HT := Lib.hid (show lowersTo s (j + 1) = true by rw [lowersTo, HI.out, HLO.out]; simp; omega)
    go_wp2
    go_roundw
    case rel => exact ⟨j + 1, by omega, by go_num, HT.out, hbel⟩
    case measure => simp [intOf]; omega
  ·obtain rfl : j = s.size := by omega
   go_wp2_with fail
   refine (in_any _ _ _ _).mono ?_
   rintro e w1 ⟨rfl, rfl⟩
   go_wp2
   go_ret
   refine ⟨ret_b ?_, hbel⟩
   unfold nameB
   rw [HI.out]
   rfl
def entryB (x : En) : Bool := inB x.client 1 8 && inB x.seq 1 1000000000 && isNormL x.o
theorem specEntryOk_d (v : Value) (x : En) (w : World) (h : RdC w w.heap.size (datEn x) v) (hs : SmEn x) : Calls Tryz.prog 57 #[v] w (Tells (entryB x) w) := by
 obtain ⟨A2, c2, rfl, r2⟩ := aggEn h
 have b0 := alloc_below w (.cells #[.int .i64 x.client, .int .i64 x.seq, .slice A2 x.o.length c2] 86)
 have HE := Lib.hid (show entryB x = (inB x.client 1 8 && inB x.seq 1 1000000000 && isNormL x.o) from rfl)
 cases h1 : inB x.client 1 8
 ·go_enter Tryz.func57, Tryz.ntmps57
  go_wp2_with fail
  refine (in_any _ _ _ _).mono ?_
  rintro e w1 ⟨rfl, rfl⟩
  rw [h1]
  go_wp2
  go_ret
  exact ⟨ret_b (by rw [HE.out, h1]; rfl), b0⟩
 cases h2 : inB x.seq 1 1000000000
 ·go_enter Tryz.func57, Tryz.ntmps57
  go_wp2_with fail
  refine (in_any _ _ _ _).mono ?_
  rintro e w1 ⟨rfl, rfl⟩
  rw [h1]
  go_wp2_with fail
  refine (in_any _ _ _ _).mono ?_
  rintro e w1 ⟨rfl, rfl⟩
  rw [h2]
  go_wp2
  go_ret
  exact ⟨ret_b (by rw [HE.out, h1, h2]; rfl), b0⟩
 obtain ⟨A, c, e2, hr, _⟩ := parts_rd r2
 injection e2 with e2 _ e3
 subst e2 e3
 have hso := hs.o
 have hs1 := hso.1
 have hs2 := hso.2
 go_enter Tryz.func57, Tryz.ntmps57
 go_wp2_with fail
 refine (in_any _ _ _ _).mono ?_
 rintro e w1 ⟨rfl, rfl⟩
 rw [h1]
 go_wp2_with fail
 refine (in_any _ _ _ _).mono ?_
 rintro e w1 ⟨rfl, rfl⟩
 rw [h2]
 go_wp2_with fail
 refine (specIsNorm_any A2 c2 x.o _ (hr.past b0) (by omega) hso.all4 hs2).mono ?_
 rintro e w1 ⟨rfl, b1⟩
 go_wp2
 go_ret
 exact ⟨ret_b (by rw [HE.out, h1, h2]; rfl), b0.trans (b1.mono b0.size)⟩
def headRevT (x : Do) : Int := wrap64 (x.from_ + (x.list.length : Int))
theorem specHeadRev_w (v : Value) (x : Do) (w : World) (h : RdC w w.heap.size (datDo x) v) : Calls Tryz.prog 30 #[v] w (Nums1 (headRevT x) w) := by
 obtain ⟨A2, c2, A3, c3, A4, c4, rfl, _⟩ := aggDo h
 have b0 := alloc_below w (.cells #[.string x.name, .int .i64 x.from_, .slice A2 x.text.length c2, .slice A3 x.list.length c3, .slice A4 x.seen.length c4] 36)
 go_enter Tryz.func30, Tryz.ntmps30
 go_wp2
 go_ret
 exact ⟨rfl, b0⟩
theorem specHeadRev_d (v : Value) (x : Do) (w : World) (h : RdC w w.heap.size (datDo x) v) (hs : SmDo x) : Calls Tryz.prog 30 #[v] w (Nums1 (headRevT x) w) := specHeadRev_w v x w h
def seenGo (c : Int) : List Se → Option Se
 | [] => none
 | s :: l => if s.client = c then some s else seenGo c l
theorem nfGo_ends : ∀ (us : List U) (ps : List Int) (n : Nat), src (nfGo us ps n) = src us + n ∧ tgt (nfGo us ps n) = tgt us + ps.length
 | [], ps, n => by rw [nfGo, src_app, tgt_app, (src_mp ps).1, (src_mp ps).2, (src_rd n).1, (src_rd n).2]; simp [src, tgt]
 | .k :: us, ps, n => by
  obtain ⟨i1, i2⟩ := nfGo_ends us [] 0
  rw [nfGo, src_app, tgt_app, src_app, tgt_app, (src_mp ps).1, (src_mp ps).2, (src_rd n).1, (src_rd n).2]
  simp [src, tgt, i1, i2]
  omega
 | .p x :: us, ps, n => by
  obtain ⟨i1, i2⟩ := nfGo_ends us (ps ++ [x]) n
  rw [nfGo, i1, i2]
  simp [src, tgt]
  omega
 | .d :: us, ps, n => by
  obtain ⟨i1, i2⟩ := nfGo_ends us ps (n + 1)
  rw [nfGo, i1, i2]
  simp [src, tgt]
  omega
theorem nf_ends (us : List U) : src (nfU us) = src us ∧ tgt (nfU us) = tgt us := by
 have := nfGo_ends us [] 0
 simpa [nfU] using this
def noD : List U → Prop
 | .d :: _ => False
 | _ => True
def noP : List U → Prop
 | .p _ :: _ => False
 | _ => True
theorem comp_ds : ∀ (n : Nat) (a b : List U), comp (List.replicate n .d ++ a) b = List.replicate n .d ++ comp a b
 | 0, a, b => rfl
 | n + 1, a, b => by rw [List.replicate_succ, List.cons_append, comp, comp_ds n a b]; rfl
theorem comp_put1 (a b : List U) (x : Int) (h : noD a) : comp a (.p x :: b) = .p x :: comp a b := by
 cases a with
 | nil => rw [comp]
 | cons u a =>
  cases u with
  | k => rw [comp]
  | p y => rw [comp]
  | d => exact absurd h (by simp [noD])
theorem comp_puts : ∀ (zs : List Int) (a b : List U), noD a → comp a (zs.map .p ++ b) = zs.map .p ++ comp a b
 | [], a, b, _ => rfl
 | z :: zs, a, b, h => by rw [List.map_cons, List.cons_append, comp_put1 a _ z h, comp_puts zs a b h]; rfl
theorem comp_kk : ∀ (n : Nat) (a b : List U), comp (List.replicate n .k ++ a) (List.replicate n .k ++ b) = List.replicate n .k ++ comp a b
 | 0, a, b => rfl
 | n + 1, a, b => by rw [List.replicate_succ, List.cons_append, List.cons_append, comp, comp_kk n a b]; rfl
theorem comp_kd : ∀ (n : Nat) (a b : List U), comp (List.replicate n .k ++ a) (List.replicate n .d ++ b) = List.replicate n .d ++ comp a b
 | 0, a, b => rfl
 | n + 1, a, b => by rw [List.replicate_succ, List.replicate_succ, List.cons_append, List.cons_append, comp, comp_kd n a b]; rfl
theorem comp_pk : ∀ (zs : List Int) (a b : List U), comp (zs.map .p ++ a) (List.replicate zs.length .k ++ b) = zs.map .p ++ comp a b
 | [], a, b => rfl
 | z :: zs, a, b => by rw [List.map_cons, List.length_cons, List.replicate_succ, List.cons_append, List.cons_append, comp, comp_pk zs a b]; rfl
theorem comp_pd : ∀ (zs : List Int) (a b : List U), comp (zs.map .p ++ a) (List.replicate zs.length .d ++ b) = comp a b
 | [], a, b => rfl
 | z :: zs, a, b => by rw [List.map_cons, List.length_cons, List.replicate_succ, List.cons_append, List.cons_append, comp, comp_pd zs a b]
theorem xf_puts : ∀ (zs : List Int) (a b : List U), xf (zs.map .p ++ a) b = (zs.map .p ++ (xf a b).1, List.replicate zs.length .k ++ (xf a b).2)
 | [], a, b => rfl
 | z :: zs, a, b => by rw [List.map_cons, List.cons_append, xf, xf_puts zs a b]; rfl
theorem xf_put1 (a b : List U) (x : Int) (h : noP a) : xf a (.p x :: b) = (.k :: (xf a b).1, .p x :: (xf a b).2) := by
 cases a with
 | nil => rw [xf]
 | cons u a =>
  cases u with
  | k => rw [xf]
  | p y => exact absurd h (by simp [noP])
  | d => rw [xf]
theorem xf_putsB : ∀ (zs : List Int) (a b : List U), noP a → xf a (zs.map .p ++ b) = (List.replicate zs.length .k ++ (xf a b).1, zs.map .p ++ (xf a b).2)
 | [], a, b, _ => rfl
 | z :: zs, a, b, h => by rw [List.map_cons, List.cons_append, xf_put1 a _ z h, xf_putsB zs a b h]; rfl
theorem xf_kk : ∀ (n : Nat) (a b : List U), xf (List.replicate n .k ++ a) (List.replicate n .k ++ b) = (List.replicate n .k ++ (xf a b).1, List.replicate n .k ++ (xf a b).2)
 | 0, a, b => rfl
 | n + 1, a, b => by rw [List.replicate_succ, List.cons_append, List.cons_append, xf, xf_kk n a b]; rfl
theorem xf_kd : ∀ (n : Nat) (a b : List U), xf (List.replicate n .k ++ a) (List.replicate n .d ++ b) = ((xf a b).1, List.replicate n .d ++ (xf a b).2)
 | 0, a, b => rfl
 | n + 1, a, b => by rw [List.replicate_succ, List.replicate_succ, List.cons_append, List.cons_append, xf, xf_kd n a b]; rfl
theorem xf_dk : ∀ (n : Nat) (a b : List U), xf (List.replicate n .d ++ a) (List.replicate n .k ++ b) = (List.replicate n .d ++ (xf a b).1, (xf a b).2)
 | 0, a, b => rfl
 | n + 1, a, b => by rw [List.replicate_succ, List.replicate_succ, List.cons_append, List.cons_append, xf, xf_dk n a b]; rfl
theorem xf_dd : ∀ (n : Nat) (a b : List U), xf (List.replicate n .d ++ a) (List.replicate n .d ++ b) = xf a b
 | 0, a, b => rfl
 | n + 1, a, b => by rw [List.replicate_succ, List.cons_append, List.cons_append, xf, xf_dd n a b]
theorem xf_nil : xf [] [] = ([], []) := by rw [xf]
theorem parts_at {w : World} {B : Nat} {A : Option Addr} {n c i : Nat} {ps : List Pt} (h : RdC w B (encPs ps) (.slice A n c)) (hi : i < ps.length) :
  ∃ b off p A1 e1, A = some ⟨b, off, none⟩ ∧ b < B ∧ ps[i]? = some p ∧ w.cell? ⟨b, off + i * 3, none⟩ = some (.int .i64 p.kind) ∧ w.cell? ⟨b, off + i * 3 + 1, none⟩ = some (.int .i64 p.n) ∧ w.cell? ⟨b, off + i * 3 + 2, none⟩ = some (.slice A1 p.signs.length e1) ∧ Row (Value.int .i64) w B A1 p.signs ∧ p.signs.length ≤ e1 := by
 obtain ⟨ad, r, hA, hb, hs, hr, hl⟩ := RdC.at_ (ds := ps.map encPt) h (by simpa using hi)
 rw [List.getElem?_map, List.getElem?_eq_getElem hi] at hr
 obtain rfl : encPt ps[i] = r := by simpa using hr
 obtain ⟨b, off, spot⟩ := ad
 obtain rfl : spot = none := by
  rcases hs with hs | hs
  ·cases hs
  ·exact hs
 obtain ⟨⟨v0, x0, rfl⟩, ⟨v1, x1, rfl⟩, ⟨v2, x2, r2⟩, _⟩ := hl
 obtain ⟨A1, e1, rfl, r3, hc⟩ := ints_rd r2
 rw [add_at] at x0 x1 x2
 exact ⟨b, off, ps[i], A1, e1, hA, hb, List.getElem?_eq_getElem hi, x0, by simpa [Nat.add_assoc] using x1, by simpa [Nat.add_assoc] using x2, r3, hc⟩
theorem specLeft_d (g : Nat) (A : Option Addr) (c : Nat) (ps : List Pt) (at_ done : Nat) (p : Pt) (w : World) (hc : Cur g 140 w A c ps at_ done) (B : Nat) (hB : B ≤ g) (hr : RdC w B (encPs ps) (.slice A ps.length c)) (hp : ps[at_]? = some p) (hsz : szP_ p) (hl : ps.length ≤ 1048576) :
  Calls Tryz.prog 105 #[.pointer (some ⟨g, 0, none⟩)] w (Nums1 ((sizeP p : Int) - (done : Int)) w) := by
 have hlt := idx_lt hp
 have hgl := hc.lt
 have hdn := hc.part p hp
 have hs200 := sizeP_le hsz
 obtain ⟨b, off, q, A1, e1, rfl, hb, hq, x0, x1, x2, _, _⟩ := parts_at hr hlt
 obtain rfl : p = q := by rw [hp] at hq; injection hq
 have c0 := hc.cell 0
 have c1 := hc.cell 1
 have c2 := hc.cell 2
 simp at c0 c1 c2
 have hk0 := KS.start w
 have hbl : b < w.heap.size := by omega
 have hw : IntKind.i64.wrap ((sizeP p : Int) - (done : Int)) = (sizeP p : Int) - (done : Int) := by rw [IntKind.wrap_i64]; omega
 have hix : 0 ≤ (at_ : Int) ∧ (at_ : Int) < (ps.length : Int) := by omega
 clear hp hq hc
 go_enter Tryz.func105, Tryz.ntmps105
 go_wp2
 go_region_held3 (fun W => W.cell? ⟨g, 0, none⟩ = some (.slice (some ⟨b, off, none⟩) ps.length c) ∧ W.cell? ⟨g, 1, none⟩ = some (.int .i64 (at_ : Int)) ∧ W.cell? ⟨g, 2, none⟩ = some (.int .i64 (done : Int)) ∧ W.cell? ⟨b, off + at_ * 3, none⟩ = some (.int .i64 p.kind) ∧ W.cell? ⟨b, off + at_ * 3 + 1, none⟩ = some (.int .i64 p.n) ∧ W.cell? ⟨b, off + at_ * 3 + 2, none⟩ = some (.slice A1 p.signs.length e1) ∧ KS w W)
  (first | go_keep | (exact sk_past hgl hbl (by assumption) b2))
  (first | (go_at_call 127; refine (specSize_d p A1 e1 _ hsz).mono ?_; rintro e w2 ⟨rfl, b2⟩))
 all_goals
  rename_i hS2
  obtain ⟨_, _, _, _, _, _, hks⟩ := hS2
  clear hw
  go_wp2
  go_ret
  exact ⟨rfl, hks⟩
theorem Cur.step {g : Nat} {T : TypeId} {w : World} {A : Option Addr} {c : Nat} {ps : List Pt} {at_ done : Nat} (h : Cur g T w A c ps at_ done) (done' : Nat) (h1 : at_ < ps.length) (h2 : ∀ p, ps[at_]? = some p → done' ≤ sizeP p) :
  Cur g T (w.setCell ⟨g, 2, none⟩ (.int .i64 (done' : Int))) A c ps at_ done' := by
 refine ⟨?_, h.le, h2, fun e => by omega⟩
 rw [heap_setCell_same _ _ _ _ _ _ h.box]
 rfl
def TakeP (lo g : Nat) (T : TypeId) (A : Option Addr) (c : Nat) (ps : List Pt) (at_ done n : Nat) (p : Pt) (w : World) (e : Ending) (w' : World) : Prop :=
 ∃ A' c', e = .returned (.slice A' n c') ∧ Cur g T w' A c ps at_ (done + n) ∧ Row (Value.int .i64) w' w'.heap.size A' ((p.signs.drop done).take n) ∧ Below lo w w' ∧ Fr (fun b => b = g) w w'
theorem specTake_d (lo g : Nat) (A : Option Addr) (c : Nat) (ps : List Pt) (at_ done n : Nat) (p : Pt) (w : World) (hc : Cur g 140 w A c ps at_ done) (hlo : lo ≤ g) (B : Nat) (hB : B ≤ g) (hr : RdC w B (encPs ps) (.slice A ps.length c)) (hp : ps[at_]? = some p) (hk : p.kind = 2) (h2 : p.signs.length ≤ 200) (hn : 0 < n) (hdn : done + n ≤ p.signs.length) (hl : ps.length ≤ 1048576) :
  Calls Tryz.prog 106 #[.pointer (some ⟨g, 0, none⟩), .int .i64 (n : Int)] w (TakeP lo g 140 A c ps at_ done n p w) := by
 have hlt := idx_lt hp
 have hgl := hc.lt
 obtain ⟨b, off, q, A1, e1, rfl, hb, hq, x0, x1, x2, r1, hcap⟩ := parts_at hr hlt
 obtain rfl : p = q := by rw [hp] at hq; injection hq
 obtain ⟨ad, rfl, hab, hcs⟩ := r1 (by omega)
 have c0 := hc.cell 0
 have c1 := hc.cell 1
 have c2 := hc.cell 2
 have f2 := hc.free 2
 simp at c0 c1 c2
 have HC := Lib.hid hc
 have HP := Lib.hid hp
 have HR1 := Lib.hid r1
 have hix : 0 ≤ (at_ : Int) ∧ (at_ : Int) < (ps.length : Int) := by omega
 have hne : ¬ done = e1 := by omega
 have hw : IntKind.i64.wrap ((done : Int) + (n : Int)) = (done : Int) + (n : Int) := by rw [IntKind.wrap_i64]; omega
 have ht : ((done : Int) + (n : Int)).toNat = done + n := by omega
 clear hp hq hc hcs r1
 go_enter Tryz.func106, Tryz.ntmps106
 go_wp2
 go_quiet (fail)
 clear hw ht
 go_wp2
 go_ret
 have hcu : Cur g 140 (w.drewN nq) (some ⟨b, off, none⟩) c ps at_ done := HC.out.keep rfl
 have hst := hcu.step (done + n) hlt (fun q hq => by rw [HP.out] at hq; injection hq with hq; subst hq; unfold sizeP; rw [if_pos hk]; exact hdn)
 have hst' : Cur g 140 ((w.drewN nq).setCell ⟨g, 2, none⟩ (.int .i64 ((done : Int) + (n : Int)))) (some ⟨b, off, none⟩) c ps at_ (done + n) := by simpa using hst
 refine ⟨_, _, rfl, hst', ?_, (below_drewN (Below.refl lo w)).setCell hlo _, (fr_drewN (S := fun b => b = g) (Fr.refl _ w)).setCell (p := ⟨g, 2, none⟩) rfl _⟩
 have hrow := HR1.out.piece done n hdn
 refine (hrow.keep (fun q hq => ?_)).more (Nat.le_trans hB (Nat.le_of_lt hst'.lt))
 exact World.cell?_of_block (Below.heap_setCell _ _ _ _ (fun e => by have e' : q.block = g := e; omega))
theorem specMin_d (x y : Int) (w : World) : Calls Tryz.prog 107 #[.int .i64 x, .int .i64 y] w fun e w' => e = .returned (.int .i64 (if x < y then x else y)) ∧ w = w' := by
 by_cases h : x < y
 ·rw [if_pos h]
  go_enter Tryz.func107, Tryz.ntmps107
  go_wp2
  go_ret
  exact ⟨rfl, rfl⟩
 ·rw [if_neg h]
  go_enter Tryz.func107, Tryz.ntmps107
  go_wp2
  go_ret
  exact ⟨rfl, rfl⟩
def stepAll (s : Option (List Int)) (ps : List Pt) : Option (List Int) := match s with
 | none => none
 | some t => if fitsB ps t = true then some (applyT ps t) else none
def foldAll (l : List (List Pt)) (t : List Int) : Option (List Int) := l.foldl stepAll (some t)
def applyAllB (l : List (List Pt)) (t : List Int) : Bool := (foldAll l t).isSome && okText t
def applyAllT (l : List (List Pt)) (t : List Int) : List Int := if applyAllB l t = true then (foldAll l t).getD [] else []
theorem foldAll_snoc {l : List (List Pt)} {t : List Int} {k : Nat} {ps : List Pt} (h : l[k]? = some ps) : foldAll (l.take (k + 1)) t = stepAll (foldAll (l.take k) t) ps := by
 unfold foldAll
 rw [List.take_add_one, h]
 simp
theorem fold_none (l : List (List Pt)) : l.foldl stepAll none = none := by
 induction l with
 | nil => rfl
 | cons p l ih => exact ih
theorem foldAll_none {l : List (List Pt)} {t : List Int} {k : Nat} (h : foldAll (l.take k) t = none) : foldAll l t = none := by
 have e : foldAll l t = (l.drop k).foldl stepAll (foldAll (l.take k) t) := by
  unfold foldAll
  rw [← List.foldl_append, List.take_append_drop]
 rw [e, h, fold_none]
theorem foldAll_len {l : List (List Pt)} {t cur : List Int} {k : Nat} (hk : k ≤ l.length) (h : foldAll (l.take k) t = some cur) : cur.length ≤ max t.length 200 := by
 cases k with
 | zero =>
  have : cur = t := by simpa [foldAll] using h.symm
  rw [this]
  omega
 | succ k =>
  obtain ⟨ps, hp⟩ := idx_some (l := l) (i := k) (by omega)
  rw [foldAll_snoc hp] at h
  cases hq : foldAll (l.take k) t with
  | none => rw [hq] at h; cases h
  | some u =>
   rw [hq] at h
   unfold stepAll at h
   simp only at h
   split at h
   ·injection h with h
    rw [← h]
    have := apply_len ps u
    omega
   ·cases h
theorem nilOwn (d : Dat) {e : TypeId} {sz lo : Nat} (w : World) (hd : d = .rows e sz []) (h : lo ≤ w.heap.size) : Own lo w.heap.size w d (.slice none 0 0) := by
 subst hd
 exact ⟨[], ⟨[], [], World.ownsRow_nil _ _ _ _, ⟨rfl, rfl⟩, rfl⟩, by simp, fun b hb => by simp at hb, Nat.le_refl _, h⟩
theorem ownInts {lo : Nat} {w : World} {A : Option Addr} {n c : Nat} {zs : List Int} (h : w.ownsRow lo 3 1 (.slice A n c) zs.length (zs.map (Value.int .i64))) (hlo : lo ≤ w.heap.size) : Own lo w.heap.size w (encInts zs) (.slice A n c) :=
 ⟨_, ow_ints h, by cases A <;> simp [Value.ownBlock], fun b hb => by
  have hb' : (Value.slice A n c).ownBlock = some b := by simpa using hb
  exact ⟨own_ge h b hb', own_in h hb'⟩, Nat.le_refl _, hlo⟩
theorem specKeepB (O : Nat → Prop) (lo g : Nat) (L : List Pt) (n : Int) (w : World) (hb : Bld O lo g 134 w L) (h0 : 0 ≤ n) (h1 : n ≤ 200) (hl : L.length < 100000) :
  Calls Tryz.prog 100 #[.pointer (some ⟨g, 0, none⟩), .int .i64 n] w (BldP O lo g 134 (L ++ [⟨1, n, []⟩]) w) := by
 have hz : szP_ ⟨1, n, []⟩ := ⟨.inl rfl, h0, h1, by simp⟩
 by_cases hn : n = 0
 ·subst hn
  refine (specKeep_zero g w).mono ?_
  rintro e w' ⟨rfl, rfl⟩
  exact ⟨rfl, hb.add hl hz (Below.refl _ _) (Fr.refl _ _) (hb.at_.mono (fun b h => .inl h))⟩
 ·have hf := hb.fit
  have hd := hf.done
  have hsg := signsIn_le hb.sz
  have f1 := hf.len
  have f2 := hf.signs
  have hlen := hb.len
  refine (specKeep_f (fun b => O b ∨ w.heap.size ≤ b) lo g _ _ _ n w (hb.at_.mono (fun b h => .inl h)) (fun b h => .inr h) (by omega) (by omega) hn h0 (by omega) (fun p hp => by have := hd.2.2 p hp; omega) (by have := hd.1; exact Nat.le_trans this (by omega))).mono ?_
  rintro e w' ⟨rfl, hn', b, fr⟩
  refine ⟨rfl, hb.add hl hz b fr ?_⟩
  simp only [stepN, if_neg hn]
  exact hn'.at_
theorem specPutB (O : Nat → Prop) (lo g : Nat) (L : List Pt) (A : Option Addr) (c m : Nat) (zs : List Int) (w : World) (hb : Bld O lo g 134 w L) (hr : Row (Value.int .i64) w w.heap.size A zs) (hm : zs.length = m) (h1 : zs.length ≤ 200) (hl : L.length < 100000) :
  Calls Tryz.prog 101 #[.pointer (some ⟨g, 0, none⟩), .slice A m c] w (BldP O lo g 134 (L ++ [⟨2, 0, zs⟩]) w) := by
 subst hm
 have hz : szP_ ⟨2, 0, zs⟩ := ⟨.inr (.inl rfl), by simp, by simp, h1⟩
 have hsg := signsIn_le hb.sz
 have f2 := hb.fit.signs
 have hlen := hb.len
 refine (specPut_f (fun b => O b ∨ w.heap.size ≤ b) lo g _ _ _ A c zs w (hb.at_.mono (fun b h => .inl h)) (fun b h => .inr h) hr (by omega) (by omega)).mono ?_
 rintro e w' ⟨rfl, ha, b, fr⟩
 exact ⟨rfl, hb.add hl hz b fr ha⟩
theorem specDropB (O : Nat → Prop) (lo g : Nat) (L : List Pt) (n : Int) (w : World) (hb : Bld O lo g 134 w L) (h0 : 0 ≤ n) (h1 : n ≤ 200) (hl : L.length < 100000) :
  Calls Tryz.prog 102 #[.pointer (some ⟨g, 0, none⟩), .int .i64 n] w (BldP O lo g 134 (L ++ [⟨3, n, []⟩]) w) := by
 have hz : szP_ ⟨3, n, []⟩ := ⟨.inr (.inr rfl), h0, h1, by simp⟩
 have f3 := hb.fit.d0
 have f4 := hb.fit.d1
 have hlen := hb.len
 refine (specDrop_f (fun b => O b ∨ w.heap.size ≤ b) lo g _ _ _ n w (hb.at_.mono (fun b h => .inl h)) (fun b h => .inr h) f3 (by omega) h0 (by omega)).mono ?_
 rintro e w' ⟨rfl, ha, b, fr⟩
 exact ⟨rfl, hb.add hl hz b fr ha⟩
theorem specDoneB (O : Nat → Prop) (lo g : Nat) (L : List Pt) (w : World) (hb : Bld O lo g 134 w L) :
  Calls Tryz.prog 103 #[.pointer (some ⟨g, 0, none⟩)] w (DoneP O lo L w) := by
 have f1 := hb.fit.len
 have hlen := hb.len
 have hsg := signsIn_le hb.sz
 have f2 := hb.fit.signs
 refine (specDone_f (fun b => O b ∨ w.heap.size ≤ b) lo g _ _ _ w (hb.at_.mono (fun b h => .inl h)) (fun b h => .inr h) (by omega) (by omega)).mono ?_
 intro e w' h
 exact GoneS.done h
theorem built_small {L : List Pt} (h : ∀ p ∈ L, szP_ p) (hl : L.length ≤ 5000) : SmP (doneN (foldN L)) := by
 have := (foldN_fitZ h).done
 have := signsIn_le h
 exact ⟨by omega, by omega⟩
theorem specOpNorm_d (v : Value) (ps : List Pt) (w : World) (h : RdC w w.heap.size (encPs ps) v) (hs : SmP ps) : Calls Tryz.prog 81 #[v] w (OwnPost (encPs (normL ps)) w) := by
 obtain ⟨A, c, rfl, hr, _⟩ := parts_rd h
 have hl := hs.1
 refine (specOpNorm_any A c ps w hr (by omega) hs.all4 hs.2).mono ?_
 rintro e w1 ⟨v1, rfl, p1, b1⟩
 exact ⟨v1, rfl, own_parts p1, b1⟩
def kindOf : List U → Int
 | [] => 0
 | .k :: _ => 1
 | .p _ :: _ => 2
 | .d :: _ => 3
def Stands (ps : List Pt) (at_ done : Nat) (R : List U) : Prop := (at_ = ps.length ∧ R = []) ∨ ∃ p, ps[at_]? = some p ∧ done < sizeP p ∧ kindOf R = p.kind ∧ R = (unitsP p).drop done ++ rem ps (at_ + 1) 0
def KindQ (lo g : Nat) (T : TypeId) (A : Option Addr) (c : Nat) (ps : List Pt) (R : List U) (w : World) (e : Ending) (w' : World) : Prop :=
 e = .returned (.int .i64 (kindOf R)) ∧ ∃ at_ done, Cur g T w' A c ps at_ done ∧ rem ps at_ done = R ∧ Stands ps at_ done R ∧ Below lo w w' ∧ Fr (fun b => b = g) w w'
theorem kind_unitsP {p : Pt} (h : szP_ p) {done : Nat} (hd : done < sizeP p) (r : List U) : kindOf ((unitsP p).drop done ++ r) = p.kind := by
 obtain ⟨pk, pn, pz⟩ := p
 obtain ⟨hk, _⟩ := h
 simp only at hk
 rcases hk with rfl | rfl | rfl
 ·have hd' : done < pn.toNat := by simpa [sizeP] using hd
  have e : unitsP ⟨1, pn, pz⟩ = List.replicate pn.toNat .k := by simp [unitsP]
  rw [e, List.drop_replicate, show pn.toNat - done = (pn.toNat - done - 1) + 1 by omega, List.replicate_succ]
  rfl
 ·have hd' : done < pz.length := by simpa [sizeP] using hd
  have e : unitsP ⟨2, pn, pz⟩ = pz.map .p := by simp [unitsP]
  obtain ⟨z, hz⟩ := idx_some (l := pz) (i := done) hd'
  rw [e, ← List.map_drop, drop_at hz]
  rfl
 ·have hd' : done < pn.toNat := by simpa [sizeP] using hd
  have e : unitsP ⟨3, pn, pz⟩ = List.replicate pn.toNat .d := by simp [unitsP]
  rw [e, List.drop_replicate, show pn.toNat - done = (pn.toNat - done - 1) + 1 by omega, List.replicate_succ]
  rfl
theorem specKind_q (lo g : Nat) (A : Option Addr) (c : Nat) (ps : List Pt) (at0 done0 : Nat) (w : World) (hc : Cur g 140 w A c ps at0 done0) (hlo : lo ≤ g) (hr : RdC w lo (encPs ps) (.slice A ps.length c)) (hsz : ∀ p ∈ ps, szP_ p) (hl : ps.length ≤ 1048576) :
  Calls Tryz.prog 104 #[.pointer (some ⟨g, 0, none⟩)] w (KindQ lo g 140 A c ps (rem ps at0 done0) w) := by
 obtain ⟨A', c', e, hp, _⟩ := parts_rd hr
 obtain ⟨rfl, rfl⟩ : A = A' ∧ c = c' := by injection e with e1 _ e3; exact ⟨e1, e3⟩
 refine (specKind_d lo g A c ps at0 done0 w hc hlo lo hlo hp hsz hl).mono ?_
 rintro e w' ⟨at_, done, h1, h2, h3, h4, h5⟩
 rcases h5 with ⟨ha, rfl⟩ | ⟨p, hp, hd, rfl⟩
 ·have hR : rem ps at0 done0 = [] := by rw [← h2, rem_end (by omega)]
  exact ⟨by rw [hR]; rfl, at_, done, h1, h2, .inl ⟨ha, hR⟩, h3, h4⟩
 ·have hR := rem_in hp (Nat.le_of_lt hd)
  have hk := kind_unitsP (hsz p (List.mem_of_getElem? hp)) hd (rem ps (at_ + 1) 0)
  rw [← hR, h2] at hk
  exact ⟨by rw [hk], at_, done, h1, h2, .inr ⟨p, hp, hd, hk, by rw [← h2, hR]⟩, h3, h4⟩
structure CInv (a b : List Pt) (RX RY : List U) (L : List Pt) : Prop where
 eq : units L ++ comp RX RY = comp (units a) (units b)
 bal : tgt RX = src RY
 len : L.length + RX.length + RY.length ≤ 2000
theorem CInv.drop {a b : List Pt} {n : Nat} {RX RY : List U} {L : List Pt} (h : CInv a b (List.replicate n .d ++ RX) RY L) (hn : 0 < n) : CInv a b RX RY (L ++ [⟨3, (n : Int), []⟩]) := by
 refine ⟨?_, ?_, ?_⟩
 ·rw [← h.eq, comp_ds, units_app]
  simp [units, unitsP]
 ·have := h.bal; rwa [tgt_app, (src_rd n).2, Nat.zero_add] at this
 ·have := h.len; simp at this ⊢; omega
theorem CInv.put {a b : List Pt} {zs : List Int} {RX RY : List U} {L : List Pt} (h : CInv a b RX (zs.map .p ++ RY) L) (hd : noD RX) (hn : 0 < zs.length) : CInv a b RX RY (L ++ [⟨2, 0, zs⟩]) := by
 refine ⟨?_, ?_, ?_⟩
 ·rw [← h.eq, comp_puts zs _ _ hd, units_app]
  simp [units, unitsP]
 ·have := h.bal; rwa [src_app, (src_mp zs).1, Nat.zero_add] at this
 ·have := h.len; simp at this ⊢; omega
theorem CInv.kk {a b : List Pt} {n : Nat} {RX RY : List U} {L : List Pt} (h : CInv a b (List.replicate n .k ++ RX) (List.replicate n .k ++ RY) L) (hn : 0 < n) : CInv a b RX RY (L ++ [⟨1, (n : Int), []⟩]) := by
 refine ⟨?_, ?_, ?_⟩
 ·rw [← h.eq, comp_kk, units_app]
  simp [units, unitsP]
 ·have := h.bal; rw [tgt_app, src_app, (src_rk n).1, (src_rk n).2] at this; omega
 ·have := h.len; simp at this ⊢; omega
theorem CInv.kd {a b : List Pt} {n : Nat} {RX RY : List U} {L : List Pt} (h : CInv a b (List.replicate n .k ++ RX) (List.replicate n .d ++ RY) L) (hn : 0 < n) : CInv a b RX RY (L ++ [⟨3, (n : Int), []⟩]) := by
 refine ⟨?_, ?_, ?_⟩
 ·rw [← h.eq, comp_kd, units_app]
  simp [units, unitsP]
 ·have := h.bal; rw [tgt_app, src_app, (src_rk n).2, (src_rd n).1] at this; omega
 ·have := h.len; simp at this ⊢; omega
theorem CInv.pk {a b : List Pt} {zs : List Int} {RX RY : List U} {L : List Pt} (h : CInv a b (zs.map .p ++ RX) (List.replicate zs.length .k ++ RY) L) (hn : 0 < zs.length) : CInv a b RX RY (L ++ [⟨2, 0, zs⟩]) := by
 refine ⟨?_, ?_, ?_⟩
 ·rw [← h.eq, comp_pk, units_app]
  simp [units, unitsP]
 ·have := h.bal; rw [tgt_app, src_app, (src_mp zs).2, (src_rk zs.length).1] at this; omega
 ·have := h.len; simp at this ⊢; omega
theorem CInv.pd {a b : List Pt} {zs : List Int} {RX RY : List U} {L : List Pt} (h : CInv a b (zs.map .p ++ RX) (List.replicate zs.length .d ++ RY) L) : CInv a b RX RY L := by
 refine ⟨?_, ?_, ?_⟩
 ·rw [← h.eq, comp_pd]
 ·have := h.bal; rw [tgt_app, src_app, (src_mp zs).2, (src_rd zs.length).1] at this; omega
 ·have := h.len; simp at this ⊢; omega
theorem okOp_units {a : List Pt} (h : okOp a = true) : (units a).length ≤ 600 ∧ (∀ p ∈ a, szP_ p) ∧ a.length ≤ 600 := by
 obtain ⟨h1, h2, h3, h4, h5, h6, h7⟩ := okOp_of h
 have hz := okPs_sz h1
 obtain ⟨s1, s2⟩ := src_units hz
 refine ⟨?_, hz, h2⟩
 have : ∀ us : List U, us.length ≤ src us + tgt us := by
  intro us
  induction us with
  | nil => simp
  | cons u us ih => cases u <;> simp [src, tgt] <;> omega
 have := this (units a)
 omega
theorem rem_chunk {ps : List Pt} {at_ d n : Nat} {p : Pt} (h : ps[at_]? = some p) (hd : d + n ≤ sizeP p) : rem ps at_ d = ((unitsP p).drop d).take n ++ rem ps at_ (d + n) := by
 rw [rem_in h (by omega), rem_in h hd, ← List.append_assoc]
 congr 1
 rw [← List.drop_drop, List.take_append_drop]
theorem chunk_k {p : Pt} {d n : Nat} (hk : p.kind = 1) (hd : d + n ≤ sizeP p) : ((unitsP p).drop d).take n = List.replicate n .k := by
 have e : unitsP p = List.replicate p.n.toNat .k := by simp [unitsP, hk]
 have hs : sizeP p = p.n.toNat := by simp [sizeP, hk]
 rw [e, List.drop_replicate, List.take_replicate]
 congr 1
 omega
theorem chunk_d {p : Pt} {d n : Nat} (hk : p.kind = 3) (hd : d + n ≤ sizeP p) : ((unitsP p).drop d).take n = List.replicate n .d := by
 have e : unitsP p = List.replicate p.n.toNat .d := by simp [unitsP, hk]
 have hs : sizeP p = p.n.toNat := by simp [sizeP, hk]
 rw [e, List.drop_replicate, List.take_replicate]
 congr 1
 omega
theorem chunk_p {p : Pt} {d n : Nat} (hk : p.kind = 2) : ((unitsP p).drop d).take n = ((p.signs.drop d).take n).map .p := by
 have e : unitsP p = p.signs.map .p := by simp [unitsP, hk]
 rw [e, ← List.map_drop, ← List.map_take]
theorem okOp_partsB {ps : List Pt} (h : okOp ps = true) : partsB ps = true := by
 unfold okOp at h
 cases hp : partsB ps
 ·rw [hp] at h; simp at h
 ·rfl
theorem rem_mono {ps : List Pt} {i j : Nat} (h : i ≤ j) : (rem ps j 0).length ≤ (rem ps i 0).length := by
 obtain ⟨k, rfl⟩ := Nat.le.dest h
 unfold rem
 simp only [List.drop_zero]
 rw [← List.drop_drop]
 generalize ps.drop i = qs
 have e : units qs = units (qs.take k) ++ units (qs.drop k) := by rw [← units_app, List.take_append_drop]
 rw [e, List.length_append]
 omega
theorem rem_le0 (ps : List Pt) (i d : Nat) : (rem ps i d).length ≤ (rem ps i 0).length := by
 unfold rem
 simp
theorem stand_unique {ps : List Pt} {i d i' d' : Nat} {p p' : Pt} (h : ps[i]? = some p) (hd : d < sizeP p) (h' : ps[i']? = some p') (hd' : d' < sizeP p') (e : rem ps i d = rem ps i' d') : i = i' ∧ d = d' := by
 have l := congrArg List.length e
 have l1 : (rem ps i d).length = sizeP p - d + (rem ps (i + 1) 0).length := by rw [rem_in h (Nat.le_of_lt hd), List.length_append, List.length_drop, unitsP_len]
 have l2 : (rem ps i' d').length = sizeP p' - d' + (rem ps (i' + 1) 0).length := by rw [rem_in h' (Nat.le_of_lt hd'), List.length_append, List.length_drop, unitsP_len]
 rcases Nat.lt_trichotomy i i' with hlt | rfl | hgt
 ·have a1 := rem_mono (ps := ps) (i := i + 1) (j := i') (by omega)
  have a2 := rem_le0 ps i' d'
  omega
 ·rw [h] at h'
  injection h' with h'
  subst h'
  exact ⟨rfl, by omega⟩
 ·have a1 := rem_mono (ps := ps) (i := i' + 1) (j := i) (by omega)
  have a2 := rem_le0 ps i d
  omega
def Lead (R : List U) (m : Nat) : Prop := (R = [] ∧ m = 0) ∨ (0 < m ∧ m ≤ 200 ∧ m ≤ R.length ∧ ((kindOf R = 1 ∧ R.take m = List.replicate m .k) ∨ (kindOf R = 3 ∧ R.take m = List.replicate m .d) ∨ (kindOf R = 2 ∧ ∃ zs : List Int, R.take m = zs.map .p)))
theorem take_rep {R : List U} {u : U} {m n : Nat} (h : R.take m = List.replicate m u) (hn : n ≤ m) : R = List.replicate n u ++ R.drop n := by
 have e : R.take n = List.replicate n u := by
  have := congrArg (List.take n) h
  rwa [List.take_take, Nat.min_eq_left hn, List.take_replicate, Nat.min_eq_left hn] at this
 rw [← e, List.take_append_drop]
theorem Lead.k {R : List U} {m n : Nat} (h : Lead R m) (hk : kindOf R = 1) (hn : n ≤ m) : R = List.replicate n .k ++ R.drop n := by
 rcases h with ⟨rfl, rfl⟩ | ⟨_, _, _, ⟨_, h⟩ | ⟨h, _⟩ | ⟨h, _⟩⟩
 ·obtain rfl : n = 0 := by omega
  rfl
 ·exact take_rep h hn
 ·omega
 ·omega
theorem Lead.d {R : List U} {m n : Nat} (h : Lead R m) (hk : kindOf R = 3) (hn : n ≤ m) : R = List.replicate n .d ++ R.drop n := by
 rcases h with ⟨rfl, rfl⟩ | ⟨_, _, _, ⟨h, _⟩ | ⟨_, h⟩ | ⟨h, _⟩⟩
 ·obtain rfl : n = 0 := by omega
  rfl
 ·omega
 ·exact take_rep h hn
 ·omega
theorem Lead.p {R : List U} {m n : Nat} (h : Lead R m) (hk : kindOf R = 2) (hn : n ≤ m) : ∃ zs : List Int, zs.length = n ∧ R = zs.map .p ++ R.drop n := by
 rcases h with ⟨rfl, rfl⟩ | ⟨_, _, hl, ⟨h, _⟩ | ⟨h, _⟩ | ⟨_, zs, h⟩⟩
 ·obtain rfl : n = 0 := by omega
  exact ⟨[], rfl, rfl⟩
 ·omega
 ·omega
 ·have e : R.take n = (zs.take n).map .p := by
   have := congrArg (List.take n) h
   rwa [List.take_take, Nat.min_eq_left hn, ← List.map_take] at this
  have l := congrArg List.length e
  rw [List.length_take, List.length_map] at l
  exact ⟨zs.take n, by omega, by rw [← e, List.take_append_drop]⟩
theorem Lead.pos {R : List U} {m : Nat} (h : Lead R m) (hk : ¬ kindOf R = 0) : 0 < m ∧ m ≤ 200 ∧ m ≤ R.length := by
 rcases h with ⟨rfl, _⟩ | ⟨h1, h2, h3, _⟩
 ·exact absurd rfl hk
 ·exact ⟨h1, h2, h3⟩
theorem Lead.of {ps : List Pt} {at_ d : Nat} {p : Pt} (h : ps[at_]? = some p) (hz : szP_ p) (hd : d < sizeP p) : Lead (rem ps at_ d) (sizeP p - d) := by
 have hs := sizeP_le hz
 have hl : ((unitsP p).drop d).length = sizeP p - d := by rw [List.length_drop, unitsP_len]
 have e := rem_in h (Nat.le_of_lt hd)
 have hk := kind_unitsP hz hd (rem ps (at_ + 1) 0)
 rw [← e] at hk
 have et : (rem ps at_ d).take (sizeP p - d) = (unitsP p).drop d := by
  rw [e, List.take_append_of_le_length (by omega), List.take_of_length_le (by omega)]
 refine .inr ⟨by omega, by omega, by rw [e, List.length_append, hl]; omega, ?_⟩
 rw [hk, et]
 have ec : (unitsP p).drop d = ((unitsP p).drop d).take (sizeP p - d) := (List.take_of_length_le (by omega)).symm
 rcases hz.1 with hk1 | hk1 | hk1
 ·exact .inl ⟨hk1, by rw [ec]; exact chunk_k hk1 (by omega)⟩
 ·exact .inr (.inr ⟨hk1, _, by rw [ec]; exact chunk_p hk1⟩)
 ·exact .inr (.inl ⟨hk1, by rw [ec]; exact chunk_d hk1 (by omega)⟩)
theorem rem_adv (ps : List Pt) (i d n : Nat) : rem ps i (d + n) = (rem ps i d).drop n := by
 unfold rem
 rw [List.drop_drop]
def doneOf (g : Nat) (w : World) : Nat := match w.cell? ⟨g, 2, none⟩ with
 | some (.int _ n) => n.toNat
 | _ => 0
theorem Cur.doneOf {g : Nat} {T : TypeId} {w : World} {A : Option Addr} {c : Nat} {ps : List Pt} {at_ done : Nat} (h : Cur g T w A c ps at_ done) : doneOf g w = done := by
 unfold low.doneOf
 rw [h.cell 2]
 rfl
def remLen (g : Nat) (ps : List Pt) (w : World) : Nat := (rem ps (atOf g w) (doneOf g w)).length
theorem Cur.remLen {g : Nat} {T : TypeId} {w : World} {A : Option Addr} {c : Nat} {ps : List Pt} {at_ done : Nat} (h : Cur g T w A c ps at_ done) : remLen g ps w = (rem ps at_ done).length := by
 unfold low.remLen
 rw [h.atOf, h.doneOf]
structure Fx where
 lo : Nat
 gx : Nat
 gy : Nat
 TC : TypeId
 A : Option Addr
 ca : Nat
 a : List Pt
 B : Option Addr
 cb : Nat
 b : List Pt
def Fx.swap (K : Fx) : Fx := ⟨K.lo, K.gy, K.gx, K.TC, K.B, K.cb, K.b, K.A, K.ca, K.a⟩
def Sett (ps : List Pt) (at_ done : Nat) : Option Nat → Prop
 | none => True
 | some m => (at_ = ps.length ∧ m = 0) ∨ ∃ p, ps[at_]? = some p ∧ done < sizeP p ∧ m = sizeP p - done
structure Cs (K : Fx) (w : World) (sx sy : Option Nat) (RX RY : List U) : Prop where
 ex : ∃ i d, Cur K.gx K.TC w K.A K.ca K.a i d ∧ rem K.a i d = RX ∧ Sett K.a i d sx
 ey : ∃ i d, Cur K.gy K.TC w K.B K.cb K.b i d ∧ rem K.b i d = RY ∧ Sett K.b i d sy
 ra : RdC w K.lo (encPs K.a) (.slice K.A K.a.length K.ca)
 rb : RdC w K.lo (encPs K.b) (.slice K.B K.b.length K.cb)
 ne : ¬ K.gx = K.gy
 lx : K.lo ≤ K.gx
 ly : K.lo ≤ K.gy
 sa : ∀ p ∈ K.a, szP_ p
 sb : ∀ p ∈ K.b, szP_ p
 na : K.a.length ≤ 1048576
 nb : K.b.length ≤ 1048576
section
variable {K : Fx} {w w' : World} {sx sy : Option Nat} {RX RY : List U}
theorem Cs.swap (h : Cs K w sx sy RX RY) : Cs K.swap w sy sx RY RX := ⟨h.ey, h.ex, h.rb, h.ra, fun e => h.ne e.symm, h.ly, h.lx, h.sb, h.sa, h.nb, h.na⟩
theorem Cs.back (h : Cs K.swap w sx sy RX RY) : Cs K w sy sx RY RX := ⟨h.ey, h.ex, h.rb, h.ra, fun e => h.ne e.symm, h.ly, h.lx, h.sb, h.sa, h.nb, h.na⟩
theorem Cs.xlt (h : Cs K w sx sy RX RY) : K.gx < w.heap.size := by obtain ⟨_, _, hc, _⟩ := h.ex; exact hc.lt
theorem Cs.ylt (h : Cs K w sx sy RX RY) : K.gy < w.heap.size := by obtain ⟨_, _, hc, _⟩ := h.ey; exact hc.lt
theorem Cs.keep (h : Cs K w sx sy RX RY) (hx : w'.heap[K.gx]? = w.heap[K.gx]?) (hy : w'.heap[K.gy]? = w.heap[K.gy]?) (hb : Below K.lo w w') : Cs K w' sx sy RX RY := by
 obtain ⟨i, d, h1, h2, h3⟩ := h.ex
 obtain ⟨j, e, k1, k2, k3⟩ := h.ey
 exact ⟨⟨i, d, h1.keep hx, h2, h3⟩, ⟨j, e, k1.keep hy, k2, k3⟩, h.ra.below hb, h.rb.below hb, h.ne, h.lx, h.ly, h.sa, h.sb, h.na, h.nb⟩
theorem Cs.past (h : Cs K w sx sy RX RY) (hb : Below w.heap.size w w') : Cs K w' sx sy RX RY :=
 h.keep (hb.block _ h.xlt) (hb.block _ h.ylt) (hb.mono (Nat.le_trans h.lx (Nat.le_of_lt h.xlt)))
theorem Cs.grew {O O' : Nat → Prop} (h : Cs K w sx sy RX RY) (hg : Grew O O' w w') (hb : Below K.lo w w') (hx : ¬ O K.gx) (hy : ¬ O K.gy) : Cs K w' sx sy RX RY :=
 h.keep (hg.block _ h.xlt hx) (hg.block _ h.ylt hy) hb
theorem Cs.weak (h : Cs K w sx sy RX RY) : Cs K w none none RX RY := by
 obtain ⟨i, d, h1, h2, h3⟩ := h.ex
 obtain ⟨j, e, k1, k2, k3⟩ := h.ey
 exact ⟨⟨i, d, h1, h2, trivial⟩, ⟨j, e, k1, k2, trivial⟩, h.ra, h.rb, h.ne, h.lx, h.ly, h.sa, h.sb, h.na, h.nb⟩
theorem Cs.mov {sx' : Option Nat} {RX' : List U} (h : Cs K w sx sy RX RY) (hx : ∃ i d, Cur K.gx K.TC w' K.A K.ca K.a i d ∧ rem K.a i d = RX' ∧ Sett K.a i d sx') (hb : Below K.lo w w') (hf : Fr (fun q => q = K.gx) w w') : Cs K w' sx' sy RX' RY := by
 obtain ⟨j, e, k1, k2, k3⟩ := h.ey
 exact ⟨hx, ⟨j, e, k1.keep (hf.block _ k1.lt (fun e => h.ne e.symm)), k2, k3⟩, h.ra.below hb, h.rb.below hb, h.ne, h.lx, h.ly, h.sa, h.sb, h.na, h.nb⟩
theorem Cs.lead {m : Nat} (h : Cs K w (some m) sy RX RY) : Lead RX m := by
 obtain ⟨i, d, h1, rfl, h3⟩ := h.ex
 rcases h3 with ⟨e, rfl⟩ | ⟨p, hp, hd, rfl⟩
 ·exact .inl ⟨rem_end (by omega) d, rfl⟩
 ·exact Lead.of hp (h.sa p (List.mem_of_getElem? hp)) hd
def muC (K : Fx) (w : World) : Nat := remLen K.gx K.a w + remLen K.gy K.b w
theorem Cs.mu (h : Cs K w sx sy RX RY) : muC K w = RX.length + RY.length := by
 obtain ⟨i, d, h1, rfl, _⟩ := h.ex
 obtain ⟨j, e, k1, rfl, _⟩ := h.ey
 unfold muC
 rw [h1.remLen, k1.remLen]
theorem Cs.adv {m : Nat} (h : Cs K w (some m) sy RX RY) (hk : ¬ kindOf RX = 0) : ∃ d : Nat, d ≤ 200 ∧ w.cell? ⟨K.gx, 2, none⟩ = some (.int .i64 (d : Int)) ∧ w.frozen? ⟨K.gx, 2, none⟩ = false ∧ ∀ n, n ≤ m → Cs K (w.setCell ⟨K.gx, 2, none⟩ (.int .i64 ((d : Int) + (n : Int)))) none sy (RX.drop n) RY := by
 obtain ⟨i, d, h1, rfl, h3⟩ := h.ex
 rcases h3 with ⟨e, rfl⟩ | ⟨p, hp, hd, rfl⟩
 ·exact absurd (by rw [rem_end (by omega) d]; rfl) hk
 ·have hz := sizeP_le (h.sa p (List.mem_of_getElem? hp))
  have c2 := h1.cell 2
  simp at c2
  refine ⟨d, by omega, c2, h1.free 2, fun n hn => ?_⟩
  have hst := h1.step (d + n) (idx_lt hp) (fun q hq => by rw [hp] at hq; injection hq with hq; subst hq; omega)
  have ec : ((d + n : Nat) : Int) = (d : Int) + (n : Int) := by omega
  rw [ec] at hst
  exact h.mov ⟨i, d + n, hst, rem_adv _ _ _ _, trivial⟩ ((Below.refl _ _).setCell h.lx _) ((Fr.refl (fun q => q = K.gx) w).setCell (p := ⟨K.gx, 2, none⟩) rfl _)
end
def KindC (K : Fx) (sx sy : Option Nat) (RX RY : List U) (w : World) (e : Ending) (w' : World) : Prop :=
 e = .returned (.int .i64 (kindOf RX)) ∧ ∃ m, (∀ q, sx = some q → m = q) ∧ Cs K w' (some m) sy RX RY ∧ Below K.lo w w' ∧ Fr (fun q => q = K.gx) w w'
theorem specKindX (K : Fx) (hT : K.TC = 140) (w : World) (sx sy : Option Nat) (RX RY : List U) (h : Cs K w sx sy RX RY) : Calls Tryz.prog 104 #[.pointer (some ⟨K.gx, 0, none⟩)] w (KindC K sx sy RX RY w) := by
 obtain ⟨i, d, h1, h2, h3⟩ := h.ex
 refine (specKind_q K.lo K.gx K.A K.ca K.a i d w (by rw [← hT]; exact h1) h.lx h.ra h.sa h.na).mono ?_
 rintro e w' ⟨rfl, i', d', c', r', st', b', f'⟩
 rw [h2] at r' st' ⊢
 refine ⟨rfl, ?_⟩
 rw [← hT] at c'
 rcases st' with ⟨e1, e2⟩ | ⟨p, hp, hd, hk, _⟩
 ·refine ⟨0, fun q hq => ?_, h.mov ⟨i', d', c', r', .inl ⟨e1, rfl⟩⟩ b' f', b', f'⟩
  subst hq
  rcases h3 with ⟨_, e3⟩ | ⟨p, hp, hd, _⟩
  ·exact e3.symm
  ·have l := (Lead.of hp (h.sa p (List.mem_of_getElem? hp)) hd)
   rw [h2, e2] at l
   rcases l with ⟨_, l⟩ | ⟨l, _, l2, _⟩
   ·omega
   ·simp at l2; omega
 ·refine ⟨sizeP p - d', fun q hq => ?_, h.mov ⟨i', d', c', r', .inr ⟨p, hp, hd, rfl⟩⟩ b' f', b', f'⟩
  subst hq
  rcases h3 with ⟨e3, e4⟩ | ⟨p3, hp3, hd3, e4⟩
  ·have : RX = [] := by rw [← h2, rem_end (by omega)]
   have l := (Lead.of hp (h.sa p (List.mem_of_getElem? hp)) hd)
   rw [r', this] at l
   rcases l with ⟨_, l⟩ | ⟨l, _, l2, _⟩
   ·omega
   ·simp at l2; omega
  ·obtain ⟨rfl, rfl⟩ := stand_unique hp hd hp3 hd3 (by rw [r', h2])
   rw [hp] at hp3
   injection hp3 with hp3
   subst hp3
   exact e4.symm
def LeftC (K : Fx) (m : Nat) (sy : Option Nat) (RX RY : List U) (w : World) (e : Ending) (w' : World) : Prop := e = .returned (.int .i64 (m : Int)) ∧ Cs K w' (some m) sy RX RY ∧ Below w.heap.size w w'
theorem specLeftX (K : Fx) (hT : K.TC = 140) (w : World) (m : Nat) (sy : Option Nat) (RX RY : List U) (h : Cs K w (some m) sy RX RY) (hk : ¬ kindOf RX = 0) : Calls Tryz.prog 105 #[.pointer (some ⟨K.gx, 0, none⟩)] w (LeftC K m sy RX RY w) := by
 obtain ⟨i, d, h1, h2, h3⟩ := h.ex
 rcases h3 with ⟨e, rfl⟩ | ⟨p, hp, hd, rfl⟩
 ·exact absurd (by rw [← h2, rem_end (by omega) d]; rfl) hk
 ·refine (specLeft_d K.gx K.A K.ca K.a i d p w (by rw [← hT]; exact h1) K.lo h.lx h.ra hp (h.sa p (List.mem_of_getElem? hp)) h.na).mono ?_
  rintro e w' ⟨rfl, b'⟩
  exact ⟨by rw [show ((sizeP p : Int) - (d : Int)) = ((sizeP p - d : Nat) : Int) by omega], h.past b', b'⟩
def TakeC (K : Fx) (n : Nat) (sy : Option Nat) (RX RY : List U) (w : World) (e : Ending) (w' : World) : Prop :=
 ∃ A' c' zs, e = .returned (.slice A' n c') ∧ zs.length = n ∧ RX = zs.map .p ++ RX.drop n ∧ Row (Value.int .i64) w' w'.heap.size A' zs ∧ Cs K w' none sy (RX.drop n) RY ∧ Below K.lo w w' ∧ Fr (fun q => q = K.gx) w w'
theorem specTakeX (K : Fx) (hT : K.TC = 140) (w : World) (m n : Nat) (sy : Option Nat) (RX RY : List U) (h : Cs K w (some m) sy RX RY) (hk : kindOf RX = 2) (hn : n ≤ m) (h0 : 0 < n) : Calls Tryz.prog 106 #[.pointer (some ⟨K.gx, 0, none⟩), .int .i64 (n : Int)] w (TakeC K n sy RX RY w) := by
 obtain ⟨i, d, h1, h2, h3⟩ := h.ex
 rcases h3 with ⟨e, rfl⟩ | ⟨p, hp, hd, rfl⟩
 ·omega
 ·have hz := h.sa p (List.mem_of_getElem? hp)
  have hs := sizeP_le hz
  have hkp := kind_unitsP hz hd (rem K.a (i + 1) 0)
  rw [← rem_in hp (Nat.le_of_lt hd), h2, hk] at hkp
  have hsp : sizeP p = p.signs.length := by simp [sizeP, hkp.symm]
  refine (specTake_d K.lo K.gx K.A K.ca K.a i d n p w (by rw [← hT]; exact h1) h.lx K.lo h.lx h.ra hp hkp.symm (by omega) (by omega) (by omega) h.na).mono ?_
  rintro e w' ⟨A', c', rfl, cu, row, b', f'⟩
  rw [← hT] at cu
  have hl : ((p.signs.drop d).take n).length = n := piece_len (by omega)
  refine ⟨A', c', (p.signs.drop d).take n, rfl, hl, ?_, row, h.mov ⟨i, d + n, cu, by rw [rem_adv, h2], trivial⟩ b' f', b', f'⟩
  have := rem_chunk hp (d := d) (n := n) (by omega)
  rw [chunk_p hkp.symm, rem_adv, h2] at this
  exact this
structure CB (K : Fx) (go : Nat) (TB : TypeId) (O : Nat → Prop) (L : List Pt) (w : World) (sx sy : Option Nat) (RX RY : List U) : Prop where
 cs : Cs K w sx sy RX RY
 bd : Bld O K.lo go TB w L
 ox : ¬ O K.gx
 oy : ¬ O K.gy
section
variable {K : Fx} {go : Nat} {TB : TypeId} {O O' : Nat → Prop} {L L' : List Pt} {w w' : World} {sx sy sx' sy' : Option Nat} {RX RY RX' RY' : List U}
theorem CB.mov (h : CB K go TB O L w sx sy RX RY) (hc : Cs K w' sx' sy' RX' RY') (hf : Fr (fun q => q = K.gx) w w') : CB K go TB O L w' sx' sy' RX' RY' :=
 ⟨hc, h.bd.keep hf.size (fun q hq ho => hf.block q hq (fun e => h.ox (by rw [← e]; exact ho))), h.ox, h.oy⟩
theorem CB.movy (h : CB K go TB O L w sx sy RX RY) (hc : Cs K w' sx' sy' RX' RY') (hf : Fr (fun q => q = K.gy) w w') : CB K go TB O L w' sx' sy' RX' RY' :=
 ⟨hc, h.bd.keep hf.size (fun q hq ho => hf.block q hq (fun e => h.oy (by rw [← e]; exact ho))), h.ox, h.oy⟩
theorem CB.past (h : CB K go TB O L w sx sy RX RY) (hb : Below w.heap.size w w') : CB K go TB O L w' sx sy RX RY := ⟨h.cs.past hb, h.bd.past hb, h.ox, h.oy⟩
theorem CB.bldr (h : CB K go TB O L w sx sy RX RY) (hd : Bld O' K.lo go TB w' L') (hb : Below K.lo w w') (hg : Grew O O' w w') : CB K go TB O' L' w' sx sy RX RY :=
 ⟨h.cs.grew hg hb h.ox h.oy, hd, fun ho => by rcases hg.more _ ho with h1 | h1; exact h.ox h1; have := h.cs.xlt; omega, fun ho => by rcases hg.more _ ho with h1 | h1; exact h.oy h1; have := h.cs.ylt; omega⟩
theorem CB.weak (h : CB K go TB O L w sx sy RX RY) : CB K go TB O L w none none RX RY := ⟨h.cs.weak, h.bd, h.ox, h.oy⟩
theorem fr_set2 (g : Nat) (w : World) (x : Value) : Fr (fun q => q = g) w (w.setCell ⟨g, 2, none⟩ x) := (Fr.refl (fun q => q = g) w).setCell (p := ⟨g, 2, none⟩) rfl x
theorem CB.adv {m : Nat} (h : CB K go TB O L w (some m) sy RX RY) (hk : ¬ kindOf RX = 0) : ∃ d : Nat, d ≤ 200 ∧ w.cell? ⟨K.gx, 2, none⟩ = some (.int .i64 (d : Int)) ∧ w.frozen? ⟨K.gx, 2, none⟩ = false ∧ ∀ n, n ≤ m → CB K go TB O L (w.setCell ⟨K.gx, 2, none⟩ (.int .i64 ((d : Int) + (n : Int)))) none sy (RX.drop n) RY := by
 obtain ⟨d, h1, h2, h3, h4⟩ := h.cs.adv hk
 exact ⟨d, h1, h2, h3, fun n hn => h.mov (h4 n hn) (fr_set2 _ _ _)⟩
theorem CB.advy {m : Nat} (h : CB K go TB O L w sx (some m) RX RY) (hk : ¬ kindOf RY = 0) : ∃ d : Nat, d ≤ 200 ∧ w.cell? ⟨K.gy, 2, none⟩ = some (.int .i64 (d : Int)) ∧ w.frozen? ⟨K.gy, 2, none⟩ = false ∧ ∀ n, n ≤ m → CB K go TB O L (w.setCell ⟨K.gy, 2, none⟩ (.int .i64 ((d : Int) + (n : Int)))) sx none RX (RY.drop n) := by
 obtain ⟨d, h1, h2, h3, h4⟩ := h.cs.swap.adv hk
 exact ⟨d, h1, h2, h3, fun n hn => h.movy (h4 n hn).back (fr_set2 _ _ _)⟩
theorem CB.adv2 {mx my : Nat} (h : CB K go TB O L w (some mx) (some my) RX RY) (hkx : ¬ kindOf RX = 0) (hky : ¬ kindOf RY = 0) : ∃ d1 d2 : Nat, d1 ≤ 200 ∧ d2 ≤ 200 ∧ w.cell? ⟨K.gx, 2, none⟩ = some (.int .i64 (d1 : Int)) ∧ w.cell? ⟨K.gy, 2, none⟩ = some (.int .i64 (d2 : Int)) ∧ w.frozen? ⟨K.gx, 2, none⟩ = false ∧ w.frozen? ⟨K.gy, 2, none⟩ = false ∧
  ∀ n, n ≤ mx → n ≤ my → CB K go TB O L ((w.setCell ⟨K.gx, 2, none⟩ (.int .i64 ((d1 : Int) + (n : Int)))).setCell ⟨K.gy, 2, none⟩ (.int .i64 ((d2 : Int) + (n : Int)))) none none (RX.drop n) (RY.drop n) := by
 obtain ⟨d1, h1, h2, h3, h4⟩ := h.adv hkx
 obtain ⟨d2, k1, k2, k3, _⟩ := h.advy hky
 refine ⟨d1, d2, h1, k1, h2, k2, h3, k3, fun n hx hy => ?_⟩
 obtain ⟨d3, _, l2, _, l4⟩ := (h4 n hx).advy hky
 have e : (w.setCell ⟨K.gx, 2, none⟩ (.int .i64 ((d1 : Int) + (n : Int)))).cell? ⟨K.gy, 2, none⟩ = w.cell? ⟨K.gy, 2, none⟩ := World.cell?_of_block (heap_setCell_other _ _ _ _ (fun e => h.cs.ne e.symm))
 rw [e, k2] at l2
 injection l2 with l2
 injection l2 with _ l2
 rw [l2]
 exact l4 n hy
end
def KindB (K : Fx) (go : Nat) (TB : TypeId) (O : Nat → Prop) (L : List Pt) (sx sy : Option Nat) (RX RY : List U) (w : World) (e : Ending) (w' : World) : Prop :=
 e = .returned (.int .i64 (kindOf RX)) ∧ ∃ m, (∀ q, sx = some q → m = q) ∧ CB K go TB O L w' (some m) sy RX RY ∧ Below K.lo w w'
def KindBy (K : Fx) (go : Nat) (TB : TypeId) (O : Nat → Prop) (L : List Pt) (sx sy : Option Nat) (RX RY : List U) (w : World) (e : Ending) (w' : World) : Prop :=
 e = .returned (.int .i64 (kindOf RY)) ∧ ∃ m, (∀ q, sy = some q → m = q) ∧ CB K go TB O L w' sx (some m) RX RY ∧ Below K.lo w w'
def LeftB (K : Fx) (go : Nat) (TB : TypeId) (O : Nat → Prop) (L : List Pt) (m : Nat) (sx sy : Option Nat) (RX RY : List U) (w : World) (e : Ending) (w' : World) : Prop := e = .returned (.int .i64 (m : Int)) ∧ CB K go TB O L w' sx sy RX RY ∧ Below K.lo w w'
def TakeB (K : Fx) (go : Nat) (TB : TypeId) (O : Nat → Prop) (L : List Pt) (n : Nat) (sy : Option Nat) (RX RY : List U) (w : World) (e : Ending) (w' : World) : Prop :=
 ∃ A' c' zs, e = .returned (.slice A' n c') ∧ zs.length = n ∧ RX = zs.map .p ++ RX.drop n ∧ Row (Value.int .i64) w' w'.heap.size A' zs ∧ CB K go TB O L w' none sy (RX.drop n) RY ∧ Below K.lo w w'
def TakeBy (K : Fx) (go : Nat) (TB : TypeId) (O : Nat → Prop) (L : List Pt) (n : Nat) (sx : Option Nat) (RX RY : List U) (w : World) (e : Ending) (w' : World) : Prop :=
 ∃ A' c' zs, e = .returned (.slice A' n c') ∧ zs.length = n ∧ RY = zs.map .p ++ RY.drop n ∧ Row (Value.int .i64) w' w'.heap.size A' zs ∧ CB K go TB O L w' sx none RX (RY.drop n) ∧ Below K.lo w w'
section
variable {K : Fx} {go : Nat} {TB : TypeId} {O : Nat → Prop} {L : List Pt} {w : World} {sx sy : Option Nat} {RX RY : List U}
theorem CB.lo_le (h : CB K go TB O L w sx sy RX RY) : K.lo ≤ w.heap.size := h.bd.low
theorem CB.kindx (h : CB K go TB O L w sx sy RX RY) (hT : K.TC = 140) : Calls Tryz.prog 104 #[.pointer (some ⟨K.gx, 0, none⟩)] w (KindB K go TB O L sx sy RX RY w) := by
 refine (specKindX K hT w sx sy RX RY h.cs).mono ?_
 rintro e w' ⟨rfl, m, h1, h2, h3, h4⟩
 exact ⟨rfl, m, h1, h.mov h2 h4, h3⟩
theorem CB.kindy (h : CB K go TB O L w sx sy RX RY) (hT : K.TC = 140) : Calls Tryz.prog 104 #[.pointer (some ⟨K.gy, 0, none⟩)] w (KindBy K go TB O L sx sy RX RY w) := by
 refine (specKindX K.swap hT w sy sx RY RX h.cs.swap).mono ?_
 rintro e w' ⟨rfl, m, h1, h2, h3, h4⟩
 exact ⟨rfl, m, h1, h.movy h2.back h4, h3⟩
theorem CB.leftx {m : Nat} (h : CB K go TB O L w (some m) sy RX RY) (hT : K.TC = 140) (hk : ¬ kindOf RX = 0) : Calls Tryz.prog 105 #[.pointer (some ⟨K.gx, 0, none⟩)] w (LeftB K go TB O L m (some m) sy RX RY w) := by
 refine (specLeftX K hT w m sy RX RY h.cs hk).mono ?_
 rintro e w' ⟨rfl, h2, h3⟩
 exact ⟨rfl, h.past h3, h3.mono h.lo_le⟩
theorem CB.lefty {m : Nat} (h : CB K go TB O L w sx (some m) RX RY) (hT : K.TC = 140) (hk : ¬ kindOf RY = 0) : Calls Tryz.prog 105 #[.pointer (some ⟨K.gy, 0, none⟩)] w (LeftB K go TB O L m sx (some m) RX RY w) := by
 refine (specLeftX K.swap hT w m sx RY RX h.cs.swap hk).mono ?_
 rintro e w' ⟨rfl, h2, h3⟩
 exact ⟨rfl, h.past h3, h3.mono h.lo_le⟩
theorem CB.takex {m n : Nat} (h : CB K go TB O L w (some m) sy RX RY) (hT : K.TC = 140) (hk : kindOf RX = 2) (hn : n ≤ m) (h0 : 0 < n) : Calls Tryz.prog 106 #[.pointer (some ⟨K.gx, 0, none⟩), .int .i64 (n : Int)] w (TakeB K go TB O L n sy RX RY w) := by
 refine (specTakeX K hT w m n sy RX RY h.cs hk hn h0).mono ?_
 rintro e w' ⟨A', c', zs, rfl, h1, h2, h3, h4, h5, h6⟩
 exact ⟨A', c', zs, rfl, h1, h2, h3, h.mov h4 h6, h5⟩
theorem CB.takey {m n : Nat} (h : CB K go TB O L w sx (some m) RX RY) (hT : K.TC = 140) (hk : kindOf RY = 2) (hn : n ≤ m) (h0 : 0 < n) : Calls Tryz.prog 106 #[.pointer (some ⟨K.gy, 0, none⟩), .int .i64 (n : Int)] w (TakeBy K go TB O L n sx RX RY w) := by
 refine (specTakeX K.swap hT w m n sx RY RX h.cs.swap hk hn h0).mono ?_
 rintro e w' ⟨A', c', zs, rfl, h1, h2, h3, h4, h5, h6⟩
 exact ⟨A', c', zs, rfl, h1, h2, h3, h.movy h4.back h6, h5⟩
end
end Go.Proofs.YtbpeeokgpkjnmaaGreatDoor.low
