/-
  Texts that the proofs over this seat rest on, one behind the other (2 of 4).
-/
import Derived.Test.YtninppjomdhnmaaM1
import Derived.Deep.RegionLaw
import Derived.StillTailTactics
import Derived.Deep.RegionHeld3
import Derived.Deep.AppendLies

/-
  The struct type Ring of the laws: its words, and the laws' own functions on it and on slices of it. Written by mkty.py.
-/
namespace Go.Proofs.Ytninppjomdhnmaa.low
open Go.RowKit
set_option linter.unusedVariables false

structure Ri where
  cap : Int
  next : Int
  out : Bool
  list : List En
def encRi (x : Ri) : List Dat := [.int x.cap, .int x.next, .bool x.out, encEns x.list]
def datRi (x : Ri) : Dat := .agg (encRi x)
def encRis (l : List Ri) : Dat := .rows 59 4 (l.map encRi)
def totRi (x : Ri) : Nat := totEns x.list
def LimRi (x : Ri) : Prop := LimEns x.list
def SmRi (x : Ri) : Prop := totRi x ≤ 1048576
def totRis (l : List Ri) : Nat := l.length + sumN totRi l
def LimRis (l : List Ri) : Prop := l.length ≤ maxLen ∧ ∀ x ∈ l, LimRi x
def SmRis (l : List Ri) : Prop := totRis l ≤ 1048576
theorem smRis_of {l : List Ri} (h : totRis l ≤ 1048576) : SmRis l := h
theorem SmRis.len {l : List Ri} (h : SmRis l) : l.length ≤ 1048576 := by unfold SmRis totRis at h; omega
theorem SmRis.at_ {l : List Ri} (h : SmRis l) {x : Ri} (hx : x ∈ l) : SmRi x := by
  unfold SmRis totRis at h
  have := sumN_at (f := totRi) hx
  unfold SmRi
  omega
theorem SmRi.list {x : Ri} (h : SmRi x) : SmEns x.list := smEns_of (by unfold SmRi totRi at h; omega)
theorem aggRi {w : World} {B : Nat} {x : Ri} {v : Value} (h : RdC w B (datRi x) v) : ∃ (A3 : Option Addr) (c3 : Nat), v = .agg #[.int .i64 x.cap, .int .i64 x.next, .bool x.out, .slice A3 x.list.length c3] ∧ RdC w B (encEns x.list) (.slice A3 x.list.length c3) := by
  obtain ⟨vs, rfl, v0, _, rfl, rfl, v1, _, rfl, rfl, v2, _, rfl, rfl, v3, _, rfl, r3, rfl⟩ := h
  obtain ⟨A3, c3, rfl⟩ := sliceEns r3
  exact ⟨A3, c3, rfl, r3⟩
theorem rdRi {w : World} {B : Nat} (x : Ri) {v3 : Value} (r3 : RdC w B (encEns x.list) v3) : RdC w B (datRi x) (.agg #[.int .i64 x.cap, .int .i64 x.next, .bool x.out, v3]) := ⟨_, rfl, _, _, rfl, rfl, _, _, rfl, rfl, _, _, rfl, rfl, _, _, rfl, r3, rfl⟩
theorem sliceRis {w : World} {B : Nat} {l : List Ri} {v : Value} (h : RdC w B (encRis l) v) : ∃ A c, v = .slice A l.length c := by
  obtain ⟨A, c, hv, _⟩ := RdC.len h
  exact ⟨A, c, by simpa using hv⟩
theorem atRis {w : World} {B : Nat} {A : Option Addr} {m c i : Nat} {l : List Ri} (h : RdC w B (encRis l) (.slice A m c)) (hi : i < l.length) : ∃ (b off : Nat) (x : Ri) (A3 : Option Addr) (c3 : Nat), A = some ⟨b, off, none⟩ ∧ b < B ∧ l[i]? = some x ∧ w.cell? ⟨b, off + i * 4, none⟩ = some (.int .i64 x.cap) ∧ w.cell? ⟨b, off + i * 4 + 1, none⟩ = some (.int .i64 x.next) ∧ w.cell? ⟨b, off + i * 4 + 2, none⟩ = some (.bool x.out) ∧ w.cell? ⟨b, off + i * 4 + 3, none⟩ = some (.slice A3 x.list.length c3) ∧ RdC w B (encEns x.list) (.slice A3 x.list.length c3) := by
  obtain ⟨ad, r, hA, hb, hs, hr, hl⟩ := RdC.at_ (ds := l.map encRi) h (by simpa using hi)
  rw [List.getElem?_map, List.getElem?_eq_getElem hi] at hr
  obtain rfl : encRi l[i] = r := by simpa using hr
  obtain ⟨b, off, spot⟩ := ad
  obtain rfl : spot = none := by
    rcases hs with hs | hs
    · cases hs
    · exact hs
  obtain ⟨⟨v0, x0, rfl⟩, ⟨v1, x1, rfl⟩, ⟨v2, x2, rfl⟩, ⟨v3, x3, r3⟩, _⟩ := hl
  obtain ⟨A3, c3, rfl⟩ := sliceEns r3
  rw [add_at] at x0 x1 x2 x3
  exact ⟨b, off, l[i], A3, c3, hA, hb, List.getElem?_eq_getElem hi, by simpa [Nat.add_assoc] using x0, by simpa [Nat.add_assoc] using x1, by simpa [Nat.add_assoc] using x2, by simpa [Nat.add_assoc] using x3, r3⟩
theorem cntRi_l (x : Ri) : cntL (encRi x) = 1 + 1 + 1 + cntC (encEns x.list) := by
  show cntL [.int x.cap, .int x.next, .bool x.out, encEns x.list] = _
  simp only [cntL, cntC]
  try omega
theorem cntRi_row (x : Ri) : cntL (encRi x) ≤ 3 * (1 + totRi x) := by
  rw [cntRi_l]
  unfold totRi
  have h3 := cntEns_le x.list
  omega
theorem cntRis_le : ∀ l : List Ri, cntC (encRis l) ≤ 3 * totRis l
  | [] => by simp [encRis, cntC, cntR]
  | x :: l => by
    have ih := cntRis_le l
    have h1 := cntRi_row x
    have e1 : cntC (encRis (x :: l)) = cntL (encRi x) + cntC (encRis l) := rfl
    rw [e1]
    unfold totRis at ih ⊢
    rw [sumN_cons, List.length_cons]
    omega
theorem cntRis {l : List Ri} (h : SmRis l) : cntC (encRis l) ≤ 3145728 := by have := cntRis_le l; unfold SmRis at h; omega
theorem cntRi_a (x : Ri) : cntC (datRi x) = cntC (encEns x.list) := by
  show cntA [.int x.cap, .int x.next, .bool x.out, encEns x.list] = _
  simp only [cntA, cntF, encEns, cntC]
  try omega
theorem mkRi_a (k : Int) (x : Ri) : mkC k (datRi x) = .agg [.int x.cap, .int x.next, .bool x.out, mkC (k) (encEns x.list)] := by
  show Dat.agg (mkA k [.int x.cap, .int x.next, .bool x.out, encEns x.list]) = _
  simp [mkA, mkF, cntF, mkC, encEns]
theorem cntRi {x : Ri} (h : SmRi x) : cntC (datRi x) ≤ 3145728 := by
  rw [cntRi_a]
  unfold SmRi totRi at h
  have h3 := cntEns_le x.list
  omega

set_option maxRecDepth 100000 in
set_option maxHeartbeats 1600000 in
theorem szRi (v : Value) (x : Ri) (left : Int) (w : World) (h : RdC w w.heap.size (datRi x) v) (h0 : 0 ≤ left) (h1 : left ≤ 1048576) (hl : LimRi x) : Calls Try.prog 50 #[v, .int .i64 left] w (Sized (totRi x) left w) := by
  obtain ⟨A3, c3, rfl, r3⟩ := aggRi h
  have b0 := alloc_below w (.cells #[.int .i64 x.cap, .int .i64 x.next, .bool x.out, .slice A3 x.list.length c3] 75)
  have hlt : w.heap.size < (w.alloc (.cells #[.int .i64 x.cap, .int .i64 x.next, .bool x.out, .slice A3 x.list.length c3] 75)).heap.size := by rw [World.size_alloc]; omega
  have D0 : Below (w.alloc (.cells #[.int .i64 x.cap, .int .i64 x.next, .bool x.out, .slice A3 x.list.length c3] 75)).heap.size (w.alloc (.cells #[.int .i64 x.cap, .int .i64 x.next, .bool x.out, .slice A3 x.list.length c3] 75)) (w.alloc (.cells #[.int .i64 x.cap, .int .i64 x.next, .bool x.out, .slice A3 x.list.length c3] 75)) := Below.refl _ _
  unfold LimRi at hl
  have HT := Lib.hid (show totRi x = totEns x.list from rfl)
  go_enter Try.func50, Try.ntmps50
  go_wp2_with fail
  refine (szEns _ x.list left _ ((r3.past b0).past D0) (by omega) (by omega) hl).mono ?_
  rintro e w1 ⟨e1, rfl, hr1, k1⟩
  have D1 := D0.trans (k1.mono D0.size)
  rcases hr1 with rfl | ⟨p1, q1⟩
  · go_wp2
    go_ret
    exact ⟨_, rfl, .inl rfl, b0.trans (D1.mono b0.size)⟩
  have t1 : e1 ≤ 1048576 := by omega
  have Q1 := Lib.hid q1
  clear q1 k1
  go_wp2
  go_ret
  refine ⟨_, rfl, .inr ⟨by omega, ?_⟩, b0.trans (D1.mono b0.size)⟩
  rw [HT.out]
  have := Q1.out
  omega

set_option maxRecDepth 100000 in
set_option maxHeartbeats 1600000 in
theorem toRi (v : Value) (x : Ri) (w : World) (h : RdC w w.heap.size (datRi x) v) (hs : SmRi x) : Calls Try.prog 54 #[v] w (OwnPost (datRi x) w) := by
  obtain ⟨A3, c3, rfl, r3⟩ := aggRi h
  go_enter Try.func54, Try.ntmps54
  have s0 := ToS.start w #[.int .i64 x.cap, .int .i64 x.next, .bool x.out, .slice A3 x.list.length c3] 75 #[.int .i64 0, .int .i64 0, .bool false, .slice none 0 0] 59 #[.int .i64 x.cap, .int .i64 x.next, .bool x.out, .slice none 0 0]
  go_wp2_with fail
  generalize hW0 : (((w.alloc (.cells #[.int .i64 x.cap, .int .i64 x.next, .bool x.out, .slice A3 x.list.length c3] 75)).alloc (.cells #[.int .i64 0, .int .i64 0, .bool false, .slice none 0 0] 59)).alloc (.cells #[.int .i64 x.cap, .int .i64 x.next, .bool x.out, .slice none 0 0] 59)) = W0 at s0 ⊢
  clear hW0
  have l0 := s0.lt
  refine (toEns _ x.list W0 (r3.past s0.bel) hs.list).mono ?_
  rintro e w1 ⟨v1, rfl, o1, k1⟩
  obtain ⟨B3, d3, rfl⟩ := sliceEns o1.read
  have zk1 := k1.size
  have u1 := s0.past k1
  have y3 : w1.cell? ⟨w.heap.size + 1 + 1, 3, none⟩ = some (.slice none 0 0) := bxcell u1.b2 rfl
  have f3 : w1.frozen? ⟨w.heap.size + 1 + 1, 3, none⟩ = false := bxfree u1.b2
  have t0 : w1.cell? ⟨w.heap.size + 1 + 1, 0, none⟩ = some (.int .i64 x.cap) := bxcell u1.b2 rfl
  have q0 : w1.cell? ⟨w.heap.size + 1, 0, none⟩ = some (.int .i64 0) := bxcell u1.b1 rfl
  have g0 : w1.frozen? ⟨w.heap.size + 1, 0, none⟩ = false := bxfree u1.b1
  have t1 : w1.cell? ⟨w.heap.size + 1 + 1, 1, none⟩ = some (.int .i64 x.next) := bxcell u1.b2 rfl
  have q1 : w1.cell? ⟨w.heap.size + 1, 1, none⟩ = some (.int .i64 0) := bxcell u1.b1 rfl
  have g1 : w1.frozen? ⟨w.heap.size + 1, 1, none⟩ = false := bxfree u1.b1
  have t2 : w1.cell? ⟨w.heap.size + 1 + 1, 2, none⟩ = some (.bool x.out) := bxcell u1.b2 rfl
  have q2 : w1.cell? ⟨w.heap.size + 1, 2, none⟩ = some (.bool false) := bxcell u1.b1 rfl
  have g2 : w1.frozen? ⟨w.heap.size + 1, 2, none⟩ = false := bxfree u1.b1
  have q3 : w1.cell? ⟨w.heap.size + 1, 3, none⟩ = some (.slice none 0 0) := bxcell u1.b1 rfl
  have g3 : w1.frozen? ⟨w.heap.size + 1, 3, none⟩ = false := bxfree u1.b1
  have s1 : ToS w #[.int .i64 x.cap, .int .i64 x.next, .bool x.out, .slice A3 x.list.length c3] 75 #[.int .i64 0, .int .i64 0, .bool false, .slice none 0 0] 59 #[.int .i64 x.cap, .int .i64 x.next, .bool x.out, .slice B3 x.list.length d3] (w1.setCell ⟨w.heap.size + 1 + 1, 3, none⟩ (.slice B3 x.list.length d3)) := u1.set 3 _
  clear u1
  have o1 := (o1.setUnder (g := w.heap.size + 1 + 1) (o := 3) (.inl (by omega)) (.slice B3 x.list.length d3)).putRow (g := w.heap.size + 1) (.inl (by omega)) [.int .i64 x.cap, .int .i64 x.next, .bool x.out, .slice B3 x.list.length d3] _ 0
  have hB : Below w.heap.size w (putRow (w1.setCell ⟨w.heap.size + 1 + 1, 3, none⟩ (.slice B3 x.list.length d3)) (w.heap.size + 1) 0 [.int .i64 x.cap, .int .i64 x.next, .bool x.out, .slice B3 x.list.length d3]) := putRow_below (by omega) _ _ _ s1.bel
  have hZ : (putRow (w1.setCell ⟨w.heap.size + 1 + 1, 3, none⟩ (.slice B3 x.list.length d3)) (w.heap.size + 1) 0 [.int .i64 x.cap, .int .i64 x.next, .bool x.out, .slice B3 x.list.length d3]).heap.size = w1.heap.size := (putRow_size _ _ _ _).trans (by simp [World.setCell])
  have hF : ∀ m, m ≤ w1.heap.size → m ≤ (putRow (w1.setCell ⟨w.heap.size + 1 + 1, 3, none⟩ (.slice B3 x.list.length d3)) (w.heap.size + 1) 0 [.int .i64 x.cap, .int .i64 x.next, .bool x.out, .slice B3 x.list.length d3]).heap.size := fun m hm => by rw [hZ]; exact hm
  go_wp2
  refine bodyPost_ret (v := .agg #[.int .i64 x.cap, .int .i64 x.next, .bool x.out, .slice B3 x.list.length d3]) (by simp [results, Try.results54, go_sem, q0, q1, q2, q3]) rfl ⟨_, rfl, ?_, hB⟩
  exact OwnL.agg (OwnL.flat rfl (OwnL.flat rfl (OwnL.flat rfl (OwnL.own (lo := w.heap.size) (mid := w1.heap.size) (o1.wide (by omega) (Nat.le_refl _) (hF _ (by omega))) (OwnL.nil (Nat.le_refl _) (hF _ (by omega)))))))

set_option maxRecDepth 100000 in
set_option maxHeartbeats 1600000 in
theorem eqRi (v v' : Value) (x : Ri) (w : World) (h : RdC w w.heap.size (datRi x) v) (h' : RdC w w.heap.size (datRi x) v') (hs : SmRi x) : Calls Try.prog 58 #[v, v'] w (Tells true w) := by
  obtain ⟨A3, c3, rfl, r3⟩ := aggRi h
  obtain ⟨B3, d3, rfl, s3⟩ := aggRi h'
  obtain ⟨g1, g2, b0⟩ := two_boxes w #[.int .i64 x.cap, .int .i64 x.next, .bool x.out, .slice A3 x.list.length c3] #[.int .i64 x.cap, .int .i64 x.next, .bool x.out, .slice B3 x.list.length d3] 59
  have D0 : Below ((w.alloc (.cells #[.int .i64 x.cap, .int .i64 x.next, .bool x.out, .slice A3 x.list.length c3] 59)).alloc (.cells #[.int .i64 x.cap, .int .i64 x.next, .bool x.out, .slice B3 x.list.length d3] 59)).heap.size ((w.alloc (.cells #[.int .i64 x.cap, .int .i64 x.next, .bool x.out, .slice A3 x.list.length c3] 59)).alloc (.cells #[.int .i64 x.cap, .int .i64 x.next, .bool x.out, .slice B3 x.list.length d3] 59)) ((w.alloc (.cells #[.int .i64 x.cap, .int .i64 x.next, .bool x.out, .slice A3 x.list.length c3] 59)).alloc (.cells #[.int .i64 x.cap, .int .i64 x.next, .bool x.out, .slice B3 x.list.length d3] 59)) := Below.refl _ _
  have lt2 := lt_of_some g2
  have lt1 := lt_of_some g1
  have n0 : (x.cap != x.cap) = false := by simp
  have n1 : (x.next != x.next) = false := by simp
  have n2 : (x.out != x.out) = false := by simp
  go_enter Try.func58, Try.ntmps58
  go_wp2_with fail
  refine (eqEns _ _ x.list _ ((r3.past b0).past D0) ((s3.past b0).past D0) hs.list).mono ?_
  rintro e w1 ⟨rfl, k1⟩
  have D1 := D0.trans (k1.mono D0.size)
  clear k1
  go_wp2
  go_ret
  exact ⟨rfl, b0.trans (D1.mono b0.size)⟩

theorem infoRi : (Try.prog.info? 59).map (fun i => (i.zero, i.size, i.bytes)) = some (some (.agg #[.int .i64 0, .int .i64 0, .bool false, .slice none 0 0]), 4, 48) := by kernel_rfl

theorem mklRis {w : World} {B : Nat} {k : Int} {l : List Ri} {v : Value} (h : RdC w B (mkC k (encRis l)) v) : ∃ A c, v = .slice A l.length c := by
  have h' : RdC w B (.rows 59 4 (mkR k (l.map encRi))) v := h
  obtain ⟨A, c, hv, _⟩ := h'.len
  exact ⟨A, c, by simpa [mkR_len] using hv⟩
theorem owRi {w : World} {x : Ri} {v : Value} {bs : List Nat} (h : OwC w (datRi x) v bs) : ∃ (A3 : Option Addr) (c3 : Nat) (b3 : List Nat), v = .agg #[.int .i64 x.cap, .int .i64 x.next, .bool x.out, .slice A3 x.list.length c3] ∧ bs = b3 ∧ OwC w (encEns x.list) (.slice A3 x.list.length c3) b3 := by
  obtain ⟨vs, rfl, v0, _, b0, t0, rfl, rfl, ⟨rfl, rfl⟩, v1, _, b1, t1, rfl, rfl, ⟨rfl, rfl⟩, v2, _, b2, t2, rfl, rfl, ⟨rfl, rfl⟩, v3, _, b3, t3, rfl, rfl, q3, rfl, rfl⟩ := h
  obtain ⟨A3, c3, rfl⟩ := sliceEns (q3.read _ _ _ (fun b hb => q3.lt _ _ _ b hb))
  exact ⟨A3, c3, b3, rfl, by simp, q3⟩

end Go.Proofs.Ytninppjomdhnmaa.low


/-
  Contracts of the specification's builder: spec.l02Flush, l02Keep, l02Put, l02Drop, l02Done.
-/
namespace Go.Proofs.Ytninppjomdhnmaa.low
open Go.RowKit
set_option linter.unusedVariables false

theorem free_grown {w w0 w1 : World} {g o : Nat} {cs : Array Value} {T : TypeId} {r : Option Nat} (hg : w.heap[g]? = some (.cells cs T (0, 0))) (h0 : Below w.heap.size w w0) (hgrow : w0.grownBy w1 r) (hne : ¬ r = some g) : w1.frozen? ⟨g, o, none⟩ = false := by
  have hlt := lt_of_some hg
  have : w1.heap[g]? = some (.cells cs T (0, 0)) := by rw [hgrow.block g (Nat.lt_of_lt_of_le hlt h0.size) (fun e => hne e.symm), h0.block g hlt]; exact hg
  simp [World.frozen?, this]
theorem below_made (w : World) (o : Obj) : Below w.heap.size w (w.alloc o).drew := ((Below.refl _ _).alloc (Nat.le_refl _) o).drew
theorem cell_grown {w w0 w1 : World} {g : Nat} {cs : Array Value} {T : TypeId} {r : Option Nat} (o : Nat) (hg : w.heap[g]? = some (.cells cs T (0, 0))) (h0 : Below w.heap.size w w0) (hgrow : w0.grownBy w1 r) (hne : ¬ r = some g) : w1.cell? ⟨g, o, none⟩ = cs[o]? := by
  have hlt := lt_of_some hg
  have : w1.heap[g]? = some (.cells cs T (0, 0)) := by rw [hgrow.block g (Nat.lt_of_lt_of_le hlt h0.size) (fun e => hne e.symm), h0.block g hlt]; exact hg
  exact cell_of_row _ _ o _ _ _ this
theorem Box.drew {lo g : Nat} {T : TypeId} {w : World} {v u : Value} {d : Int} {ps : List Pt} {us : List Value} (h : Box lo g T w v u d ps us) : Box lo g T w.drew v u d ps us := ⟨h.box, h.row.drew, h.len, h.low⟩
theorem Apart.drew {lo hi : Nat} {w : World} {ps : List Pt} {us : List Value} (h : Apart lo hi w ps us) : Apart lo hi w.drew ps us := h.keep (Nat.le_refl _) (fun _ _ _ _ _ _ => rfl)
theorem Apart.drewS {lo : Nat} {w : World} {ps : List Pt} {us : List Value} (h : Apart lo w.heap.size w ps us) : Apart lo w.drew.heap.size w.drew ps us := h.drew

def putL (put : List Int) : List Pt := if put.length = 0 then [] else [⟨2, 0, put⟩]
def dropL (d : Int) : List Pt := if 0 < d then [⟨3, d, []⟩] else []
/-- the builder: its parts, what is to be put, what is dropped -/
def BAt (lo g : Nat) (T : TypeId) (w : World) (ps : List Pt) (put : List Int) (d : Int) : Prop :=
  ∃ v u us, Box lo g T w v u d ps us ∧ Apart lo w.heap.size w (ps ++ [⟨2, 0, put⟩]) (us ++ [u])
/-- the function returns nothing and leaves the builder so -/
def Built (lo g : Nat) (T : TypeId) (w : World) (ps : List Pt) (put : List Int) (d : Int) (e : Ending) (w' : World) : Prop := e = .returned (.tuple #[]) ∧ BAt lo g T w' ps put d ∧ Below lo w w'

theorem Apart.init {lo hi : Nat} {w : World} {ps : List Pt} {us : List Value} {p : Pt} {u : Value} (h : Apart lo hi w (ps ++ [p]) (us ++ [u])) (hl : us.length = ps.length) : Apart lo hi w ps us := by
  obtain ⟨h1, h2, h3⟩ := h
  refine ⟨hl, fun i q x hq hx => h2 i q x ?_ ?_, fun i j k a b ha hb => h3 i j k a b ?_ ?_⟩
  · rw [List.getElem?_append_left (idx_lt hq)]; exact hq
  · rw [List.getElem?_append_left (idx_lt hx)]; exact hx
  · rw [List.getElem?_append_left (idx_lt ha)]; exact ha
  · rw [List.getElem?_append_left (idx_lt hb)]; exact hb
theorem Apart.last {lo hi : Nat} {w : World} {ps : List Pt} {us : List Value} {p : Pt} {u : Value} (h : Apart lo hi w (ps ++ [p]) (us ++ [u])) (hl : us.length = ps.length) : w.ownsRow lo 3 1 u p.signs.length (p.signs.map (Value.int .i64)) := by
  have := (h.2.1 ps.length p u (by simp) (by rw [← hl]; simp)).1
  exact this
theorem Apart.bare {lo hi : Nat} {w : World} {ps : List Pt} {us : List Value} (k n : Int) (h : Apart lo hi w ps us) : Apart lo hi w (ps ++ [⟨k, n, []⟩]) (us ++ [.slice none 0 0]) :=
  h.snoc (World.ownsRow_nil _ _ _ _) (fun k hk => by simp [Value.ownBlock] at hk) (fun i v k _ _ he => by simp [Value.ownBlock] at he)

/-- the builder with nothing pending -/
def BNil (lo g : Nat) (T : TypeId) (w : World) (ps : List Pt) : Prop := ∃ v us, Box lo g T w v (.slice none 0 0) 0 ps us ∧ Apart lo w.heap.size w ps us
theorem BNil.at_ {lo g : Nat} {T : TypeId} {w : World} {ps : List Pt} (h : BNil lo g T w ps) : BAt lo g T w ps [] 0 := by
  obtain ⟨v, us, hx, ha⟩ := h
  exact ⟨v, _, us, hx, Apart.bare 2 0 ha⟩
def Flushed (lo g : Nat) (T : TypeId) (w : World) (ps : List Pt) (e : Ending) (w' : World) : Prop := e = .returned (.tuple #[]) ∧ BNil lo g T w' ps ∧ Below lo w w'
theorem Box.clear {lo g : Nat} {T : TypeId} {w : World} {v u : Value} {d : Int} {ps : List Pt} {us : List Value} (h : Box lo g T w v u d ps us) (hT1 : ¬ T = 3) (hT2 : ¬ T = 114) (ha : Apart lo w.heap.size w ps us) :
    BNil lo g T ((w.setCell ⟨g, 1, none⟩ (.slice none 0 0)).setCell ⟨g, 2, none⟩ (.int .i64 0)) ps ∧ Below lo w ((w.setCell ⟨g, 1, none⟩ (.slice none 0 0)).setCell ⟨g, 2, none⟩ (.int .i64 0)) := by
  refine ⟨⟨v, us, ⟨?_, ?_, h.len, h.low⟩, ?_⟩, ((Below.refl _ _).setCell h.low _).setCell h.low _⟩
  · rw [heap_setCell_same _ _ _ _ _ _ (heap_setCell_same _ _ _ _ _ _ h.box)]; rfl
  · exact ownsRow_setCell_other (ownsRow_setCell_other h.row (own_far h.row h.box hT2) _) (own_far h.row h.box hT2) _
  · refine ha.keep (by simp) (fun i x k hx hk1 hk2 => ?_)
    obtain ⟨q, hq⟩ := idx_some (l := ps) (i := i) (by rw [← ha.1]; exact idx_lt hx)
    have hkg : ¬ k = g := fun e => own_far (ha.2.1 i q x hq hx).1 h.box hT1 (by rw [hk1, e])
    rw [Below.heap_setCell _ _ _ _ hkg, Below.heap_setCell _ _ _ _ hkg]

/-- the blocks of a builder lie in S -/
def OwnS (S : Nat → Prop) (g : Nat) (v : Value) (us : List Value) : Prop := S g ∧ (∀ k, v.ownBlock = some k → S k) ∧ ∀ (i k : Nat) (x : Value), us[i]? = some x → x.ownBlock = some k → S k
/-- blocks outside S are as they were -/
structure Fr (S : Nat → Prop) (w w' : World) : Prop where
  size : w.heap.size ≤ w'.heap.size
  block : ∀ b, b < w.heap.size → ¬ S b → w'.heap[b]? = w.heap[b]?
theorem Fr.refl (S : Nat → Prop) (w : World) : Fr S w w := ⟨Nat.le_refl _, fun _ _ _ => rfl⟩
theorem Fr.trans {S : Nat → Prop} {a b c : World} (h : Fr S a b) (k : Fr S b c) : Fr S a c := ⟨Nat.le_trans h.size k.size, fun i hi hs => (k.block i (Nat.lt_of_lt_of_le hi h.size) hs).trans (h.block i hi hs)⟩
theorem Fr.setCell {S : Nat → Prop} {a w : World} (h : Fr S a w) {p : Addr} (hp : S p.block) (u : Value) : Fr S a (w.setCell p u) :=
  h.trans ⟨by simp [World.setCell], fun b _ hb => Below.heap_setCell _ _ _ _ (fun e => hb (by rw [e]; exact hp))⟩
theorem Fr.drew {S : Nat → Prop} {a w : World} (h : Fr S a w) : Fr S a w.drew := h.trans ⟨Nat.le_refl _, fun _ _ _ => rfl⟩
theorem Fr.below {S : Nat → Prop} {w w' : World} (h : Below w.heap.size w w') : Fr S w w' := ⟨h.size, fun b hb _ => h.block b hb⟩
theorem Fr.grown {S : Nat → Prop} {a w w' : World} {r : Option Nat} (h : Fr S a w) (hg : w.grownBy w' r) (hr : ∀ k, r = some k → S k) : Fr S a w' :=
  h.trans ⟨hg.size, fun b hb hs => hg.block b hb (fun e => hs (hr b e.symm))⟩
theorem OwnS.push {S : Nat → Prop} {g gg cap n H : Nat} {v u' : Value} {us : List Value} (h : OwnS S g v us) (hu : ∀ k, u'.ownBlock = some k → S k) (hat : v.ownBlock = some gg ∨ gg = H) (hH : S H) : OwnS S g (.slice (some ⟨gg, 0, none⟩) n cap) (us ++ [u']) := by
  refine ⟨h.1, fun k hk => ?_, fun i k x hx hk => ?_⟩
  · have e : gg = k := by simpa [Value.ownBlock] using hk
    subst e
    rcases hat with e | e
    · exact h.2.1 _ e
    · rw [e]; exact hH
  · by_cases hi : i < us.length
    · rw [List.getElem?_append_left hi] at hx
      exact h.2.2 i k x hx hk
    · rw [List.getElem?_append_right (by omega)] at hx
      have hx' : i - us.length = 0 := by
        have := idx_lt hx
        simp at this
        omega
      rw [hx'] at hx
      simp at hx
      subst hx
      exact hu k hk
theorem OwnS.init {S : Nat → Prop} {g : Nat} {v u : Value} {us : List Value} (h : OwnS S g v (us ++ [u])) : OwnS S g v us := ⟨h.1, h.2.1, fun i k x hx hk => h.2.2 i k x (by rw [List.getElem?_append_left (idx_lt hx)]; exact hx) hk⟩
theorem OwnS.last {S : Nat → Prop} {g : Nat} {v u : Value} {us : List Value} (h : OwnS S g v (us ++ [u])) : ∀ k, u.ownBlock = some k → S k := fun k hk => h.2.2 us.length k u (by simp) hk
theorem nil_own {S : Nat → Prop} : ∀ k, (Value.slice none 0 0).ownBlock = some k → S k := fun k hk => by simp [Value.ownBlock] at hk
theorem push_fr {S : Nat → Prop} {g : Nat} {v : Value} {us : List Value} {w w0 w1 : World} (h : OwnS S g v us) (h0 : Below w.heap.size w w0) (hg : w0.grownBy w1 v.ownBlock) (x : Value) : Fr S w (w1.setCell ⟨g, 0, none⟩ x) :=
  ((Fr.below h0).grown hg (fun k hk => h.2.1 k hk)).setCell h.1 x
/-- the builder: its parts, what is to be put, what is dropped; its blocks lie in S -/
def BAtS (S : Nat → Prop) (lo g : Nat) (T : TypeId) (w : World) (ps : List Pt) (put : List Int) (d : Int) : Prop :=
  ∃ v u us, Box lo g T w v u d ps us ∧ Apart lo w.heap.size w (ps ++ [⟨2, 0, put⟩]) (us ++ [u]) ∧ OwnS S g v (us ++ [u])
def BNilS (S : Nat → Prop) (lo g : Nat) (T : TypeId) (w : World) (ps : List Pt) : Prop := ∃ v us, Box lo g T w v (.slice none 0 0) 0 ps us ∧ Apart lo w.heap.size w ps us ∧ OwnS S g v us
def FlushedS (S : Nat → Prop) (lo g : Nat) (T : TypeId) (w : World) (ps : List Pt) (e : Ending) (w' : World) : Prop := e = .returned (.tuple #[]) ∧ BNilS S lo g T w' ps ∧ Below lo w w' ∧ Fr S w w'
def BuiltS (S : Nat → Prop) (lo g : Nat) (T : TypeId) (w : World) (ps : List Pt) (put : List Int) (d : Int) (e : Ending) (w' : World) : Prop := e = .returned (.tuple #[]) ∧ BAtS S lo g T w' ps put d ∧ Below lo w w' ∧ Fr S w w'
theorem BAt.all {lo g : Nat} {T : TypeId} {w : World} {ps : List Pt} {put : List Int} {d : Int} (h : BAt lo g T w ps put d) : BAtS (fun _ => True) lo g T w ps put d := by
  obtain ⟨v, u, us, hx, ha⟩ := h
  exact ⟨v, u, us, hx, ha, trivial, fun _ _ => trivial, fun _ _ _ _ _ => trivial⟩
theorem BAtS.any {S : Nat → Prop} {lo g : Nat} {T : TypeId} {w : World} {ps : List Pt} {put : List Int} {d : Int} (h : BAtS S lo g T w ps put d) : BAt lo g T w ps put d := by
  obtain ⟨v, u, us, hx, ha, _⟩ := h
  exact ⟨v, u, us, hx, ha⟩
theorem FlushedS.any {S : Nat → Prop} {lo g : Nat} {T : TypeId} {w w' : World} {ps : List Pt} {e : Ending} (h : FlushedS S lo g T w ps e w') : Flushed lo g T w ps e w' := by
  obtain ⟨h1, ⟨v, us, hx, ha, _⟩, b, _⟩ := h
  exact ⟨h1, ⟨v, us, hx, ha⟩, b⟩
theorem BuiltS.any {S : Nat → Prop} {lo g : Nat} {T : TypeId} {w w' : World} {ps : List Pt} {put : List Int} {d : Int} {e : Ending} (h : BuiltS S lo g T w ps put d e w') : Built lo g T w ps put d e w' := ⟨h.1, h.2.1.any, h.2.2.1⟩
theorem BNilS.at_ {S : Nat → Prop} {lo g : Nat} {T : TypeId} {w : World} {ps : List Pt} (h : BNilS S lo g T w ps) : BAtS S lo g T w ps [] 0 := by
  obtain ⟨v, us, hx, ha, ho⟩ := h
  refine ⟨v, _, us, hx, Apart.bare 2 0 ha, ho.1, ho.2.1, fun i k x hxi hk => ?_⟩
  by_cases hi : i < us.length
  · rw [List.getElem?_append_left hi] at hxi
    exact ho.2.2 i k x hxi hk
  · rw [List.getElem?_append_right (by omega)] at hxi
    have hx' : i - us.length = 0 := by
      have := idx_lt hxi
      simp at this
      omega
    rw [hx'] at hxi
    simp at hxi
    subst hxi
    simp [Value.ownBlock] at hk
theorem Box.clearS {S : Nat → Prop} {lo g : Nat} {T : TypeId} {w : World} {v u : Value} {d : Int} {ps : List Pt} {us : List Value} (h : Box lo g T w v u d ps us) (hT1 : ¬ T = 3) (hT2 : ¬ T = 114) (ha : Apart lo w.heap.size w ps us) (ho : OwnS S g v us) :
    BNilS S lo g T ((w.setCell ⟨g, 1, none⟩ (.slice none 0 0)).setCell ⟨g, 2, none⟩ (.int .i64 0)) ps ∧ Below lo w ((w.setCell ⟨g, 1, none⟩ (.slice none 0 0)).setCell ⟨g, 2, none⟩ (.int .i64 0)) ∧ Fr S w ((w.setCell ⟨g, 1, none⟩ (.slice none 0 0)).setCell ⟨g, 2, none⟩ (.int .i64 0)) := by
  refine ⟨⟨v, us, ⟨?_, ?_, h.len, h.low⟩, ?_, ho⟩, ((Below.refl _ _).setCell h.low _).setCell h.low _, ((Fr.refl S w).setCell (p := ⟨g, 1, none⟩) ho.1 _).setCell (p := ⟨g, 2, none⟩) ho.1 _⟩
  · rw [heap_setCell_same _ _ _ _ _ _ (heap_setCell_same _ _ _ _ _ _ h.box)]; rfl
  · exact ownsRow_setCell_other (ownsRow_setCell_other h.row (own_far h.row h.box hT2) _) (own_far h.row h.box hT2) _
  · refine ha.keep (by simp) (fun i x k hx hk1 hk2 => ?_)
    obtain ⟨q, hq⟩ := idx_some (l := ps) (i := i) (by rw [← ha.1]; exact idx_lt hx)
    have hkg : ¬ k = g := fun e => own_far (ha.2.1 i q x hq hx).1 h.box hT1 (by rw [hk1, e])
    rw [Below.heap_setCell _ _ _ _ hkg, Below.heap_setCell _ _ _ _ hkg]

end Go.Proofs.Ytninppjomdhnmaa.low


/-
  Contracts of the specification's builder: spec.l02Put, l02Drop.
-/
namespace Go.Proofs.Ytninppjomdhnmaa.low
open Go.RowKit
set_option linter.unusedVariables false

theorem run_append_zero {P : Program} {w : World} (base : Nat) (t ty e : TypeId) (i : TypeInfo) (size : Nat) (ht : P.underlying t = some (.slice e)) (hi : P.info? e = some i)
    (v : Value) (n : Nat) (xs : List Value) (hown : w.ownsRow base e size v n xs) (A : Option Addr) (c : Nat) :
    (Builtin.append_ #[t, t] ty #[v, .slice A 0 c]).run P w = .ok v w := by
  rcases hown.2 with ⟨rfl, rfl⟩ | ⟨g, cap, cur, rfl, _, _, hnc, _⟩
  · cases A <;> simp [Builtin.append_, run_underlying ht, sizeOf, typeInfo, hi, Builtin.lenOf, Builtin.firstCells, loadCells, loadCellsFrom]
  · cases A <;> simp [Builtin.append_, run_underlying ht, sizeOf, typeInfo, hi, Builtin.lenOf, Builtin.firstCells, loadCells, loadCellsFrom, hnc, storeCells]
theorem wpList_append_zero {P : Program} {w : World} {ops : Array Oper} {rest : List Oper} {o : Oper} {a : Act} {Q : Exit → Act → World → Prop} (hgd : o.guard = none) (s x : Operand) (t : TypeId)
    (ho : o.op = .call { callee := .builtin .append, args := #[s, x], argTypes := #[t, t] })
    (base : Nat) (e : TypeId) (i : TypeInfo) (size : Nat) (ht : P.underlying t = some (.slice e)) (hi : P.info? e = some i)
    (v : Value) (n : Nat) (xs : List Value) (hs : a.eval s = v) (hown : w.ownsRow base e size v n xs) (A : Option Addr) (c : Nat) (hx : a.eval x = .slice A 0 c)
    (h : wpList P ops Q rest (a.put o.dst v) w) : wpList P ops Q (o :: rest) a w := by
  refine wpList_plain hgd fun K hK => ?_
  have hrun := run_append_zero (P := P) (w := w) base t o.type e i size ht hi v n xs hown A c
  unfold Oper.wp
  simp [execOp, ho, resolve, invoke, builtin, hs, hx, hrun, Result.andThen]
  exact hK _ _ h

theorem Apart.far {lo hi : Nat} {w : World} {ps : List Pt} {us : List Value} {p : Pt} {u : Value} (h : Apart lo hi w (ps ++ [p]) (us ++ [u])) (hl : us.length = ps.length) {i k : Nat} {x : Value} (hx : us[i]? = some x) (hk : x.ownBlock = some k) : ¬ u.ownBlock = some k := fun hu => by
  have := h.2.2 i us.length k x u (by rw [List.getElem?_append_left (idx_lt hx)]; exact hx) (by simp) hk hu
  have := idx_lt hx
  omega
/-- more characters to be put: behind the append and the store -/
theorem Box.moreS {S : Nat → Prop} {lo g : Nat} {T : TypeId} {w w1 : World} {v u v' : Value} {d : Int} {ps : List Pt} {us : List Value} {put put' : List Int} (h : Box lo g T w v u d ps us) (hT1 : ¬ T = 3) (hT2 : ¬ T = 114)
    (ha : Apart lo w.heap.size w (ps ++ [⟨2, 0, put⟩]) (us ++ [u])) (hown : w1.ownsRow lo 3 1 v' put'.length (put'.map (Value.int .i64))) (hgrow : w.grownBy w1 u.ownBlock) (hat : v'.ownBlock = u.ownBlock ∨ v'.ownBlock = some w.heap.size) (hos : OwnS S g v (us ++ [u])) (hS : S w.heap.size) :
    BAtS S lo g T (w1.setCell ⟨g, 1, none⟩ v') ps put' d ∧ Below lo w (w1.setCell ⟨g, 1, none⟩ v') ∧ Fr S w (w1.setCell ⟨g, 1, none⟩ v') := by
  have hlt := h.lt
  have hu := ha.last h.len
  have ha0 := ha.init h.len
  have hold : ∀ k, k < w.heap.size → ¬ u.ownBlock = some k → w1.heap[k]? = w.heap[k]? := fun k hk hne => hgrow.block k hk (fun e => hne e.symm)
  have hg1 : w1.heap[g]? = some (.cells #[v, u, .int .i64 d] T (0, 0)) := by rw [hold g hlt (own_far hu h.box hT1)]; exact h.box
  have hvg := own_far hown hg1 hT1
  have hlow : lo ≤ w.heap.size := Nat.le_trans h.low (Nat.le_of_lt hlt)
  have hv' : ∀ k, v'.ownBlock = some k → S k := fun k hk => by
    rcases hat with e | e
    · exact hos.last k (by rw [← e]; exact hk)
    · rw [e] at hk
      injection hk with hk
      rw [← hk]; exact hS
  have hos' : OwnS S g v (us ++ [v']) := ⟨hos.1, hos.2.1, fun i k x hx hk => by
    by_cases hi : i < us.length
    · rw [List.getElem?_append_left hi] at hx
      exact hos.init.2.2 i k x hx hk
    · rw [List.getElem?_append_right (by omega)] at hx
      have hx' : i - us.length = 0 := by
        have := idx_lt hx
        simp at this
        omega
      rw [hx'] at hx
      simp at hx
      subst hx
      exact hv' k hk⟩
  have hfr : Fr S w (w1.setCell ⟨g, 1, none⟩ v') := ((Fr.refl S w).grown hgrow (fun k hk => hos.last k hk)).setCell (p := ⟨g, 1, none⟩) hos.1 _
  refine ⟨⟨v, v', us, ⟨?_, ?_, h.len, h.low⟩, ?_, hos'⟩, ?_, hfr⟩
  · rw [heap_setCell_same _ _ _ _ _ _ hg1]; rfl
  · refine own_keep h.row (fun k hk1 hk2 => ?_)
    have hkg : ¬ k = g := fun e => own_far h.row h.box hT2 (by rw [hk1, e])
    rw [Below.heap_setCell _ _ _ _ hkg]
    refine hold k hk2 (fun hk3 => ?_)
    obtain ⟨c1, e1⟩ := own_blk h.row hk1
    exact own_far hu e1 (by decide) hk3
  · have hkeep : Apart lo (w1.setCell ⟨g, 1, none⟩ v').heap.size (w1.setCell ⟨g, 1, none⟩ v') ps us := by
      refine ha0.keep (by simp; exact hgrow.size) (fun i x k hx hk1 hk2 => ?_)
      obtain ⟨q, hq⟩ := idx_some (l := ps) (i := i) (by rw [← h.len]; exact idx_lt hx)
      have hkg : ¬ k = g := fun e => own_far (ha0.2.1 i q x hq hx).1 h.box hT1 (by rw [hk1, e])
      rw [Below.heap_setCell _ _ _ _ hkg]
      exact hold k hk2 (ha.far h.len hx hk1)
    refine hkeep.snoc (ownsRow_setCell_other hown hvg _) (fun k hk => ?_) (fun i x k hx hk1 hk2 => ?_)
    · obtain ⟨c1, e1⟩ := own_blk hown hk
      have := lt_of_some e1
      simpa using this
    · obtain ⟨q, hq⟩ := idx_some (l := ps) (i := i) (by rw [← h.len]; exact idx_lt hx)
      rcases hat with e | e
      · exact ha.far h.len hx hk1 (by rw [← e]; exact hk2)
      · obtain ⟨c1, e1⟩ := own_blk (ha0.2.1 i q x hq hx).1 hk1
        have := lt_of_some e1
        rw [hk2] at e
        injection e with e
        omega
  · refine Below.setCell ?_ h.low _
    exact (Below.refl _ _).grown hgrow hlow (fun k hk => own_ge hu k hk)
theorem Box.dropS {S : Nat → Prop} {lo g : Nat} {T : TypeId} {w : World} {v u : Value} {d d' : Int} {ps : List Pt} {us : List Value} {put : List Int} (h : Box lo g T w v u d ps us) (hT1 : ¬ T = 3) (hT2 : ¬ T = 114)
    (ha : Apart lo w.heap.size w (ps ++ [⟨2, 0, put⟩]) (us ++ [u])) (hos : OwnS S g v (us ++ [u])) :
    BAtS S lo g T (w.setCell ⟨g, 2, none⟩ (.int .i64 d')) ps put d' ∧ Below lo w (w.setCell ⟨g, 2, none⟩ (.int .i64 d')) ∧ Fr S w (w.setCell ⟨g, 2, none⟩ (.int .i64 d')) := by
  refine ⟨⟨v, u, us, ⟨?_, ownsRow_setCell_other h.row (own_far h.row h.box hT2) _, h.len, h.low⟩, ha.keep (by simp) (fun i x k hx hk1 hk2 => ?_), hos⟩, (Below.refl _ _).setCell h.low _, (Fr.refl S w).setCell (p := ⟨g, 2, none⟩) hos.1 _⟩
  · rw [heap_setCell_same _ _ _ _ _ _ h.box]; rfl
  · obtain ⟨q, hq⟩ := idx_some (l := ps ++ [⟨2, 0, put⟩]) (i := i) (by rw [← ha.1]; exact idx_lt hx)
    have hkg : ¬ k = g := fun e => own_far (ha.2.1 i q x hq hx).1 h.box hT1 (by rw [hk1, e])
    rw [Below.heap_setCell _ _ _ _ hkg]

theorem ints_info : (Try.prog.info? 3).map (fun i => (i.zero, i.size, i.bytes)) = some (some (.int .i64 0), 1, 8) := by kernel_rfl

end Go.Proofs.Ytninppjomdhnmaa.low


/-
  Contracts of the specification's builder: spec.l02Keep, l02Done.
-/
namespace Go.Proofs.Ytninppjomdhnmaa.low
open Go.RowKit
set_option linter.unusedVariables false

theorem below_new (w : World) (o : Obj) : Below w.heap.size w (w.alloc o) := (Below.refl _ _).alloc (Nat.le_refl _) o
def keepTo (q : List Pt) (n : Int) : List Pt :=
  match q.getLast? with
  | some p => if p.kind = 1 then q.set (q.length - 1) ⟨p.kind, p.n + n, p.signs⟩ else q ++ [⟨1, n, []⟩]
  | none => q ++ [⟨1, n, []⟩]
theorem keepTo_nil (n : Int) : keepTo [] n = [⟨1, n, []⟩] := rfl
theorem keepTo_t {r : List Pt} {p : Pt} (n : Int) (h : p.kind = 1) : keepTo (r ++ [p]) n = r ++ [⟨p.kind, p.n + n, p.signs⟩] := by
  simp [keepTo, h]
theorem keepTo_f {r : List Pt} {p : Pt} (n : Int) (h : ¬ p.kind = 1) : keepTo (r ++ [p]) n = r ++ [p] ++ [⟨1, n, []⟩] := by
  simp [keepTo, h]

theorem cellsOf_setN : ∀ (ps : List Pt) (us : List Value) (i : Nat) (p : Pt) (b : Int), us.length = ps.length → ps[i]? = some p →
    (cellsOf ps us).set (i * 3 + 1) (.int .i64 b) = cellsOf (ps.set i ⟨p.kind, b, p.signs⟩) us
  | [], us, i, p, b, _, h => by simp at h
  | _ :: _, [], i, p, b, hl, _ => by simp at hl
  | x :: ps, u :: us, 0, p, b, hl, h => by
    simp at h
    subst h
    rfl
  | x :: ps, u :: us, i + 1, p, b, hl, h => by
    have e0 : (i + 1) * 3 + 1 = i * 3 + 1 + 1 + 1 + 1 := by omega
    rw [e0]
    show .int .i64 x.kind :: .int .i64 x.n :: u :: (cellsOf ps us).set (i * 3 + 1) (.int .i64 b) = .int .i64 x.kind :: .int .i64 x.n :: u :: cellsOf (ps.set i ⟨p.kind, b, p.signs⟩) us
    rw [cellsOf_setN ps us i p b (by simpa using hl) (by simpa using h)]
theorem Apart.setN {lo hi : Nat} {w : World} {r : List Pt} {p q : Pt} {us : List Value} (h : Apart lo hi w (r ++ [p]) us) (hq : q.signs = p.signs) : Apart lo hi w (r ++ [q]) us := by
  refine ⟨by simpa using h.1, fun i x u hx hu => ?_, h.2.2⟩
  by_cases hi' : i < r.length
  · rw [List.getElem?_append_left hi'] at hx
    exact h.2.1 i x u (by rw [List.getElem?_append_left hi']; exact hx) hu
  · have e : i = r.length := by have := idx_lt hx; simp at this; omega
    subst e
    simp at hx
    subst hx
    have := h.2.1 r.length p u (by simp) hu
    rw [hq]
    exact this

/-- the last part's number is changed in place -/
theorem Box.setN {lo g gv cap : Nat} {T : TypeId} {w : World} {u : Value} {d b : Int} {r : List Pt} {p : Pt} {us : List Value} (h : Box lo g T w (.slice (some ⟨gv, 0, none⟩) (r.length + 1) cap) u d (r ++ [p]) us) (hT1 : ¬ T = 3) (hT2 : ¬ T = 114)
    (ha : Apart lo w.heap.size w (r ++ [p]) us) :
    Box lo g T (w.setCell ⟨gv, r.length * 3 + 1, none⟩ (.int .i64 b)) (.slice (some ⟨gv, 0, none⟩) (r.length + 1) cap) u d (r ++ [⟨p.kind, b, p.signs⟩]) us ∧
    Apart lo (w.setCell ⟨gv, r.length * 3 + 1, none⟩ (.int .i64 b)).heap.size (w.setCell ⟨gv, r.length * 3 + 1, none⟩ (.int .i64 b)) (r ++ [⟨p.kind, b, p.signs⟩]) us ∧
    Below lo w (w.setCell ⟨gv, r.length * 3 + 1, none⟩ (.int .i64 b)) := by
  have hgv := own_far h.row h.box hT2
  have hge := own_ge h.row gv rfl
  have hl : us.length = (r ++ [p]).length := h.len
  refine ⟨⟨?_, ?_, by simpa using hl, h.low⟩, ?_, (Below.refl _ _).setCell hge _⟩
  · rw [Below.heap_setCell _ _ _ _ (fun e => hgv (by simp [Value.ownBlock]; exact e.symm))]; exact h.box
  · have e1 := cellsOf_setN (r ++ [p]) us r.length p b hl (by simp)
    have e2 : (r ++ [p]).set r.length ⟨p.kind, b, p.signs⟩ = r ++ [⟨p.kind, b, p.signs⟩] := by simp
    rw [e2] at e1
    rw [← e1]
    have := (World.ownsRow.stored (n := r.length + 1) (by simpa using h.row) (r.length * 3 + 1) (.int .i64 b)).1
    simpa using this
  · refine Apart.setN (p := p) (ha.keep (by simp) (fun i x k hx hk1 hk2 => ?_)) rfl
    obtain ⟨q, hq⟩ := idx_some (l := r ++ [p]) (i := i) (by rw [← hl]; exact idx_lt hx)
    obtain ⟨c1, e1⟩ := own_blk (ha.2.1 i q x hq hx).1 hk1
    have hne : ¬ k = gv := fun e => by
      subst e
      exact own_far h.row e1 (by decide) rfl
    rw [Below.heap_setCell _ _ _ _ hne]

theorem setN_fr {S : Nat → Prop} {g gv n cap o : Nat} {us : List Value} {w : World} (h : OwnS S g (.slice (some ⟨gv, 0, none⟩) n cap) us) (x : Value) : Fr S w (w.setCell ⟨gv, o, none⟩ x) := (Fr.refl S w).setCell (p := ⟨gv, o, none⟩) (h.2.1 gv rfl) x
/-- the builder's end: the parts -/
def Gone (lo : Nat) (ps : List Pt) (w : World) (e : Ending) (w' : World) : Prop := ∃ v, e = .returned v ∧ PBuf lo w'.heap.size w' v ps ∧ Below lo w w'
def GoneS (S : Nat → Prop) (lo : Nat) (ps : List Pt) (w : World) (e : Ending) (w' : World) : Prop := ∃ v us, e = .returned v ∧ PBuf lo w'.heap.size w' v ps ∧ Below lo w w' ∧ Fr S w w' ∧ w'.ownsRow lo 114 3 v ps.length (cellsOf ps us) ∧ us.length = ps.length ∧ (∀ k, v.ownBlock = some k → S k) ∧ ∀ (i k : Nat) (x : Value), us[i]? = some x → x.ownBlock = some k → S k
theorem Box.parts {lo g : Nat} {T : TypeId} {w : World} {v u : Value} {d : Int} {ps : List Pt} {us : List Value} (h : Box lo g T w v u d ps us) (ha : Apart lo w.heap.size w ps us) : PBuf lo w.heap.size w v ps :=
  ⟨us, h.row, ha, fun k hk => by obtain ⟨c1, e1⟩ := own_blk h.row hk; exact lt_of_some e1, Nat.le_refl _, Nat.le_trans h.low (Nat.le_of_lt h.lt)⟩

theorem GoneS.any {S : Nat → Prop} {lo : Nat} {ps : List Pt} {w w' : World} {e : Ending} (h : GoneS S lo ps w e w') : Gone lo ps w e w' := by
  obtain ⟨v, us, h1, h2, h3, _⟩ := h
  exact ⟨v, h1, h2, h3⟩
end Go.Proofs.Ytninppjomdhnmaa.low


/-
  The normal form as a fold over a builder's state: parts so far, what is to be put, how many are dropped.
-/
namespace Go.Proofs.Ytninppjomdhnmaa.low
open Go.RowKit
set_option linter.unusedVariables false

def stepN (s : List Pt × List Int × Int) (p : Pt) : List Pt × List Int × Int :=
  if p.kind = 1 then (if p.n = 0 then s else (keepTo (s.1 ++ putL s.2.1 ++ dropL s.2.2) p.n, [], 0))
  else if p.kind = 2 then (s.1, s.2.1 ++ p.signs, s.2.2) else (s.1, s.2.1, s.2.2 + p.n)
def foldN (ps : List Pt) : List Pt × List Int × Int := ps.foldl stepN ([], [], 0)
def doneN (s : List Pt × List Int × Int) : List Pt := s.1 ++ putL s.2.1 ++ dropL s.2.2
/-- the normal form -/
def normL (ps : List Pt) : List Pt := if okOp ps = true then doneN (foldN ps) else []
theorem foldN_snoc {ps : List Pt} {k : Nat} {p : Pt} (h : ps[k]? = some p) : foldN (ps.take (k + 1)) = stepN (foldN (ps.take k)) p := by
  unfold foldN
  rw [List.take_add_one, h]
  simp

theorem signsIn_app (a b : List Pt) : signsIn (a ++ b) = signsIn a + signsIn b := by simp [signsIn]
theorem putL_len (z : List Int) : (putL z).length ≤ 1 ∧ signsIn (putL z) = z.length ∧ ∀ p ∈ putL z, p.n = 0 := by
  unfold putL
  split
  · rename_i h; simp [signsIn, h]
  · simp [signsIn]
theorem dropL_len (d : Int) : (dropL d).length ≤ 1 ∧ signsIn (dropL d) = 0 ∧ ∀ p ∈ dropL d, p.n = d ∧ 0 ≤ d := by
  unfold dropL
  split
  · rename_i h; simp [signsIn]; omega
  · simp [signsIn]

/-- the state behind j valid parts that hold m characters -/
structure Fit (j m : Nat) (s : List Pt × List Int × Int) : Prop where
  len : s.1.length ≤ 3 * j
  signs : signsIn s.1 + s.2.1.length ≤ m
  d0 : 0 ≤ s.2.2
  d1 : s.2.2 ≤ 200 * (j : Int)
  ns : ∀ p ∈ s.1, 0 ≤ p.n ∧ p.n ≤ 200 * (j : Int)
theorem Fit.done {j m : Nat} {s : List Pt × List Int × Int} (h : Fit j m s) : (doneN s).length ≤ 3 * j + 2 ∧ signsIn (doneN s) ≤ m ∧ ∀ p ∈ doneN s, 0 ≤ p.n ∧ p.n ≤ 200 * (j : Int) := by
  obtain ⟨a1, a2, a3⟩ := putL_len s.2.1
  obtain ⟨b1, b2, b3⟩ := dropL_len s.2.2
  have h1 := h.len
  have h2 := h.signs
  have h3 := h.d0
  have h4 := h.d1
  refine ⟨by unfold doneN; simp; omega, by unfold doneN; rw [signsIn_app, signsIn_app]; omega, fun p hp => ?_⟩
  unfold doneN at hp
  rcases List.mem_append.1 hp with hp | hp
  · rcases List.mem_append.1 hp with hp | hp
    · exact h.ns p hp
    · have := a3 p hp; omega
  · have := b3 p hp; omega
theorem keepTo_fit {q : List Pt} {n M : Int} (hn : 0 ≤ n) (hM : 0 ≤ M) (hq : ∀ p ∈ q, 0 ≤ p.n ∧ p.n ≤ M) : (keepTo q n).length ≤ q.length + 1 ∧ signsIn (keepTo q n) = signsIn q ∧ ∀ p ∈ keepTo q n, 0 ≤ p.n ∧ p.n ≤ M + n := by
  rcases q.eq_nil_or_concat with rfl | ⟨r, p, rfl⟩
  · rw [keepTo_nil]
    refine ⟨by simp, by simp [signsIn], fun x hx => ?_⟩
    simp at hx
    subst hx
    simp only
    omega
  · rw [List.concat_eq_append] at *
    have hp := hq p (by simp)
    by_cases hk : p.kind = 1
    · rw [keepTo_t n hk]
      refine ⟨by simp, by rw [signsIn_app, signsIn_app]; simp [signsIn], fun x hx => ?_⟩
      rcases List.mem_append.1 hx with hx | hx
      · have := hq x (by simp [hx]); omega
      · simp at hx
        subst hx
        simp only
        omega
    · rw [keepTo_f n hk]
      refine ⟨by simp, by rw [signsIn_app, signsIn_app]; simp [signsIn], fun x hx => ?_⟩
      rcases List.mem_append.1 hx with hx | hx
      · have := hq x hx; omega
      · simp at hx
        subst hx
        simp only
        omega
theorem Fit.step {j m : Nat} {s : List Pt × List Int × Int} {p : Pt} (h : Fit j m s) (hp : okPt p = true) : Fit (j + 1) (m + p.signs.length) (stepN s p) := by
  have hok := of_okPt hp
  obtain ⟨d1, d2, d3⟩ := h.done
  have h1 := h.len
  have h2 := h.signs
  have h3 := h.d0
  have h4 := h.d1
  have hns := h.ns
  unfold stepN
  split
  · rename_i hk
    have hn : 0 ≤ p.n ∧ p.n ≤ 200 := by omega
    split
    · exact ⟨by omega, by omega, h3, by omega, fun x hx => by have := hns x hx; omega⟩
    · have hM : p.n ≤ 200 * ((j : Int) + 1) := by omega
      obtain ⟨k1, k2, k3⟩ := keepTo_fit (q := doneN s) hn.1 (M := 200 * (j : Int)) (by omega) d3
      refine ⟨?_, ?_, by simp, by simp; omega, fun x hx => ?_⟩
      · show (keepTo (doneN s) p.n).length ≤ _; omega
      · show signsIn (keepTo (doneN s) p.n) + 0 ≤ _; omega
      · have := k3 x hx; omega
  · split
    · rename_i hk
      refine ⟨by simp; omega, by simp; omega, h3, by simp; omega, fun x hx => by have := hns x hx; omega⟩
    · have hn : 0 ≤ p.n ∧ p.n ≤ 200 := by omega
      refine ⟨by simp; omega, by simp; omega, by simp; omega, by simp; omega, fun x hx => by have := hns x hx; omega⟩
theorem Fit.start : Fit 0 0 ([], [], 0) := ⟨by simp, by simp [signsIn], by simp, by simp, fun p hp => by simp at hp⟩
theorem foldN_fit {ps : List Pt} (h : okPs ps = true) : ∀ k, k ≤ ps.length → Fit k (signsIn (ps.take k)) (foldN (ps.take k))
  | 0, _ => by simpa [foldN, signsIn] using Fit.start
  | k + 1, hk => by
    obtain ⟨p, hp⟩ := idx_some (l := ps) (i := k) (by omega)
    rw [foldN_snoc hp, signsIn_snoc hp]
    exact (foldN_fit h k (by omega)).step (okPs_at hp h)
end Go.Proofs.Ytninppjomdhnmaa.low


/-
  The contract of spec.OpSame: two lists of parts are equal.
-/
namespace Go.Proofs.Ytninppjomdhnmaa.low
open Go.RowKit
set_option linter.unusedVariables false

theorem drewN_below (w : World) (n : Nat) : Below w.heap.size w (w.drewN n) := ⟨rfl, rfl, rfl, Nat.le_refl _, fun _ _ => rfl⟩

set_option maxRecDepth 100000 in
set_option maxHeartbeats 3200000 in
theorem specOpSame_any (A B : Option Addr) (c d : Nat) (ps qs : List Pt) (w : World) (hx : PRow w w.heap.size A ps) (hy : PRow w w.heap.size B qs)
    (hl : ps.length ≤ 4294967296) (hl2 : qs.length ≤ 4294967296) (hs : ∀ p ∈ ps, p.signs.length ≤ 4294967296) (hs2 : ∀ p ∈ qs, p.signs.length ≤ 4294967296) :
    Calls Try.prog 59 #[.slice A ps.length c, .slice B qs.length d] w (Tells (samePs ps qs) w) := by
  by_cases hlen : ps.length = qs.length
  · have HL := Lib.hid hlen
    have hb : ((ps.length : Int) != (qs.length : Int)) = false := by simp [hlen]
    clear hlen
    go_enter Try.func59, Try.ntmps59
    go_wp2
    go_loopw [14] (fun i wr => ∃ k : Nat, k ≤ ps.length ∧ i = .int .i64 k ∧ samePs (ps.take k) (qs.take k) = true ∧ Below w.heap.size w wr) (fun i _ => ps.length - (intOf i).toNat)
    case atStart => exact ⟨0, Nat.zero_le _, rfl, rfl, Below.refl _ _⟩
    case round =>
      obtain ⟨k, hk, rfl, ht, hbel⟩ := hrel
      have HT := Lib.hid ht
      clear ht
      by_cases hlt : k < ps.length
      · have hlt2 : k < qs.length := by have := HL.out; omega
        obtain ⟨b1, o1, p, rfl, hb1, hp, hc1⟩ := hx.at_ hlt
        obtain ⟨b2, o2, q, rfl, hb2, hq, hc2⟩ := hy.at_ (k := k) hlt2
        obtain ⟨x0, x1, A1, e1, x2, r1⟩ := hc1.keep (w' := wr) hb1 (fun _ hq => hbel.cell hq)
        have hsp := hs p (List.mem_of_getElem? hp)
        have hsq := hs2 q (List.mem_of_getElem? hq)
        have HP := Lib.hid hp
        have HQ := Lib.hid hq
        clear hp hq hc1
        have bW := alloc_below wr (.cells #[.int .i64 p.kind, .int .i64 p.n, .slice A1 p.signs.length e1] 114)
        have dW := hbel.trans (bW.mono hbel.size)
        obtain ⟨y0, y1, A2, e2, y2, r2⟩ := hc2.keep (w' := wr.alloc (.cells #[.int .i64 p.kind, .int .i64 p.n, .slice A1 p.signs.length e1] 114)) hb2 (fun _ hq => dW.cell hq)
        have rr1 := (r1.more hbel.size).past bW
        have rr2 := r2.more dW.size
        have R1 := Lib.hid rr1
        have R2 := Lib.hid rr2
        clear hc2 r1 r2 rr1 rr2
        by_cases hk : p.kind = q.kind
        · by_cases hn : p.n = q.n
          · cases hss : sameB p.signs q.signs
            · have HS := Lib.hid (show samePt p q = false by unfold samePt; rw [hss]; simp)
              have hkb : (p.kind != q.kind) = false := by simp [hk]
              have hnb : (p.n != q.n) = false := by simp [hn]
              clear hk hn
              go_wp2
              go_quiet ((go_at_call 40; exact Calls.quiet_of (specSignsSame_any A1 A2 e1 e2 p.signs q.signs _ R1.out R2.out hsp hsq)))
              go_wp2
              go_ret
              exact ⟨ret_bool (by rw [samePs_at ps qs k p q HP.out HQ.out HS.out]), dW.trans ((drewN_below _ _).mono dW.size)⟩
            · have HS := Lib.hid (show samePt p q = true by unfold samePt; rw [hss]; simp [hk, hn])
              have hkb : (p.kind != q.kind) = false := by simp [hk]
              have hnb : (p.n != q.n) = false := by simp [hn]
              clear hk hn
              go_wp2
              go_quiet ((go_at_call 40; exact Calls.quiet_of (specSignsSame_any A1 A2 e1 e2 p.signs q.signs _ R1.out R2.out hsp hsq)))
              go_wp2
              go_roundw
              case rel => exact ⟨k + 1, by omega, by go_num, samePs_snoc ps qs k p q HP.out HQ.out HS.out HT.out, dW.trans ((drewN_below _ _).mono dW.size)⟩
              case measure => simp [intOf]; omega
          · have HS := Lib.hid (show samePt p q = false by unfold samePt; simp [hn])
            have hkb : (p.kind != q.kind) = false := by simp [hk]
            have hnb : (p.n != q.n) = true := by simp [hn]
            clear hk hn
            go_wp2
            go_quiet (fail)
            go_wp2
            go_ret
            exact ⟨ret_bool (by rw [samePs_at ps qs k p q HP.out HQ.out HS.out]), dW.trans ((drewN_below _ _).mono dW.size)⟩
        · have HS := Lib.hid (show samePt p q = false by unfold samePt; simp [hk])
          have hkb : (p.kind != q.kind) = true := by simp [hk]
          clear hk
          go_wp2
          go_quiet (fail)
          go_wp2
          go_ret
          exact ⟨ret_bool (by rw [samePs_at ps qs k p q HP.out HQ.out HS.out]), dW.trans ((drewN_below _ _).mono dW.size)⟩
      · have H := Lib.hid (show samePs ps qs = true by have := HT.out; rwa [List.take_of_length_le (by omega), List.take_of_length_le (by have := HL.out; omega)] at this)
        go_wp2
        go_ret
        exact ⟨ret_bool (by rw [H.out]), hbel⟩
  · have hb : ((ps.length : Int) != (qs.length : Int)) = true := by simp; omega
    have H := Lib.hid (show samePs ps qs = false by cases h : samePs ps qs; rfl; exact absurd (samePs_len ps qs h) hlen)
    clear hlen
    go_enter Try.func59, Try.ntmps59
    go_wp2
    go_ret
    exact ⟨ret_bool (by rw [H.out]), Below.refl _ _⟩
end Go.Proofs.Ytninppjomdhnmaa.low


/-
  Contracts of spec.OpNorm and spec.IsNorm.
-/
namespace Go.Proofs.Ytninppjomdhnmaa.low
open Go.RowKit
set_option linter.unusedVariables false

theorem BAt.past {lo g : Nat} {T : TypeId} {w w' : World} {ps : List Pt} {put : List Int} {d : Int} (h : BAt lo g T w ps put d) (hb : Below w.heap.size w w') : BAt lo g T w' ps put d := by
  obtain ⟨v, u, us, hx, ha⟩ := h
  exact ⟨v, u, us, ⟨(hb.block g hx.lt).trans hx.box, own_keep hx.row (fun k _ hk2 => hb.block k hk2), hx.len, hx.low⟩, ha.keep hb.size (fun i x k _ _ hk2 => hb.block k hk2)⟩
theorem BAt.new (lo : Nat) (T : TypeId) (w : World) (h : lo ≤ w.heap.size) : BAt lo w.heap.size T (w.alloc (.cells #[.slice none 0 0, .slice none 0 0, .int .i64 0] T)) [] [] 0 :=
  ⟨.slice none 0 0, .slice none 0 0, [], ⟨heap_alloc_new w _, World.ownsRow_nil _ _ _ _, rfl, h⟩, Apart.bare 2 0 ⟨rfl, fun i p u hp _ => by simp at hp, fun i j k u v hu _ _ _ => by simp at hu⟩⟩

theorem normL_fit {ps : List Pt} (hs : signsIn ps ≤ 1048576) : (normL ps).length ≤ 1802 ∧ signsIn (normL ps) ≤ 1048576 := by
  unfold normL
  split
  · rename_i hok
    have hpb : partsB ps = true := by
      unfold okOp at hok
      cases h : partsB ps
      · rw [h] at hok; simp at hok
      · rfl
    obtain ⟨h1, h2⟩ := partsB_of hpb
    have hf := (foldN_fit h1 ps.length (Nat.le_refl _)).done
    rw [List.take_length] at hf
    exact ⟨by have := hf.1; omega, Nat.le_trans hf.2.1 hs⟩
  · simp [signsIn]

/-- a normal operation -/
def isNormL (ps : List Pt) : Bool := okOp ps && samePs (normL ps) ps
end Go.Proofs.Ytninppjomdhnmaa.low


/-
  append(out, xs...) where out is a row of numbers of the caller's own and xs reads as numbers, nil and empty let in; a piece of a slice of numbers.
-/
namespace Go.Proofs.Ytninppjomdhnmaa.low
open Go.RowKit
set_option linter.unusedVariables false

theorem grown_refl (w : World) (r : Option Nat) : w.grownBy w r := ⟨rfl, rfl, rfl, Nat.le_refl _, fun _ _ _ => rfl⟩
theorem wpList_append_ints {w : World} {ops : Array Oper} {rest : List Oper} {o : Oper} {a : Act} {Q : Exit → Act → World → Prop} (hgd : o.guard = none) (s x : Operand)
    (ho : o.op = .call { callee := .builtin .append, args := #[s, x], argTypes := #[40, 40] })
    (base : Nat) (v : Value) (zs : List Int) (hs : a.eval s = v) (hown : w.ownsRow base 3 1 v zs.length (zs.map (Value.int .i64)))
    (A : Option Addr) (m c : Nat) (ys : List Int) (hx : a.eval x = .slice A m c) (hm : ys.length = m) (hr : Row (Value.int .i64) w w.heap.size A ys)
    (h63 : zs.length + m ≤ 1000000000) (hbase : base ≤ w.heap.size)
    (h : ∀ A' c' w', w'.ownsRow base 3 1 (.slice A' (zs.length + m) c') (zs ++ ys).length ((zs ++ ys).map (Value.int .i64)) → w.grownBy w' v.ownBlock → wpList Try.prog ops Q rest (a.put o.dst (.slice A' (zs.length + m) c')) w') : wpList Try.prog ops Q (o :: rest) a w := by
  obtain ⟨i0, hi0, hz0, hz1, hz2⟩ := info_parts ints_info
  by_cases h0 : 0 < m
  · obtain ⟨ad, rfl, hbk, hcs⟩ := hr (by omega)
    refine wpList_append_lies _ hgd s x 40 ho base 3 i0 (.int .i64 0) 1 8 Try.underlying40 hi0 hz0 hz1 hz2 rfl (by decide) v zs.length (zs.map (Value.int .i64)) hs hown ad m c (ys.map (Value.int .i64)) hx (by simp [hm]) (fun j u hu => ?_) (by simp [Value.oneCell']) h0 (by unfold maxLen; omega) (by omega) hbase w.heap.size rfl ?_
    · rw [List.getElem?_map] at hu
      obtain ⟨z, hz, rfl⟩ := Option.map_eq_some_iff.1 hu
      exact hcs j z hz
    · intro g cap w' hown' hg _ _
      exact h _ cap w' (by simpa [hm] using hown') hg
  · have e0 : ys = [] := List.eq_nil_of_length_eq_zero (by omega)
    subst e0
    obtain rfl : m = 0 := by omega
    refine wpList_append_zero hgd s x 40 ho base 3 i0 1 Try.underlying40 hi0 v zs.length (zs.map (Value.int .i64)) hs hown A c hx ?_
    obtain ⟨Av, cv, rfl⟩ := own_form hown
    exact h Av cv w (by simpa using hown) (grown_refl _ _)
theorem grown_cell {w w' : World} {r : Option Nat} {p : Addr} (h : w.grownBy w' r) (hb : p.block < w.heap.size) (hne : ¬ r = some p.block) : w'.cell? p = w.cell? p := World.cell?_of_block (w := w) (h.block p.block hb (fun e => hne e.symm))
/-- the box of a struct that was just made, behind a growth of an older row -/
theorem box_cell {w w' : World} {base n size : Nat} {v : Value} {e T : TypeId} {xs : List Value} {cs : Array Value} (ho : w.ownsRow base e size v n xs) (h : (w.alloc (.cells cs T)).grownBy w' v.ownBlock) (i : Nat) : w'.cell? ⟨w.heap.size, i, none⟩ = cs[i]? := by
  rw [grown_cell h (by simp) (fun e => by have := own_in ho e; simp at this)]
  exact cell_of_row _ _ i _ _ _ (heap_alloc_new w _)
/-- a piece of a slice of numbers -/
theorem Row.piece {w : World} {B : Nat} {ad : Addr} {zs : List Int} (h : Row (Value.int .i64) w B (some ad) zs) (at_ m : Nat) (hl : at_ + m ≤ zs.length) : Row (Value.int .i64) w B (some (ad.add at_)) ((zs.drop at_).take m) := fun hn => by
  have hlen : ((zs.drop at_).take m).length = m := by rw [List.length_take, List.length_drop]; omega
  obtain ⟨ad', e, hb, hc⟩ := h (by omega)
  injection e with e
  subst e
  refine ⟨_, rfl, by rw [block_of_add]; exact hb, fun k z hz => ?_⟩
  have hk : k < m := by have := idx_lt hz; omega
  rw [List.getElem?_take, if_pos hk, List.getElem?_drop] at hz
  have := hc (at_ + k) z hz
  rwa [show ∀ (p : Addr) (i j : Nat), (p.add i).add j = p.add (i + j) from fun p i j => by
    unfold Addr.add
    by_cases hi : i = 0
    · subst hi; simp
    · by_cases hj : j = 0
      · subst hj; simp [hi]
      · simp [hi, hj, Nat.add_assoc]]
theorem piece_len {zs : List Int} {at_ m : Nat} (hl : at_ + m ≤ zs.length) : ((zs.drop at_).take m).length = m := by rw [List.length_take, List.length_drop]; omega
end Go.Proofs.Ytninppjomdhnmaa.low


/-
  The builder in one word: Bld: at block g it holds what the parts L, added one by one, have made of it.
-/
namespace Go.Proofs.Ytninppjomdhnmaa.low
open Go.RowKit
set_option linter.unusedVariables false

/-- a part of bounded size -/
def szP_ (p : Pt) : Prop := (p.kind = 1 ∨ p.kind = 2 ∨ p.kind = 3) ∧ 0 ≤ p.n ∧ p.n ≤ 200 ∧ p.signs.length ≤ 200
theorem szP_of {p : Pt} (h : okPt p = true) : szP_ p := by
  have := of_okPt h
  unfold szP_
  omega
theorem Fit.stepZ {j m : Nat} {s : List Pt × List Int × Int} {p : Pt} (h : Fit j m s) (hp : szP_ p) : Fit (j + 1) (m + p.signs.length) (stepN s p) := by
  unfold szP_ at hp
  obtain ⟨d1, d2, d3⟩ := h.done
  have h1 := h.len
  have h2 := h.signs
  have h3 := h.d0
  have h4 := h.d1
  have hns := h.ns
  unfold stepN
  split
  · rename_i hk
    have hn : 0 ≤ p.n ∧ p.n ≤ 200 := by omega
    split
    · exact ⟨by omega, by omega, h3, by omega, fun x hx => by have := hns x hx; omega⟩
    · obtain ⟨k1, k2, k3⟩ := keepTo_fit (q := doneN s) hn.1 (M := 200 * (j : Int)) (by omega) d3
      refine ⟨?_, ?_, by simp, by simp; omega, fun x hx => ?_⟩
      · show (keepTo (doneN s) p.n).length ≤ _; omega
      · show signsIn (keepTo (doneN s) p.n) + 0 ≤ _; omega
      · have := k3 x hx; omega
  · split
    · refine ⟨by simp; omega, by simp; omega, h3, by simp; omega, fun x hx => by have := hns x hx; omega⟩
    · refine ⟨by simp; omega, by simp; omega, by simp; omega, by simp; omega, fun x hx => by have := hns x hx; omega⟩
theorem foldN_app (L : List Pt) (p : Pt) : foldN (L ++ [p]) = stepN (foldN L) p := by unfold foldN; simp
theorem foldN_fitZ {L : List Pt} (h : ∀ p ∈ L, szP_ p) : Fit L.length (signsIn L) (foldN L) := by
  have key : ∀ k, k ≤ L.length → Fit k (signsIn (L.take k)) (foldN (L.take k)) := by
    intro k
    induction k with
    | zero => intro _; simpa [foldN, signsIn] using Fit.start
    | succ k ih =>
      intro hk
      obtain ⟨p, hp⟩ := idx_some (l := L) (i := k) (by omega)
      rw [foldN_snoc hp, signsIn_snoc hp]
      exact (ih (by omega)).stepZ (h p (List.mem_of_getElem? hp))
  have := key L.length (Nat.le_refl _)
  rwa [List.take_length] at this
theorem OwnS.mono {S S' : Nat → Prop} {g : Nat} {v : Value} {us : List Value} (h : OwnS S g v us) (hs : ∀ b, S b → S' b) : OwnS S' g v us := ⟨hs _ h.1, fun k hk => hs k (h.2.1 k hk), fun i k x hx hk => hs k (h.2.2 i k x hx hk)⟩
theorem BAtS.mono {S S' : Nat → Prop} {lo g : Nat} {T : TypeId} {w : World} {ps : List Pt} {put : List Int} {d : Int} (h : BAtS S lo g T w ps put d) (hs : ∀ b, S b → S' b) : BAtS S' lo g T w ps put d := by
  obtain ⟨v, u, us, hx, ha, ho⟩ := h
  exact ⟨v, u, us, hx, ha, ho.mono hs⟩
/-- the builder's blocks exist -/
theorem BAtS.shrink {S : Nat → Prop} {lo g : Nat} {T : TypeId} {w : World} {ps : List Pt} {put : List Int} {d : Int} (h : BAtS S lo g T w ps put d) : BAtS (fun b => S b ∧ b < w.heap.size) lo g T w ps put d := by
  obtain ⟨v, u, us, hx, ha, ho⟩ := h
  refine ⟨v, u, us, hx, ha, ⟨ho.1, hx.lt⟩, fun k hk => ⟨ho.2.1 k hk, own_in hx.row hk⟩, fun i k x hxi hk => ⟨ho.2.2 i k x hxi hk, ?_⟩⟩
  obtain ⟨q, hq⟩ := idx_some (l := ps ++ [⟨2, 0, put⟩]) (i := i) (by rw [← ha.1]; exact idx_lt hxi)
  exact own_in (ha.2.1 i q x hq hxi).1 hk
theorem BAtS.keep {S : Nat → Prop} {lo g : Nat} {T : TypeId} {w w' : World} {ps : List Pt} {put : List Int} {d : Int} (h : BAtS S lo g T w ps put d) (hsz : w.heap.size ≤ w'.heap.size) (hk : ∀ b, b < w.heap.size → S b → w'.heap[b]? = w.heap[b]?) : BAtS S lo g T w' ps put d := by
  obtain ⟨v, u, us, hx, ha, ho⟩ := h
  exact ⟨v, u, us, ⟨(hk g hx.lt ho.1).trans hx.box, own_keep hx.row (fun k h1 h2 => hk k h2 (ho.2.1 k h1)), hx.len, hx.low⟩, ha.keep hsz (fun i x k hxi h1 h2 => hk k h2 (ho.2.2 i k x hxi h1)), ho⟩
/-- the builder at block g holds what the parts L have made of it; O: its blocks -/
structure Bld (O : Nat → Prop) (lo g : Nat) (T : TypeId) (w : World) (L : List Pt) : Prop where
  at_ : BAtS O lo g T w (foldN L).1 (foldN L).2.1 (foldN L).2.2
  sz : ∀ p ∈ L, szP_ p
  len : L.length ≤ 100000
  old : ∀ b, O b → b < w.heap.size
/-- blocks outside O are as they were; O' is O and new blocks -/
structure Grew (O O' : Nat → Prop) (w w' : World) : Prop where
  size : w.heap.size ≤ w'.heap.size
  block : ∀ b, b < w.heap.size → ¬ O b → w'.heap[b]? = w.heap[b]?
  more : ∀ b, O' b → O b ∨ w.heap.size ≤ b
def BldP (O : Nat → Prop) (lo g : Nat) (T : TypeId) (L : List Pt) (w : World) (e : Ending) (w' : World) : Prop := e = .returned (.tuple #[]) ∧ ∃ O', Bld O' lo g T w' L ∧ Below lo w w' ∧ Grew O O' w w'
theorem signsIn_le {L : List Pt} (h : ∀ p ∈ L, szP_ p) : signsIn L ≤ 200 * L.length := by
  induction L with
  | nil => simp [signsIn]
  | cons p L ih =>
    have h1 := (h p (by simp)).2.2.2
    have h2 := ih (fun q hq => h q (by simp [hq]))
    have e : signsIn (p :: L) = p.signs.length + signsIn L := by simp [signsIn]
    rw [e, List.length_cons]
    omega
theorem Bld.fit {O : Nat → Prop} {lo g : Nat} {T : TypeId} {w : World} {L : List Pt} (h : Bld O lo g T w L) : Fit L.length (signsIn L) (foldN L) := foldN_fitZ h.sz
theorem Bld.keep {O : Nat → Prop} {lo g : Nat} {T : TypeId} {w w' : World} {L : List Pt} (h : Bld O lo g T w L) (hsz : w.heap.size ≤ w'.heap.size) (hk : ∀ b, b < w.heap.size → O b → w'.heap[b]? = w.heap[b]?) : Bld O lo g T w' L := ⟨h.at_.keep hsz hk, h.sz, h.len, fun b hb => Nat.lt_of_lt_of_le (h.old b hb) hsz⟩
theorem Bld.past {O : Nat → Prop} {lo g : Nat} {T : TypeId} {w w' : World} {L : List Pt} (h : Bld O lo g T w L) (hb : Below w.heap.size w w') : Bld O lo g T w' L := h.keep hb.size (fun b hlt _ => hb.block b hlt)
/-- another builder's growth leaves this one alone -/
theorem Bld.apart {O P P' : Nat → Prop} {lo g : Nat} {T : TypeId} {w w' : World} {L : List Pt} (h : Bld O lo g T w L) (hg : Grew P P' w w') (hd : ∀ b, O b → ¬ P b) : Bld O lo g T w' L ∧ ∀ b, O b → ¬ P' b :=
  ⟨h.keep hg.size (fun b hlt ho => hg.block b hlt (hd b ho)), fun b ho hp => by
    rcases hg.more b hp with h1 | h1
    · exact hd b ho h1
    · have := h.old b ho; omega⟩
theorem Bld.new (lo : Nat) (T : TypeId) (w : World) (h : lo ≤ w.heap.size) : Bld (fun b => b = w.heap.size) lo w.heap.size T (w.alloc (.cells #[.slice none 0 0, .slice none 0 0, .int .i64 0] T)) [] :=
  ⟨show BAtS (fun b => b = w.heap.size) lo w.heap.size T (w.alloc (.cells #[.slice none 0 0, .slice none 0 0, .int .i64 0] T)) [] [] 0 from ⟨.slice none 0 0, .slice none 0 0, [], ⟨heap_alloc_new w _, World.ownsRow_nil _ _ _ _, rfl, h⟩, Apart.bare 2 0 ⟨rfl, fun i p u hp _ => by simp at hp, fun i j k u v hu _ _ _ => by simp at hu⟩, rfl, fun k hk => by simp [Value.ownBlock] at hk, fun i k x hx hk => by
      cases i with
      | zero => simp at hx; subst hx; simp [Value.ownBlock] at hk
      | succ i => simp at hx⟩, fun p hp => by simp at hp, by simp, fun b hb => by
      have hb' : b = w.heap.size := hb
      rw [hb']
      exact lt_of_some (heap_alloc_new w _)⟩
theorem Bld.low {O : Nat → Prop} {lo g : Nat} {T : TypeId} {w : World} {L : List Pt} (h : Bld O lo g T w L) : lo ≤ w.heap.size := by
  obtain ⟨v, u, us, hx, _⟩ := h.at_
  exact Nat.le_trans hx.low (Nat.le_of_lt hx.lt)
/-- what the contracts with frames give, in one word -/
theorem Bld.add {O : Nat → Prop} {lo g : Nat} {T : TypeId} {w w' : World} {L : List Pt} {p : Pt} (h : Bld O lo g T w L) (hl : L.length < 100000) (hp : szP_ p) (hb : Below lo w w') (hf : Fr (fun b => O b ∨ w.heap.size ≤ b) w w') (ha : BAtS (fun b => O b ∨ w.heap.size ≤ b) lo g T w' (stepN (foldN L) p).1 (stepN (foldN L) p).2.1 (stepN (foldN L) p).2.2) : ∃ O', Bld O' lo g T w' (L ++ [p]) ∧ Below lo w w' ∧ Grew O O' w w' :=
  ⟨fun b => (O b ∨ w.heap.size ≤ b) ∧ b < w'.heap.size, ⟨by rw [foldN_app]; exact ha.shrink, fun q hq => by rcases List.mem_append.1 hq with hq | hq; exact h.sz q hq; simp at hq; subst hq; exact hp, by simp; omega, fun b hb => hb.2⟩, hb, hf.size, fun b hlt ho => hf.block b hlt (fun hs => by rcases hs with hs | hs; exact ho hs; omega), fun b hb => hb.1⟩
theorem OwB.grew {O O' : Nat → Prop} {lo hi : Nat} {w w' : World} {d : Dat} {v : Value} {b : List Nat} (h : OwB lo hi w d v b) (hg : Grew O O' w w') (hO : ∀ x, O x → x < lo ∨ hi ≤ x) : OwB lo hi w' d v b :=
  ⟨OwC.keep d v b h.ow (fun x hx => hg.block x (OwC.lt d v b h.ow x hx) (fun ho => by have := h.rng x hx; have := hO x ho; omega)), h.nd, h.rng, Nat.le_trans h.top hg.size, h.le⟩
theorem Grew.out {O O' : Nat → Prop} {lo hi : Nat} {w w' : World} (hg : Grew O O' w w') (hO : ∀ x, O x → x < lo ∨ hi ≤ x) (hh : hi ≤ w.heap.size) : ∀ x, O' x → x < lo ∨ hi ≤ x := fun x hx => by
  rcases hg.more x hx with h | h
  · exact hO x h
  · exact .inr (Nat.le_trans hh h)
/-- it returns the built parts, in blocks of the builder or new ones -/
def DoneP (O : Nat → Prop) (lo : Nat) (L : List Pt) (w : World) (e : Ending) (w' : World) : Prop := ∃ v b, e = .returned v ∧ OwB lo w'.heap.size w' (encPs (doneN (foldN L))) v b ∧ (∀ x ∈ b, O x ∨ w.heap.size ≤ x) ∧ Below lo w w' ∧ Grew O (fun x => x ∈ b) w w'
theorem GoneS.done {O : Nat → Prop} {lo : Nat} {L : List Pt} {w w' : World} {e : Ending} (h : GoneS (fun b => O b ∨ w.heap.size ≤ b) lo (doneN (foldN L)) w e w') : DoneP O lo L w e w' := by
  obtain ⟨v, us, e1, p, b, fr, ho, hl, hv, hu⟩ := h
  have hp := p
  obtain ⟨us', ho', ha', _⟩ := p
  obtain ⟨bs, oc, nd, rng, top, le⟩ := own_parts hp
  have heq : ∀ x ∈ bs, O x ∨ w.heap.size ≤ x := fun x hx => by
    obtain ⟨xs, cs, hox, hor, hb⟩ := oc
    rw [hb] at hx
    rcases List.mem_append.1 hx with hx | hx
    · exact hv x (by simpa using hx)
    · obtain ⟨us2, k1, k2, k3, k4⟩ := owR_parts hor
      rw [k3] at hx
      obtain ⟨i, u, hui, hk⟩ := mem_blks.1 hx
      have e2 : cellsOf (doneN (foldN L)) us2 = cellsOf (doneN (foldN L)) us := by
        rw [← k2]
        rcases ho.2 with ⟨rfl, h0⟩ | ⟨g, cap, cur, rfl, _, hh, _, _, _, ht⟩
        · have : doneN (foldN L) = [] := List.eq_nil_of_length_eq_zero h0
          have l1 := hox.1
          have l2 := ho.1
          rw [this] at l1 l2 ⊢
          simp at l1
          rw [l1]
          rfl
        · rcases hox.2 with ⟨hn, _⟩ | ⟨g', cap', cur', hv', _, hh', _, _, _, ht'⟩
          · cases hn
          · injection hv' with q1 q2 q3
            injection q1 with q1
            injection q1 with q1
            subst q1
            rw [hh] at hh'
            injection hh' with hh'
            injection hh' with hc _ _
            subst hc
            rw [← ht', ← ht]
            simp
      have e3 : us2[i]? = us[i]? := by
        obtain ⟨q, hq⟩ := idx_some (l := doneN (foldN L)) (i := i) (by rw [← k1]; exact idx_lt hui)
        obtain ⟨u2, hu2⟩ := idx_some (l := us) (i := i) (by rw [hl, ← k1]; exact idx_lt hui)
        have a1 := (cellsOf_at _ us2 i q u hq hui).2.2
        have a2 := (cellsOf_at _ us i q u2 hq hu2).2.2
        rw [e2, a2] at a1
        rw [hui, hu2]
        exact a1.symm
      exact hu i x u (by rw [← e3]; exact hui) hk
  exact ⟨v, bs, e1, ⟨oc, nd, rng, top, le⟩, heq, b, fr.size, fun x hlt ho => fr.block x hlt (fun hs => by rcases hs with hs | hs; exact ho hs; omega), heq⟩
end Go.Proofs.Ytninppjomdhnmaa.low


/-
  The normal form as a function on lists: its sums are those of the operation, its parts are tidy and stand in order, it is no longer than the operation, and it is its own normal form.
-/
namespace Go.Proofs.Ytninppjomdhnmaa.low
open Go.RowKit
set_option linter.unusedVariables false

theorem sumOf_app {f : Pt → Int} (a b : List Pt) : sumOf f (a ++ b) = sumOf f a + sumOf f b := by unfold sumOf; simp
theorem sumOf_cons {f : Pt → Int} (p : Pt) (a : List Pt) : sumOf f (p :: a) = f p + sumOf f a := by unfold sumOf; simp
theorem sumOf_nil {f : Pt → Int} : sumOf f [] = 0 := rfl
theorem sum_done (s : List Pt × List Int × Int) (h : 0 ≤ s.2.2) : sumOf keepOf (doneN s) = sumOf keepOf s.1 ∧ sumOf putOf (doneN s) = sumOf putOf s.1 + (s.2.1.length : Int) ∧ sumOf dropOf (doneN s) = sumOf dropOf s.1 + s.2.2 := by
  unfold doneN putL dropL
  split <;> split <;> simp [sumOf_app, sumOf_cons, sumOf_nil, keepOf, putOf, dropOf] <;> omega
theorem sum_keepTo (q : List Pt) (n : Int) : sumOf keepOf (keepTo q n) = sumOf keepOf q + n ∧ sumOf putOf (keepTo q n) = sumOf putOf q ∧ sumOf dropOf (keepTo q n) = sumOf dropOf q := by
  rcases q.eq_nil_or_concat with rfl | ⟨r, p, rfl⟩
  · rw [keepTo_nil]
    simp [sumOf_cons, sumOf_nil, keepOf, putOf, dropOf]
  · rw [List.concat_eq_append]
    by_cases hk : p.kind = 1
    · rw [keepTo_t n hk]
      simp [sumOf_app, sumOf_cons, sumOf_nil, keepOf, putOf, dropOf, hk]
      omega
    · rw [keepTo_f n hk]
      simp [sumOf_app, sumOf_cons, sumOf_nil, keepOf, putOf, dropOf]
      omega
theorem sum_step {s : List Pt × List Int × Int} {p : Pt} (h : 0 ≤ s.2.2) (hp : szP_ p) : 0 ≤ (stepN s p).2.2 ∧ sumOf keepOf (doneN (stepN s p)) = sumOf keepOf (doneN s) + keepOf p ∧ sumOf putOf (doneN (stepN s p)) = sumOf putOf (doneN s) + putOf p ∧ sumOf dropOf (doneN (stepN s p)) = sumOf dropOf (doneN s) + dropOf p := by
  obtain ⟨hk, hn0, hn1, hz⟩ := hp
  rcases hk with e | e | e
  · by_cases h0 : p.n = 0
    · have : stepN s p = s := by unfold stepN; rw [if_pos e, if_pos h0]
      rw [this]
      simp [keepOf, putOf, dropOf, e, h0]
      exact h
    · have : stepN s p = (keepTo (doneN s) p.n, [], 0) := by unfold stepN; rw [if_pos e, if_neg h0]; rfl
      rw [this]
      obtain ⟨a1, a2, a3⟩ := sum_keepTo (doneN s) p.n
      obtain ⟨b1, b2, b3⟩ := sum_done (keepTo (doneN s) p.n, [], 0) (by simp)
      rw [b1, b2, b3]
      simp only [a1, a2, a3]
      simp [keepOf, putOf, dropOf, e]
  · have : stepN s p = (s.1, s.2.1 ++ p.signs, s.2.2) := by unfold stepN; rw [if_neg (by omega), if_pos e]
    rw [this]
    obtain ⟨b1, b2, b3⟩ := sum_done (s.1, s.2.1 ++ p.signs, s.2.2) h
    obtain ⟨c1, c2, c3⟩ := sum_done s h
    rw [b1, b2, b3, c1, c2, c3]
    simp [keepOf, putOf, dropOf, e]
    omega
  · have : stepN s p = (s.1, s.2.1, s.2.2 + p.n) := by unfold stepN; rw [if_neg (by omega), if_neg (by omega)]
    rw [this]
    have h' : 0 ≤ s.2.2 + p.n := by omega
    obtain ⟨b1, b2, b3⟩ := sum_done (s.1, s.2.1, s.2.2 + p.n) h'
    obtain ⟨c1, c2, c3⟩ := sum_done s h
    rw [b1, b2, b3, c1, c2, c3]
    simp [keepOf, putOf, dropOf, e]
    omega
theorem sum_fold : ∀ (L : List Pt) (s : List Pt × List Int × Int), 0 ≤ s.2.2 → (∀ p ∈ L, szP_ p) → 0 ≤ (L.foldl stepN s).2.2 ∧ sumOf keepOf (doneN (L.foldl stepN s)) = sumOf keepOf (doneN s) + sumOf keepOf L ∧ sumOf putOf (doneN (L.foldl stepN s)) = sumOf putOf (doneN s) + sumOf putOf L ∧ sumOf dropOf (doneN (L.foldl stepN s)) = sumOf dropOf (doneN s) + sumOf dropOf L
  | [], s, h, _ => by simp [sumOf_nil]; exact h
  | p :: L, s, h, hp => by
    obtain ⟨a0, a1, a2, a3⟩ := sum_step h (hp p (by simp))
    obtain ⟨b0, b1, b2, b3⟩ := sum_fold L (stepN s p) a0 (fun q hq => hp q (by simp [hq]))
    rw [List.foldl_cons, b1, b2, b3, a1, a2, a3, sumOf_cons, sumOf_cons, sumOf_cons]
    exact ⟨b0, by omega, by omega, by omega⟩
/-- the sums of the normal form -/
theorem sum_norm {L : List Pt} (h : ∀ p ∈ L, szP_ p) : sumOf keepOf (doneN (foldN L)) = sumOf keepOf L ∧ sumOf putOf (doneN (foldN L)) = sumOf putOf L ∧ sumOf dropOf (doneN (foldN L)) = sumOf dropOf L := by
  obtain ⟨_, h1, h2, h3⟩ := sum_fold L ([], [], 0) (by simp) h
  have e : doneN ([], [], 0) = [] := by simp [doneN, putL, dropL]
  rw [e] at h1 h2 h3
  simp only [sumOf_nil, Int.zero_add] at h1 h2 h3
  exact ⟨h1, h2, h3⟩

/-- a part with an effect, in its proper form -/
def tidy (p : Pt) : Prop := (p.kind = 1 ∧ 0 < p.n ∧ p.signs = []) ∨ (p.kind = 2 ∧ p.n = 0 ∧ 0 < p.signs.length) ∨ (p.kind = 3 ∧ 0 < p.n ∧ p.signs = [])
/-- which part may follow which -/
def nextOk (p q : Pt) : Prop := (p.kind = 1 → q.kind = 2 ∨ q.kind = 3) ∧ (p.kind = 2 → q.kind = 1 ∨ q.kind = 3) ∧ (p.kind = 3 → q.kind = 1)
/-- the parts stand in order -/
def inOrder : List Pt → Prop
  | [] => True
  | [_] => True
  | p :: q :: r => nextOk p q ∧ inOrder (q :: r)
/-- a normal operation -/
def normal (L : List Pt) : Prop := (∀ p ∈ L, tidy p) ∧ inOrder L
theorem inOrder_app : ∀ (a : List Pt) (p q : Pt) (b : List Pt), inOrder (a ++ [p]) → nextOk p q → inOrder (q :: b) → inOrder (a ++ p :: q :: b)
  | [], p, q, b, _, h2, h3 => ⟨h2, h3⟩
  | [x], p, q, b, h1, h2, h3 => ⟨h1.1, h2, h3⟩
  | x :: y :: a, p, q, b, h1, h2, h3 => ⟨h1.1, inOrder_app (y :: a) p q b h1.2 h2 h3⟩
theorem inOrder_init : ∀ (a b : List Pt), inOrder (a ++ b) → inOrder a
  | [], _, _ => trivial
  | [_], _, _ => trivial
  | x :: y :: a, b, h => ⟨h.1, inOrder_init (y :: a) b h.2⟩
/-- the last part's kind, 0 if there is none -/
def lastK (L : List Pt) : Int := match L.getLast? with | some p => p.kind | none => 0
theorem lastK_app (a : List Pt) (p : Pt) : lastK (a ++ [p]) = p.kind := by simp [lastK]
theorem normal_snoc {L : List Pt} {q : Pt} (h : normal L) (hq : tidy q) (hl : ∀ p, L.getLast? = some p → nextOk p q) : normal (L ++ [q]) := by
  refine ⟨fun p hp => ?_, ?_⟩
  · rcases List.mem_append.1 hp with hp | hp
    · exact h.1 p hp
    · simp at hp; subst hp; exact hq
  · rcases L.eq_nil_or_concat with rfl | ⟨a, p, rfl⟩
    · trivial
    · rw [List.concat_eq_append] at *
      have := inOrder_app a p q [] h.2 (hl p (by simp)) trivial
      simpa using this
/-- a builder's state: what is flushed ends with a retaining part -/
def okS_ (s : List Pt × List Int × Int) : Prop := normal s.1 ∧ (s.1 = [] ∨ lastK s.1 = 1) ∧ 0 ≤ s.2.2
theorem getLast_kind {L : List Pt} {p : Pt} (h : L = [] ∨ lastK L = 1) (hp : L.getLast? = some p) : p.kind = 1 := by
  rcases h with rfl | h
  · simp at hp
  · unfold lastK at h
    rw [hp] at h
    exact h
theorem normal_done {s : List Pt × List Int × Int} (h : okS_ s) : normal (doneN s) := by
  obtain ⟨h1, h2, h3⟩ := h
  unfold doneN putL dropL
  by_cases hp : s.2.1.length = 0
  · rw [if_pos hp, List.append_nil]
    by_cases hd : 0 < s.2.2
    · rw [if_pos hd]
      refine normal_snoc h1 (.inr (.inr ⟨rfl, hd, rfl⟩)) (fun p hp' => ?_)
      have := getLast_kind h2 hp'
      exact ⟨fun _ => .inr rfl, fun e => by omega, fun e => by omega⟩
    · rw [if_neg hd, List.append_nil]
      exact h1
  · rw [if_neg hp]
    have hn : normal (s.1 ++ [⟨2, 0, s.2.1⟩]) := normal_snoc h1 (.inr (.inl ⟨rfl, rfl, by simp; omega⟩)) (fun p hp' => by
      have := getLast_kind h2 hp'
      exact ⟨fun _ => .inl rfl, fun e => by omega, fun e => by omega⟩)
    by_cases hd : 0 < s.2.2
    · rw [if_pos hd]
      refine normal_snoc hn (.inr (.inr ⟨rfl, hd, rfl⟩)) (fun p hp' => ?_)
      simp at hp'
      subst hp'
      exact ⟨fun e => by simp at e, fun _ => .inr rfl, fun e => by simp at e⟩
    · rw [if_neg hd, List.append_nil]
      exact hn
theorem normal_keepTo {q : List Pt} {n : Int} (h : normal q) (hn : 0 < n) : normal (keepTo q n) ∧ lastK (keepTo q n) = 1 := by
  rcases q.eq_nil_or_concat with rfl | ⟨r, p, rfl⟩
  · rw [keepTo_nil]
    exact ⟨⟨fun p hp => by simp at hp; subst hp; exact .inl ⟨rfl, hn, rfl⟩, trivial⟩, rfl⟩
  · rw [List.concat_eq_append] at *
    by_cases hk : p.kind = 1
    · rw [keepTo_t n hk]
      have hp := h.1 p (by simp)
      refine ⟨⟨fun x hx => ?_, ?_⟩, by rw [lastK_app]; exact hk⟩
      · rcases List.mem_append.1 hx with hx | hx
        · exact h.1 x (by simp [hx])
        · simp at hx
          subst hx
          unfold tidy at *
          simp only
          rcases hp with ⟨a, b, c⟩ | ⟨a, b, c⟩ | ⟨a, b, c⟩
          · exact .inl ⟨a, by omega, c⟩
          · omega
          · omega
      · rcases r.eq_nil_or_concat with rfl | ⟨a, x, rfl⟩
        · trivial
        · rw [List.concat_eq_append] at *
          have h2 : inOrder (a ++ x :: p :: []) := by simpa using h.2
          have hx : nextOk x p := by
            clear hp hk h
            induction a with
            | nil => exact h2.1
            | cons y a ih =>
              cases a with
              | nil => exact h2.2.1
              | cons z a => exact ih h2.2
          have := inOrder_app a x ⟨p.kind, p.n + n, p.signs⟩ [] (inOrder_init (a ++ [x]) [p] (by simpa using h2)) hx trivial
          simpa using this
    · rw [keepTo_f n hk]
      refine ⟨normal_snoc h (.inl ⟨rfl, hn, rfl⟩) (fun x hx => ?_), by rw [lastK_app]⟩
      simp at hx
      subst hx
      exact ⟨fun e => absurd e hk, fun _ => .inl rfl, fun _ => rfl⟩
theorem okS_step {s : List Pt × List Int × Int} {p : Pt} (h : okS_ s) (hp : szP_ p) : okS_ (stepN s p) := by
  obtain ⟨hk, hn0, hn1, hz⟩ := hp
  rcases hk with e | e | e
  · by_cases h0 : p.n = 0
    · have : stepN s p = s := by unfold stepN; rw [if_pos e, if_pos h0]
      rw [this]; exact h
    · have : stepN s p = (keepTo (doneN s) p.n, [], 0) := by unfold stepN; rw [if_pos e, if_neg h0]; rfl
      rw [this]
      obtain ⟨a, b⟩ := normal_keepTo (normal_done h) (show 0 < p.n by omega)
      exact ⟨a, .inr b, by simp⟩
  · have : stepN s p = (s.1, s.2.1 ++ p.signs, s.2.2) := by unfold stepN; rw [if_neg (by omega), if_pos e]
    rw [this]; exact h
  · have : stepN s p = (s.1, s.2.1, s.2.2 + p.n) := by unfold stepN; rw [if_neg (by omega), if_neg (by omega)]
    rw [this]; exact ⟨h.1, h.2.1, by have := h.2.2; simp only; omega⟩
theorem okS_fold : ∀ (L : List Pt) (s : List Pt × List Int × Int), okS_ s → (∀ p ∈ L, szP_ p) → okS_ (L.foldl stepN s)
  | [], s, h, _ => h
  | p :: L, s, h, hp => okS_fold L (stepN s p) (okS_step h (hp p (by simp))) (fun q hq => hp q (by simp [hq]))
/-- the normal form is normal -/
theorem normal_fold {L : List Pt} (h : ∀ p ∈ L, szP_ p) : normal (doneN (foldN L)) := normal_done (okS_fold L ([], [], 0) ⟨⟨fun p hp => by simp at hp, trivial⟩, .inl rfl, by simp⟩ h)

theorem inOrder_mid : ∀ (a : List Pt) (p q : Pt) (b : List Pt), inOrder (a ++ p :: q :: b) → nextOk p q
  | [], p, q, b, h => h.1
  | [x], p, q, b, h => h.2.1
  | x :: y :: a, p, q, b, h => inOrder_mid (y :: a) p q b h.2
theorem last_done {s : List Pt × List Int × Int} : (0 < s.2.2 → ∃ a p, doneN s = a ++ [p] ∧ p.kind = 3) ∧ (¬ 0 < s.2.2 → ¬ s.2.1.length = 0 → ∃ a p, doneN s = a ++ [p] ∧ p.kind = 2) := by
  refine ⟨fun h => ⟨s.1 ++ putL s.2.1, ⟨3, s.2.2, []⟩, by simp [doneN, dropL, h], rfl⟩, fun h h' => ⟨s.1, ⟨2, 0, s.2.1⟩, by simp [doneN, dropL, putL, h, h'], rfl⟩⟩
/-- a normal list is built as it stands -/
theorem fold_normal : ∀ (L : List Pt) (s : List Pt × List Int × Int), 0 ≤ s.2.2 → (∀ p ∈ L, tidy p) → inOrder (doneN s ++ L) → doneN (L.foldl stepN s) = doneN s ++ L
  | [], s, _, _, _ => by simp
  | p :: L, s, h0, ht, ho => by
    have hp := ht p (by simp)
    have key : doneN (stepN s p) = doneN s ++ [p] ∧ 0 ≤ (stepN s p).2.2 := by
      have hlast : ∀ a q, doneN s = a ++ [q] → nextOk q p := fun a q e => by
        rw [e] at ho
        exact inOrder_mid a q p L (by simpa using ho)
      rcases hp with ⟨e, hn, hz⟩ | ⟨e, hn, hz⟩ | ⟨e, hn, hz⟩
      · have hs : stepN s p = (keepTo (doneN s) p.n, [], 0) := by unfold stepN; rw [if_pos e, if_neg (by omega)]; rfl
        rw [hs]
        refine ⟨?_, by simp⟩
        have hd : doneN (keepTo (doneN s) p.n, [], 0) = keepTo (doneN s) p.n := by simp [doneN, putL, dropL]
        have hpp : p = ⟨1, p.n, []⟩ := by obtain ⟨a, b, c⟩ := p; simp only at e hz; rw [e, hz]
        rw [hd]
        rcases (doneN s).eq_nil_or_concat with e0 | ⟨a, q, e0⟩
        · rw [e0, keepTo_nil, List.nil_append, ← hpp]
        · rw [List.concat_eq_append] at e0
          have := hlast a q e0
          have hq : ¬ q.kind = 1 := fun h1 => by have := this.1 h1; omega
          rw [e0, keepTo_f _ hq, ← hpp]
      · have hs : stepN s p = (s.1, s.2.1 ++ p.signs, s.2.2) := by unfold stepN; rw [if_neg (by omega), if_pos e]
        rw [hs]
        have hd0 : ¬ 0 < s.2.2 := fun h1 => by
          obtain ⟨a, q, e1, e2⟩ := last_done.1 h1
          have := (hlast a q e1).2.2 e2
          omega
        have hp0 : s.2.1.length = 0 := by
          rcases Nat.eq_zero_or_pos s.2.1.length with h1 | h1
          · exact h1
          · obtain ⟨a, q, e1, e2⟩ := last_done.2 hd0 (by omega)
            have := (hlast a q e1).2.1 e2
            omega
        refine ⟨?_, h0⟩
        have he : s.2.1 = [] := List.eq_nil_of_length_eq_zero hp0
        have hpp : p = ⟨2, 0, p.signs⟩ := by obtain ⟨a, b, c⟩ := p; simp only at e hn; rw [e, hn]
        unfold doneN putL dropL
        simp only [he, List.nil_append, List.length_nil, if_true, if_neg hd0, if_neg (show ¬ p.signs.length = 0 by omega), List.append_nil]
        rw [← hpp]
      · have hs : stepN s p = (s.1, s.2.1, s.2.2 + p.n) := by unfold stepN; rw [if_neg (by omega), if_neg (by omega)]
        rw [hs]
        have hd0 : ¬ 0 < s.2.2 := fun h1 => by
          obtain ⟨a, q, e1, e2⟩ := last_done.1 h1
          have := (hlast a q e1).2.2 e2
          omega
        refine ⟨?_, by simp only; omega⟩
        have hpp : p = ⟨3, p.n, []⟩ := by obtain ⟨a, b, c⟩ := p; simp only at e hz; rw [e, hz]
        have e0 : s.2.2 = 0 := by omega
        unfold doneN dropL
        simp only [e0, Int.zero_add, if_pos hn]
        simp only [show ¬ (0 : Int) < 0 by omega, if_false, List.append_nil]
        rw [← hpp]
    rw [List.foldl_cons, fold_normal L (stepN s p) key.2 (fun q hq => ht q (by simp [hq])) (by rw [key.1]; simpa using ho), key.1]
    simp
theorem norm_self {L : List Pt} (h : normal L) : doneN (foldN L) = L := by
  have e : doneN ([], [], 0) = [] := by simp [doneN, putL, dropL]
  have := fold_normal L ([], [], 0) (by simp) h.1 (by rw [e]; exact h.2)
  rw [e] at this
  exact this
theorem len_step (s : List Pt × List Int × Int) (p : Pt) (h0 : 0 ≤ s.2.2) : (doneN (stepN s p)).length ≤ (doneN s).length + 1 := by
  unfold stepN
  split
  · split
    · omega
    · have e : doneN (keepTo (s.1 ++ putL s.2.1 ++ dropL s.2.2) p.n, [], 0) = keepTo (doneN s) p.n := by simp [doneN, putL, dropL]
      rw [e]
      rcases (doneN s).eq_nil_or_concat with e0 | ⟨a, q, e0⟩
      · rw [e0, keepTo_nil]; simp
      · rw [List.concat_eq_append] at e0
        rw [e0]
        by_cases hk : q.kind = 1
        · rw [keepTo_t _ hk]; simp
        · rw [keepTo_f _ hk]; simp
  · split
    · unfold doneN
      have a1 : (putL (s.2.1 ++ p.signs)).length ≤ (putL s.2.1).length + 1 := by have := (putL_len (s.2.1 ++ p.signs)).1; omega
      simp only [List.length_append]
      omega
    · unfold doneN
      have a1 : (dropL (s.2.2 + p.n)).length ≤ (dropL s.2.2).length + 1 := by have := (dropL_len (s.2.2 + p.n)).1; omega
      simp only [List.length_append]
      omega
theorem len_fold : ∀ (L : List Pt) (s : List Pt × List Int × Int), 0 ≤ s.2.2 → (∀ p ∈ L, szP_ p) → (doneN (L.foldl stepN s)).length ≤ (doneN s).length + L.length
  | [], s, _, _ => by simp
  | p :: L, s, h, hp => by
    have a := len_step s p h
    have b := len_fold L (stepN s p) (sum_step h (hp p (by simp))).1 (fun q hq => hp q (by simp [hq]))
    rw [List.foldl_cons, List.length_cons]
    omega
theorem norm_length {L : List Pt} (h : ∀ p ∈ L, szP_ p) : (doneN (foldN L)).length ≤ L.length := by
  have e : doneN ([], [], 0) = [] := by simp [doneN, putL, dropL]
  have := len_fold L ([], [], 0) (by simp) h
  rw [e, List.length_nil, Nat.zero_add] at this
  exact this
theorem allB_app (a b : List Int) : allB (a ++ b) = (allB a && allB b) := by simp [allB]
def okA (s : List Pt × List Int × Int) : Prop := (∀ p ∈ s.1, allB p.signs = true) ∧ allB s.2.1 = true
theorem okA_done {s : List Pt × List Int × Int} (h : okA s) : ∀ p ∈ doneN s, allB p.signs = true := fun p hp => by
  unfold doneN putL dropL at hp
  rcases List.mem_append.1 hp with hp | hp
  · rcases List.mem_append.1 hp with hp | hp
    · exact h.1 p hp
    · split at hp
      · simp at hp
      · simp at hp; subst hp; exact h.2
  · split at hp
    · simp at hp; subst hp; rfl
    · simp at hp
theorem okA_step {s : List Pt × List Int × Int} {p : Pt} (h : okA s) (hp : allB p.signs = true) : okA (stepN s p) := by
  unfold stepN
  split
  · split
    · exact h
    · have hd := okA_done h
      refine ⟨?_, rfl⟩
      change ∀ q ∈ keepTo (doneN s) p.n, _
      rcases (doneN s).eq_nil_or_concat with e0 | ⟨a, q, e0⟩
      · rw [e0, keepTo_nil]; intro x hx; simp at hx; subst hx; rfl
      · rw [List.concat_eq_append] at e0
        rw [e0] at hd ⊢
        intro x hx
        by_cases hk : q.kind = 1
        · rw [keepTo_t _ hk] at hx
          rcases List.mem_append.1 hx with hx | hx
          · exact hd x (by simp [hx])
          · simp at hx; subst hx; exact hd q (by simp)
        · rw [keepTo_f _ hk] at hx
          rcases List.mem_append.1 hx with hx | hx
          · exact hd x hx
          · simp at hx; subst hx; rfl
  · split
    · exact ⟨h.1, by simp only; rw [allB_app, h.2, hp]; rfl⟩
    · exact h
theorem okA_fold : ∀ (L : List Pt) (s : List Pt × List Int × Int), okA s → (∀ p ∈ L, allB p.signs = true) → okA (L.foldl stepN s)
  | [], s, h, _ => h
  | p :: L, s, h, hp => okA_fold L (stepN s p) (okA_step h (hp p (by simp))) (fun q hq => hp q (by simp [hq]))
theorem norm_allB {L : List Pt} (h : ∀ p ∈ L, allB p.signs = true) : ∀ p ∈ doneN (foldN L), allB p.signs = true := okA_done (okA_fold L ([], [], 0) ⟨fun p hp => by simp at hp, rfl⟩ h)

theorem sumOf_mem {f : Pt → Int} : ∀ {L : List Pt} {p : Pt}, (∀ q ∈ L, 0 ≤ f q) → p ∈ L → f p ≤ sumOf f L
  | [], _, _, h => by simp at h
  | q :: L, p, h0, h => by
    rw [sumOf_cons]
    have hs : 0 ≤ sumOf f L := by
      have hL : ∀ q ∈ L, 0 ≤ f q := fun q hq => h0 q (by simp [hq])
      clear h h0
      induction L with
      | nil => simp [sumOf_nil]
      | cons x L ih => rw [sumOf_cons]; have := hL x (by simp); have := ih (fun q hq => hL q (by simp [hq])); omega
    rcases List.mem_cons.1 h with rfl | h
    · omega
    · have := sumOf_mem (f := f) (fun q hq => h0 q (by simp [hq])) h
      have := h0 q (by simp)
      omega
theorem tidy_nonneg {p : Pt} (h : tidy p) : 0 ≤ keepOf p ∧ 0 ≤ putOf p ∧ 0 ≤ dropOf p := by
  unfold keepOf putOf dropOf
  rcases h with ⟨a, b, c⟩ | ⟨a, b, c⟩ | ⟨a, b, c⟩ <;> simp [a] <;> omega
/-- tidy parts whose sums are bounded are valid -/
theorem tidy_ok {L : List Pt} (ht : ∀ p ∈ L, tidy p) (ha : ∀ p ∈ L, allB p.signs = true) (h1 : sumOf keepOf L ≤ 200) (h2 : sumOf putOf L ≤ 200) (h3 : sumOf dropOf L ≤ 200) : okPs L = true := by
  unfold okPs
  rw [List.all_eq_true]
  intro p hp
  have k1 := sumOf_mem (f := keepOf) (fun q hq => (tidy_nonneg (ht q hq)).1) hp
  have k2 := sumOf_mem (f := putOf) (fun q hq => (tidy_nonneg (ht q hq)).2.1) hp
  have k3 := sumOf_mem (f := dropOf) (fun q hq => (tidy_nonneg (ht q hq)).2.2) hp
  have k1 := Int.le_trans k1 h1
  have k2 := Int.le_trans k2 h2
  have k3 := Int.le_trans k3 h3
  unfold keepOf at k1
  unfold putOf at k2
  unfold dropOf at k3
  apply okPt_t
  rcases ht p hp with ⟨a, b, c⟩ | ⟨a, b, c⟩ | ⟨a, b, c⟩
  · rw [if_pos a] at k1
    exact .inl ⟨.inl a, ⟨by omega, by omega⟩, by rw [c]; rfl⟩
  · rw [if_pos a] at k2
    exact .inr ⟨a, b, ha p hp, by omega⟩
  · rw [if_pos a] at k3
    exact .inl ⟨.inr a, ⟨by omega, by omega⟩, by rw [c]; rfl⟩
/-- a valid operation: its parts and sums -/
theorem okOp_of {ps : List Pt} (h : okOp ps = true) : okPs ps = true ∧ ps.length ≤ 600 ∧ sumOf keepOf ps + sumOf dropOf ps ≤ 200 ∧ sumOf keepOf ps + sumOf putOf ps ≤ 200 ∧ 0 ≤ sumOf keepOf ps ∧ 0 ≤ sumOf putOf ps ∧ 0 ≤ sumOf dropOf ps := by
  unfold okOp at h
  rw [Bool.and_eq_true, Bool.and_eq_true] at h
  obtain ⟨⟨h4, h5⟩, h6⟩ := h
  have h7 := partsB_of h4
  obtain ⟨t1, t2, t3⟩ := sum_t h4
  have h5 := of_decide_eq_true h5
  have h6 := of_decide_eq_true h6
  rw [t1, t3] at h5
  rw [t1, t2] at h6
  have := sums_bd h7.1 h7.2
  exact ⟨h7.1, h7.2, h5, h6, this.1.1, this.2.1.1, this.2.2.1⟩
theorem of_okOp {ps : List Pt} (h1 : okPs ps = true) (h2 : ps.length ≤ 600) (h3 : sumOf keepOf ps + sumOf dropOf ps ≤ 200) (h4 : sumOf keepOf ps + sumOf putOf ps ≤ 200) : okOp ps = true := by
  have hb : partsB ps = true := by unfold partsB; rw [h1, decide_eq_true h2]; rfl
  obtain ⟨t1, t2, t3⟩ := sum_t hb
  unfold okOp
  rw [hb, t1, t2, t3, decide_eq_true h3, decide_eq_true h4]
  rfl
theorem okPs_sz {ps : List Pt} (h : okPs ps = true) : ∀ p ∈ ps, szP_ p := fun p hp => szP_of (by unfold okPs at h; exact List.all_eq_true.1 h p hp)
theorem okPs_allB {ps : List Pt} (h : okPs ps = true) : ∀ p ∈ ps, allB p.signs = true := fun p hp => by
  have := of_okPt (show okPt p = true by unfold okPs at h; exact List.all_eq_true.1 h p hp)
  rcases this with ⟨_, _, hz⟩ | ⟨_, _, ha, _⟩
  · rw [List.eq_nil_of_length_eq_zero hz]; rfl
  · exact ha
/-- the normal form of a valid operation: valid, normal, of the same sums, its own normal form -/
theorem norm_ok {ps : List Pt} (h : okOp ps = true) : okOp (normL ps) = true ∧ normal (normL ps) ∧ sumOf keepOf (normL ps) = sumOf keepOf ps ∧ sumOf putOf (normL ps) = sumOf putOf ps ∧ sumOf dropOf (normL ps) = sumOf dropOf ps := by
  obtain ⟨h1, h2, h3, h4, h5, h6, h7⟩ := okOp_of h
  have e : normL ps = doneN (foldN ps) := by unfold normL; rw [if_pos h]
  obtain ⟨s1, s2, s3⟩ := sum_norm (okPs_sz h1)
  have hn := normal_fold (okPs_sz h1)
  have hl := norm_length (okPs_sz h1)
  have ha := norm_allB (okPs_allB h1)
  rw [e]
  refine ⟨of_okOp (tidy_ok hn.1 ha (by omega) (by omega) (by omega)) (by omega) (by omega) (by omega), hn, s1, s2, s3⟩
theorem norm_norm {ps : List Pt} : normL (normL ps) = normL ps := by
  by_cases h : okOp ps = true
  · obtain ⟨h1, h2, _⟩ := norm_ok h
    have e : ∀ qs, okOp qs = true → normL qs = doneN (foldN qs) := fun qs hq => by unfold normL; rw [if_pos hq]
    rw [e (normL ps) h1, norm_self h2]
  · have e : normL ps = [] := by unfold normL; rw [if_neg h]
    rw [e]
    unfold normL
    split
    · simp [foldN, doneN, putL, dropL]
    · rfl
theorem norm_normal {L : List Pt} (h : normal L) (ho : okOp L = true) : normL L = L := by unfold normL; rw [if_pos ho, norm_self h]
end Go.Proofs.Ytninppjomdhnmaa.low


/-
  An operation as a list of unit actions: retain one character, insert one, delete one. The normal form is a function of that list; what applying, composing and transforming do to it.
-/
namespace Go.Proofs.Ytninppjomdhnmaa.low
open Go.RowKit
set_option linter.unusedVariables false

inductive U where
  | k
  | p (x : Int)
  | d
def unitsP (p : Pt) : List U := if p.kind = 1 then List.replicate p.n.toNat .k else if p.kind = 2 then p.signs.map .p else List.replicate p.n.toNat .d
def units (L : List Pt) : List U := L.flatMap unitsP
theorem units_nil : units [] = [] := rfl
theorem units_cons (p : Pt) (L : List Pt) : units (p :: L) = unitsP p ++ units L := by simp [units]
theorem units_app (a b : List Pt) : units (a ++ b) = units a ++ units b := by simp [units]
def stepU (s : List Pt × List Int × Int) : U → List Pt × List Int × Int
  | .k => (keepTo (doneN s) 1, [], 0)
  | .p x => (s.1, s.2.1 ++ [x], s.2.2)
  | .d => (s.1, s.2.1, s.2.2 + 1)
def foldU (us : List U) : List Pt × List Int × Int := us.foldl stepU ([], [], 0)
theorem done_plain (q : List Pt) : doneN (q, [], 0) = q := by simp [doneN, putL, dropL]
theorem keepTo_keepTo (q : List Pt) (m n : Int) : keepTo (keepTo q m) n = keepTo q (m + n) := by
  rcases q.eq_nil_or_concat with rfl | ⟨r, p, rfl⟩
  · rw [keepTo_nil, keepTo_nil]
    have := keepTo_t (r := []) (p := ⟨1, m, []⟩) n rfl
    simpa using this
  · rw [List.concat_eq_append]
    by_cases hk : p.kind = 1
    · rw [keepTo_t m hk, keepTo_t (m + n) hk, keepTo_t (p := ⟨p.kind, p.n + m, p.signs⟩) n hk]
      simp only [Int.add_assoc]
    · rw [keepTo_f m hk, keepTo_f (m + n) hk]
      have := keepTo_t (r := r ++ [p]) (p := ⟨1, m, []⟩) n rfl
      simpa using this
theorem fold_k : ∀ (m : Nat) (q : List Pt), (List.replicate m U.k).foldl stepU (q, [], 0) = if m = 0 then (q, [], 0) else (keepTo q (m : Int), [], 0)
  | 0, q => by simp
  | m + 1, q => by
    rw [List.replicate_succ, List.foldl_cons]
    show (List.replicate m U.k).foldl stepU (keepTo (doneN (q, [], 0)) 1, [], 0) = _
    rw [done_plain, fold_k m (keepTo q 1)]
    by_cases h : m = 0
    · subst h; simp
    · rw [if_neg h, if_neg (by omega), keepTo_keepTo]
      congr 2
      omega
theorem fold_p : ∀ (zs : List Int) (s : List Pt × List Int × Int), (zs.map U.p).foldl stepU s = (s.1, s.2.1 ++ zs, s.2.2)
  | [], s => by simp
  | z :: zs, s => by
    rw [List.map_cons, List.foldl_cons, fold_p zs]
    simp [stepU]
theorem fold_d : ∀ (m : Nat) (s : List Pt × List Int × Int), (List.replicate m U.d).foldl stepU s = (s.1, s.2.1, s.2.2 + (m : Int))
  | 0, s => by simp
  | m + 1, s => by
    rw [List.replicate_succ, List.foldl_cons, fold_d m]
    simp [stepU]
    omega
/-- a part is built as its units are -/
theorem stepN_units (s : List Pt × List Int × Int) {p : Pt} (hp : szP_ p) : stepN s p = (unitsP p).foldl stepU s := by
  obtain ⟨hk, h0, h1, _⟩ := hp
  obtain ⟨m, hm⟩ := Int.eq_ofNat_of_zero_le h0
  rcases hk with e | e | e
  · unfold stepN unitsP
    rw [if_pos e, if_pos e, hm]
    cases m with
    | zero => simp
    | succ m =>
      rw [if_neg (by omega), show ((m + 1 : Nat) : Int).toNat = m + 1 from rfl, List.replicate_succ, List.foldl_cons]
      show _ = (List.replicate m U.k).foldl stepU (keepTo (doneN s) 1, [], 0)
      rw [fold_k]
      by_cases h : m = 0
      · subst h; simp [doneN]
      · rw [if_neg h, keepTo_keepTo]
        have : (1 : Int) + (m : Int) = ((m + 1 : Nat) : Int) := by omega
        rw [this]
        rfl
  · unfold stepN unitsP
    rw [if_neg (by omega), if_pos e, if_neg (by omega), if_pos e, fold_p]
  · unfold stepN unitsP
    rw [if_neg (by omega), if_neg (by omega), if_neg (by omega), if_neg (by omega), fold_d, hm]
    rfl
theorem foldN_units {L : List Pt} (h : ∀ p ∈ L, szP_ p) : foldN L = foldU (units L) := by
  unfold foldN foldU
  generalize (([], [], 0) : List Pt × List Int × Int) = s
  induction L generalizing s with
  | nil => rfl
  | cons p L ih =>
    rw [List.foldl_cons, units_cons, List.foldl_append, ← stepN_units s (h p (by simp))]
    exact ih (fun q hq => h q (by simp [hq])) _
/-- the normal form is a function of the units -/
theorem norm_of_units {L L' : List Pt} (h : ∀ p ∈ L, szP_ p) (h' : ∀ p ∈ L', szP_ p) (e : units L = units L') : doneN (foldN L) = doneN (foldN L') := by rw [foldN_units h, foldN_units h', e]

/-- the units in the normal form's order: within a run of insertions and deletions the insertions first -/
def nfGo : List U → List Int → Nat → List U
  | [], ps, n => ps.map U.p ++ List.replicate n U.d
  | .k :: us, ps, n => ps.map U.p ++ (List.replicate n U.d ++ U.k :: nfGo us [] 0)
  | .p x :: us, ps, n => nfGo us (ps ++ [x]) n
  | .d :: us, ps, n => nfGo us ps (n + 1)
def nfU (us : List U) : List U := nfGo us [] 0
theorem unitsP_k (n : Nat) : unitsP ⟨1, (n : Int), []⟩ = List.replicate n .k := rfl
theorem units_putL (zs : List Int) : units (putL zs) = zs.map U.p := by
  unfold putL
  split
  · rename_i h
    rw [List.eq_nil_of_length_eq_zero h]
    rfl
  · simp [units, unitsP]
theorem units_dropL (n : Nat) : units (dropL (n : Int)) = List.replicate n U.d := by
  unfold dropL
  split
  · simp [units, unitsP]
  · rename_i h
    have : n = 0 := by omega
    subst this
    rfl
theorem units_keepTo (q : List Pt) (hq : ∀ p ∈ q, 0 ≤ p.n) : units (keepTo q 1) = units q ++ [U.k] := by
  rcases q.eq_nil_or_concat with rfl | ⟨r, p, rfl⟩
  · rw [keepTo_nil]; rfl
  · rw [List.concat_eq_append] at *
    by_cases hk : p.kind = 1
    · rw [keepTo_t 1 hk, units_app, units_app, units_cons, units_cons, units_nil, List.append_nil, List.append_nil, List.append_assoc]
      congr 1
      unfold unitsP
      simp only [hk, if_true]
      have := hq p (by simp)
      rw [show (p.n + 1).toNat = p.n.toNat + 1 by omega, List.replicate_succ']
    · rw [keepTo_f 1 hk, units_app, units_cons, units_nil]
      rfl
theorem units_done (q : List Pt) (ps : List Int) (n : Nat) : units (doneN (q, ps, (n : Int))) = units q ++ (ps.map U.p ++ List.replicate n U.d) := by
  unfold doneN
  rw [units_app, units_app, units_putL, units_dropL, List.append_assoc]
theorem done_nonneg {q : List Pt} (ps : List Int) (n : Nat) (hq : ∀ p ∈ q, 0 ≤ p.n) : ∀ p ∈ doneN (q, ps, (n : Int)), 0 ≤ p.n := fun p hp => by
  unfold doneN putL dropL at hp
  rcases List.mem_append.1 hp with hp | hp
  · rcases List.mem_append.1 hp with hp | hp
    · exact hq p hp
    · split at hp
      · simp at hp
      · simp at hp; subst hp; simp
  · split at hp
    · simp at hp; subst hp; simp
    · simp at hp
theorem keepTo_nonneg {q : List Pt} (hq : ∀ p ∈ q, 0 ≤ p.n) : ∀ p ∈ keepTo q 1, 0 ≤ p.n := fun x hx => by
  rcases q.eq_nil_or_concat with rfl | ⟨r, p, rfl⟩
  · rw [keepTo_nil] at hx; simp at hx; subst hx; simp
  · rw [List.concat_eq_append] at *
    by_cases hk : p.kind = 1
    · rw [keepTo_t 1 hk] at hx
      rcases List.mem_append.1 hx with hx | hx
      · exact hq x (by simp [hx])
      · simp at hx; subst hx; have := hq p (by simp); simp only; omega
    · rw [keepTo_f 1 hk] at hx
      rcases List.mem_append.1 hx with hx | hx
      · exact hq x hx
      · simp at hx; subst hx; simp
theorem units_fold : ∀ (us : List U) (q : List Pt) (ps : List Int) (n : Nat), (∀ p ∈ q, 0 ≤ p.n) → units (doneN (us.foldl stepU (q, ps, (n : Int)))) = units q ++ nfGo us ps n
  | [], q, ps, n, _ => by rw [List.foldl_nil, units_done, nfGo]
  | .k :: us, q, ps, n, hq => by
    have hd := done_nonneg ps n hq
    have := units_fold us (keepTo (doneN (q, ps, (n : Int))) 1) [] 0 (keepTo_nonneg hd)
    rw [List.foldl_cons]
    show units (doneN (us.foldl stepU (keepTo (doneN (q, ps, (n : Int))) 1, [], ((0 : Nat) : Int)))) = _
    rw [this, units_keepTo _ hd, units_done, nfGo]
    simp
  | .p x :: us, q, ps, n, hq => by
    rw [List.foldl_cons, nfGo]
    exact units_fold us q (ps ++ [x]) n hq
  | .d :: us, q, ps, n, hq => by
    rw [List.foldl_cons, nfGo]
    have := units_fold us q ps (n + 1) hq
    rw [← this]
    rfl
/-- the units of the normal form -/
theorem units_norm (us : List U) : units (doneN (foldU us)) = nfU us := by
  have := units_fold us [] [] 0 (fun p hp => by simp at hp)
  simpa [foldU, nfU, units_nil] using this

/-- applying units to a text -/
def applyU : List U → List Int → List Int
  | [], _ => []
  | .k :: us, t => t.take 1 ++ applyU us (t.drop 1)
  | .p x :: us, t => x :: applyU us t
  | .d :: us, t => applyU us (t.drop 1)
theorem applyU_ps : ∀ (ps : List Int) (us : List U) (t : List Int), applyU (ps.map U.p ++ us) t = ps ++ applyU us t
  | [], us, t => rfl
  | x :: ps, us, t => by
    show x :: applyU (ps.map U.p ++ us) t = _
    rw [applyU_ps ps us t]
    rfl
theorem applyU_ds : ∀ (n : Nat) (us : List U) (t : List Int), applyU (List.replicate n U.d ++ us) t = applyU us (t.drop n)
  | 0, us, t => by simp
  | n + 1, us, t => by
    rw [List.replicate_succ]
    show applyU (List.replicate n U.d ++ us) (t.drop 1) = _
    rw [applyU_ds n us, List.drop_drop, Nat.add_comm]
theorem applyU_ks : ∀ (n : Nat) (us : List U) (t : List Int), applyU (List.replicate n U.k ++ us) t = t.take n ++ applyU us (t.drop n)
  | 0, us, t => by simp
  | n + 1, us, t => by
    rw [List.replicate_succ]
    show t.take 1 ++ applyU (List.replicate n U.k ++ us) (t.drop 1) = _
    rw [applyU_ks n us, List.drop_drop, ← List.append_assoc, Nat.add_comm 1 n]
    congr 1
    rw [← List.take_add, Nat.add_comm]
theorem apply_go : ∀ (us : List U) (ps : List Int) (n : Nat) (t : List Int), applyU (nfGo us ps n) t = ps ++ applyU us (t.drop n)
  | [], ps, n, t => by
    rw [nfGo, applyU_ps]
    have := applyU_ds n [] t
    rw [List.append_nil] at this
    rw [this]
  | .k :: us, ps, n, t => by
    rw [nfGo, applyU_ps, applyU_ds]
    show ps ++ ((t.drop n).take 1 ++ applyU (nfGo us [] 0) ((t.drop n).drop 1)) = _
    rw [apply_go us [] 0]
    simp [applyU]
  | .p x :: us, ps, n, t => by
    rw [nfGo, apply_go us]
    simp [applyU]
  | .d :: us, ps, n, t => by
    rw [nfGo, apply_go us]
    simp only [applyU, List.drop_drop]
/-- the normal form has the same effect -/
theorem apply_nf (us : List U) (t : List Int) : applyU (nfU us) t = applyU us t := by
  have := apply_go us [] 0 t
  simpa [nfU] using this
end Go.Proofs.Ytninppjomdhnmaa.low


/-
  Applying operations, as functions on lists: a valid text, whether an operation fits it, the result.
-/
namespace Go.Proofs.Ytninppjomdhnmaa.low
open Go.RowKit
set_option linter.unusedVariables false

/-- a valid text -/
def okText (t : List Int) : Bool := allB t && decide (t.length ≤ 200)
/-- the operation applies to the text -/
def fitsB (ps : List Pt) (t : List Int) : Bool := okOp ps && okText t && decide (sumK ps + sumD ps = (t.length : Int))
def stepA (t : List Int) (s : Nat × List Int) (p : Pt) : Nat × List Int :=
  if p.kind = 1 then (s.1 + p.n.toNat, s.2 ++ (t.drop s.1).take p.n.toNat) else if p.kind = 2 then (s.1, s.2 ++ p.signs) else (s.1 + p.n.toNat, s.2)
def foldA (t : List Int) (ps : List Pt) : Nat × List Int := ps.foldl (stepA t) (0, [])
def applyT (ps : List Pt) (t : List Int) : List Int := if fitsB ps t = true then (foldA t ps).2 else []
theorem foldA_snoc {t : List Int} {ps : List Pt} {k : Nat} {p : Pt} (h : ps[k]? = some p) : foldA t (ps.take (k + 1)) = stepA t (foldA t (ps.take k)) p := by
  unfold foldA
  rw [List.take_add_one, h]
  simp
theorem okPs_mem' {ps : List Pt} (h : okPs ps = true) {p : Pt} (hp : p ∈ ps) : okPt p = true := by unfold okPs at h; exact List.all_eq_true.1 h p hp
/-- where the reading stands, and how much there is -/
theorem foldA_fit {t : List Int} {ps : List Pt} (hok : okPs ps = true) : ∀ k, k ≤ ps.length → ((foldA t (ps.take k)).1 : Int) = sumOf keepOf (ps.take k) + sumOf dropOf (ps.take k) ∧ ((foldA t (ps.take k)).2.length : Int) ≤ sumOf keepOf (ps.take k) + sumOf putOf (ps.take k)
  | 0, _ => by simp [foldA, sumOf]
  | k + 1, hk => by
    obtain ⟨p, hp⟩ := idx_some (l := ps) (i := k) (by omega)
    obtain ⟨i1, i2⟩ := foldA_fit (t := t) hok k (by omega)
    have hp' := of_okPt (okPs_at hp hok)
    rw [foldA_snoc hp, sumOf_snoc hp, sumOf_snoc hp, sumOf_snoc hp]
    generalize foldA t (ps.take k) = s at *
    generalize sumOf keepOf (ps.take k) = q1 at *
    generalize sumOf putOf (ps.take k) = q2 at *
    generalize sumOf dropOf (ps.take k) = q3 at *
    unfold stepA keepOf putOf dropOf
    rcases (show p.kind = 1 ∨ p.kind = 2 ∨ p.kind = 3 by omega) with e | e | e
    · simp only [e, if_true]
      refine ⟨by simp; omega, ?_⟩
      rw [List.length_append, List.length_take, List.length_drop]
      simp
      omega
    · simp only [e]
      simp
      omega
    · simp only [e]
      simp
      omega
theorem sumOf_take {f : Pt → Int} {ps : List Pt} (h : ∀ p ∈ ps, 0 ≤ f p) (k : Nat) : sumOf f (ps.take k) ≤ sumOf f ps := by
  have e : sumOf f ps = sumOf f (ps.take k) + sumOf f (ps.drop k) := by
    unfold sumOf
    rw [← List.sum_append, ← List.map_append, List.take_append_drop]
  have : 0 ≤ sumOf f (ps.drop k) := by
    unfold sumOf
    have hd : ∀ p ∈ ps.drop k, 0 ≤ f p := fun p hp => h p (List.mem_of_mem_drop hp)
    clear e
    generalize ps.drop k = qs at *
    induction qs with
    | nil => simp
    | cons q qs ih =>
      rw [List.map_cons, List.sum_cons]
      have h1 := hd q (by simp)
      have h2 := ih (fun p hp => hd p (by simp [hp]))
      omega
  omega
/-- what a fitting operation is -/
theorem fits_of {ps : List Pt} {t : List Int} (h : fitsB ps t = true) : okPs ps = true ∧ ps.length ≤ 600 ∧ sumOf keepOf ps + sumOf dropOf ps = (t.length : Int) ∧ sumOf keepOf ps + sumOf putOf ps ≤ 200 ∧ okText t = true ∧ t.length ≤ 200 ∧ okOp ps = true := by
  unfold fitsB at h
  rw [Bool.and_eq_true, Bool.and_eq_true] at h
  obtain ⟨⟨h1, h2⟩, h3⟩ := h
  have h1' := h1
  unfold okOp at h1
  rw [Bool.and_eq_true, Bool.and_eq_true] at h1
  obtain ⟨⟨h4, h5⟩, h6⟩ := h1
  have h7 := partsB_of h4
  obtain ⟨t1, t2, t3⟩ := sum_t h4
  have h3 := of_decide_eq_true h3
  have h6 := of_decide_eq_true h6
  rw [t1, t3] at h3
  rw [t1, t2] at h6
  have h2' := h2
  unfold okText at h2'
  rw [Bool.and_eq_true] at h2'
  exact ⟨h7.1, h7.2, h3, h6, h2, of_decide_eq_true h2'.2, h1'⟩
/-- the reading stays in the text -/
theorem foldA_in {t : List Int} {ps : List Pt} {k : Nat} {p : Pt} (h : fitsB ps t = true) (hp : ps[k]? = some p) (hk : p.kind = 1 ∨ p.kind = 3) : ((foldA t (ps.take k)).1 : Int) + p.n ≤ (t.length : Int) := by
  obtain ⟨h1, h2, h3, _⟩ := fits_of h
  have hlt := idx_lt hp
  have f := (foldA_fit (t := t) h1 k (by omega)).1
  have a1 := sumOf_take (f := keepOf) (ps := ps) (fun q hq => (ok_bd (okPs_mem' h1 hq)).1.1) (k + 1)
  have a2 := sumOf_take (f := dropOf) (ps := ps) (fun q hq => (ok_bd (okPs_mem' h1 hq)).2.2.1) (k + 1)
  rw [sumOf_snoc hp] at a1 a2
  have : keepOf p + dropOf p = p.n := by
    unfold keepOf dropOf
    rcases hk with e | e <;> simp [e]
  omega
theorem apply_len (ps : List Pt) (t : List Int) : (applyT ps t).length ≤ 200 := by
  unfold applyT
  split
  · rename_i h
    obtain ⟨h1, h2, h3, h4, _⟩ := fits_of h
    have f := (foldA_fit (t := t) h1 ps.length (Nat.le_refl _)).2
    rw [List.take_length] at f
    omega
  · simp
theorem apply_small {ps : List Pt} {t : List Int} (h0 : SmP ps) (h1 : SmI t) : SmI (applyT ps t) := by
  have := apply_len ps t
  unfold SmI
  omega
end Go.Proofs.Ytninppjomdhnmaa.low


/-
  Composition and transformation of unit actions: what they do to a text, in whichever order.
-/
namespace Go.Proofs.Ytninppjomdhnmaa.low
open Go.RowKit
set_option linter.unusedVariables false

/-- how long the texts are to which it applies, and the results -/
def src : List U → Nat
  | [] => 0
  | .k :: us => src us + 1
  | .p _ :: us => src us
  | .d :: us => src us + 1
def tgt : List U → Nat
  | [] => 0
  | .k :: us => tgt us + 1
  | .p _ :: us => tgt us + 1
  | .d :: us => tgt us
theorem src_app : ∀ a b : List U, src (a ++ b) = src a + src b
  | [], b => by simp [src]
  | .k :: a, b => by simp only [List.cons_append, src, src_app a b]; omega
  | .p _ :: a, b => by simp only [List.cons_append, src, src_app a b]
  | .d :: a, b => by simp only [List.cons_append, src, src_app a b]; omega
theorem tgt_app : ∀ a b : List U, tgt (a ++ b) = tgt a + tgt b
  | [], b => by simp [tgt]
  | .k :: a, b => by simp only [List.cons_append, tgt, tgt_app a b]; omega
  | .p _ :: a, b => by simp only [List.cons_append, tgt, tgt_app a b]; omega
  | .d :: a, b => by simp only [List.cons_append, tgt, tgt_app a b]
theorem apply_len_u : ∀ (us : List U) (t : List Int), src us = t.length → (applyU us t).length = tgt us
  | [], t, _ => rfl
  | .k :: us, [], h => by simp [src] at h
  | .k :: us, x :: t, h => by
    have := apply_len_u us t (by simpa [src] using h)
    simp [applyU, tgt, this]
  | .p x :: us, t, h => by
    have := apply_len_u us t h
    simp [applyU, tgt, this]
  | .d :: us, [], h => by simp [src] at h
  | .d :: us, x :: t, h => by
    have := apply_len_u us t (by simpa [src] using h)
    simp [applyU, tgt, this]

def comp : List U → List U → List U
  | [], [] => []
  | [], .p x :: b => .p x :: comp [] b
  | [], .k :: b => []
  | [], .d :: b => []
  | .d :: a, b => .d :: comp a b
  | .k :: a, [] => []
  | .k :: a, .p x :: b => .p x :: comp (.k :: a) b
  | .k :: a, .k :: b => .k :: comp a b
  | .k :: a, .d :: b => .d :: comp a b
  | .p y :: a, [] => []
  | .p y :: a, .p x :: b => .p x :: comp (.p y :: a) b
  | .p y :: a, .k :: b => .p y :: comp a b
  | .p y :: a, .d :: b => comp a b
termination_by a b => a.length + b.length

/-- a composition has the effect of the one and then the other -/
theorem apply_comp (a b : List U) : ∀ t : List Int, src a = t.length → tgt a = src b → applyU (comp a b) t = applyU b (applyU a t) ∧ src (comp a b) = src a ∧ tgt (comp a b) = tgt b := by
  induction a, b using comp.induct with
  | case1 => intro t h1 h2; simp [comp, applyU, src, tgt]
  | case2 x b ih =>
    intro t h1 h2
    obtain ⟨i1, i2, i3⟩ := ih t h1 (by simpa [tgt, src] using h2)
    simp [comp, applyU, src, tgt] at *
    exact ⟨i1, i2, i3⟩
  | case3 b => intro t h1 h2; simp [tgt, src] at h2
  | case4 b => intro t h1 h2; simp [tgt, src] at h2
  | case5 b a ih =>
    intro t h1 h2
    cases t with
    | nil => simp [src] at h1
    | cons y t =>
      obtain ⟨i1, i2, i3⟩ := ih t (by simpa [src] using h1) (by simpa [tgt] using h2)
      simp [comp, applyU, src, tgt, i1, i2, i3]
  | case6 a => intro t h1 h2; simp [tgt, src] at h2
  | case7 a x b ih =>
    intro t h1 h2
    obtain ⟨i1, i2, i3⟩ := ih t h1 (by simpa [src] using h2)
    rw [comp]
    refine ⟨?_, by simpa [src] using i2, by simp [tgt, i3]⟩
    show x :: applyU (comp (.k :: a) b) t = x :: applyU b (applyU (.k :: a) t)
    rw [i1]
  | case8 a b ih =>
    intro t h1 h2
    cases t with
    | nil => simp [src] at h1
    | cons y t =>
      obtain ⟨i1, i2, i3⟩ := ih t (by simpa [src] using h1) (by simpa [tgt, src] using h2)
      simp [comp, applyU, src, tgt, i1, i2, i3]
  | case9 a b ih =>
    intro t h1 h2
    cases t with
    | nil => simp [src] at h1
    | cons y t =>
      obtain ⟨i1, i2, i3⟩ := ih t (by simpa [src] using h1) (by simpa [tgt, src] using h2)
      simp [comp, applyU, src, tgt, i1, i2, i3]
  | case10 y a => intro t h1 h2; simp [tgt, src] at h2
  | case11 y a x b ih =>
    intro t h1 h2
    obtain ⟨i1, i2, i3⟩ := ih t h1 (by simpa [src] using h2)
    rw [comp]
    refine ⟨?_, by simpa [src] using i2, by simp [tgt, i3]⟩
    show x :: applyU (comp (.p y :: a) b) t = x :: applyU b (applyU (.p y :: a) t)
    rw [i1]
  | case12 y a b ih =>
    intro t h1 h2
    obtain ⟨i1, i2, i3⟩ := ih t (by simpa [src] using h1) (by simpa [tgt, src] using h2)
    simp [comp, applyU, src, tgt, i1, i2, i3]
  | case13 y a b ih =>
    intro t h1 h2
    obtain ⟨i1, i2, i3⟩ := ih t (by simpa [src] using h1) (by simpa [tgt, src] using h2)
    simp [comp, applyU, src, tgt, i1, i2, i3]

/-- two operations on one text, each led past the other: the first's insertions come first -/
def xf : List U → List U → List U × List U
  | [], [] => ([], [])
  | .p x :: a, b => (.p x :: (xf a b).1, .k :: (xf a b).2)
  | [], .p x :: b => (.k :: (xf [] b).1, .p x :: (xf [] b).2)
  | [], .k :: b => ([], [])
  | [], .d :: b => ([], [])
  | .k :: a, [] => ([], [])
  | .k :: a, .p x :: b => (.k :: (xf (.k :: a) b).1, .p x :: (xf (.k :: a) b).2)
  | .k :: a, .k :: b => (.k :: (xf a b).1, .k :: (xf a b).2)
  | .k :: a, .d :: b => ((xf a b).1, .d :: (xf a b).2)
  | .d :: a, [] => ([], [])
  | .d :: a, .p x :: b => (.k :: (xf (.d :: a) b).1, .p x :: (xf (.d :: a) b).2)
  | .d :: a, .k :: b => (.d :: (xf a b).1, (xf a b).2)
  | .d :: a, .d :: b => xf a b
termination_by a b => a.length + b.length

/-- both orders lead to one text -/
theorem xf_meet (a b : List U) : ∀ t : List Int, src a = t.length → src b = t.length →
    applyU (xf a b).2 (applyU a t) = applyU (xf a b).1 (applyU b t) ∧ src (xf a b).1 = tgt b ∧ src (xf a b).2 = tgt a ∧ tgt (xf a b).1 = tgt (xf a b).2 := by
  induction a, b using xf.induct with
  | case1 => intro t h1 h2; simp [xf, applyU, src, tgt]
  | case2 x a b ih =>
    intro t h1 h2
    obtain ⟨i1, i2, i3, i4⟩ := ih t (by simpa [src] using h1) h2
    rw [xf]
    refine ⟨?_, by simpa [src] using i2, by simp [src, tgt, i3], by simp [tgt, i4]⟩
    show applyU (.k :: (xf a b).2) (x :: applyU a t) = x :: applyU (xf a b).1 (applyU b t)
    simp [applyU, i1]
  | case3 x b ih =>
    intro t h1 h2
    obtain ⟨i1, i2, i3, i4⟩ := ih t h1 (by simpa [src] using h2)
    rw [xf]
    refine ⟨?_, by simp [src, tgt, i2], by simpa [src] using i3, by simp [tgt, i4]⟩
    show x :: applyU (xf [] b).2 (applyU [] t) = applyU (.k :: (xf [] b).1) (x :: applyU b t)
    simp [applyU] at i1 ⊢
    exact i1
  | case4 b => intro t h1 h2; simp [src] at h1 h2; omega
  | case5 b => intro t h1 h2; simp [src] at h1 h2; omega
  | case6 a => intro t h1 h2; simp [src] at h1 h2; omega
  | case7 a x b ih =>
    intro t h1 h2
    obtain ⟨i1, i2, i3, i4⟩ := ih t h1 (by simpa [src] using h2)
    rw [xf]
    refine ⟨?_, by simp [src, tgt, i2], by simpa [src] using i3, by simp [tgt, i4]⟩
    show x :: applyU (xf (.k :: a) b).2 (applyU (.k :: a) t) = applyU (.k :: (xf (.k :: a) b).1) (x :: applyU b t)
    rw [i1]
    simp [applyU]
  | case8 a b ih =>
    intro t h1 h2
    cases t with
    | nil => simp [src] at h1
    | cons y t =>
      obtain ⟨i1, i2, i3, i4⟩ := ih t (by simpa [src] using h1) (by simpa [src] using h2)
      simp [xf, applyU, src, tgt, i1, i2, i3, i4]
  | case9 a b ih =>
    intro t h1 h2
    cases t with
    | nil => simp [src] at h1
    | cons y t =>
      obtain ⟨i1, i2, i3, i4⟩ := ih t (by simpa [src] using h1) (by simpa [src] using h2)
      simp [xf, applyU, src, tgt, i1, i2, i3, i4]
  | case10 a => intro t h1 h2; simp [src] at h1 h2; omega
  | case11 a x b ih =>
    intro t h1 h2
    obtain ⟨i1, i2, i3, i4⟩ := ih t h1 (by simpa [src] using h2)
    rw [xf]
    refine ⟨?_, by simp [src, tgt, i2], by simpa [src] using i3, by simp [tgt, i4]⟩
    show x :: applyU (xf (.d :: a) b).2 (applyU (.d :: a) t) = applyU (.k :: (xf (.d :: a) b).1) (x :: applyU b t)
    rw [i1]
    simp [applyU]
  | case12 a b ih =>
    intro t h1 h2
    cases t with
    | nil => simp [src] at h1
    | cons y t =>
      obtain ⟨i1, i2, i3, i4⟩ := ih t (by simpa [src] using h1) (by simpa [src] using h2)
      simp [xf, applyU, src, tgt, i1, i2, i3, i4]
  | case13 a b ih =>
    intro t h1 h2
    cases t with
    | nil => simp [src] at h1
    | cons y t =>
      obtain ⟨i1, i2, i3, i4⟩ := ih t (by simpa [src] using h1) (by simpa [src] using h2)
      simp [xf, applyU, tgt, i1, i2, i3, i4]

theorem src_rk : ∀ n : Nat, src (List.replicate n U.k) = n ∧ tgt (List.replicate n U.k) = n
  | 0 => ⟨rfl, rfl⟩
  | n + 1 => by rw [List.replicate_succ]; simp [src, tgt, src_rk n]
theorem src_rd : ∀ n : Nat, src (List.replicate n U.d) = n ∧ tgt (List.replicate n U.d) = 0
  | 0 => ⟨rfl, rfl⟩
  | n + 1 => by rw [List.replicate_succ]; simp [src, tgt, src_rd n]
theorem src_mp : ∀ zs : List Int, src (zs.map U.p) = 0 ∧ tgt (zs.map U.p) = zs.length
  | [] => ⟨rfl, rfl⟩
  | z :: zs => by rw [List.map_cons]; simp [src, tgt, src_mp zs]
/-- the sums, as lengths of the units -/
theorem src_units {L : List Pt} (h : ∀ p ∈ L, szP_ p) : (src (units L) : Int) = sumOf keepOf L + sumOf dropOf L ∧ (tgt (units L) : Int) = sumOf keepOf L + sumOf putOf L := by
  induction L with
  | nil => simp [units_nil, src, tgt, sumOf_nil]
  | cons p L ih =>
    obtain ⟨i1, i2⟩ := ih (fun q hq => h q (by simp [hq]))
    obtain ⟨hk, h0, _, _⟩ := h p (by simp)
    rw [units_cons, src_app, tgt_app, sumOf_cons, sumOf_cons, sumOf_cons]
    generalize sumOf keepOf L = q1 at *
    generalize sumOf putOf L = q2 at *
    generalize sumOf dropOf L = q3 at *
    unfold unitsP keepOf putOf dropOf
    rcases hk with e | e | e
    · simp [e, src_rk]; omega
    · simp [e, src_mp]; omega
    · simp [e, src_rd]; omega
theorem apply_fold : ∀ (L : List Pt) (t : List Int) (s : Nat × List Int), (∀ p ∈ L, szP_ p) → (L.foldl (stepA t) s).2 = s.2 ++ applyU (units L) (t.drop s.1)
  | [], t, s, _ => by simp [units_nil, applyU]
  | p :: L, t, s, h => by
    obtain ⟨hk, h0, _, _⟩ := h p (by simp)
    rw [List.foldl_cons, apply_fold L t _ (fun q hq => h q (by simp [hq])), units_cons]
    unfold stepA unitsP
    rcases hk with e | e | e
    · simp only [e, if_true]
      rw [applyU_ks, List.append_assoc, List.drop_drop]
    · simp [e, applyU_ps]
    · simp [e, applyU_ds, List.drop_drop]
/-- applying an operation is applying its units -/
theorem applyT_units {ps : List Pt} {t : List Int} (h : fitsB ps t = true) : applyT ps t = applyU (units ps) t := by
  have := apply_fold ps t (0, []) (okPs_sz (fits_of h).1)
  unfold applyT foldA
  rw [if_pos h, this]
  simp
end Go.Proofs.Ytninppjomdhnmaa.low


/-
  The normal form is a function of what the units do to a text of marks; hence composition is associative up to the normal form, and so on.
-/
namespace Go.Proofs.Ytninppjomdhnmaa.low
open Go.RowKit
set_option linter.unusedVariables false

/-- applying units to a text of whatever kind -/
def applyG {α : Type} (f : Int → α) : List U → List α → List α
  | [], _ => []
  | .k :: us, t => t.take 1 ++ applyG f us (t.drop 1)
  | .p x :: us, t => f x :: applyG f us t
  | .d :: us, t => applyG f us (t.drop 1)
theorem applyG_id : ∀ (us : List U) (t : List Int), applyG id us t = applyU us t
  | [], t => rfl
  | .k :: us, t => by simp [applyG, applyU, applyG_id us]
  | .p x :: us, t => by simp [applyG, applyU, applyG_id us]
  | .d :: us, t => by simp [applyG, applyU, applyG_id us]
theorem applyG_len {α : Type} (f : Int → α) : ∀ (us : List U) (t : List α), src us = t.length → (applyG f us t).length = tgt us
  | [], t, _ => rfl
  | .k :: us, [], h => by simp [src] at h
  | .k :: us, x :: t, h => by
    have := applyG_len f us t (by simpa [src] using h)
    simp [applyG, tgt, this]
  | .p x :: us, t, h => by
    have := applyG_len f us t h
    simp [applyG, tgt, this]
  | .d :: us, [], h => by simp [src] at h
  | .d :: us, x :: t, h => by
    have := applyG_len f us t (by simpa [src] using h)
    simp [applyG, tgt, this]
theorem applyG_comp {α : Type} (f : Int → α) (a b : List U) : ∀ t : List α, src a = t.length → tgt a = src b → applyG f (comp a b) t = applyG f b (applyG f a t) := by
  induction a, b using comp.induct with
  | case1 => intro t h1 h2; simp [comp, applyG]
  | case2 x b ih =>
    intro t h1 h2
    have i1 := ih t h1 (by simpa [tgt, src] using h2)
    simp [comp, applyG] at *
    exact i1
  | case3 b => intro t h1 h2; simp [tgt, src] at h2
  | case4 b => intro t h1 h2; simp [tgt, src] at h2
  | case5 b a ih =>
    intro t h1 h2
    cases t with
    | nil => simp [src] at h1
    | cons y t =>
      have i1 := ih t (by simpa [src] using h1) (by simpa [tgt] using h2)
      simp [comp, applyG, i1]
  | case6 a => intro t h1 h2; simp [tgt, src] at h2
  | case7 a x b ih =>
    intro t h1 h2
    have i1 := ih t h1 (by simpa [src] using h2)
    rw [comp]
    show f x :: applyG f (comp (.k :: a) b) t = f x :: applyG f b (applyG f (.k :: a) t)
    rw [i1]
  | case8 a b ih =>
    intro t h1 h2
    cases t with
    | nil => simp [src] at h1
    | cons y t =>
      have i1 := ih t (by simpa [src] using h1) (by simpa [tgt, src] using h2)
      simp [comp, applyG, i1]
  | case9 a b ih =>
    intro t h1 h2
    cases t with
    | nil => simp [src] at h1
    | cons y t =>
      have i1 := ih t (by simpa [src] using h1) (by simpa [tgt, src] using h2)
      simp [comp, applyG, i1]
  | case10 y a => intro t h1 h2; simp [tgt, src] at h2
  | case11 y a x b ih =>
    intro t h1 h2
    have i1 := ih t h1 (by simpa [src] using h2)
    rw [comp]
    show f x :: applyG f (comp (.p y :: a) b) t = f x :: applyG f b (applyG f (.p y :: a) t)
    rw [i1]
  | case12 y a b ih =>
    intro t h1 h2
    have i1 := ih t (by simpa [src] using h1) (by simpa [tgt, src] using h2)
    simp [comp, applyG, i1]
  | case13 y a b ih =>
    intro t h1 h2
    have i1 := ih t (by simpa [src] using h1) (by simpa [tgt, src] using h2)
    simp [comp, applyG, i1]
theorem comp_ends {a b : List U} (h : tgt a = src b) : src (comp a b) = src a ∧ tgt (comp a b) = tgt b := (apply_comp a b (List.replicate (src a) 0) (by simp) h).2

/-- the marks from i to below i + m -/
def marksG (i : Nat) : Nat → List (Nat ⊕ Int)
  | 0 => []
  | m + 1 => .inl i :: marksG (i + 1) m
theorem marksG_len : ∀ (m i : Nat), (marksG i m).length = m
  | 0, _ => rfl
  | m + 1, i => by simp [marksG, marksG_len m]
/-- the normal units, read off what has become of the marks i to below n -/
def dec : List (Nat ⊕ Int) → Nat → Nat → List U
  | [], i, n => List.replicate (n - i) .d
  | .inr x :: l, i, n => .p x :: dec l i n
  | .inl j :: l, i, n => List.replicate (j - i) .d ++ .k :: dec l (j + 1) n
theorem dec_ps : ∀ (ps : List Int) (l : List (Nat ⊕ Int)) (i n : Nat), dec (ps.map .inr ++ l) i n = ps.map U.p ++ dec l i n
  | [], l, i, n => rfl
  | x :: ps, l, i, n => by
    show U.p x :: dec (ps.map .inr ++ l) i n = _
    rw [dec_ps ps]
    rfl
theorem dec_apply : ∀ (us : List U) (ps : List Int) (m i r : Nat), src us = r → dec (ps.map .inr ++ applyG .inr us (marksG (i + m) r)) i (i + m + r) = nfGo us ps m
  | [], ps, m, i, r, h => by
    have : r = 0 := by simpa [src] using h.symm
    subst this
    rw [dec_ps]
    simp [applyG, dec, nfGo]
  | .k :: us, ps, m, i, r, h => by
    cases r with
    | zero => simp [src] at h
    | succ r =>
      have ih := dec_apply us [] 0 (i + m + 1) r (by simpa [src] using h)
      rw [dec_ps]
      simp only [marksG, applyG, List.take_succ_cons, List.take_zero, List.drop_succ_cons, List.drop_zero, List.cons_append, List.nil_append, dec, nfGo]
      simp only [List.map_nil, List.nil_append, Nat.add_zero] at ih
      rw [show i + m + (r + 1) = i + m + 1 + r by omega, ih, show i + m - i = m by omega]
  | .p x :: us, ps, m, i, r, h => by
    have ih := dec_apply us (ps ++ [x]) m i r (by simpa [src] using h)
    rw [nfGo, ← ih]
    simp [applyG]
  | .d :: us, ps, m, i, r, h => by
    cases r with
    | zero => simp [src] at h
    | succ r =>
      have ih := dec_apply us ps (m + 1) i r (by simpa [src] using h)
      rw [nfGo, ← ih]
      simp only [marksG, applyG, List.drop_succ_cons, List.drop_zero]
      rw [show i + (m + 1) = i + m + 1 by omega, show i + m + 1 + r = i + m + (r + 1) by omega]
/-- the normal form is a function of what becomes of the marks -/
theorem nf_dec (us : List U) : nfU us = dec (applyG .inr us (marksG 0 (src us))) 0 (src us) := by
  have := dec_apply us [] 0 0 (src us) rfl
  simp only [List.map_nil, List.nil_append, Nat.add_zero, Nat.zero_add] at this
  exact this.symm
theorem nf_ext {us vs : List U} (h : src us = src vs) (he : applyG .inr us (marksG 0 (src us)) = applyG .inr vs (marksG 0 (src us))) : nfU us = nfU vs := by
  rw [nf_dec us, nf_dec vs, ← h, he]

theorem applyG_ps {α : Type} (f : Int → α) : ∀ (ps : List Int) (us : List U) (t : List α), applyG f (ps.map U.p ++ us) t = ps.map f ++ applyG f us t
  | [], us, t => rfl
  | x :: ps, us, t => by
    show f x :: applyG f (ps.map U.p ++ us) t = _
    rw [applyG_ps f ps us t]
    rfl
theorem applyG_ds {α : Type} (f : Int → α) : ∀ (n : Nat) (us : List U) (t : List α), applyG f (List.replicate n U.d ++ us) t = applyG f us (t.drop n)
  | 0, us, t => by simp
  | n + 1, us, t => by
    rw [List.replicate_succ]
    show applyG f (List.replicate n U.d ++ us) (t.drop 1) = _
    rw [applyG_ds f n us, List.drop_drop, Nat.add_comm]
theorem applyG_go {α : Type} (f : Int → α) : ∀ (us : List U) (ps : List Int) (n : Nat) (t : List α), applyG f (nfGo us ps n) t = ps.map f ++ applyG f us (t.drop n)
  | [], ps, n, t => by
    rw [nfGo, applyG_ps]
    have := applyG_ds f n [] t
    rw [List.append_nil] at this
    rw [this]
  | .k :: us, ps, n, t => by
    rw [nfGo, applyG_ps, applyG_ds]
    show ps.map f ++ ((t.drop n).take 1 ++ applyG f (nfGo us [] 0) ((t.drop n).drop 1)) = _
    rw [applyG_go f us [] 0]
    simp [applyG]
  | .p x :: us, ps, n, t => by
    rw [nfGo, applyG_go f us]
    simp [applyG]
  | .d :: us, ps, n, t => by
    rw [nfGo, applyG_go f us]
    simp only [applyG, List.drop_drop]
theorem applyG_nf {α : Type} (f : Int → α) (us : List U) (t : List α) : applyG f (nfU us) t = applyG f us t := by
  have := applyG_go f us [] 0 t
  simpa [nfU] using this
theorem nfGo_ends : ∀ (us : List U) (ps : List Int) (n : Nat), src (nfGo us ps n) = src us + n ∧ tgt (nfGo us ps n) = tgt us + ps.length
  | [], ps, n => by rw [nfGo, src_app, tgt_app, (src_mp ps).1, (src_mp ps).2, (src_rd n).1, (src_rd n).2]; simp [src, tgt]
  | .k :: us, ps, n => by
    obtain ⟨i1, i2⟩ := nfGo_ends us [] 0
    rw [nfGo, src_app, tgt_app, src_app, tgt_app, (src_mp ps).1, (src_mp ps).2, (src_rd n).1, (src_rd n).2]
    simp [src, tgt, i1, i2]
    omega
  | .p x :: us, ps, n => by
    obtain ⟨i1, i2⟩ := nfGo_ends us (ps ++ [x]) n
    rw [nfGo, i1, i2]
    simp [src, tgt]
    omega
  | .d :: us, ps, n => by
    obtain ⟨i1, i2⟩ := nfGo_ends us ps (n + 1)
    rw [nfGo, i1, i2]
    simp [src, tgt]
    omega
theorem nf_ends (us : List U) : src (nfU us) = src us ∧ tgt (nfU us) = tgt us := by
  have := nfGo_ends us [] 0
  simpa [nfU] using this
theorem nf_idem (us : List U) : nfU (nfU us) = nfU us := nf_ext (nf_ends us).1 (applyG_nf _ us _)

/-- composition of normal forms, and in whichever grouping -/
theorem comp_nf {a b : List U} (h : tgt a = src b) : nfU (comp (nfU a) (nfU b)) = nfU (comp a b) := by
  have h' : tgt (nfU a) = src (nfU b) := by rw [(nf_ends a).2, (nf_ends b).1, h]
  have e : src (comp (nfU a) (nfU b)) = src (comp a b) := by rw [(comp_ends h').1, (comp_ends h).1, (nf_ends a).1]
  refine nf_ext e ?_
  have l : (marksG 0 (src (comp (nfU a) (nfU b)))).length = src a := by rw [marksG_len, e, (comp_ends h).1]
  rw [applyG_comp _ _ _ _ (by rw [l, (nf_ends a).1]) h', applyG_comp _ _ _ _ (by rw [l]) h, applyG_nf, applyG_nf]
theorem comp_assoc {a b c : List U} (h1 : tgt a = src b) (h2 : tgt b = src c) : nfU (comp (comp a b) c) = nfU (comp a (comp b c)) := by
  have k1 : tgt (comp a b) = src c := by rw [(comp_ends h1).2, h2]
  have k2 : tgt a = src (comp b c) := by rw [(comp_ends h2).1, h1]
  have e : src (comp (comp a b) c) = src (comp a (comp b c)) := by rw [(comp_ends k1).1, (comp_ends h1).1, (comp_ends k2).1]
  refine nf_ext e ?_
  have l : (marksG 0 (src (comp (comp a b) c))).length = src a := by rw [marksG_len, (comp_ends k1).1, (comp_ends h1).1]
  generalize marksG 0 (src (comp (comp a b) c)) = t at *
  have la : (applyG (α := Nat ⊕ Int) .inr a t).length = tgt a := applyG_len _ a t (by rw [l])
  rw [applyG_comp _ _ _ _ (by rw [l, (comp_ends h1).1]) k1, applyG_comp _ _ _ _ (by rw [l]) h1, applyG_comp _ _ _ _ (by rw [l]) k2, applyG_comp _ _ _ _ (by rw [la, h1]) h2]
end Go.Proofs.Ytninppjomdhnmaa.low


/-
  Composition and transformation, several units at once.
-/
namespace Go.Proofs.Ytninppjomdhnmaa.low
open Go.RowKit
set_option linter.unusedVariables false

/-- the list does not begin with a deletion, with an insertion -/
def noD : List U → Prop
  | .d :: _ => False
  | _ => True
def noP : List U → Prop
  | .p _ :: _ => False
  | _ => True
theorem comp_ds : ∀ (n : Nat) (a b : List U), comp (List.replicate n .d ++ a) b = List.replicate n .d ++ comp a b
  | 0, a, b => rfl
  | n + 1, a, b => by rw [List.replicate_succ, List.cons_append, comp, comp_ds n a b]; rfl
theorem comp_put1 (a b : List U) (x : Int) (h : noD a) : comp a (.p x :: b) = .p x :: comp a b := by
  cases a with
  | nil => rw [comp]
  | cons u a =>
    cases u with
    | k => rw [comp]
    | p y => rw [comp]
    | d => exact absurd h (by simp [noD])
theorem comp_puts : ∀ (zs : List Int) (a b : List U), noD a → comp a (zs.map .p ++ b) = zs.map .p ++ comp a b
  | [], a, b, _ => rfl
  | z :: zs, a, b, h => by rw [List.map_cons, List.cons_append, comp_put1 a _ z h, comp_puts zs a b h]; rfl
theorem comp_kk : ∀ (n : Nat) (a b : List U), comp (List.replicate n .k ++ a) (List.replicate n .k ++ b) = List.replicate n .k ++ comp a b
  | 0, a, b => rfl
  | n + 1, a, b => by rw [List.replicate_succ, List.cons_append, List.cons_append, comp, comp_kk n a b]; rfl
theorem comp_kd : ∀ (n : Nat) (a b : List U), comp (List.replicate n .k ++ a) (List.replicate n .d ++ b) = List.replicate n .d ++ comp a b
  | 0, a, b => rfl
  | n + 1, a, b => by rw [List.replicate_succ, List.replicate_succ, List.cons_append, List.cons_append, comp, comp_kd n a b]; rfl
theorem comp_pk : ∀ (zs : List Int) (a b : List U), comp (zs.map .p ++ a) (List.replicate zs.length .k ++ b) = zs.map .p ++ comp a b
  | [], a, b => rfl
  | z :: zs, a, b => by rw [List.map_cons, List.length_cons, List.replicate_succ, List.cons_append, List.cons_append, comp, comp_pk zs a b]; rfl
theorem comp_pd : ∀ (zs : List Int) (a b : List U), comp (zs.map .p ++ a) (List.replicate zs.length .d ++ b) = comp a b
  | [], a, b => rfl
  | z :: zs, a, b => by rw [List.map_cons, List.length_cons, List.replicate_succ, List.cons_append, List.cons_append, comp, comp_pd zs a b]
theorem comp_nil : comp [] [] = [] := by rw [comp]

theorem xf_puts : ∀ (zs : List Int) (a b : List U), xf (zs.map .p ++ a) b = (zs.map .p ++ (xf a b).1, List.replicate zs.length .k ++ (xf a b).2)
  | [], a, b => rfl
  | z :: zs, a, b => by rw [List.map_cons, List.cons_append, xf, xf_puts zs a b]; rfl
theorem xf_put1 (a b : List U) (x : Int) (h : noP a) : xf a (.p x :: b) = (.k :: (xf a b).1, .p x :: (xf a b).2) := by
  cases a with
  | nil => rw [xf]
  | cons u a =>
    cases u with
    | k => rw [xf]
    | p y => exact absurd h (by simp [noP])
    | d => rw [xf]
theorem xf_putsB : ∀ (zs : List Int) (a b : List U), noP a → xf a (zs.map .p ++ b) = (List.replicate zs.length .k ++ (xf a b).1, zs.map .p ++ (xf a b).2)
  | [], a, b, _ => rfl
  | z :: zs, a, b, h => by rw [List.map_cons, List.cons_append, xf_put1 a _ z h, xf_putsB zs a b h]; rfl
theorem xf_kk : ∀ (n : Nat) (a b : List U), xf (List.replicate n .k ++ a) (List.replicate n .k ++ b) = (List.replicate n .k ++ (xf a b).1, List.replicate n .k ++ (xf a b).2)
  | 0, a, b => rfl
  | n + 1, a, b => by rw [List.replicate_succ, List.cons_append, List.cons_append, xf, xf_kk n a b]; rfl
theorem xf_kd : ∀ (n : Nat) (a b : List U), xf (List.replicate n .k ++ a) (List.replicate n .d ++ b) = ((xf a b).1, List.replicate n .d ++ (xf a b).2)
  | 0, a, b => rfl
  | n + 1, a, b => by rw [List.replicate_succ, List.replicate_succ, List.cons_append, List.cons_append, xf, xf_kd n a b]; rfl
theorem xf_dk : ∀ (n : Nat) (a b : List U), xf (List.replicate n .d ++ a) (List.replicate n .k ++ b) = (List.replicate n .d ++ (xf a b).1, (xf a b).2)
  | 0, a, b => rfl
  | n + 1, a, b => by rw [List.replicate_succ, List.replicate_succ, List.cons_append, List.cons_append, xf, xf_dk n a b]; rfl
theorem xf_dd : ∀ (n : Nat) (a b : List U), xf (List.replicate n .d ++ a) (List.replicate n .d ++ b) = xf a b
  | 0, a, b => rfl
  | n + 1, a, b => by rw [List.replicate_succ, List.cons_append, List.cons_append, xf, xf_dd n a b]
theorem xf_nil : xf [] [] = ([], []) := by rw [xf]

/-- the inverse of units, at a text -/
def invU : List U → List Int → List U
  | [], _ => []
  | .k :: us, t => .k :: invU us (t.drop 1)
  | .p _ :: us, t => .d :: invU us t
  | .d :: us, t => (t.take 1).map .p ++ invU us (t.drop 1)
/-- what is done is taken back -/
theorem inv_back : ∀ (us : List U) (t : List Int), src us = t.length → applyU (invU us t) (applyU us t) = t ∧ src (invU us t) = tgt us ∧ tgt (invU us t) = src us
  | [], t, h => by
    have : t = [] := List.eq_nil_of_length_eq_zero (by simpa [src] using h.symm)
    subst this
    simp [invU, applyU, src, tgt]
  | .k :: us, [], h => by simp [src] at h
  | .k :: us, x :: t, h => by
    obtain ⟨i1, i2, i3⟩ := inv_back us t (by simpa [src] using h)
    simp [invU, applyU, src, tgt, i1, i2, i3]
  | .p x :: us, t, h => by
    obtain ⟨i1, i2, i3⟩ := inv_back us t (by simpa [src] using h)
    simp [invU, applyU, src, tgt, i1, i2, i3]
  | .d :: us, [], h => by simp [src] at h
  | .d :: us, x :: t, h => by
    obtain ⟨i1, i2, i3⟩ := inv_back us t (by simpa [src] using h)
    simp [invU, applyU, src, tgt, i1, i2, i3]
/-- the inverse's inverse is the thing itself -/
theorem inv_inv : ∀ (us : List U) (t : List Int), src us = t.length → invU (invU us t) (applyU us t) = us
  | [], t, h => rfl
  | .k :: us, [], h => by simp [src] at h
  | .k :: us, x :: t, h => by
    have ih := inv_inv us t (by simpa [src] using h)
    simp [invU, applyU, ih]
  | .p x :: us, t, h => by
    have ih := inv_inv us t (by simpa [src] using h)
    simp [invU, applyU, ih]
  | .d :: us, [], h => by simp [src] at h
  | .d :: us, x :: t, h => by
    have ih := inv_inv us t (by simpa [src] using h)
    simp [invU, applyU, ih]
end Go.Proofs.Ytninppjomdhnmaa.low


/-
  The specification's cursor over the parts of an operation: l04Size, l04Kind, l04Left.
-/
namespace Go.Proofs.Ytninppjomdhnmaa.low
open Go.RowKit
set_option linter.unusedVariables false

/-- how many units a part has -/
def sizeP (p : Pt) : Nat := if p.kind = 2 then p.signs.length else p.n.toNat
theorem unitsP_len (p : Pt) : (unitsP p).length = sizeP p := by
  unfold unitsP sizeP
  by_cases h1 : p.kind = 1
  · simp [h1]
  · by_cases h2 : p.kind = 2
    · simp [h2]
    · simp [h1, h2]
theorem sizeP_le {p : Pt} (h : szP_ p) : sizeP p ≤ 200 := by
  obtain ⟨_, _, h1, h2⟩ := h
  unfold sizeP
  split <;> omega
/-- what is left of an operation: from the part at on, done units of it done -/
def rem (ps : List Pt) (at_ done : Nat) : List U := (units (ps.drop at_)).drop done
theorem drop_at {α : Type} {l : List α} {k : Nat} {x : α} (h : l[k]? = some x) : l.drop k = x :: l.drop (k + 1) := by
  have hk := idx_lt h
  rw [List.drop_eq_getElem_cons hk]
  congr 1
  have := List.getElem?_eq_getElem hk
  rw [h] at this
  injection this with this
  exact this.symm
theorem rem_next {ps : List Pt} {at_ : Nat} {p : Pt} (h : ps[at_]? = some p) : rem ps at_ (sizeP p) = rem ps (at_ + 1) 0 := by
  unfold rem
  rw [drop_at h, units_cons, ← unitsP_len p]
  simp
theorem rem_end {ps : List Pt} {at_ : Nat} (h : ps.length ≤ at_) (d : Nat) : rem ps at_ d = [] := by
  unfold rem
  rw [List.drop_eq_nil_of_le h]
  simp [units_nil]
theorem rem_in {ps : List Pt} {at_ done : Nat} {p : Pt} (h : ps[at_]? = some p) (hd : done ≤ sizeP p) : rem ps at_ done = (unitsP p).drop done ++ rem ps (at_ + 1) 0 := by
  unfold rem
  rw [drop_at h, units_cons, List.drop_append_of_le_length (by rw [unitsP_len]; exact hd)]
  simp

/-- a cursor at block g -/
structure Cur (g : Nat) (T : TypeId) (w : World) (A : Option Addr) (c : Nat) (ps : List Pt) (at_ done : Nat) : Prop where
  box : w.heap[g]? = some (.cells #[.slice A ps.length c, .int .i64 (at_ : Int), .int .i64 (done : Int)] T (0, 0))
  le : at_ ≤ ps.length
  part : ∀ p, ps[at_]? = some p → done ≤ sizeP p
  stop : at_ = ps.length → done = 0
theorem Cur.cell {g : Nat} {T : TypeId} {w : World} {A : Option Addr} {c : Nat} {ps : List Pt} {at_ done : Nat} (h : Cur g T w A c ps at_ done) (i : Nat) : w.cell? ⟨g, i, none⟩ = #[Value.slice A ps.length c, .int .i64 (at_ : Int), .int .i64 (done : Int)][i]? := cell_of_row _ _ i _ _ _ h.box
theorem Cur.free {g : Nat} {T : TypeId} {w : World} {A : Option Addr} {c : Nat} {ps : List Pt} {at_ done : Nat} (h : Cur g T w A c ps at_ done) (o : Nat) : w.frozen? ⟨g, o, none⟩ = false := by simp [World.frozen?, h.box]
theorem Cur.lt {g : Nat} {T : TypeId} {w : World} {A : Option Addr} {c : Nat} {ps : List Pt} {at_ done : Nat} (h : Cur g T w A c ps at_ done) : g < w.heap.size := lt_of_some h.box
theorem Cur.keep {g : Nat} {T : TypeId} {w w' : World} {A : Option Addr} {c : Nat} {ps : List Pt} {at_ done : Nat} (h : Cur g T w A c ps at_ done) (hk : w'.heap[g]? = w.heap[g]?) : Cur g T w' A c ps at_ done := ⟨hk.trans h.box, h.le, h.part, h.stop⟩
/-- the cursor is moved -/
theorem Cur.move {g : Nat} {T : TypeId} {w : World} {A : Option Addr} {c : Nat} {ps : List Pt} {at_ done : Nat} (h : Cur g T w A c ps at_ done) (at' done' : Nat) (h1 : at' ≤ ps.length) (h2 : ∀ p, ps[at']? = some p → done' ≤ sizeP p) (h3 : at' = ps.length → done' = 0) :
    Cur g T ((w.setCell ⟨g, 1, none⟩ (.int .i64 (at' : Int))).setCell ⟨g, 2, none⟩ (.int .i64 (done' : Int))) A c ps at' done' := by
  refine ⟨?_, h1, h2, h3⟩
  rw [heap_setCell_same _ _ _ _ _ _ (heap_setCell_same _ _ _ _ _ _ h.box)]
  rfl
/-- where the cursor stands, off the world -/
def atOf (g : Nat) (w : World) : Nat := match w.cell? ⟨g, 1, none⟩ with
  | some (.int _ n) => n.toNat
  | _ => 0
theorem Cur.atOf {g : Nat} {T : TypeId} {w : World} {A : Option Addr} {c : Nat} {ps : List Pt} {at_ done : Nat} (h : Cur g T w A c ps at_ done) : atOf g w = at_ := by
  unfold low.atOf
  rw [h.cell 1]
  rfl
theorem below_drewN {lo n : Nat} {w wr : World} (h : Below lo w wr) : Below lo w (wr.drewN n) := ⟨h.os, h.tape, h.output, h.size, h.block⟩
theorem fr_drewN {S : Nat → Prop} {n : Nat} {w wr : World} (h : Fr S w wr) : Fr S w (wr.drewN n) := ⟨h.size, h.block⟩
/-- the world has grown alone -/
def KS (wr W : World) : Prop := Below wr.heap.size wr W
theorem KS.start (wr : World) : KS wr wr.drew := (Below.refl _ _).drew
theorem sk_past {wr W W' : World} {g b o : Nat} {v0 v1 v2 u0 u1 u2 : Value} (hg : g < wr.heap.size) (hb : b < wr.heap.size)
    (h : W.cell? ⟨g, 0, none⟩ = some v0 ∧ W.cell? ⟨g, 1, none⟩ = some v1 ∧ W.cell? ⟨g, 2, none⟩ = some v2 ∧ W.cell? ⟨b, o, none⟩ = some u0 ∧ W.cell? ⟨b, o + 1, none⟩ = some u1 ∧ W.cell? ⟨b, o + 2, none⟩ = some u2 ∧ KS wr W) (h2 : Below W.heap.size W W') :
    W'.cell? ⟨g, 0, none⟩ = some v0 ∧ W'.cell? ⟨g, 1, none⟩ = some v1 ∧ W'.cell? ⟨g, 2, none⟩ = some v2 ∧ W'.cell? ⟨b, o, none⟩ = some u0 ∧ W'.cell? ⟨b, o + 1, none⟩ = some u1 ∧ W'.cell? ⟨b, o + 2, none⟩ = some u2 ∧ KS wr W' := by
  obtain ⟨a0, a1, a2, c0, c1, c2, hk⟩ := h
  have hs := hk.size
  have g' : g < W.heap.size := Nat.lt_of_lt_of_le hg hs
  have b' : b < W.heap.size := Nat.lt_of_lt_of_le hb hs
  exact ⟨(h2.cell (p := ⟨g, 0, none⟩) g').trans a0, (h2.cell (p := ⟨g, 1, none⟩) g').trans a1, (h2.cell (p := ⟨g, 2, none⟩) g').trans a2, (h2.cell (p := ⟨b, o, none⟩) b').trans c0, (h2.cell (p := ⟨b, o + 1, none⟩) b').trans c1, (h2.cell (p := ⟨b, o + 2, none⟩) b').trans c2, hk.trans (h2.mono hs)⟩
/-- behind a look at the cursor: it stands at a unit that is not done, or at the end -/
def KindP (lo g : Nat) (T : TypeId) (A : Option Addr) (c : Nat) (ps : List Pt) (R : List U) (w : World) (e : Ending) (w' : World) : Prop :=
  ∃ at_ done, Cur g T w' A c ps at_ done ∧ rem ps at_ done = R ∧ Below lo w w' ∧ Fr (fun b => b = g) w w' ∧
    ((at_ = ps.length ∧ e = .returned (.int .i64 0)) ∨ ∃ p, ps[at_]? = some p ∧ done < sizeP p ∧ e = .returned (.int .i64 p.kind))

end Go.Proofs.Ytninppjomdhnmaa.low


/-
  The specification's cursor: l04Left, l04Take, l04Min.
-/
namespace Go.Proofs.Ytninppjomdhnmaa.low
open Go.RowKit
set_option linter.unusedVariables false

theorem parts_at {w : World} {B : Nat} {A : Option Addr} {n c i : Nat} {ps : List Pt} (h : RdC w B (encPs ps) (.slice A n c)) (hi : i < ps.length) :
    ∃ b off p A1 e1, A = some ⟨b, off, none⟩ ∧ b < B ∧ ps[i]? = some p ∧ w.cell? ⟨b, off + i * 3, none⟩ = some (.int .i64 p.kind) ∧ w.cell? ⟨b, off + i * 3 + 1, none⟩ = some (.int .i64 p.n) ∧ w.cell? ⟨b, off + i * 3 + 2, none⟩ = some (.slice A1 p.signs.length e1) ∧ Row (Value.int .i64) w B A1 p.signs ∧ p.signs.length ≤ e1 := by
  obtain ⟨ad, r, hA, hb, hs, hr, hl⟩ := RdC.at_ (ds := ps.map encPt) h (by simpa using hi)
  rw [List.getElem?_map, List.getElem?_eq_getElem hi] at hr
  obtain rfl : encPt ps[i] = r := by simpa using hr
  obtain ⟨b, off, spot⟩ := ad
  obtain rfl : spot = none := by
    rcases hs with hs | hs
    · cases hs
    · exact hs
  obtain ⟨⟨v0, x0, rfl⟩, ⟨v1, x1, rfl⟩, ⟨v2, x2, r2⟩, _⟩ := hl
  obtain ⟨A1, e1, rfl, r3, hc⟩ := ints_rd r2
  rw [add_at] at x0 x1 x2
  exact ⟨b, off, ps[i], A1, e1, hA, hb, List.getElem?_eq_getElem hi, x0, by simpa [Nat.add_assoc] using x1, by simpa [Nat.add_assoc] using x2, r3, hc⟩

theorem Cur.step {g : Nat} {T : TypeId} {w : World} {A : Option Addr} {c : Nat} {ps : List Pt} {at_ done : Nat} (h : Cur g T w A c ps at_ done) (done' : Nat) (h1 : at_ < ps.length) (h2 : ∀ p, ps[at_]? = some p → done' ≤ sizeP p) :
    Cur g T (w.setCell ⟨g, 2, none⟩ (.int .i64 (done' : Int))) A c ps at_ done' := by
  refine ⟨?_, h.le, h2, fun e => by omega⟩
  rw [heap_setCell_same _ _ _ _ _ _ h.box]
  rfl
/-- behind a take: the piece, and the cursor moved -/
def TakeP (lo g : Nat) (T : TypeId) (A : Option Addr) (c : Nat) (ps : List Pt) (at_ done n : Nat) (p : Pt) (w : World) (e : Ending) (w' : World) : Prop :=
  ∃ A' c', e = .returned (.slice A' n c') ∧ Cur g T w' A c ps at_ (done + n) ∧ Row (Value.int .i64) w' w'.heap.size A' ((p.signs.drop done).take n) ∧ Below lo w w' ∧ Fr (fun b => b = g) w w'

end Go.Proofs.Ytninppjomdhnmaa.low


/-
  Contracts of spec.TextOk, spec.l03Fits and spec.Apply.
-/
namespace Go.Proofs.Ytninppjomdhnmaa.low
open Go.RowKit
set_option linter.unusedVariables false

theorem SmP.all4 {ps : List Pt} (h : SmP ps) : ∀ p ∈ ps, p.signs.length ≤ 4294967296 := fun p hp => Nat.le_trans (h.all p hp) (by omega)

end Go.Proofs.Ytninppjomdhnmaa.low


/-
  Applying several operations, and the idle operation: the functions on lists, and the contracts of spec.ApplyAll and spec.Idle.
-/
namespace Go.Proofs.Ytninppjomdhnmaa.low
open Go.RowKit
set_option linter.unusedVariables false

def idleB (ps : List Pt) : Bool := okOp ps && (putsN ps == 0) && (dropsN ps == 0)
def stepAll (s : Option (List Int)) (ps : List Pt) : Option (List Int) := match s with
  | none => none
  | some t => if fitsB ps t = true then some (applyT ps t) else none
def foldAll (l : List (List Pt)) (t : List Int) : Option (List Int) := l.foldl stepAll (some t)
def applyAllB (l : List (List Pt)) (t : List Int) : Bool := (foldAll l t).isSome && okText t
def applyAllT (l : List (List Pt)) (t : List Int) : List Int := if applyAllB l t = true then (foldAll l t).getD [] else []
theorem foldAll_snoc {l : List (List Pt)} {t : List Int} {k : Nat} {ps : List Pt} (h : l[k]? = some ps) : foldAll (l.take (k + 1)) t = stepAll (foldAll (l.take k) t) ps := by
  unfold foldAll
  rw [List.take_add_one, h]
  simp
theorem fold_none (l : List (List Pt)) : l.foldl stepAll none = none := by
  induction l with
  | nil => rfl
  | cons p l ih => exact ih
theorem foldAll_none {l : List (List Pt)} {t : List Int} {k : Nat} (h : foldAll (l.take k) t = none) : foldAll l t = none := by
  have e : foldAll l t = (l.drop k).foldl stepAll (foldAll (l.take k) t) := by
    unfold foldAll
    rw [← List.foldl_append, List.take_append_drop]
  rw [e, h, fold_none]
/-- what stands behind k operations is the text itself or short -/
theorem foldAll_len {l : List (List Pt)} {t cur : List Int} {k : Nat} (hk : k ≤ l.length) (h : foldAll (l.take k) t = some cur) : cur.length ≤ max t.length 200 := by
  cases k with
  | zero =>
    have : cur = t := by simpa [foldAll] using h.symm
    rw [this]
    omega
  | succ k =>
    obtain ⟨ps, hp⟩ := idx_some (l := l) (i := k) (by omega)
    rw [foldAll_snoc hp] at h
    cases hq : foldAll (l.take k) t with
    | none => rw [hq] at h; cases h
    | some u =>
      rw [hq] at h
      unfold stepAll at h
      simp only at h
      split at h
      · injection h with h
        rw [← h]
        have := apply_len ps u
        omega
      · cases h
theorem applyAll_small {l : List (List Pt)} {t : List Int} (h0 : SmPP l) (h1 : SmI t) : SmI (applyAllT l t) := by
  unfold SmI at *
  unfold applyAllT
  split
  · cases h : foldAll l t with
    | none => simp
    | some cur =>
      have := foldAll_len (l := l) (t := t) (k := l.length) (Nat.le_refl _) (by rw [List.take_length]; exact h)
      simp only [Option.getD_some]
      omega
  · simp

theorem nilOwn (d : Dat) {e : TypeId} {sz lo : Nat} (w : World) (hd : d = .rows e sz []) (h : lo ≤ w.heap.size) : Own lo w.heap.size w d (.slice none 0 0) := by
  subst hd
  exact ⟨[], ⟨[], [], World.ownsRow_nil _ _ _ _, ⟨rfl, rfl⟩, rfl⟩, by simp, fun b hb => by simp at hb, Nat.le_refl _, h⟩
theorem ownInts {lo : Nat} {w : World} {A : Option Addr} {n c : Nat} {zs : List Int} (h : w.ownsRow lo 3 1 (.slice A n c) zs.length (zs.map (Value.int .i64))) (hlo : lo ≤ w.heap.size) : Own lo w.heap.size w (encInts zs) (.slice A n c) :=
  ⟨_, ow_ints h, by cases A <;> simp [Value.ownBlock], fun b hb => by
    have hb' : (Value.slice A n c).ownBlock = some b := by simpa using hb
    exact ⟨own_ge h b hb', own_in h hb'⟩, Nat.le_refl _, hlo⟩

end Go.Proofs.Ytninppjomdhnmaa.low


/-
  The specification's builder in one word each: keep, put, drop, done.
-/
namespace Go.Proofs.Ytninppjomdhnmaa.low
open Go.RowKit
set_option linter.unusedVariables false

end Go.Proofs.Ytninppjomdhnmaa.low


/-
  The inverse of an operation: the function on lists, and the contract of spec.Invert.
-/
namespace Go.Proofs.Ytninppjomdhnmaa.low
open Go.RowKit
set_option linter.unusedVariables false

/-- the inverse of one part, at a position of the text -/
def invP (t : List Int) (at_ : Nat) (p : Pt) : Pt := if p.kind = 1 then ⟨1, p.n, []⟩ else if p.kind = 2 then ⟨3, (p.signs.length : Int), []⟩ else ⟨2, 0, (t.drop at_).take p.n.toNat⟩
def stepI (t : List Int) (s : Nat × List Pt) (p : Pt) : Nat × List Pt := (s.1 + (if p.kind = 2 then 0 else p.n.toNat), s.2 ++ [invP t s.1 p])
def foldI (t : List Int) (ps : List Pt) : Nat × List Pt := ps.foldl (stepI t) (0, [])
def invertT (ps : List Pt) (t : List Int) : List Pt := if fitsB ps t = true then doneN (foldN (foldI t (normL ps)).2) else []
theorem foldI_snoc {t : List Int} {ps : List Pt} {k : Nat} {p : Pt} (h : ps[k]? = some p) : foldI t (ps.take (k + 1)) = stepI t (foldI t (ps.take k)) p := by
  unfold foldI
  rw [List.take_add_one, h]
  simp
theorem invP_sz {t : List Int} {at_ : Nat} {p : Pt} (h : szP_ p) : szP_ (invP t at_ p) := by
  obtain ⟨hk, h0, h1, hz⟩ := h
  unfold invP
  split
  · exact ⟨.inl rfl, h0, h1, by simp⟩
  · split
    · exact ⟨.inr (.inr rfl), by simp, by simp only; omega, by simp⟩
    · exact ⟨.inr (.inl rfl), by simp, by simp, by rw [List.length_take]; omega⟩
theorem foldI_fit {t : List Int} {ps : List Pt} (hok : okPs ps = true) : ∀ k, k ≤ ps.length → ((foldI t (ps.take k)).1 : Int) = sumOf keepOf (ps.take k) + sumOf dropOf (ps.take k) ∧ (foldI t (ps.take k)).2.length = k ∧ ∀ p ∈ (foldI t (ps.take k)).2, szP_ p
  | 0, _ => by simp [foldI, sumOf]
  | k + 1, hk => by
    obtain ⟨p, hp⟩ := idx_some (l := ps) (i := k) (by omega)
    obtain ⟨i1, i2, i3⟩ := foldI_fit (t := t) hok k (by omega)
    have hok' := okPs_at hp hok
    have hp' := of_okPt hok'
    rw [foldI_snoc hp, sumOf_snoc hp, sumOf_snoc hp]
    generalize foldI t (ps.take k) = s at *
    generalize sumOf keepOf (ps.take k) = q1 at *
    generalize sumOf dropOf (ps.take k) = q3 at *
    refine ⟨?_, by simp [stepI, i2], fun q hq => ?_⟩
    · unfold stepI keepOf dropOf
      rcases (show p.kind = 1 ∨ p.kind = 2 ∨ p.kind = 3 by omega) with e | e | e
      · simp [e]; omega
      · simp [e]; omega
      · simp [e]; omega
    · rcases List.mem_append.1 hq with hq | hq
      · exact i3 q hq
      · simp at hq
        subst hq
        exact invP_sz (szP_of hok')
/-- the normal form of a fitting operation -/
theorem fits_norm {ps : List Pt} {t : List Int} (h : fitsB ps t = true) : okPs (normL ps) = true ∧ (normL ps).length ≤ 600 ∧ sumOf keepOf (normL ps) + sumOf dropOf (normL ps) = (t.length : Int) := by
  obtain ⟨_, _, h3, _, _, _, h7⟩ := fits_of h
  obtain ⟨n1, _, s1, s2, s3⟩ := norm_ok h7
  obtain ⟨a1, a2, _⟩ := okOp_of n1
  exact ⟨a1, a2, by rw [s1, s3]; exact h3⟩
theorem foldI_in {t : List Int} {qs : List Pt} {k : Nat} {p : Pt} (h1 : okPs qs = true) (h3 : sumOf keepOf qs + sumOf dropOf qs = (t.length : Int)) (hp : qs[k]? = some p) (hk : p.kind = 1 ∨ p.kind = 3) : ((foldI t (qs.take k)).1 : Int) + p.n ≤ (t.length : Int) := by
  have hlt := idx_lt hp
  have f := (foldI_fit (t := t) h1 k (by omega)).1
  have a1 := sumOf_take (f := keepOf) (ps := qs) (fun q hq => (ok_bd (okPs_mem' h1 hq)).1.1) (k + 1)
  have a2 := sumOf_take (f := dropOf) (ps := qs) (fun q hq => (ok_bd (okPs_mem' h1 hq)).2.2.1) (k + 1)
  rw [sumOf_snoc hp] at a1 a2
  have : keepOf p + dropOf p = p.n := by
    unfold keepOf dropOf
    rcases hk with e | e <;> simp [e]
  omega
theorem foldI_at {t : List Int} {qs : List Pt} (h1 : okPs qs = true) (h3 : sumOf keepOf qs + sumOf dropOf qs = (t.length : Int)) {k : Nat} (hk : k ≤ qs.length) : (foldI t (qs.take k)).1 ≤ t.length := by
  have f := (foldI_fit (t := t) h1 k hk).1
  have a1 := sumOf_take (f := keepOf) (ps := qs) (fun q hq => (ok_bd (okPs_mem' h1 hq)).1.1) k
  have a2 := sumOf_take (f := dropOf) (ps := qs) (fun q hq => (ok_bd (okPs_mem' h1 hq)).2.2.1) k
  omega
theorem built_small {L : List Pt} (h : ∀ p ∈ L, szP_ p) (hl : L.length ≤ 5000) : SmP (doneN (foldN L)) := by
  have := (foldN_fitZ h).done
  have := signsIn_le h
  exact ⟨by omega, by omega⟩
theorem invert_small {ps : List Pt} {t : List Int} (h0 : SmP ps) (h1 : SmI t) : SmP (invertT ps t) := by
  unfold invertT
  split
  · rename_i h
    obtain ⟨n1, n2, n3⟩ := fits_norm h
    have f := foldI_fit (t := t) n1 (normL ps).length (Nat.le_refl _)
    rw [List.take_length] at f
    exact built_small f.2.2 (by omega)
  · exact ⟨by simp, by simp [signsIn]⟩

end Go.Proofs.Ytninppjomdhnmaa.low


/-
  spec.Compose: the function on lists, and the contract.
-/
namespace Go.Proofs.Ytninppjomdhnmaa.low
open Go.RowKit
set_option linter.unusedVariables false

def kindOf : List U → Int
  | [] => 0
  | .k :: _ => 1
  | .p _ :: _ => 2
  | .d :: _ => 3
/-- the cursor stands at a unit of the part p that is not done, or at the end -/
def Stands (ps : List Pt) (at_ done : Nat) (R : List U) : Prop := (at_ = ps.length ∧ R = []) ∨ ∃ p, ps[at_]? = some p ∧ done < sizeP p ∧ kindOf R = p.kind ∧ R = (unitsP p).drop done ++ rem ps (at_ + 1) 0
def KindQ (lo g : Nat) (T : TypeId) (A : Option Addr) (c : Nat) (ps : List Pt) (R : List U) (w : World) (e : Ending) (w' : World) : Prop :=
  e = .returned (.int .i64 (kindOf R)) ∧ ∃ at_ done, Cur g T w' A c ps at_ done ∧ rem ps at_ done = R ∧ Stands ps at_ done R ∧ Below lo w w' ∧ Fr (fun b => b = g) w w'
theorem kind_unitsP {p : Pt} (h : szP_ p) {done : Nat} (hd : done < sizeP p) (r : List U) : kindOf ((unitsP p).drop done ++ r) = p.kind := by
  obtain ⟨pk, pn, pz⟩ := p
  obtain ⟨hk, _⟩ := h
  simp only at hk
  rcases hk with rfl | rfl | rfl
  · have hd' : done < pn.toNat := by simpa [sizeP] using hd
    have e : unitsP ⟨1, pn, pz⟩ = List.replicate pn.toNat .k := by simp [unitsP]
    rw [e, List.drop_replicate, show pn.toNat - done = (pn.toNat - done - 1) + 1 by omega, List.replicate_succ]
    rfl
  · have hd' : done < pz.length := by simpa [sizeP] using hd
    have e : unitsP ⟨2, pn, pz⟩ = pz.map .p := by simp [unitsP]
    obtain ⟨z, hz⟩ := idx_some (l := pz) (i := done) hd'
    rw [e, ← List.map_drop, drop_at hz]
    rfl
  · have hd' : done < pn.toNat := by simpa [sizeP] using hd
    have e : unitsP ⟨3, pn, pz⟩ = List.replicate pn.toNat .d := by simp [unitsP]
    rw [e, List.drop_replicate, show pn.toNat - done = (pn.toNat - done - 1) + 1 by omega, List.replicate_succ]
    rfl
/-- the composition -/
def compL (a b : List Pt) : List Pt := doneN (foldU (comp (units a) (units b)))
def composeB (a b : List Pt) : Bool := okOp a && okOp b && (sumK a + sumP a == sumK b + sumD b) && okOp (compL a b)
def composeT (a b : List Pt) : List Pt := if composeB a b = true then compL a b else []
end Go.Proofs.Ytninppjomdhnmaa.low


/-
  Composition: the loop's invariant on units, how a round goes on, what a chunk of units is.
-/
namespace Go.Proofs.Ytninppjomdhnmaa.low
open Go.RowKit
set_option linter.unusedVariables false

/-- the loop's invariant -/
structure CInv (a b : List Pt) (RX RY : List U) (L : List Pt) : Prop where
  eq : units L ++ comp RX RY = comp (units a) (units b)
  bal : tgt RX = src RY
  len : L.length + RX.length + RY.length ≤ 2000
theorem CInv.drop {a b : List Pt} {n : Nat} {RX RY : List U} {L : List Pt} (h : CInv a b (List.replicate n .d ++ RX) RY L) (hn : 0 < n) : CInv a b RX RY (L ++ [⟨3, (n : Int), []⟩]) := by
  refine ⟨?_, ?_, ?_⟩
  · rw [← h.eq, comp_ds, units_app]
    simp [units, unitsP]
  · have := h.bal; rwa [tgt_app, (src_rd n).2, Nat.zero_add] at this
  · have := h.len; simp at this ⊢; omega
theorem CInv.put {a b : List Pt} {zs : List Int} {RX RY : List U} {L : List Pt} (h : CInv a b RX (zs.map .p ++ RY) L) (hd : noD RX) (hn : 0 < zs.length) : CInv a b RX RY (L ++ [⟨2, 0, zs⟩]) := by
  refine ⟨?_, ?_, ?_⟩
  · rw [← h.eq, comp_puts zs _ _ hd, units_app]
    simp [units, unitsP]
  · have := h.bal; rwa [src_app, (src_mp zs).1, Nat.zero_add] at this
  · have := h.len; simp at this ⊢; omega
theorem CInv.kk {a b : List Pt} {n : Nat} {RX RY : List U} {L : List Pt} (h : CInv a b (List.replicate n .k ++ RX) (List.replicate n .k ++ RY) L) (hn : 0 < n) : CInv a b RX RY (L ++ [⟨1, (n : Int), []⟩]) := by
  refine ⟨?_, ?_, ?_⟩
  · rw [← h.eq, comp_kk, units_app]
    simp [units, unitsP]
  · have := h.bal; rw [tgt_app, src_app, (src_rk n).1, (src_rk n).2] at this; omega
  · have := h.len; simp at this ⊢; omega
theorem CInv.kd {a b : List Pt} {n : Nat} {RX RY : List U} {L : List Pt} (h : CInv a b (List.replicate n .k ++ RX) (List.replicate n .d ++ RY) L) (hn : 0 < n) : CInv a b RX RY (L ++ [⟨3, (n : Int), []⟩]) := by
  refine ⟨?_, ?_, ?_⟩
  · rw [← h.eq, comp_kd, units_app]
    simp [units, unitsP]
  · have := h.bal; rw [tgt_app, src_app, (src_rk n).2, (src_rd n).1] at this; omega
  · have := h.len; simp at this ⊢; omega
theorem CInv.pk {a b : List Pt} {zs : List Int} {RX RY : List U} {L : List Pt} (h : CInv a b (zs.map .p ++ RX) (List.replicate zs.length .k ++ RY) L) (hn : 0 < zs.length) : CInv a b RX RY (L ++ [⟨2, 0, zs⟩]) := by
  refine ⟨?_, ?_, ?_⟩
  · rw [← h.eq, comp_pk, units_app]
    simp [units, unitsP]
  · have := h.bal; rw [tgt_app, src_app, (src_mp zs).2, (src_rk zs.length).1] at this; omega
  · have := h.len; simp at this ⊢; omega
theorem CInv.pd {a b : List Pt} {zs : List Int} {RX RY : List U} {L : List Pt} (h : CInv a b (zs.map .p ++ RX) (List.replicate zs.length .d ++ RY) L) : CInv a b RX RY L := by
  refine ⟨?_, ?_, ?_⟩
  · rw [← h.eq, comp_pd]
  · have := h.bal; rw [tgt_app, src_app, (src_mp zs).2, (src_rd zs.length).1] at this; omega
  · have := h.len; simp at this ⊢; omega
theorem okOp_units {a : List Pt} (h : okOp a = true) : (units a).length ≤ 600 ∧ (∀ p ∈ a, szP_ p) ∧ a.length ≤ 600 := by
  obtain ⟨h1, h2, h3, h4, h5, h6, h7⟩ := okOp_of h
  have hz := okPs_sz h1
  obtain ⟨s1, s2⟩ := src_units hz
  refine ⟨?_, hz, h2⟩
  have : ∀ us : List U, us.length ≤ src us + tgt us := by
    intro us
    induction us with
    | nil => simp
    | cons u us ih => cases u <;> simp [src, tgt] <;> omega
  have := this (units a)
  omega
/-- how a round goes on -/
theorem comp_cases {RX RY : List U} (h : tgt RX = src RY) : (RX = [] ∧ RY = []) ∨ kindOf RX = 3 ∨ (noD RX ∧ kindOf RX = 0 ∧ kindOf RY = 2) ∨ (noD RX ∧ (kindOf RX = 1 ∨ kindOf RX = 2) ∧ kindOf RY = 2) ∨ (noD RX ∧ (kindOf RX = 1 ∨ kindOf RX = 2) ∧ (kindOf RY = 1 ∨ kindOf RY = 3)) := by
  rcases RX with _ | ⟨ux, RX⟩
  · rcases RY with _ | ⟨uy, RY⟩
    · exact .inl ⟨rfl, rfl⟩
    · cases uy with
      | k => simp [tgt, src] at h
      | p z => exact .inr (.inr (.inl ⟨trivial, rfl, rfl⟩))
      | d => simp [tgt, src] at h
  · cases ux with
    | d => exact .inr (.inl rfl)
    | k =>
      rcases RY with _ | ⟨uy, RY⟩
      · simp [tgt, src] at h
      · cases uy with
        | k => exact .inr (.inr (.inr (.inr ⟨trivial, .inl rfl, .inl rfl⟩)))
        | p z => exact .inr (.inr (.inr (.inl ⟨trivial, .inl rfl, rfl⟩)))
        | d => exact .inr (.inr (.inr (.inr ⟨trivial, .inl rfl, .inr rfl⟩)))
    | p z' =>
      rcases RY with _ | ⟨uy, RY⟩
      · simp [tgt, src] at h
      · cases uy with
        | k => exact .inr (.inr (.inr (.inr ⟨trivial, .inr rfl, .inl rfl⟩)))
        | p z => exact .inr (.inr (.inr (.inl ⟨trivial, .inr rfl, rfl⟩)))
        | d => exact .inr (.inr (.inr (.inr ⟨trivial, .inr rfl, .inr rfl⟩)))

theorem rem_chunk {ps : List Pt} {at_ d n : Nat} {p : Pt} (h : ps[at_]? = some p) (hd : d + n ≤ sizeP p) : rem ps at_ d = ((unitsP p).drop d).take n ++ rem ps at_ (d + n) := by
  rw [rem_in h (by omega), rem_in h hd, ← List.append_assoc]
  congr 1
  rw [← List.drop_drop, List.take_append_drop]
theorem chunk_k {p : Pt} {d n : Nat} (hk : p.kind = 1) (hd : d + n ≤ sizeP p) : ((unitsP p).drop d).take n = List.replicate n .k := by
  have e : unitsP p = List.replicate p.n.toNat .k := by simp [unitsP, hk]
  have hs : sizeP p = p.n.toNat := by simp [sizeP, hk]
  rw [e, List.drop_replicate, List.take_replicate]
  congr 1
  omega
theorem chunk_d {p : Pt} {d n : Nat} (hk : p.kind = 3) (hd : d + n ≤ sizeP p) : ((unitsP p).drop d).take n = List.replicate n .d := by
  have e : unitsP p = List.replicate p.n.toNat .d := by simp [unitsP, hk]
  have hs : sizeP p = p.n.toNat := by simp [sizeP, hk]
  rw [e, List.drop_replicate, List.take_replicate]
  congr 1
  omega
theorem chunk_p {p : Pt} {d n : Nat} (hk : p.kind = 2) : ((unitsP p).drop d).take n = ((p.signs.drop d).take n).map .p := by
  have e : unitsP p = p.signs.map .p := by simp [unitsP, hk]
  rw [e, ← List.map_drop, ← List.map_take]
theorem okOp_partsB {ps : List Pt} (h : okOp ps = true) : partsB ps = true := by
  unfold okOp at h
  cases hp : partsB ps
  · rw [hp] at h; simp at h
  · rfl
theorem rem_mono {ps : List Pt} {i j : Nat} (h : i ≤ j) : (rem ps j 0).length ≤ (rem ps i 0).length := by
  obtain ⟨k, rfl⟩ := Nat.le.dest h
  unfold rem
  simp only [List.drop_zero]
  rw [← List.drop_drop]
  generalize ps.drop i = qs
  have e : units qs = units (qs.take k) ++ units (qs.drop k) := by rw [← units_app, List.take_append_drop]
  rw [e, List.length_append]
  omega
theorem rem_le0 (ps : List Pt) (i d : Nat) : (rem ps i d).length ≤ (rem ps i 0).length := by
  unfold rem
  simp
/-- a cursor that stands at a unit that is not done stands at one place alone -/
theorem stand_unique {ps : List Pt} {i d i' d' : Nat} {p p' : Pt} (h : ps[i]? = some p) (hd : d < sizeP p) (h' : ps[i']? = some p') (hd' : d' < sizeP p') (e : rem ps i d = rem ps i' d') : i = i' ∧ d = d' := by
  have l := congrArg List.length e
  have l1 : (rem ps i d).length = sizeP p - d + (rem ps (i + 1) 0).length := by rw [rem_in h (Nat.le_of_lt hd), List.length_append, List.length_drop, unitsP_len]
  have l2 : (rem ps i' d').length = sizeP p' - d' + (rem ps (i' + 1) 0).length := by rw [rem_in h' (Nat.le_of_lt hd'), List.length_append, List.length_drop, unitsP_len]
  rcases Nat.lt_trichotomy i i' with hlt | rfl | hgt
  · have a1 := rem_mono (ps := ps) (i := i + 1) (j := i') (by omega)
    have a2 := rem_le0 ps i' d'
    omega
  · rw [h] at h'
    injection h' with h'
    subst h'
    exact ⟨rfl, by omega⟩
  · have a1 := rem_mono (ps := ps) (i := i' + 1) (j := i) (by omega)
    have a2 := rem_le0 ps i d
    omega
/-- m units of the part at which a cursor stands are left: the first m units of R are of one kind -/
def Lead (R : List U) (m : Nat) : Prop := (R = [] ∧ m = 0) ∨ (0 < m ∧ m ≤ 200 ∧ m ≤ R.length ∧ ((kindOf R = 1 ∧ R.take m = List.replicate m .k) ∨ (kindOf R = 3 ∧ R.take m = List.replicate m .d) ∨ (kindOf R = 2 ∧ ∃ zs : List Int, R.take m = zs.map .p)))
theorem take_rep {R : List U} {u : U} {m n : Nat} (h : R.take m = List.replicate m u) (hn : n ≤ m) : R = List.replicate n u ++ R.drop n := by
  have e : R.take n = List.replicate n u := by
    have := congrArg (List.take n) h
    rwa [List.take_take, Nat.min_eq_left hn, List.take_replicate, Nat.min_eq_left hn] at this
  rw [← e, List.take_append_drop]
theorem Lead.k {R : List U} {m n : Nat} (h : Lead R m) (hk : kindOf R = 1) (hn : n ≤ m) : R = List.replicate n .k ++ R.drop n := by
  rcases h with ⟨rfl, rfl⟩ | ⟨_, _, _, ⟨_, h⟩ | ⟨h, _⟩ | ⟨h, _⟩⟩
  · obtain rfl : n = 0 := by omega
    rfl
  · exact take_rep h hn
  · omega
  · omega
theorem Lead.d {R : List U} {m n : Nat} (h : Lead R m) (hk : kindOf R = 3) (hn : n ≤ m) : R = List.replicate n .d ++ R.drop n := by
  rcases h with ⟨rfl, rfl⟩ | ⟨_, _, _, ⟨h, _⟩ | ⟨_, h⟩ | ⟨h, _⟩⟩
  · obtain rfl : n = 0 := by omega
    rfl
  · omega
  · exact take_rep h hn
  · omega
theorem Lead.p {R : List U} {m n : Nat} (h : Lead R m) (hk : kindOf R = 2) (hn : n ≤ m) : ∃ zs : List Int, zs.length = n ∧ R = zs.map .p ++ R.drop n := by
  rcases h with ⟨rfl, rfl⟩ | ⟨_, _, hl, ⟨h, _⟩ | ⟨h, _⟩ | ⟨_, zs, h⟩⟩
  · obtain rfl : n = 0 := by omega
    exact ⟨[], rfl, rfl⟩
  · omega
  · omega
  · have e : R.take n = (zs.take n).map .p := by
      have := congrArg (List.take n) h
      rwa [List.take_take, Nat.min_eq_left hn, ← List.map_take] at this
    have l := congrArg List.length e
    rw [List.length_take, List.length_map] at l
    exact ⟨zs.take n, by omega, by rw [← e, List.take_append_drop]⟩
theorem Lead.pos {R : List U} {m : Nat} (h : Lead R m) (hk : ¬ kindOf R = 0) : 0 < m ∧ m ≤ 200 ∧ m ≤ R.length := by
  rcases h with ⟨rfl, _⟩ | ⟨h1, h2, h3, _⟩
  · exact absurd rfl hk
  · exact ⟨h1, h2, h3⟩
theorem Lead.of {ps : List Pt} {at_ d : Nat} {p : Pt} (h : ps[at_]? = some p) (hz : szP_ p) (hd : d < sizeP p) : Lead (rem ps at_ d) (sizeP p - d) := by
  have hs := sizeP_le hz
  have hl : ((unitsP p).drop d).length = sizeP p - d := by rw [List.length_drop, unitsP_len]
  have e := rem_in h (Nat.le_of_lt hd)
  have hk := kind_unitsP hz hd (rem ps (at_ + 1) 0)
  rw [← e] at hk
  have et : (rem ps at_ d).take (sizeP p - d) = (unitsP p).drop d := by
    rw [e, List.take_append_of_le_length (by omega), List.take_of_length_le (by omega)]
  refine .inr ⟨by omega, by omega, by rw [e, List.length_append, hl]; omega, ?_⟩
  rw [hk, et]
  have ec : (unitsP p).drop d = ((unitsP p).drop d).take (sizeP p - d) := (List.take_of_length_le (by omega)).symm
  rcases hz.1 with hk1 | hk1 | hk1
  · exact .inl ⟨hk1, by rw [ec]; exact chunk_k hk1 (by omega)⟩
  · exact .inr (.inr ⟨hk1, _, by rw [ec]; exact chunk_p hk1⟩)
  · exact .inr (.inl ⟨hk1, by rw [ec]; exact chunk_d hk1 (by omega)⟩)
theorem rem_adv (ps : List Pt) (i d n : Nat) : rem ps i (d + n) = (rem ps i d).drop n := by
  unfold rem
  rw [List.drop_drop]
theorem mp_len {R : List U} {zs : List Int} {n : Nat} (h : R.take n = zs.map .p) (hn : n ≤ R.length) : zs.length = n ∧ R = zs.map .p ++ R.drop n := by
  have := congrArg List.length h
  rw [List.length_take, List.length_map, Nat.min_eq_left hn] at this
  exact ⟨this.symm, by rw [← h, List.take_append_drop]⟩
end Go.Proofs.Ytninppjomdhnmaa.low


/-
  Two cursors of the specification over two operations (Cs), in the words of the units that are left: what each call makes of them.
-/
namespace Go.Proofs.Ytninppjomdhnmaa.low
open Go.RowKit
set_option linter.unusedVariables false

def doneOf (g : Nat) (w : World) : Nat := match w.cell? ⟨g, 2, none⟩ with
  | some (.int _ n) => n.toNat
  | _ => 0
theorem Cur.doneOf {g : Nat} {T : TypeId} {w : World} {A : Option Addr} {c : Nat} {ps : List Pt} {at_ done : Nat} (h : Cur g T w A c ps at_ done) : doneOf g w = done := by
  unfold low.doneOf
  rw [h.cell 2]
  rfl
def remLen (g : Nat) (ps : List Pt) (w : World) : Nat := (rem ps (atOf g w) (doneOf g w)).length
theorem Cur.remLen {g : Nat} {T : TypeId} {w : World} {A : Option Addr} {c : Nat} {ps : List Pt} {at_ done : Nat} (h : Cur g T w A c ps at_ done) : remLen g ps w = (rem ps at_ done).length := by
  unfold low.remLen
  rw [h.atOf, h.doneOf]
/-- what stays: where the cursors lie, and the operations -/
structure Fx where
  lo : Nat
  gx : Nat
  gy : Nat
  TC : TypeId
  A : Option Addr
  ca : Nat
  a : List Pt
  B : Option Addr
  cb : Nat
  b : List Pt
def Fx.swap (K : Fx) : Fx := ⟨K.lo, K.gy, K.gx, K.TC, K.B, K.cb, K.b, K.A, K.ca, K.a⟩
/-- the cursor stands at a part of which m units are left, or at the end -/
def Sett (ps : List Pt) (at_ done : Nat) : Option Nat → Prop
  | none => True
  | some m => (at_ = ps.length ∧ m = 0) ∨ ∃ p, ps[at_]? = some p ∧ done < sizeP p ∧ m = sizeP p - done
structure Cs (K : Fx) (w : World) (sx sy : Option Nat) (RX RY : List U) : Prop where
  ex : ∃ i d, Cur K.gx K.TC w K.A K.ca K.a i d ∧ rem K.a i d = RX ∧ Sett K.a i d sx
  ey : ∃ i d, Cur K.gy K.TC w K.B K.cb K.b i d ∧ rem K.b i d = RY ∧ Sett K.b i d sy
  ra : RdC w K.lo (encPs K.a) (.slice K.A K.a.length K.ca)
  rb : RdC w K.lo (encPs K.b) (.slice K.B K.b.length K.cb)
  ne : ¬ K.gx = K.gy
  lx : K.lo ≤ K.gx
  ly : K.lo ≤ K.gy
  sa : ∀ p ∈ K.a, szP_ p
  sb : ∀ p ∈ K.b, szP_ p
  na : K.a.length ≤ 1048576
  nb : K.b.length ≤ 1048576
section
variable {K : Fx} {w w' : World} {sx sy : Option Nat} {RX RY : List U}
theorem Cs.swap (h : Cs K w sx sy RX RY) : Cs K.swap w sy sx RY RX := ⟨h.ey, h.ex, h.rb, h.ra, fun e => h.ne e.symm, h.ly, h.lx, h.sb, h.sa, h.nb, h.na⟩
theorem Cs.back (h : Cs K.swap w sx sy RX RY) : Cs K w sy sx RY RX := ⟨h.ey, h.ex, h.rb, h.ra, fun e => h.ne e.symm, h.ly, h.lx, h.sb, h.sa, h.nb, h.na⟩
theorem Cs.xlt (h : Cs K w sx sy RX RY) : K.gx < w.heap.size := by obtain ⟨_, _, hc, _⟩ := h.ex; exact hc.lt
theorem Cs.ylt (h : Cs K w sx sy RX RY) : K.gy < w.heap.size := by obtain ⟨_, _, hc, _⟩ := h.ey; exact hc.lt
theorem Cs.keep (h : Cs K w sx sy RX RY) (hx : w'.heap[K.gx]? = w.heap[K.gx]?) (hy : w'.heap[K.gy]? = w.heap[K.gy]?) (hb : Below K.lo w w') : Cs K w' sx sy RX RY := by
  obtain ⟨i, d, h1, h2, h3⟩ := h.ex
  obtain ⟨j, e, k1, k2, k3⟩ := h.ey
  exact ⟨⟨i, d, h1.keep hx, h2, h3⟩, ⟨j, e, k1.keep hy, k2, k3⟩, h.ra.below hb, h.rb.below hb, h.ne, h.lx, h.ly, h.sa, h.sb, h.na, h.nb⟩
theorem Cs.past (h : Cs K w sx sy RX RY) (hb : Below w.heap.size w w') : Cs K w' sx sy RX RY :=
  h.keep (hb.block _ h.xlt) (hb.block _ h.ylt) (hb.mono (Nat.le_trans h.lx (Nat.le_of_lt h.xlt)))
theorem Cs.grew {O O' : Nat → Prop} (h : Cs K w sx sy RX RY) (hg : Grew O O' w w') (hb : Below K.lo w w') (hx : ¬ O K.gx) (hy : ¬ O K.gy) : Cs K w' sx sy RX RY :=
  h.keep (hg.block _ h.xlt hx) (hg.block _ h.ylt hy) hb
theorem Cs.weak (h : Cs K w sx sy RX RY) : Cs K w none none RX RY := by
  obtain ⟨i, d, h1, h2, h3⟩ := h.ex
  obtain ⟨j, e, k1, k2, k3⟩ := h.ey
  exact ⟨⟨i, d, h1, h2, trivial⟩, ⟨j, e, k1, k2, trivial⟩, h.ra, h.rb, h.ne, h.lx, h.ly, h.sa, h.sb, h.na, h.nb⟩
/-- the first cursor was moved -/
theorem Cs.mov {sx' : Option Nat} {RX' : List U} (h : Cs K w sx sy RX RY) (hx : ∃ i d, Cur K.gx K.TC w' K.A K.ca K.a i d ∧ rem K.a i d = RX' ∧ Sett K.a i d sx') (hb : Below K.lo w w') (hf : Fr (fun q => q = K.gx) w w') : Cs K w' sx' sy RX' RY := by
  obtain ⟨j, e, k1, k2, k3⟩ := h.ey
  exact ⟨hx, ⟨j, e, k1.keep (hf.block _ k1.lt (fun e => h.ne e.symm)), k2, k3⟩, h.ra.below hb, h.rb.below hb, h.ne, h.lx, h.ly, h.sa, h.sb, h.na, h.nb⟩
theorem Cs.lead {m : Nat} (h : Cs K w (some m) sy RX RY) : Lead RX m := by
  obtain ⟨i, d, h1, rfl, h3⟩ := h.ex
  rcases h3 with ⟨e, rfl⟩ | ⟨p, hp, hd, rfl⟩
  · exact .inl ⟨rem_end (by omega) d, rfl⟩
  · exact Lead.of hp (h.sa p (List.mem_of_getElem? hp)) hd
/-- how much there is to do -/
def muC (K : Fx) (w : World) : Nat := remLen K.gx K.a w + remLen K.gy K.b w
theorem Cs.mu (h : Cs K w sx sy RX RY) : muC K w = RX.length + RY.length := by
  obtain ⟨i, d, h1, rfl, _⟩ := h.ex
  obtain ⟨j, e, k1, rfl, _⟩ := h.ey
  unfold muC
  rw [h1.remLen, k1.remLen]
/-- the first cursor goes on by n -/
theorem Cs.adv {m : Nat} (h : Cs K w (some m) sy RX RY) (hk : ¬ kindOf RX = 0) : ∃ d : Nat, d ≤ 200 ∧ w.cell? ⟨K.gx, 2, none⟩ = some (.int .i64 (d : Int)) ∧ w.frozen? ⟨K.gx, 2, none⟩ = false ∧ ∀ n, n ≤ m → Cs K (w.setCell ⟨K.gx, 2, none⟩ (.int .i64 ((d : Int) + (n : Int)))) none sy (RX.drop n) RY := by
  obtain ⟨i, d, h1, rfl, h3⟩ := h.ex
  rcases h3 with ⟨e, rfl⟩ | ⟨p, hp, hd, rfl⟩
  · exact absurd (by rw [rem_end (by omega) d]; rfl) hk
  · have hz := sizeP_le (h.sa p (List.mem_of_getElem? hp))
    have c2 := h1.cell 2
    simp at c2
    refine ⟨d, by omega, c2, h1.free 2, fun n hn => ?_⟩
    have hst := h1.step (d + n) (idx_lt hp) (fun q hq => by rw [hp] at hq; injection hq with hq; subst hq; omega)
    have ec : ((d + n : Nat) : Int) = (d : Int) + (n : Int) := by omega
    rw [ec] at hst
    exact h.mov ⟨i, d + n, hst, rem_adv _ _ _ _, trivial⟩ ((Below.refl _ _).setCell h.lx _) ((Fr.refl (fun q => q = K.gx) w).setCell (p := ⟨K.gx, 2, none⟩) rfl _)
end
/-- behind a look at the first cursor -/
def KindC (K : Fx) (sx sy : Option Nat) (RX RY : List U) (w : World) (e : Ending) (w' : World) : Prop :=
  e = .returned (.int .i64 (kindOf RX)) ∧ ∃ m, (∀ q, sx = some q → m = q) ∧ Cs K w' (some m) sy RX RY ∧ Below K.lo w w' ∧ Fr (fun q => q = K.gx) w w'
def LeftC (K : Fx) (m : Nat) (sy : Option Nat) (RX RY : List U) (w : World) (e : Ending) (w' : World) : Prop := e = .returned (.int .i64 (m : Int)) ∧ Cs K w' (some m) sy RX RY ∧ Below w.heap.size w w'
/-- behind a take of n: the piece, and the cursor moved -/
def TakeC (K : Fx) (n : Nat) (sy : Option Nat) (RX RY : List U) (w : World) (e : Ending) (w' : World) : Prop :=
  ∃ A' c' zs, e = .returned (.slice A' n c') ∧ zs.length = n ∧ RX = zs.map .p ++ RX.drop n ∧ Row (Value.int .i64) w' w'.heap.size A' zs ∧ Cs K w' none sy (RX.drop n) RY ∧ Below K.lo w w' ∧ Fr (fun q => q = K.gx) w w'
end Go.Proofs.Ytninppjomdhnmaa.low


/-
  Two cursors and a builder (CB): what each call of the specification makes of them.
-/
namespace Go.Proofs.Ytninppjomdhnmaa.low
open Go.RowKit
set_option linter.unusedVariables false

structure CB (K : Fx) (go : Nat) (TB : TypeId) (O : Nat → Prop) (L : List Pt) (w : World) (sx sy : Option Nat) (RX RY : List U) : Prop where
  cs : Cs K w sx sy RX RY
  bd : Bld O K.lo go TB w L
  ox : ¬ O K.gx
  oy : ¬ O K.gy
section
variable {K : Fx} {go : Nat} {TB : TypeId} {O O' : Nat → Prop} {L L' : List Pt} {w w' : World} {sx sy sx' sy' : Option Nat} {RX RY RX' RY' : List U}
theorem CB.mov (h : CB K go TB O L w sx sy RX RY) (hc : Cs K w' sx' sy' RX' RY') (hf : Fr (fun q => q = K.gx) w w') : CB K go TB O L w' sx' sy' RX' RY' :=
  ⟨hc, h.bd.keep hf.size (fun q hq ho => hf.block q hq (fun e => h.ox (by rw [← e]; exact ho))), h.ox, h.oy⟩
theorem CB.movy (h : CB K go TB O L w sx sy RX RY) (hc : Cs K w' sx' sy' RX' RY') (hf : Fr (fun q => q = K.gy) w w') : CB K go TB O L w' sx' sy' RX' RY' :=
  ⟨hc, h.bd.keep hf.size (fun q hq ho => hf.block q hq (fun e => h.oy (by rw [← e]; exact ho))), h.ox, h.oy⟩
theorem CB.past (h : CB K go TB O L w sx sy RX RY) (hb : Below w.heap.size w w') : CB K go TB O L w' sx sy RX RY := ⟨h.cs.past hb, h.bd.past hb, h.ox, h.oy⟩
theorem CB.bldr (h : CB K go TB O L w sx sy RX RY) (hd : Bld O' K.lo go TB w' L') (hb : Below K.lo w w') (hg : Grew O O' w w') : CB K go TB O' L' w' sx sy RX RY :=
  ⟨h.cs.grew hg hb h.ox h.oy, hd, fun ho => by rcases hg.more _ ho with h1 | h1; exact h.ox h1; have := h.cs.xlt; omega, fun ho => by rcases hg.more _ ho with h1 | h1; exact h.oy h1; have := h.cs.ylt; omega⟩
theorem CB.weak (h : CB K go TB O L w sx sy RX RY) : CB K go TB O L w none none RX RY := ⟨h.cs.weak, h.bd, h.ox, h.oy⟩
theorem fr_set2 (g : Nat) (w : World) (x : Value) : Fr (fun q => q = g) w (w.setCell ⟨g, 2, none⟩ x) := (Fr.refl (fun q => q = g) w).setCell (p := ⟨g, 2, none⟩) rfl x
/-- the first cursor goes on by n -/
theorem CB.adv {m : Nat} (h : CB K go TB O L w (some m) sy RX RY) (hk : ¬ kindOf RX = 0) : ∃ d : Nat, d ≤ 200 ∧ w.cell? ⟨K.gx, 2, none⟩ = some (.int .i64 (d : Int)) ∧ w.frozen? ⟨K.gx, 2, none⟩ = false ∧ ∀ n, n ≤ m → CB K go TB O L (w.setCell ⟨K.gx, 2, none⟩ (.int .i64 ((d : Int) + (n : Int)))) none sy (RX.drop n) RY := by
  obtain ⟨d, h1, h2, h3, h4⟩ := h.cs.adv hk
  exact ⟨d, h1, h2, h3, fun n hn => h.mov (h4 n hn) (fr_set2 _ _ _)⟩
theorem CB.advy {m : Nat} (h : CB K go TB O L w sx (some m) RX RY) (hk : ¬ kindOf RY = 0) : ∃ d : Nat, d ≤ 200 ∧ w.cell? ⟨K.gy, 2, none⟩ = some (.int .i64 (d : Int)) ∧ w.frozen? ⟨K.gy, 2, none⟩ = false ∧ ∀ n, n ≤ m → CB K go TB O L (w.setCell ⟨K.gy, 2, none⟩ (.int .i64 ((d : Int) + (n : Int)))) sx none RX (RY.drop n) := by
  obtain ⟨d, h1, h2, h3, h4⟩ := h.cs.swap.adv hk
  exact ⟨d, h1, h2, h3, fun n hn => h.movy (h4 n hn).back (fr_set2 _ _ _)⟩
/-- both cursors go on by n -/
theorem CB.adv2 {mx my : Nat} (h : CB K go TB O L w (some mx) (some my) RX RY) (hkx : ¬ kindOf RX = 0) (hky : ¬ kindOf RY = 0) : ∃ d1 d2 : Nat, d1 ≤ 200 ∧ d2 ≤ 200 ∧ w.cell? ⟨K.gx, 2, none⟩ = some (.int .i64 (d1 : Int)) ∧ w.cell? ⟨K.gy, 2, none⟩ = some (.int .i64 (d2 : Int)) ∧ w.frozen? ⟨K.gx, 2, none⟩ = false ∧ w.frozen? ⟨K.gy, 2, none⟩ = false ∧
    ∀ n, n ≤ mx → n ≤ my → CB K go TB O L ((w.setCell ⟨K.gx, 2, none⟩ (.int .i64 ((d1 : Int) + (n : Int)))).setCell ⟨K.gy, 2, none⟩ (.int .i64 ((d2 : Int) + (n : Int)))) none none (RX.drop n) (RY.drop n) := by
  obtain ⟨d1, h1, h2, h3, h4⟩ := h.adv hkx
  obtain ⟨d2, k1, k2, k3, _⟩ := h.advy hky
  refine ⟨d1, d2, h1, k1, h2, k2, h3, k3, fun n hx hy => ?_⟩
  obtain ⟨d3, _, l2, _, l4⟩ := (h4 n hx).advy hky
  have e : (w.setCell ⟨K.gx, 2, none⟩ (.int .i64 ((d1 : Int) + (n : Int)))).cell? ⟨K.gy, 2, none⟩ = w.cell? ⟨K.gy, 2, none⟩ := World.cell?_of_block (heap_setCell_other _ _ _ _ (fun e => h.cs.ne e.symm))
  rw [e, k2] at l2
  injection l2 with l2
  injection l2 with _ l2
  rw [l2]
  exact l4 n hy
end
def KindB (K : Fx) (go : Nat) (TB : TypeId) (O : Nat → Prop) (L : List Pt) (sx sy : Option Nat) (RX RY : List U) (w : World) (e : Ending) (w' : World) : Prop :=
  e = .returned (.int .i64 (kindOf RX)) ∧ ∃ m, (∀ q, sx = some q → m = q) ∧ CB K go TB O L w' (some m) sy RX RY ∧ Below K.lo w w'
def KindBy (K : Fx) (go : Nat) (TB : TypeId) (O : Nat → Prop) (L : List Pt) (sx sy : Option Nat) (RX RY : List U) (w : World) (e : Ending) (w' : World) : Prop :=
  e = .returned (.int .i64 (kindOf RY)) ∧ ∃ m, (∀ q, sy = some q → m = q) ∧ CB K go TB O L w' sx (some m) RX RY ∧ Below K.lo w w'
def LeftB (K : Fx) (go : Nat) (TB : TypeId) (O : Nat → Prop) (L : List Pt) (m : Nat) (sx sy : Option Nat) (RX RY : List U) (w : World) (e : Ending) (w' : World) : Prop := e = .returned (.int .i64 (m : Int)) ∧ CB K go TB O L w' sx sy RX RY ∧ Below K.lo w w'
def TakeB (K : Fx) (go : Nat) (TB : TypeId) (O : Nat → Prop) (L : List Pt) (n : Nat) (sy : Option Nat) (RX RY : List U) (w : World) (e : Ending) (w' : World) : Prop :=
  ∃ A' c' zs, e = .returned (.slice A' n c') ∧ zs.length = n ∧ RX = zs.map .p ++ RX.drop n ∧ Row (Value.int .i64) w' w'.heap.size A' zs ∧ CB K go TB O L w' none sy (RX.drop n) RY ∧ Below K.lo w w'
def TakeBy (K : Fx) (go : Nat) (TB : TypeId) (O : Nat → Prop) (L : List Pt) (n : Nat) (sx : Option Nat) (RX RY : List U) (w : World) (e : Ending) (w' : World) : Prop :=
  ∃ A' c' zs, e = .returned (.slice A' n c') ∧ zs.length = n ∧ RY = zs.map .p ++ RY.drop n ∧ Row (Value.int .i64) w' w'.heap.size A' zs ∧ CB K go TB O L w' sx none RX (RY.drop n) ∧ Below K.lo w w'
def BldB (K : Fx) (go : Nat) (TB : TypeId) (L : List Pt) (sx sy : Option Nat) (RX RY : List U) (w : World) (e : Ending) (w' : World) : Prop := e = .returned (.tuple #[]) ∧ ∃ O', CB K go TB O' L w' sx sy RX RY ∧ Below K.lo w w'
section
variable {K : Fx} {go : Nat} {TB : TypeId} {O : Nat → Prop} {L : List Pt} {w : World} {sx sy : Option Nat} {RX RY : List U}
theorem CB.lo_le (h : CB K go TB O L w sx sy RX RY) : K.lo ≤ w.heap.size := h.bd.low
end
end Go.Proofs.Ytninppjomdhnmaa.low


/-
  Transformation: the loop's invariant on units, how a round goes on; the results.
-/
namespace Go.Proofs.Ytninppjomdhnmaa.low
open Go.RowKit
set_option linter.unusedVariables false

structure XInv (a b : List Pt) (RX RY : List U) (L M : List Pt) : Prop where
  eq1 : units L ++ (xf RX RY).1 = (xf (units a) (units b)).1
  eq2 : units M ++ (xf RX RY).2 = (xf (units a) (units b)).2
  bal : src RX = src RY
  len : L.length + M.length + 2 * RX.length + 2 * RY.length ≤ 4000
section
variable {a b : List Pt} {RX RY : List U} {L M : List Pt}
theorem XInv.px {zs : List Int} (h : XInv a b (zs.map .p ++ RX) RY L M) (hn : 0 < zs.length) : XInv a b RX RY (L ++ [⟨2, 0, zs⟩]) (M ++ [⟨1, (zs.length : Int), []⟩]) := by
  refine ⟨?_, ?_, ?_, ?_⟩
  · rw [← h.eq1, xf_puts, units_app]; simp [units, unitsP]
  · rw [← h.eq2, xf_puts, units_app]; simp [units, unitsP]
  · have := h.bal; rw [src_app, (src_mp zs).1] at this; omega
  · have := h.len; simp at this ⊢; omega
theorem XInv.py {zs : List Int} (h : XInv a b RX (zs.map .p ++ RY) L M) (hp : noP RX) (hn : 0 < zs.length) : XInv a b RX RY (L ++ [⟨1, (zs.length : Int), []⟩]) (M ++ [⟨2, 0, zs⟩]) := by
  refine ⟨?_, ?_, ?_, ?_⟩
  · rw [← h.eq1, xf_putsB _ _ _ hp, units_app]; simp [units, unitsP]
  · rw [← h.eq2, xf_putsB _ _ _ hp, units_app]; simp [units, unitsP]
  · have := h.bal; rw [src_app, (src_mp zs).1] at this; omega
  · have := h.len; simp at this ⊢; omega
theorem XInv.kk {n : Nat} (h : XInv a b (List.replicate n .k ++ RX) (List.replicate n .k ++ RY) L M) (hn : 0 < n) : XInv a b RX RY (L ++ [⟨1, (n : Int), []⟩]) (M ++ [⟨1, (n : Int), []⟩]) := by
  refine ⟨?_, ?_, ?_, ?_⟩
  · rw [← h.eq1, xf_kk, units_app]; simp [units, unitsP]
  · rw [← h.eq2, xf_kk, units_app]; simp [units, unitsP]
  · have := h.bal; rw [src_app, src_app, (src_rk n).1] at this; omega
  · have := h.len; simp at this ⊢; omega
theorem XInv.dk {n : Nat} (h : XInv a b (List.replicate n .d ++ RX) (List.replicate n .k ++ RY) L M) (hn : 0 < n) : XInv a b RX RY (L ++ [⟨3, (n : Int), []⟩]) M := by
  refine ⟨?_, ?_, ?_, ?_⟩
  · rw [← h.eq1, xf_dk, units_app]; simp [units, unitsP]
  · rw [← h.eq2, xf_dk]
  · have := h.bal; rw [src_app, src_app, (src_rk n).1, (src_rd n).1] at this; omega
  · have := h.len; simp at this ⊢; omega
theorem XInv.kd {n : Nat} (h : XInv a b (List.replicate n .k ++ RX) (List.replicate n .d ++ RY) L M) (hn : 0 < n) : XInv a b RX RY L (M ++ [⟨3, (n : Int), []⟩]) := by
  refine ⟨?_, ?_, ?_, ?_⟩
  · rw [← h.eq1, xf_kd]
  · rw [← h.eq2, xf_kd, units_app]; simp [units, unitsP]
  · have := h.bal; rw [src_app, src_app, (src_rk n).1, (src_rd n).1] at this; omega
  · have := h.len; simp at this ⊢; omega
theorem XInv.dd {n : Nat} (h : XInv a b (List.replicate n .d ++ RX) (List.replicate n .d ++ RY) L M) : XInv a b RX RY L M := by
  refine ⟨?_, ?_, ?_, ?_⟩
  · rw [← h.eq1, xf_dd]
  · rw [← h.eq2, xf_dd]
  · have := h.bal; rw [src_app, src_app, (src_rd n).1] at this; omega
  · have := h.len; simp at this ⊢; omega
end
/-- how a round goes on -/
theorem xf_cases {RX RY : List U} (h : src RX = src RY) : (RX = [] ∧ RY = []) ∨ kindOf RX = 2 ∨ (noP RX ∧ (kindOf RX = 0 ∨ kindOf RX = 1 ∨ kindOf RX = 3) ∧ kindOf RY = 2) ∨ ((kindOf RX = 1 ∨ kindOf RX = 3) ∧ (kindOf RY = 1 ∨ kindOf RY = 3)) := by
  rcases RX with _ | ⟨ux, RX⟩
  · rcases RY with _ | ⟨uy, RY⟩
    · exact .inl ⟨rfl, rfl⟩
    · cases uy with
      | k => simp [src] at h
      | p z => exact .inr (.inr (.inl ⟨trivial, .inl rfl, rfl⟩))
      | d => simp [src] at h
  · cases ux with
    | p z => exact .inr (.inl rfl)
    | k =>
      rcases RY with _ | ⟨uy, RY⟩
      · simp [src] at h
      · cases uy with
        | k => exact .inr (.inr (.inr ⟨.inl rfl, .inl rfl⟩))
        | p z => exact .inr (.inr (.inl ⟨trivial, .inr (.inl rfl), rfl⟩))
        | d => exact .inr (.inr (.inr ⟨.inl rfl, .inr rfl⟩))
    | d =>
      rcases RY with _ | ⟨uy, RY⟩
      · simp [src] at h
      · cases uy with
        | k => exact .inr (.inr (.inr ⟨.inr rfl, .inl rfl⟩))
        | p z => exact .inr (.inr (.inl ⟨trivial, .inr (.inr rfl), rfl⟩))
        | d => exact .inr (.inr (.inr ⟨.inr rfl, .inr rfl⟩))
/-- the two results -/
def xfA (a b : List Pt) : List Pt := doneN (foldU (xf (units a) (units b)).1)
def xfB (a b : List Pt) : List Pt := doneN (foldU (xf (units a) (units b)).2)
def xformOk (a b : List Pt) : Bool := okOp a && okOp b && (sumK a + sumD a == sumK b + sumD b) && okOp (xfA a b) && okOp (xfB a b)
def xformA (a b : List Pt) : List Pt := if xformOk a b = true then xfA a b else []
def xformB (a b : List Pt) : List Pt := if xformOk a b = true then xfB a b else []
theorem xinv0 {a b : List Pt} (hoa : okOp a = true) (hob : okOp b = true) (hbal : sumK a + sumD a = sumK b + sumD b) : XInv a b (units a) (units b) [] [] := by
  obtain ⟨ua, hsa, _⟩ := okOp_units hoa
  obtain ⟨ub, hsb, _⟩ := okOp_units hob
  refine ⟨by simp [units_nil], by simp [units_nil], ?_, by simp; omega⟩
  have s1 := (src_units hsa).1
  have s2 := (src_units hsb).1
  obtain ⟨t1, t2, t3⟩ := sum_t (okOp_partsB hoa)
  obtain ⟨u1, u2, u3⟩ := sum_t (okOp_partsB hob)
  rw [t1, t3, u1, u3] at hbal
  omega
/-- two cursors and two builders -/
structure TT (K : Fx) (g1 g2 : Nat) (TB : TypeId) (O P : Nat → Prop) (L M : List Pt) (w : World) (sx sy : Option Nat) (RX RY : List U) : Prop where
  cs : Cs K w sx sy RX RY
  b1 : Bld O K.lo g1 TB w L
  b2 : Bld P K.lo g2 TB w M
  ox : ¬ O K.gx
  oy : ¬ O K.gy
  px : ¬ P K.gx
  py : ¬ P K.gy
  dis : ∀ q, O q → ¬ P q
section
variable {K : Fx} {g1 g2 : Nat} {TB : TypeId} {O O' P P' : Nat → Prop} {L L' M M' : List Pt} {w w' : World} {sx sy sx' sy' : Option Nat} {RX RY RX' RY' : List U}
theorem TT.one (h : TT K g1 g2 TB O P L M w sx sy RX RY) : CB K g1 TB O L w sx sy RX RY := ⟨h.cs, h.b1, h.ox, h.oy⟩
theorem TT.two (h : TT K g1 g2 TB O P L M w sx sy RX RY) : CB K g2 TB P M w sx sy RX RY := ⟨h.cs, h.b2, h.px, h.py⟩
theorem TT.mov (h : TT K g1 g2 TB O P L M w sx sy RX RY) (hc : Cs K w' sx' sy' RX' RY') (hf : Fr (fun q => q = K.gx) w w') : TT K g1 g2 TB O P L M w' sx' sy' RX' RY' :=
  ⟨hc, (h.one.mov hc hf).bd, (h.two.mov hc hf).bd, h.ox, h.oy, h.px, h.py, h.dis⟩
theorem TT.movy (h : TT K g1 g2 TB O P L M w sx sy RX RY) (hc : Cs K w' sx' sy' RX' RY') (hf : Fr (fun q => q = K.gy) w w') : TT K g1 g2 TB O P L M w' sx' sy' RX' RY' :=
  ⟨hc, (h.one.movy hc hf).bd, (h.two.movy hc hf).bd, h.ox, h.oy, h.px, h.py, h.dis⟩
theorem TT.past (h : TT K g1 g2 TB O P L M w sx sy RX RY) (hb : Below w.heap.size w w') : TT K g1 g2 TB O P L M w' sx sy RX RY := ⟨h.cs.past hb, h.b1.past hb, h.b2.past hb, h.ox, h.oy, h.px, h.py, h.dis⟩
theorem TT.bldr (h : TT K g1 g2 TB O P L M w sx sy RX RY) (hd : Bld O' K.lo g1 TB w' L') (hb : Below K.lo w w') (hg : Grew O O' w w') : TT K g1 g2 TB O' P L' M w' sx sy RX RY := by
  have h1 := h.one.bldr hd hb hg
  obtain ⟨h2, h3⟩ := h.b2.apart hg (fun q hq ho => h.dis q ho hq)
  exact ⟨h1.cs, hd, h2, h1.ox, h1.oy, h.px, h.py, fun q ho hp => h3 q hp ho⟩
theorem TT.bldr2 (h : TT K g1 g2 TB O P L M w sx sy RX RY) (hd : Bld P' K.lo g2 TB w' M') (hb : Below K.lo w w') (hg : Grew P P' w w') : TT K g1 g2 TB O P' L M' w' sx sy RX RY := by
  have h1 := h.two.bldr hd hb hg
  obtain ⟨h2, h3⟩ := h.b1.apart hg h.dis
  exact ⟨h1.cs, h2, hd, h.ox, h.oy, h1.ox, h1.oy, h3⟩
theorem TT.weak (h : TT K g1 g2 TB O P L M w sx sy RX RY) : TT K g1 g2 TB O P L M w none none RX RY := ⟨h.cs.weak, h.b1, h.b2, h.ox, h.oy, h.px, h.py, h.dis⟩
theorem TT.lo_le (h : TT K g1 g2 TB O P L M w sx sy RX RY) : K.lo ≤ w.heap.size := h.b1.low
theorem TT.adv2 {mx my : Nat} (h : TT K g1 g2 TB O P L M w (some mx) (some my) RX RY) (hkx : ¬ kindOf RX = 0) (hky : ¬ kindOf RY = 0) : ∃ d1 d2 : Nat, d1 ≤ 200 ∧ d2 ≤ 200 ∧ w.cell? ⟨K.gx, 2, none⟩ = some (.int .i64 (d1 : Int)) ∧ w.cell? ⟨K.gy, 2, none⟩ = some (.int .i64 (d2 : Int)) ∧ w.frozen? ⟨K.gx, 2, none⟩ = false ∧ w.frozen? ⟨K.gy, 2, none⟩ = false ∧
    ∀ n, n ≤ mx → n ≤ my → TT K g1 g2 TB O P L M ((w.setCell ⟨K.gx, 2, none⟩ (.int .i64 ((d1 : Int) + (n : Int)))).setCell ⟨K.gy, 2, none⟩ (.int .i64 ((d2 : Int) + (n : Int)))) none none (RX.drop n) (RY.drop n) := by
  obtain ⟨d1, d2, h1, h2, h3, h4, h5, h6, h7⟩ := h.one.adv2 hkx hky
  obtain ⟨e1, e2, k1, k2, k3, k4, k5, k6, k7⟩ := h.two.adv2 hkx hky
  refine ⟨d1, d2, h1, h2, h3, h4, h5, h6, fun n hx hy => ?_⟩
  have r1 := h7 n hx hy
  have r2 := k7 n hx hy
  rw [k3] at h3
  rw [k4] at h4
  injection h3 with h3
  injection h3 with _ h3
  injection h4 with h4
  injection h4 with _ h4
  rw [h3, h4] at r2
  exact ⟨r1.cs, r1.bd, r2.bd, h.ox, h.oy, h.px, h.py, h.dis⟩
end
def KindT (K : Fx) (g1 g2 : Nat) (TB : TypeId) (O P : Nat → Prop) (L M : List Pt) (v : Int) (sx sy : Option Nat) (f : Nat → Option Nat × Option Nat) (s0 : Option Nat) (RX RY : List U) (w : World) (e : Ending) (w' : World) : Prop :=
  e = .returned (.int .i64 v) ∧ ∃ m, (∀ q, s0 = some q → m = q) ∧ TT K g1 g2 TB O P L M w' (f m).1 (f m).2 RX RY ∧ Below K.lo w w'
def LeftT (K : Fx) (g1 g2 : Nat) (TB : TypeId) (O P : Nat → Prop) (L M : List Pt) (m : Nat) (sx sy : Option Nat) (RX RY : List U) (w : World) (e : Ending) (w' : World) : Prop := e = .returned (.int .i64 (m : Int)) ∧ TT K g1 g2 TB O P L M w' sx sy RX RY ∧ Below K.lo w w'
def TakeT (K : Fx) (g1 g2 : Nat) (TB : TypeId) (O P : Nat → Prop) (L M : List Pt) (n : Nat) (sy : Option Nat) (RX RY : List U) (w : World) (e : Ending) (w' : World) : Prop :=
  ∃ A' c' zs, e = .returned (.slice A' n c') ∧ zs.length = n ∧ RX = zs.map .p ++ RX.drop n ∧ Row (Value.int .i64) w' w'.heap.size A' zs ∧ TT K g1 g2 TB O P L M w' none sy (RX.drop n) RY ∧ Below K.lo w w'
def TakeTy (K : Fx) (g1 g2 : Nat) (TB : TypeId) (O P : Nat → Prop) (L M : List Pt) (n : Nat) (sx : Option Nat) (RX RY : List U) (w : World) (e : Ending) (w' : World) : Prop :=
  ∃ A' c' zs, e = .returned (.slice A' n c') ∧ zs.length = n ∧ RY = zs.map .p ++ RY.drop n ∧ Row (Value.int .i64) w' w'.heap.size A' zs ∧ TT K g1 g2 TB O P L M w' sx none RX (RY.drop n) ∧ Below K.lo w w'
def BldT1 (K : Fx) (g1 g2 : Nat) (TB : TypeId) (P : Nat → Prop) (L M : List Pt) (sx sy : Option Nat) (RX RY : List U) (w : World) (e : Ending) (w' : World) : Prop := e = .returned (.tuple #[]) ∧ ∃ O', TT K g1 g2 TB O' P L M w' sx sy RX RY ∧ Below K.lo w w'
def BldT2 (K : Fx) (g1 g2 : Nat) (TB : TypeId) (O : Nat → Prop) (L M : List Pt) (sx sy : Option Nat) (RX RY : List U) (w : World) (e : Ending) (w' : World) : Prop := e = .returned (.tuple #[]) ∧ ∃ P', TT K g1 g2 TB O P' L M w' sx sy RX RY ∧ Below K.lo w w'
section
variable {K : Fx} {g1 g2 : Nat} {TB : TypeId} {O P : Nat → Prop} {L M : List Pt} {w : World} {sx sy : Option Nat} {RX RY : List U}
end
theorem OwB.grew2 {O O' : Nat → Prop} {lo hi : Nat} {w w' : World} {d : Dat} {v : Value} {b : List Nat} (h : OwB lo hi w d v b) (hg : Grew O O' w w') (hO : ∀ x ∈ b, ¬ O x) : OwB lo hi w' d v b :=
  ⟨OwC.keep d v b h.ow (fun x hx => hg.block x (OwC.lt d v b h.ow x hx) (hO x hx)), h.nd, h.rng, Nat.le_trans h.top hg.size, h.le⟩
theorem OwB.upto {lo hi hi' : Nat} {w : World} {d : Dat} {v : Value} {b : List Nat} (h : OwB lo hi w d v b) (h1 : hi ≤ hi') (h2 : hi' ≤ w.heap.size) : OwB lo hi' w d v b := ⟨h.ow, h.nd, fun x hx => ⟨(h.rng x hx).1, Nat.lt_of_lt_of_le (h.rng x hx).2 h1⟩, h2, Nat.le_trans h.le h1⟩
theorem xf_small {a b : List Pt} (h : xformOk a b = true) : SmP (xfA a b) ∧ SmP (xfB a b) := by
  unfold xformOk at h
  rw [Bool.and_eq_true, Bool.and_eq_true] at h
  obtain ⟨_, h1, h2⟩ := okOp_units h.1.2
  obtain ⟨_, h3, h4⟩ := okOp_units h.2
  have := signsIn_le h1
  have := signsIn_le h3
  exact ⟨⟨by omega, by omega⟩, ⟨by omega, by omega⟩⟩
theorem smP_nil : SmP [] := ⟨by simp, by simp [signsIn]⟩
theorem xformA_sm (a b : List Pt) : SmP (xformA a b) := by
  unfold xformA
  split
  · rename_i h; exact (xf_small h).1
  · exact smP_nil
theorem xformB_sm (a b : List Pt) : SmP (xformB a b) := by
  unfold xformB
  split
  · rename_i h; exact (xf_small h).2
  · exact smP_nil
theorem transform_small0 {a b : List Pt} (h0 : SmP a) (h1 : SmP b) : SmP (xformA a b) := xformA_sm a b
theorem transform_small1 {a b : List Pt} (h0 : SmP a) (h1 : SmP b) : SmP (xformB a b) := xformB_sm a b
end Go.Proofs.Ytninppjomdhnmaa.low


/-
  append(out, x) where out is an owned slice of whatever rows and x is one row of data of the caller's own.
-/
namespace Go.Proofs.Ytninppjomdhnmaa.low
open Go.RowKit
set_option linter.unusedVariables false

theorem wpList_append_row {w : World} {ops : Array Oper} {rest : List Oper} {o : Oper} {a : Act} {Q : Exit → Act → World → Prop} (hgd : o.guard = none) (s x : Operand) (t : TypeId)
    (ho : o.op = .call { callee := .builtin .append, args := #[s, x], argTypes := #[t, t] }) (e : TypeId) (i : TypeInfo) (z : Value) (sz bytes : Nat) (ht : Try.prog.underlying t = some (.slice e)) (hi : Try.prog.info? e = some i) (hz : i.zero = some z) (hsize : i.size = sz) (hby : i.bytes = bytes) (hzs : z.cells.size = sz) (hsz : 0 < sz) (hbm : bytes ≤ 100000)
    (lo hi' : Nat) (v : Value) (ds : List (List Dat)) (b : List Nat) (h : OwB lo hi' w (.rows e sz ds) v b) (hs : a.eval s = v) (hlen : ds.length ≤ 2000000)
    (ad : Addr) (c0 : Nat) (ys : List Value) (hx : a.eval x = .slice (some ad) 1 c0) (hl : ys.length = sz) (hnews : ∀ j u, ys[j]? = some u → w.cell? (ad.add j) = some u) (h1 : ∀ u ∈ ys, u.oneCell' = true)
    (r : List Dat) (c : List Nat) (hr : OwL w r ys c) (hcn : c.Nodup) (hbc : ∀ q ∈ b, q ∉ c) (hcr : ∀ q ∈ c, lo ≤ q)
    (K : ∀ A' c' w' b', OwB lo w'.heap.size w' (.rows e sz (ds ++ [r])) (.slice A' (ds.length + 1) c') b' → (∀ q ∈ b', q ∈ b ∨ q ∈ c ∨ w.heap.size ≤ q) → Grew (fun q => q ∈ b) (fun q => q ∈ b ∨ w.heap.size ≤ q) w w' → Below lo w w' → wpList Try.prog ops Q rest (a.put o.dst (.slice A' (ds.length + 1) c')) w') : wpList Try.prog ops Q (o :: rest) a w := by
  have hnd := h.nd
  have hrg := h.rng
  obtain ⟨xs, cs, ho', hor, hb⟩ := h.ow
  refine wpList_append_lies _ hgd s x t ho 0 e i z sz bytes ht hi hz hsize hby hzs hsz v ds.length xs hs ho' ad 1 c0 ys hx (by simp [hl]) hnews h1 (by omega) (by unfold maxLen; omega) ?_ (Nat.zero_le _) _ rfl ?_
  · have : (ds.length + 1) * bytes ≤ 2000001 * 100000 := Nat.mul_le_mul (by omega) hbm
    omega
  intro g cap w' hown hg hat hlt
  rw [hb] at hnd
  obtain ⟨n1, n2, n3⟩ := List.nodup_append.1 hnd
  have own_mem : ∀ q, v.ownBlock = some q → q ∈ b := fun q hq => by rw [hb, hq]; simp
  have hcs : ∀ q ∈ cs, w'.heap[q]? = w.heap[q]? := fun q hq => hg.block q (OwR.lt sz _ _ _ hor q hq) (fun e => n3 q (by rw [← e]; simp) q hq rfl)
  have hcc : ∀ q ∈ c, w'.heap[q]? = w.heap[q]? := fun q hq => hg.block q (OwL.lt _ _ _ hr q hq) (fun e => hbc q (own_mem q e.symm) hq)
  have hor' := (OwR.keep sz _ _ _ hor hcs).append (OwR.one (OwL.keep _ _ _ hr hcc) hl)
  have g1 : g ∉ cs := fun hq => by
    rcases hat with e | e
    · exact n3 g (by rw [e]; simp) g hq rfl
    · have := OwR.lt sz _ _ _ hor g hq; omega
  have g2 : g ∉ c := fun hq => by
    rcases hat with e | e
    · exact hbc g (own_mem g e) hq
    · have := OwL.lt _ _ _ hr g hq; omega
  have g3 : lo ≤ g ∧ (g ∈ b ∨ w.heap.size ≤ g) := by
    rcases hat with e | e
    · exact ⟨(hrg g (own_mem g e)).1, .inl (own_mem g e)⟩
    · have := h.top; have := h.le; exact ⟨by omega, .inr (by omega)⟩
  have hsz' := hg.size
  have ht' := h.top
  refine K _ cap w' (g :: (cs ++ c)) ⟨⟨xs ++ ys, cs ++ c, by rw [List.length_append]; exact hown, hor', rfl⟩, ?_, ?_, Nat.le_refl _, by have := h.le; omega⟩ ?_ ⟨hg.size, fun q hq hn => hg.block q hq (fun e => hn (own_mem q e.symm)), fun q hq => hq⟩ ?_
  · refine List.nodup_cons.2 ⟨fun hq => ?_, List.nodup_append.2 ⟨n2, hcn, fun q hq q' hq' e => ?_⟩⟩
    · rcases List.mem_append.1 hq with hq | hq
      · exact g1 hq
      · exact g2 hq
    · subst e
      exact hbc q (by rw [hb]; simp [hq]) hq'
  · intro q hq
    rcases List.mem_cons.1 hq with rfl | hq
    · exact ⟨g3.1, hlt⟩
    · rcases List.mem_append.1 hq with hq | hq
      · have := hrg q (by rw [hb]; simp [hq]); exact ⟨this.1, by omega⟩
      · have := OwL.lt _ _ _ hr q hq; exact ⟨hcr q hq, by omega⟩
  · intro q hq
    rcases List.mem_cons.1 hq with rfl | hq
    · rcases g3.2 with h | h
      · exact .inl h
      · exact .inr (.inr h)
    · rcases List.mem_append.1 hq with hq | hq
      · exact .inl (by rw [hb]; simp [hq])
      · exact .inr (.inl hq)
  · exact (Below.refl lo w).grown hg (by have := h.le; omega) (fun k hk => (hrg k (own_mem k hk)).1)
/-- one cell that owns a datum -/
theorem OwC.row1 {w : World} {d : Dat} {v : Value} {b : List Nat} (h : OwC w d v b) : OwL w [d] [v] b := ⟨v, [], b, [], rfl, by simp, h, rfl, rfl⟩
end Go.Proofs.Ytninppjomdhnmaa.low


/-
  One word for the memory that a function has made so far: a list of items, each a block of its own (a variable's box) or a datum of its own with its blocks, all apart; the caller's memory is as it was.
-/
namespace Go.Proofs.Ytninppjomdhnmaa.low
open Go.RowKit
set_option linter.unusedVariables false

inductive It where
  | bx (g : Nat) (o : Obj)
  | dt (d : Dat) (v : Value) (b : List Nat)
  | rd (d : Dat) (v : Value) (b : List Nat)
def It.bs : It → List Nat
  | .bx g _ => [g]
  | .dt _ _ b => b
  | .rd _ _ b => b
/-- a box holds its object; a datum is owned; the third kind: a value that reads as a datum out of these blocks alone -/
def It.ok (W : World) : It → Prop
  | .bx g o => W.heap[g]? = some o
  | .dt d v b => OwC W d v b
  | .rd d v b => (∀ q ∈ b, q < W.heap.size) ∧ ∀ W' : World, (∀ q ∈ b, W'.heap[q]? = W.heap[q]?) → ∀ B, (∀ q ∈ b, q < B) → RdC W' B d v
theorem It.keep {W W' : World} {x : It} (h : x.ok W) (hk : ∀ q ∈ x.bs, W'.heap[q]? = W.heap[q]?) : x.ok W' := by
  cases x with
  | bx g o => exact (hk g (by simp [It.bs])).trans h
  | dt d v b => exact OwC.keep d v b h hk
  | rd d v b =>
    refine ⟨fun q hq => ?_, fun W2 h2 => h.2 W2 (fun q hq => (h2 q hq).trans (hk q hq))⟩
    have h1 := h.1 q hq
    rcases Nat.lt_or_ge q W'.heap.size with h3 | h3
    · exact h3
    · have h4 := hk q hq
      rw [Array.getElem?_eq_none h3, Array.getElem?_eq_getElem h1] at h4
      cases h4
theorem It.lt {W : World} {x : It} (h : x.ok W) {q : Nat} (hq : q ∈ x.bs) : q < W.heap.size := by
  cases x with
  | bx g o => obtain rfl : q = g := by simpa [It.bs] using hq
              exact lt_of_some h
  | dt d v b => exact OwC.lt d v b h q hq
  | rd d v b => exact h.1 q hq
/-- the memory made since w0 -/
structure Ms (w0 : World) (L : List It) (W : World) : Prop where
  ok : ∀ x ∈ L, x.ok W
  nd : (L.flatMap It.bs).Nodup
  rg : ∀ q ∈ L.flatMap It.bs, w0.heap.size ≤ q
  bl : Below w0.heap.size w0 W
section
variable {w0 W W' : World} {L L' : List It} {x y : It}
theorem Ms.start (w : World) : Ms w [] w := ⟨fun x hx => (by simp at hx), by simp, fun q hq => (by simp at hq), Below.refl _ _⟩
theorem Ms.size (h : Ms w0 L W) : w0.heap.size ≤ W.heap.size := h.bl.size
theorem Ms.blt (h : Ms w0 L W) : ∀ q ∈ L.flatMap It.bs, q < W.heap.size := fun q hq => by
  obtain ⟨x, hx, hq⟩ := List.mem_flatMap.1 hq
  exact It.lt (h.ok x hx) hq
/-- all items' blocks unchanged -/
theorem Ms.keep (h : Ms w0 L W) (hk : ∀ q ∈ L.flatMap It.bs, W'.heap[q]? = W.heap[q]?) (hb : Below w0.heap.size w0 W') : Ms w0 L W' :=
  ⟨fun x hx => It.keep (h.ok x hx) (fun q hq => hk q (List.mem_flatMap.2 ⟨x, hx, hq⟩)), h.nd, h.rg, hb⟩
theorem Ms.past (h : Ms w0 L W) (hb : Below W.heap.size W W') : Ms w0 L W' := h.keep (fun q hq => hb.block q (h.blt q hq)) (h.bl.trans (hb.mono h.size))
theorem Ms.drew (h : Ms w0 L W) : Ms w0 L W.drew := h.past (Below.refl _ _).drew
theorem Ms.drewN (h : Ms w0 L W) (n : Nat) : Ms w0 L (W.drewN n) := h.past ⟨rfl, rfl, rfl, Nat.le_refl _, fun _ _ => rfl⟩
theorem Ms.arg (h : Ms w0 L W) {d : Dat} {v : Value} (hr : RdC w0 w0.heap.size d v) : RdC W W.heap.size d v := hr.past h.bl
theorem Ms.perm (h : Ms w0 L W) (hp : L.Perm L') : Ms w0 L' W :=
  ⟨fun x hx => h.ok x (hp.mem_iff.2 hx), (hp.flatMap_right It.bs).nodup_iff.1 h.nd, fun q hq => h.rg q ((hp.flatMap_right It.bs).mem_iff.2 hq), h.bl⟩
theorem Ms.tail (h : Ms w0 (x :: L) W) : Ms w0 L W :=
  ⟨fun y hy => h.ok y (by simp [hy]), by have := h.nd; rw [List.flatMap_cons, List.nodup_append] at this; exact this.2.1, fun q hq => h.rg q (by rw [List.flatMap_cons]; exact List.mem_append_right _ hq), h.bl⟩
theorem erase_perm : ∀ {L : List It} {i : Nat} {x : It}, L[i]? = some x → L.Perm (x :: L.eraseIdx i)
  | [], i, x, h => by simp at h
  | y :: L, 0, x, h => by
    simp at h
    subst h
    exact List.Perm.refl _
  | y :: L, i + 1, x, h => by
    have ih := erase_perm (L := L) (i := i) (x := x) (by simpa using h)
    exact (ih.cons y).trans (List.Perm.swap x y _)
/-- the i-th item in front -/
theorem Ms.pull (h : Ms w0 L W) {i : Nat} (hi : L[i]? = some x) (hL : x :: L.eraseIdx i = L') : Ms w0 L' W := by
  subst hL
  exact h.perm (erase_perm hi)
/-- items dropped -/
theorem Ms.drop (h : Ms w0 L W) (n : Nat) : Ms w0 (L.drop n) W := by
  induction n generalizing L with
  | zero => exact h
  | succ n ih =>
    cases L with
    | nil => exact h
    | cons x L => exact ih h.tail
theorem Ms.at_ (h : Ms w0 L W) {i : Nat} (hi : L[i]? = some x) : x.ok W := h.ok x (List.mem_of_getElem? hi)
theorem Ms.bsAt (h : Ms w0 L W) {i : Nat} (hi : L[i]? = some x) : ∀ q ∈ x.bs, w0.heap.size ≤ q ∧ q < W.heap.size := fun q hq =>
  ⟨h.rg q (List.mem_flatMap.2 ⟨x, List.mem_of_getElem? hi, hq⟩), It.lt (h.at_ hi) hq⟩
theorem Ms.ndAt (h : Ms w0 L W) {i : Nat} (hi : L[i]? = some x) : x.bs.Nodup := by
  have h2 := h.pull hi rfl
  have := h2.nd
  rw [List.flatMap_cons, List.nodup_append] at this
  exact this.1
theorem Ms.cell (h : Ms w0 L W) {i g j : Nat} {cs : Array Value} {T : TypeId} {u : Value} (hi : L[i]? = some (.bx g (.cells cs T (0, 0)))) (hu : cs[j]? = some u) : W.cell? ⟨g, j, none⟩ = some u := bxcell (h.at_ hi) hu
theorem Ms.free (h : Ms w0 L W) {i g j : Nat} {cs : Array Value} {T : TypeId} (hi : L[i]? = some (.bx g (.cells cs T (0, 0)))) : W.frozen? ⟨g, j, none⟩ = false := bxfree (h.at_ hi)
theorem Ms.glt (h : Ms w0 L W) {i g : Nat} {o : Obj} (hi : L[i]? = some (.bx g o)) : w0.heap.size ≤ g ∧ g < W.heap.size := h.bsAt hi g (by simp [It.bs])
theorem Ms.read (h : Ms w0 L W) {i : Nat} {d : Dat} {v : Value} {b : List Nat} (hi : L[i]? = some (.dt d v b)) : RdC W W.heap.size d v := OwC.read d v b (h.at_ hi) (fun q hq => (h.bsAt hi q hq).2)
theorem Ms.readR (h : Ms w0 L W) {i : Nat} {d : Dat} {v : Value} {b : List Nat} (hi : L[i]? = some (.rd d v b)) : RdC W W.heap.size d v := (h.at_ hi).2 W (fun _ _ => rfl) _ (fun q hq => (h.bsAt hi q hq).2)
theorem Ms.own (h : Ms w0 L W) {i : Nat} {d : Dat} {v : Value} {b : List Nat} (hi : L[i]? = some (.dt d v b)) : Own w0.heap.size W.heap.size W d v := ⟨b, h.at_ hi, h.ndAt hi, h.bsAt hi, Nat.le_refl _, h.size⟩
theorem Ms.owb (h : Ms w0 L W) {i : Nat} {d : Dat} {v : Value} {b : List Nat} (hi : L[i]? = some (.dt d v b)) : OwB w0.heap.size W.heap.size W d v b := ⟨h.at_ hi, h.ndAt hi, h.bsAt hi, Nat.le_refl _, h.size⟩
/-- an item more, of blocks that are new -/
theorem Ms.cons (h : Ms w0 L W) (hb : Below W.heap.size W W') (hx : x.ok W') (hn : x.bs.Nodup) (hq : ∀ q ∈ x.bs, W.heap.size ≤ q) : Ms w0 (x :: L) W' := by
  have h' := h.past hb
  refine ⟨fun y hy => ?_, ?_, fun q hq' => ?_, h'.bl⟩
  · rcases List.mem_cons.1 hy with rfl | hy
    · exact hx
    · exact h'.ok y hy
  · rw [List.flatMap_cons, List.nodup_append]
    exact ⟨hn, h.nd, fun a ha b hb e => by subst e; have := hq a ha; have := h.blt a hb; omega⟩
  · rw [List.flatMap_cons] at hq'
    rcases List.mem_append.1 hq' with hq' | hq'
    · exact Nat.le_trans h.size (hq q hq')
    · exact h.rg q hq'
theorem Ms.new (h : Ms w0 L W) (cs : Array Value) (T : TypeId) : Ms w0 (.bx W.heap.size (.cells cs T (0, 0)) :: L) (W.alloc (.cells cs T)) :=
  h.cons (alloc_below W _) (heap_alloc_new W _) (by simp [It.bs]) (fun q hq => by simp [It.bs] at hq; omega)
theorem Ms.got (h : Ms w0 L W) {d : Dat} {v : Value} (ho : Own W.heap.size W'.heap.size W' d v) (hb : Below W.heap.size W W') : ∃ b, Ms w0 (.dt d v b :: L) W' := by
  obtain ⟨b, h1, h2, h3, _, _⟩ := ho
  exact ⟨b, h.cons hb h1 h2 (fun q hq => (h3 q hq).1)⟩
theorem Ms.nil (h : Ms w0 L W) (e : TypeId) (sz : Nat) : Ms w0 (.dt (.rows e sz []) (.slice none 0 0) [] :: L) W :=
  h.cons (Below.refl _ _) ⟨[], [], World.ownsRow_nil _ _ _ _, ⟨rfl, rfl⟩, rfl⟩ (by simp [It.bs]) (fun q hq => by simp [It.bs] at hq)
/-- a literal slice without elements: its block is new -/
theorem Ms.empty (h : Ms w0 L W) (e : TypeId) (sz : Nat) : Ms w0 (.dt (.rows e sz []) (.slice (some ⟨W.heap.size, 0, none⟩) 0 0) [W.heap.size] :: L) (W.alloc (.cells #[] e)) :=
  h.cons (alloc_below W _) ⟨[], [], ⟨by simp, .inr ⟨W.heap.size, 0, #[], rfl, Nat.zero_le _, heap_alloc_new W _, Nat.le_refl _, by unfold maxLen; omega, by simp, by simp⟩⟩, ⟨rfl, rfl⟩, rfl⟩ (by simp [It.bs]) (fun q hq => by simp [It.bs] at hq; omega)
/-- the first item's blocks (and new ones) alone have changed: another item in its place -/
theorem Ms.turn (h : Ms w0 (x :: L) W) (hs : W.heap.size ≤ W'.heap.size) (hk : ∀ q, q < W.heap.size → q ∉ x.bs → W'.heap[q]? = W.heap[q]?) (hb : Below w0.heap.size w0 W') (hy : y.ok W') (hn : y.bs.Nodup) (hq : ∀ q ∈ y.bs, q ∈ x.bs ∨ W.heap.size ≤ q) : Ms w0 (y :: L) W' := by
  have hnd := h.nd
  rw [List.flatMap_cons, List.nodup_append] at hnd
  have hlt := h.tail.blt
  refine ⟨fun z hz => ?_, ?_, fun q hq' => ?_, hb⟩
  · rcases List.mem_cons.1 hz with rfl | hz
    · exact hy
    · exact It.keep (h.ok z (by simp [hz])) (fun q hq' => by
        have hm : q ∈ L.flatMap It.bs := List.mem_flatMap.2 ⟨z, hz, hq'⟩
        exact hk q (hlt q hm) (fun e => hnd.2.2 q e q hm rfl))
  · rw [List.flatMap_cons, List.nodup_append]
    refine ⟨hn, hnd.2.1, fun a ha b hb e => ?_⟩
    subst e
    rcases hq a ha with h1 | h1
    · exact hnd.2.2 a h1 a hb rfl
    · have := hlt a hb; omega
  · rw [List.flatMap_cons] at hq'
    rcases List.mem_append.1 hq' with hq' | hq'
    · rcases hq q hq' with h1 | h1
      · exact h.rg q (by rw [List.flatMap_cons]; exact List.mem_append_left _ h1)
      · exact Nat.le_trans h.size h1
    · exact h.tail.rg q hq'
/-- a box's cell written -/
theorem Ms.set {g j : Nat} {cs : Array Value} {T : TypeId} (h : Ms w0 (.bx g (.cells cs T (0, 0)) :: L) W) (u : Value) : Ms w0 (.bx g (.cells (cs.setIfInBounds j u) T (0, 0)) :: L) (W.setCell ⟨g, j, none⟩ u) := by
  have hg := h.glt (i := 0) rfl
  refine h.turn (by simp [World.setCell]) (fun q hq hn => Below.heap_setCell _ _ _ _ (fun e => hn (by simp [It.bs]; exact e))) (h.bl.setCell (p := ⟨g, j, none⟩) hg.1 u) (bxset (h.at_ (i := 0) rfl) u) (by simp [It.bs]) (fun q hq => .inl hq)
/-- a struct put together, from its last field on -/
theorem Ms.pk0 (h : Ms w0 L W) : Ms w0 (.dt (.agg []) (.agg #[]) [] :: L) W := h.cons (Below.refl _ _) ⟨[], rfl, rfl, rfl⟩ (by simp [It.bs]) (fun q hq => by simp [It.bs] at hq)
theorem Ms.pkF {ds : List Dat} {vs : List Value} {b : List Nat} {d : Dat} {u : Value} (h : Ms w0 (.dt (.agg ds) (.agg vs.toArray) b :: L) W) (hf : d.flat = some u) : Ms w0 (.dt (.agg (d :: ds)) (.agg (u :: vs).toArray) b :: L) W := by
  refine h.turn (Nat.le_refl _) (fun _ _ _ => rfl) h.bl ?_ (show b.Nodup from h.ndAt (i := 0) (x := .dt (.agg ds) (.agg vs.toArray) b) rfl) (fun q hq => .inl hq)
  obtain ⟨xs, hx, ho⟩ : OwC W (.agg ds) (.agg vs.toArray) b := h.at_ (i := 0) rfl
  have e : vs = xs := by injection hx with hx; simpa using congrArg Array.toList hx
  subst e
  exact ⟨u :: vs, rfl, u, vs, [], b, rfl, rfl, OwC.of_flat hf, ho⟩
theorem Ms.pkO {ds : List Dat} {vs : List Value} {b c : List Nat} {d : Dat} {v : Value} (h : Ms w0 (.dt (.agg ds) (.agg vs.toArray) b :: .dt d v c :: L) W) : Ms w0 (.dt (.agg (d :: ds)) (.agg (v :: vs).toArray) (c ++ b) :: L) W := by
  have hnd := h.nd
  rw [List.flatMap_cons, List.flatMap_cons, List.nodup_append, List.nodup_append] at hnd
  obtain ⟨xs, hx, ho⟩ : OwC W (.agg ds) (.agg vs.toArray) b := h.at_ (i := 0) rfl
  have e : vs = xs := by injection hx with hx; simpa using congrArg Array.toList hx
  subst e
  have hc : OwC W d v c := h.at_ (i := 1) rfl
  have hrg := h.rg
  rw [List.flatMap_cons, List.flatMap_cons] at hrg
  refine ⟨fun z hz => ?_, ?_, fun q hq => ?_, h.bl⟩
  · rcases List.mem_cons.1 hz with rfl | hz
    · exact ⟨v :: vs, rfl, v, vs, c, b, rfl, rfl, hc, ho⟩
    · exact h.ok z (by simp [hz])
  · rw [List.flatMap_cons, List.nodup_append]
    refine ⟨?_, hnd.2.1.2.1, fun a ha a' ha' e => ?_⟩
    · show (c ++ b).Nodup
      rw [List.nodup_append]
      exact ⟨hnd.2.1.1, hnd.1, fun a ha a' ha' e => hnd.2.2 a' ha' a (List.mem_append_left _ ha) e.symm⟩
    · have ha : a ∈ c ++ b := ha
      rcases List.mem_append.1 ha with ha | ha
      · exact hnd.2.1.2.2 a ha a' ha' e
      · exact hnd.2.2 a ha a' (List.mem_append_right _ ha') e
  · rw [List.flatMap_cons] at hq
    rcases List.mem_append.1 hq with hq | hq
    · have hq : q ∈ c ++ b := hq
      rcases List.mem_append.1 hq with hq | hq
      · exact hrg q (List.mem_append_right _ (List.mem_append_left _ hq))
      · exact hrg q (List.mem_append_left _ hq)
    · exact hrg q (List.mem_append_right _ (List.mem_append_right _ hq))
/-- a struct taken apart: its first field, and the rest -/
theorem Ms.un {ds : List Dat} {v : Value} {vs : List Value} {b : List Nat} {d : Dat} (h : Ms w0 (.dt (.agg (d :: ds)) (.agg (v :: vs).toArray) b :: L) W) : ∃ c c', Ms w0 (.dt d v c :: .dt (.agg ds) (.agg vs.toArray) c' :: L) W := by
  have hnd := h.nd
  have hrg := h.rg
  obtain ⟨xs, hx, x, xs', c, c', e1, e2, h1, h2⟩ : OwC W (.agg (d :: ds)) (.agg (v :: vs).toArray) b := h.at_ (i := 0) rfl
  have e : v :: vs = xs := by injection hx with hx; simpa using congrArg Array.toList hx
  subst e
  injection e1 with e3 e4
  subst e3 e4 e2
  refine ⟨c, c', fun z hz => ?_, ?_, fun q hq => ?_, h.bl⟩
  · rcases List.mem_cons.1 hz with rfl | hz
    · exact h1
    · rcases List.mem_cons.1 hz with rfl | hz
      · exact ⟨vs, rfl, h2⟩
      · exact h.ok z (by simp [hz])
  · rw [List.flatMap_cons, List.flatMap_cons, ← List.append_assoc]
    rw [List.flatMap_cons] at hnd
    exact hnd
  · refine hrg q ?_
    rw [List.flatMap_cons]
    rw [List.flatMap_cons, List.flatMap_cons, ← List.append_assoc] at hq
    exact hq
/-- an owned datum, from now on only read -/
theorem Ms.still {d : Dat} {v : Value} {b : List Nat} (h : Ms w0 (.dt d v b :: L) W) : Ms w0 (.rd d v b :: L) W :=
  h.turn (Nat.le_refl _) (fun _ _ _ => rfl) h.bl ⟨fun q hq => (h.bsAt (i := 0) (x := .dt d v b) rfl q hq).2, fun W2 h2 B hB => OwC.read d v b (OwC.keep d v b (h.at_ (i := 0) rfl) h2) hB⟩ (show b.Nodup from h.ndAt (i := 0) (x := .dt d v b) rfl) (fun q hq => .inl hq)
end
end Go.Proofs.Ytninppjomdhnmaa.low


/-
  Appending in the words of Ms: rows added to an owned slice, the memory behind them handed over; in a plain region and in one that draws its order.
-/
namespace Go.Proofs.Ytninppjomdhnmaa.low
open Go.RowKit
set_option linter.unusedVariables false
section
variable {w0 W W' : World} {L Y : List It}
theorem Ms.grow {e : TypeId} {sz : Nat} {ds rs : List (List Dat)} {v : Value} {b c : List Nat} {news : List Value} (h : Ms w0 (.dt (.rows e sz ds) v b :: (Y ++ L)) W) (hr : OwR W sz rs news c) (hcn : c.Nodup) (hc : ∀ q ∈ c, q ∈ Y.flatMap It.bs) :
    ∃ xs, W.ownsRow 0 e sz v ds.length xs ∧ ∀ g n cap W', W'.ownsRow 0 e sz (.slice (some ⟨g, 0, none⟩) n cap) (ds ++ rs).length (xs ++ news) → W.grownBy W' v.ownBlock → (v.ownBlock = some g ∨ g = W.heap.size) → g < W'.heap.size → ∃ b', Ms w0 (.dt (.rows e sz (ds ++ rs)) (.slice (some ⟨g, 0, none⟩) n cap) b' :: L) W' := by
  have hnd := h.nd
  have hrg := h.rg
  have hlt' := h.blt
  rw [List.flatMap_cons, List.flatMap_append] at hnd hrg hlt'
  obtain ⟨xs, cs, ho, hor, hb⟩ : OwC W (.rows e sz ds) v b := h.at_ (i := 0) rfl
  refine ⟨xs, ho, fun g n cap W' hown hg hat hlt => ?_⟩
  have hbs : (It.dt (.rows e sz ds) v b).bs = v.ownBlock.toList ++ cs := hb
  rw [hbs] at hnd hrg hlt'
  obtain ⟨n1, n2, n3⟩ := List.nodup_append.1 hnd
  obtain ⟨m1, m2, m3⟩ := List.nodup_append.1 n1
  obtain ⟨k1, k2, k3⟩ := List.nodup_append.1 n2
  have inL : ∀ q ∈ L.flatMap It.bs, q < W.heap.size ∧ ¬ v.ownBlock = some q ∧ q ∉ cs ∧ q ∉ c := fun q hq => by
    have hm : q ∈ Y.flatMap It.bs ++ L.flatMap It.bs := List.mem_append_right _ hq
    refine ⟨hlt' q (List.mem_append_right _ hm), fun e => n3 q (List.mem_append_left _ (by rw [e]; simp)) q hm rfl, fun e => n3 q (List.mem_append_right _ e) q hm rfl, fun e => k3 q (hc q e) q hq rfl⟩
  have inc : ∀ q ∈ c, q < W.heap.size ∧ ¬ v.ownBlock = some q ∧ q ∉ cs := fun q hq => by
    have hm : q ∈ Y.flatMap It.bs ++ L.flatMap It.bs := List.mem_append_left _ (hc q hq)
    exact ⟨hlt' q (List.mem_append_right _ hm), fun e => n3 q (List.mem_append_left _ (by rw [e]; simp)) q hm rfl, fun e => n3 q (List.mem_append_right _ e) q hm rfl⟩
  have incs : ∀ q ∈ cs, q < W.heap.size ∧ ¬ v.ownBlock = some q := fun q hq => ⟨hlt' q (List.mem_append_left _ (List.mem_append_right _ hq)), fun e => m3 q (by rw [e]; simp) q hq rfl⟩
  have hkeep : ∀ q, q < W.heap.size → ¬ v.ownBlock = some q → W'.heap[q]? = W.heap[q]? := fun q h1 h2 => hg.block q h1 (fun e => h2 e.symm)
  have hor' := (OwR.keep sz _ _ _ hor (fun q hq => hkeep q (incs q hq).1 (incs q hq).2)).append (OwR.keep sz _ _ _ hr (fun q hq => hkeep q (inc q hq).1 (inc q hq).2.1))
  have gnew : ∀ q, q < W.heap.size → ¬ v.ownBlock = some q → ¬ g = q := fun q h1 h2 e => by
    subst e
    rcases hat with e | e
    · exact h2 e
    · omega
  have glo : w0.heap.size ≤ g := by
    rcases hat with e | e
    · exact hrg g (List.mem_append_left _ (List.mem_append_left _ (by rw [e]; simp)))
    · have := h.size; omega
  refine ⟨g :: (cs ++ c), fun z hz => ?_, ?_, fun q hq => ?_, h.bl.grown hg h.size (fun k hk => hrg k (List.mem_append_left _ (List.mem_append_left _ (by rw [hk]; simp))))⟩
  · rcases List.mem_cons.1 hz with rfl | hz
    · exact ⟨xs ++ news, cs ++ c, hown, hor', rfl⟩
    · refine It.keep (h.ok z (by simp [hz])) (fun q hq => ?_)
      have hm : q ∈ L.flatMap It.bs := List.mem_flatMap.2 ⟨z, hz, hq⟩
      exact hkeep q (inL q hm).1 (inL q hm).2.1
  · rw [List.flatMap_cons, List.nodup_append]
    refine ⟨?_, k2, fun a ha a' ha' e => ?_⟩
    · show (g :: (cs ++ c)).Nodup
      refine List.nodup_cons.2 ⟨fun hq => ?_, List.nodup_append.2 ⟨m2, hcn, fun a ha a' ha' e => ?_⟩⟩
      · rcases List.mem_append.1 hq with hq | hq
        · exact gnew g (incs g hq).1 (incs g hq).2 rfl
        · exact gnew g (inc g hq).1 (inc g hq).2.1 rfl
      · subst e
        exact (inc a ha').2.2 ha
    · subst e
      have ha : a ∈ g :: (cs ++ c) := ha
      rcases List.mem_cons.1 ha with rfl | ha
      · exact gnew a (inL a ha').1 (inL a ha').2.1 rfl
      · rcases List.mem_append.1 ha with ha | ha
        · exact (inL a ha').2.2.1 ha
        · exact (inL a ha').2.2.2 ha
  · rw [List.flatMap_cons] at hq
    rcases List.mem_append.1 hq with hq | hq
    · have hq : q ∈ g :: (cs ++ c) := hq
      rcases List.mem_cons.1 hq with rfl | hq
      · exact glo
      · rcases List.mem_append.1 hq with hq | hq
        · exact hrg q (List.mem_append_left _ (List.mem_append_right _ hq))
        · exact hrg q (List.mem_append_right _ (List.mem_append_left _ (hc q hq)))
    · exact hrg q (List.mem_append_right _ (List.mem_append_right _ hq))
end
theorem step_ms_zero {P : Program} {w : World} {ops : Array Oper} {o : Oper} {a : Act} {KN : Act → World → Prop} {Q : Exit → Act → World → Prop} {E : Prop} (hgd : o.guard = none) (s x : Operand) (t : TypeId)
    (ho : o.op = .call { callee := .builtin .append, args := #[s, x], argTypes := #[t, t] })
    (base : Nat) (e : TypeId) (i : TypeInfo) (size : Nat) (ht : P.underlying t = some (.slice e)) (hi : P.info? e = some i)
    (v : Value) (n : Nat) (xs : List Value) (hs : a.eval s = v) (hown : w.ownsRow base e size v n xs) (A : Option Addr) (c : Nat) (hx : a.eval x = .slice A 0 c)
    (h : KN (a.put o.dst v) w) : if Region.wanted o (yielded ops a.tmps) = true then Oper.wp P o a w KN Q else E := by
  have hw : Region.wanted o (yielded ops a.tmps) = true := by simp [Region.wanted, hgd]
  rw [if_pos hw]
  have hrun := run_append_zero (P := P) (w := w) base t o.type e i size ht hi v n xs hown A c
  unfold Oper.wp
  simp [execOp, ho, resolve, invoke, builtin, hs, hx, hrun, Result.andThen]
  exact h
section
variable {w0 W W' : World} {L Y : List It}
theorem agg_inj {xs ys : List Value} (h : Value.agg xs.toArray = Value.agg ys.toArray) : xs = ys := by
  have h2 := congrArg (fun v => match v with | Value.agg a => a.toList | _ => []) h
  simpa using h2
theorem bytes_fit {n b : Nat} (h : n ≤ 2000001) (hb : b ≤ 100000) : n * b ≤ 140737488355328 := by
  have h1 : n * b ≤ n * 100000 := Nat.mul_le_mul_left n hb
  omega
/-- what the type's entry says of the elements -/
def Elt (t e : TypeId) (z : Value) (sz bytes : Nat) : Prop := ∃ i, Try.prog.underlying t = some (.slice e) ∧ Try.prog.info? e = some i ∧ i.zero = some z ∧ i.size = sz ∧ i.bytes = bytes ∧ z.cells.size = sz ∧ 0 < sz ∧ bytes ≤ 100000
/-- one element more, its memory handed over -/
theorem wpList_ms1 {ops : Array Oper} {rest : List Oper} {o : Oper} {a : Act} {Q : Exit → Act → World → Prop} (hgd : o.guard = none) (s x : Operand) (t : TypeId)
    (ho : o.op = .call { callee := .builtin .append, args := #[s, x], argTypes := #[t, t] }) {e : TypeId} {z : Value} {sz bytes : Nat} (he : Elt t e z sz bytes) {ds : List (List Dat)} {r : List Dat} {v : Value} {ys : List Value} {b c : List Nat}
    (h : Ms w0 (.dt (.rows e sz ds) v b :: .dt (.agg r) (.agg ys.toArray) c :: L) W) (hs : a.eval s = v) (hlen : ds.length ≤ 2000000) (g0 c0 : Nat) (hx : a.eval x = .slice (some ⟨g0, 0, none⟩) 1 c0) (hcell : W.heap[g0]? = some (.cells ys.toArray e (0, 0))) (hl : ys.length = sz) (h1 : ∀ u ∈ ys, u.oneCell' = true)
    (K : ∀ A' c' W' b', Ms w0 (.dt (.rows e sz (ds ++ [r])) (.slice A' (ds.length + 1) c') b' :: L) W' → wpList Try.prog ops Q rest (a.put o.dst (.slice A' (ds.length + 1) c')) W') : wpList Try.prog ops Q (o :: rest) a W := by
  obtain ⟨i, ht, hi, hz, hsize, hby, hzs, hsz, hbm⟩ := he
  obtain ⟨ys', hy', hor⟩ : OwC W (.agg r) (.agg ys.toArray) c := h.at_ (i := 1) rfl
  obtain rfl : ys = ys' := agg_inj hy'
  obtain ⟨xs, hown, grow⟩ := Ms.grow (Y := [.dt (.agg r) (.agg ys.toArray) c]) h (OwR.one hor hl) (h.ndAt (i := 1) (x := .dt (.agg r) (.agg ys.toArray) c) rfl) (fun q hq => by simpa [It.bs] using hq)
  refine wpList_append_lies _ hgd s x t ho 0 e i z sz bytes ht hi hz hsize hby hzs hsz v ds.length xs hs hown ⟨g0, 0, none⟩ 1 c0 ys hx (by simp [hl]) (fun j u hu => ?_) h1 (by omega) (by unfold maxLen; omega) ?_ (Nat.zero_le _) _ rfl ?_
  · rw [add_at, Nat.zero_add]
    exact bxcell hcell (by simpa using hu)
  · exact bytes_fit (by omega) hbm
  · intro g cap W' hown' hg hat hlt
    obtain ⟨b', hm⟩ := grow g (ds.length + 1) cap W' (by rw [List.length_append]; exact hown') hg hat hlt
    exact K _ cap W' b' hm
theorem step_ms1 {ops : Array Oper} {o : Oper} {a : Act} {KN : Act → World → Prop} {Q : Exit → Act → World → Prop} {E : Prop} (hgd : o.guard = none) (s x : Operand) (t : TypeId)
    (ho : o.op = .call { callee := .builtin .append, args := #[s, x], argTypes := #[t, t] }) {e : TypeId} {z : Value} {sz bytes : Nat} (he : Elt t e z sz bytes) {ds : List (List Dat)} {r : List Dat} {v : Value} {ys : List Value} {b c : List Nat}
    (h : Ms w0 (.dt (.rows e sz ds) v b :: .dt (.agg r) (.agg ys.toArray) c :: L) W) (hs : a.eval s = v) (hlen : ds.length ≤ 2000000) (g0 c0 : Nat) (hx : a.eval x = .slice (some ⟨g0, 0, none⟩) 1 c0) (hcell : W.heap[g0]? = some (.cells ys.toArray e (0, 0))) (hl : ys.length = sz) (h1 : ∀ u ∈ ys, u.oneCell' = true)
    (K : ∀ A' c' W' b', Ms w0 (.dt (.rows e sz (ds ++ [r])) (.slice A' (ds.length + 1) c') b' :: L) W' → KN (a.put o.dst (.slice A' (ds.length + 1) c')) W') : if Region.wanted o (yielded ops a.tmps) = true then Oper.wp Try.prog o a W KN Q else E := by
  obtain ⟨i, ht, hi, hz, hsize, hby, hzs, hsz, hbm⟩ := he
  obtain ⟨ys', hy', hor⟩ : OwC W (.agg r) (.agg ys.toArray) c := h.at_ (i := 1) rfl
  obtain rfl : ys = ys' := agg_inj hy'
  obtain ⟨xs, hown, grow⟩ := Ms.grow (Y := [.dt (.agg r) (.agg ys.toArray) c]) h (OwR.one hor hl) (h.ndAt (i := 1) (x := .dt (.agg r) (.agg ys.toArray) c) rfl) (fun q hq => by simpa [It.bs] using hq)
  refine step_append_lies _ hgd s x t ho 0 e i z sz bytes ht hi hz hsize hby hzs hsz v ds.length xs hs hown ⟨g0, 0, none⟩ 1 c0 ys hx (by simp [hl]) (fun j u hu => ?_) h1 (by omega) (by unfold maxLen; omega) ?_ (Nat.zero_le _) _ rfl ?_
  · rw [add_at, Nat.zero_add]
    exact bxcell hcell (by simpa using hu)
  · exact bytes_fit (by omega) hbm
  · intro g cap W' hown' hg hat hlt
    obtain ⟨b', hm⟩ := grow g (ds.length + 1) cap W' (by rw [List.length_append]; exact hown') hg hat hlt
    exact K _ cap W' b' hm
/-- rows without memory behind them: what a slice of such reads as, its cells hold -/
def FlatR (rs : List (List Dat)) (sz : Nat) : Prop := ∀ r ∈ rs, r.length = sz ∧ ∀ d ∈ r, ∃ u : Value, d.flat = some u ∧ u.oneCell' = true
theorem RdC.flatV {w : World} {B : Nat} {d : Dat} {u v : Value} (hf : d.flat = some u) (h : RdC w B d v) : v = u := by
  cases d with
  | int n => injection hf with hf; rw [← hf]; exact h
  | bool n => injection hf with hf; rw [← hf]; exact h
  | str n => injection hf with hf; rw [← hf]; exact h
  | rows e sz ds => cases hf
  | agg ds => cases hf
theorem RdL.flat {w : World} {B : Nat} {ad : Addr} : ∀ {r : List Dat} {o : Nat}, (∀ d ∈ r, ∃ u : Value, d.flat = some u ∧ u.oneCell' = true) → RdL w B ad o r → ∃ ys : List Value, ys.length = r.length ∧ OwL w r ys [] ∧ (∀ u ∈ ys, u.oneCell' = true) ∧ ∀ j u, ys[j]? = some u → w.cell? (ad.add (o + j)) = some u
  | [], o, _, _ => ⟨[], rfl, ⟨rfl, rfl⟩, by simp, fun j u h => by simp at h⟩
  | d :: r, o, hf, h => by
    obtain ⟨⟨v, hv, hd⟩, h2⟩ := h
    obtain ⟨u, hu, h1⟩ := hf d (by simp)
    obtain rfl := RdC.flatV hu hd
    obtain ⟨ys, k1, k2, k3, k4⟩ := RdL.flat (r := r) (o := o + 1) (fun d hd => hf d (by simp [hd])) h2
    refine ⟨v :: ys, by simp [k1], ⟨v, ys, [], [], rfl, rfl, OwC.of_flat hu, k2⟩, fun u hu => ?_, fun j u hj => ?_⟩
    · rcases List.mem_cons.1 hu with rfl | hu
      · exact h1
      · exact k3 u hu
    · cases j with
      | zero => simp at hj; subst hj; exact hv
      | succ j => have := k4 j u (by simpa using hj); rw [show o + (j + 1) = o + 1 + j by omega]; exact this
theorem RdR.flat {w : World} {B sz : Nat} {ad : Addr} : ∀ {rs : List (List Dat)} {o : Nat}, FlatR rs sz → RdR w B sz ad o rs → ∃ ys : List Value, ys.length = rs.length * sz ∧ OwR w sz rs ys [] ∧ (∀ u ∈ ys, u.oneCell' = true) ∧ ∀ j u, ys[j]? = some u → w.cell? (ad.add (o + j)) = some u
  | [], o, _, _ => ⟨[], by simp, ⟨rfl, rfl⟩, by simp, fun j u h => by simp at h⟩
  | r :: rs, o, hf, h => by
    obtain ⟨h1, h2⟩ := h
    have hl := (hf r (by simp)).1
    obtain ⟨y, k1, k2, k3, k4⟩ := RdL.flat (hf r (by simp)).2 h1
    obtain ⟨ys, l1, l2, l3, l4⟩ := RdR.flat (rs := rs) (o := o + sz) (fun q hq => hf q (by simp [hq])) h2
    refine ⟨y ++ ys, by rw [List.length_append, k1, l1, hl, List.length_cons, Nat.add_mul]; omega, ⟨y, ys, [], [], rfl, by rw [k1, hl], rfl, k2, l2⟩, fun u hu => ?_, fun j u hj => ?_⟩
    · rcases List.mem_append.1 hu with hu | hu
      · exact k3 u hu
      · exact l3 u hu
    · by_cases hlt : j < y.length
      · rw [List.getElem?_append_left hlt] at hj
        exact k4 j u hj
      · rw [List.getElem?_append_right (by omega)] at hj
        have := l4 _ u hj
        rw [show o + j = o + sz + (j - y.length) by omega]
        exact this
theorem wpList_msAll {ops : Array Oper} {rest : List Oper} {o : Oper} {a : Act} {Q : Exit → Act → World → Prop} (hgd : o.guard = none) (s x : Operand) (t : TypeId)
    (ho : o.op = .call { callee := .builtin .append, args := #[s, x], argTypes := #[t, t] }) {e : TypeId} {z : Value} {sz bytes : Nat} (he : Elt t e z sz bytes) {ds rs : List (List Dat)} {v : Value} {b : List Nat}
    (h : Ms w0 (.dt (.rows e sz ds) v b :: L) W) (hs : a.eval s = v) (A : Option Addr) (m c0 : Nat) (hx : a.eval x = .slice A m c0) (hrd : RdC W W.heap.size (.rows e sz rs) (.slice A m c0)) (hfl : FlatR rs sz) (hlen : ds.length + rs.length ≤ 2000000)
    (K : ∀ A' c' W' b', Ms w0 (.dt (.rows e sz (ds ++ rs)) (.slice A' (ds.length + m) c') b' :: L) W' → wpList Try.prog ops Q rest (a.put o.dst (.slice A' (ds.length + m) c')) W') : wpList Try.prog ops Q (o :: rest) a W := by
  obtain ⟨i, ht, hi, hz, hsize, hby, hzs, hsz, hbm⟩ := he
  obtain ⟨A', c', hv, hc, hrd⟩ := hrd
  injection hv with e1 e2 e3
  subst e1 e2 e3
  by_cases h0 : 0 < rs.length
  · obtain ⟨ad, rfl, hbk, hsp, hrr⟩ := hrd h0
    obtain ⟨ys, k1, k2, k3, k4⟩ := RdR.flat hfl hrr
    obtain ⟨xs, hown, grow⟩ := Ms.grow (Y := []) h k2 (by simp) (by simp)
    refine wpList_append_lies _ hgd s x t ho 0 e i z sz bytes ht hi hz hsize hby hzs hsz v ds.length xs hs hown ad rs.length c0 ys hx k1 (fun j u hu => by have := k4 j u hu; simpa using this) k3 h0 (by unfold maxLen; omega) ?_ (Nat.zero_le _) _ rfl ?_
    · exact bytes_fit (by omega) hbm
    · intro g cap W' hown' hg hat hlt
      obtain ⟨b', hm⟩ := grow g (ds.length + rs.length) cap W' (by rw [List.length_append]; exact hown') hg hat hlt
      exact K _ cap W' b' hm
  · obtain rfl : rs = [] := List.eq_nil_of_length_eq_zero (by omega)
    obtain ⟨xs, cs, hown, _⟩ : OwC W (.rows e sz ds) v b := h.at_ (i := 0) rfl
    refine wpList_append_zero hgd s x t ho 0 e i sz ht hi v ds.length xs hs hown A c0 hx ?_
    obtain ⟨Av, cv, rfl⟩ := own_form hown
    exact K Av cv W b (by simpa using h)
theorem step_msAll {ops : Array Oper} {o : Oper} {a : Act} {KN : Act → World → Prop} {Q : Exit → Act → World → Prop} {E : Prop} (hgd : o.guard = none) (s x : Operand) (t : TypeId)
    (ho : o.op = .call { callee := .builtin .append, args := #[s, x], argTypes := #[t, t] }) {e : TypeId} {z : Value} {sz bytes : Nat} (he : Elt t e z sz bytes) {ds rs : List (List Dat)} {v : Value} {b : List Nat}
    (h : Ms w0 (.dt (.rows e sz ds) v b :: L) W) (hs : a.eval s = v) (A : Option Addr) (m c0 : Nat) (hx : a.eval x = .slice A m c0) (hrd : RdC W W.heap.size (.rows e sz rs) (.slice A m c0)) (hfl : FlatR rs sz) (hlen : ds.length + rs.length ≤ 2000000)
    (K : ∀ A' c' W' b', Ms w0 (.dt (.rows e sz (ds ++ rs)) (.slice A' (ds.length + m) c') b' :: L) W' → KN (a.put o.dst (.slice A' (ds.length + m) c')) W') : if Region.wanted o (yielded ops a.tmps) = true then Oper.wp Try.prog o a W KN Q else E := by
  obtain ⟨i, ht, hi, hz, hsize, hby, hzs, hsz, hbm⟩ := he
  obtain ⟨A', c', hv, hc, hrd⟩ := hrd
  injection hv with e1 e2 e3
  subst e1 e2 e3
  by_cases h0 : 0 < rs.length
  · obtain ⟨ad, rfl, hbk, hsp, hrr⟩ := hrd h0
    obtain ⟨ys, k1, k2, k3, k4⟩ := RdR.flat hfl hrr
    obtain ⟨xs, hown, grow⟩ := Ms.grow (Y := []) h k2 (by simp) (by simp)
    refine step_append_lies _ hgd s x t ho 0 e i z sz bytes ht hi hz hsize hby hzs hsz v ds.length xs hs hown ad rs.length c0 ys hx k1 (fun j u hu => by have := k4 j u hu; simpa using this) k3 h0 (by unfold maxLen; omega) ?_ (Nat.zero_le _) _ rfl ?_
    · exact bytes_fit (by omega) hbm
    · intro g cap W' hown' hg hat hlt
      obtain ⟨b', hm⟩ := grow g (ds.length + rs.length) cap W' (by rw [List.length_append]; exact hown') hg hat hlt
      exact K _ cap W' b' hm
  · obtain rfl : rs = [] := List.eq_nil_of_length_eq_zero (by omega)
    obtain ⟨xs, cs, hown, _⟩ : OwC W (.rows e sz ds) v b := h.at_ (i := 0) rfl
    refine step_ms_zero hgd s x t ho 0 e i sz ht hi v ds.length xs hs hown A c0 hx ?_
    obtain ⟨Av, cv, rfl⟩ := own_form hown
    exact K Av cv W b (by simpa using h)
end
end Go.Proofs.Ytninppjomdhnmaa.low


/-
  More of Ms: a box written whole, some of the items alone, what new memory is called.
-/
namespace Go.Proofs.Ytninppjomdhnmaa.low
open Go.RowKit
set_option linter.unusedVariables false
/-- an int's range -/
def Rng (n : Int) : Prop := -9223372036854775808 ≤ n ∧ n < 9223372036854775808
theorem rngI {n : Int} (h : (Lit.int .i64 n).wf = true) : Rng n := by
  have h64 : -9223372036854775808 ≤ n ∧ n ≤ 9223372036854775807 := by simpa [Lit.wf, IntKind.min, IntKind.max, IntKind.signed, IntKind.bits] using h
  unfold Rng
  omega
section
variable {w0 W W' : World} {L L' : List It} {x y : It}
theorem putRow_cells {g : Nat} {T : TypeId} : ∀ {ys : List Value} {cs : Array Value} {o : Nat} {W : World}, o + ys.length = cs.size → W.heap[g]? = some (.cells cs T (0, 0)) → (putRow W g o ys).heap[g]? = some (.cells (cs.toList.take o ++ ys).toArray T (0, 0))
  | [], cs, o, W, hl, h => by
    rw [putRow, h]
    have e : cs.toList.take o = cs.toList := List.take_of_length_le (by simp at hl; simp; omega)
    simp [e]
  | y :: ys, cs, o, W, hl, h => by
    rw [putRow]
    simp only [List.length_cons] at hl
    have h1 := putRow_cells (ys := ys) (cs := cs.setIfInBounds o y) (o := o + 1) (by rw [Array.size_setIfInBounds]; omega) (bxset h y)
    rw [h1]
    have e : (cs.setIfInBounds o y).toList.take (o + 1) = cs.toList.take o ++ [y] := by
      rw [Array.toList_setIfInBounds, List.take_add_one, List.take_set_of_le (Nat.le_refl o)]
      congr 1
      rw [List.getElem?_set_self (by simp; omega)]
      rfl
    rw [e, List.append_assoc]
    rfl
/-- a box written whole -/
theorem Ms.putRow {g : Nat} {cs : Array Value} {T : TypeId} {ys : List Value} (h : Ms w0 (.bx g (.cells cs T (0, 0)) :: L) W) (hl : ys.length = cs.size) : Ms w0 (.bx g (.cells ys.toArray T (0, 0)) :: L) (low.putRow W g 0 ys) := by
  have hg := h.glt (i := 0) rfl
  have hk := putRow_cells (ys := ys) (o := 0) (by omega) (h.at_ (i := 0) (x := .bx g (.cells cs T (0, 0))) rfl)
  refine h.turn (Nat.le_of_eq (putRow_size g ys W 0).symm) (fun q hq hn => putRow_block g ys W 0 q (fun e => hn (by simp [It.bs]; exact e))) (putRow_below hg.1 ys W 0 h.bl) ?_ (by simp [It.bs]) (fun q hq => .inl hq)
  show (low.putRow W g 0 ys).heap[g]? = _
  simpa using hk
/-- two boxes are two blocks -/
theorem Ms.ne (h : Ms w0 L W) {i j g g' : Nat} {o o' : Obj} (hi : L[i]? = some (.bx g o)) (hj : L[j]? = some (.bx g' o')) (hij : i < j) : ¬ g = g' ∧ ¬ g' = g := by
  have key : ∀ (L : List It) (i j : Nat), i < j → (L.flatMap It.bs).Nodup → L[i]? = some (.bx g o) → L[j]? = some (.bx g' o') → ¬ g = g' := by
    intro L
    induction L with
    | nil => intro i j _ _ hi; simp at hi
    | cons x L ih =>
      intro i j hij hnd hi hj
      rw [List.flatMap_cons, List.nodup_append] at hnd
      cases j with
      | zero => omega
      | succ j =>
        simp only [List.getElem?_cons_succ] at hj
        cases i with
        | zero =>
          simp only [List.getElem?_cons_zero, Option.some.injEq] at hi
          subst hi
          intro e
          subst e
          exact hnd.2.2 g (by simp [It.bs]) g (List.mem_flatMap.2 ⟨_, List.mem_of_getElem? hj, by simp [It.bs]⟩) rfl
        | succ i =>
          simp only [List.getElem?_cons_succ] at hi
          exact ih i j (by omega) hnd.2.1 hi hj
  have := key L i j hij h.nd hi hj
  exact ⟨this, fun e => this e.symm⟩
/-- the items at these places, in this order (each place at most once) -/
theorem Ms.pick (h : Ms w0 L W) : ∀ {ks : List Nat} {L' : List It}, ks.Nodup → ks.map (fun k => L[k]?) = L'.map some → Ms w0 L' W := fun {ks L'} hn hm => by
  have hmem : ∀ x ∈ L', x ∈ L := fun x hx => by
    have : some x ∈ ks.map (fun k => L[k]?) := by rw [hm]; exact List.mem_map_of_mem hx
    obtain ⟨k, _, hk⟩ := List.mem_map.1 this
    exact List.mem_of_getElem? hk
  refine ⟨fun x hx => h.ok x (hmem x hx), ?_, fun q hq => ?_, h.bl⟩
  · have key : ∀ (L : List It) (ks : List Nat) (L' : List It), (L.flatMap It.bs).Nodup → ks.Nodup → ks.map (fun k => L[k]?) = L'.map some → (L'.flatMap It.bs).Nodup := by
      intro L ks
      induction ks with
      | nil => intro L' _ _ hm; cases L' with | nil => simp | cons _ _ => simp at hm
      | cons k ks ih =>
        intro L' hnd hn hm
        cases L' with
        | nil => simp at hm
        | cons x L' =>
          simp only [List.map_cons, List.cons.injEq] at hm
          obtain ⟨hk, hm⟩ := hm
          have hn' := List.nodup_cons.1 hn
          have ih' := ih L' hnd hn'.2 hm
          rw [List.flatMap_cons, List.nodup_append]
          have hp := erase_perm hk
          have hnd2 := (hp.flatMap_right It.bs).nodup_iff.1 hnd
          rw [List.flatMap_cons, List.nodup_append] at hnd2
          refine ⟨hnd2.1, ih', fun a ha b hb e => ?_⟩
          subst e
          obtain ⟨y, hy, hay⟩ := List.mem_flatMap.1 hb
          have : some y ∈ ks.map (fun k => L[k]?) := by rw [hm]; exact List.mem_map_of_mem hy
          obtain ⟨k2, hk2, hky⟩ := List.mem_map.1 this
          have hne : k2 ≠ k := fun e => hn'.1 (e ▸ hk2)
          have hmem2 : y ∈ L.eraseIdx k := by
            rw [List.mem_eraseIdx_iff_getElem?]
            exact ⟨k2, hne, hky⟩
          exact hnd2.2.2 a ha a (List.mem_flatMap.2 ⟨y, hmem2, hay⟩) rfl
    exact key L ks L' h.nd hn hm
  · obtain ⟨x, hx, hq⟩ := List.mem_flatMap.1 hq
    exact h.rg q (List.mem_flatMap.2 ⟨x, hmem x hx, hq⟩)
/-- the value owned comes with what else is known: an 'OwnPost' out of the first item -/
theorem Ms.post {d : Dat} {v : Value} {b : List Nat} (h : Ms w0 (.dt d v b :: L) W) : OwnPost d w0 (.returned v) W := ⟨v, rfl, h.own (i := 0) rfl, h.bl⟩
theorem Ms.resB {d : Dat} {v : Value} {b : List Nat} (ok : Bool) (h : Ms w0 (.dt d v b :: L) W) : ResB d ok w0 (.returned (.tuple #[v, .bool ok])) W := ⟨v, rfl, h.own (i := 0) rfl, h.bl⟩
theorem RdL.shift {w : World} {B b off k : Nat} : ∀ {ds : List Dat} {o : Nat}, RdL w B ⟨b, off, none⟩ (k + o) ds → RdL w B ⟨b, off + k, none⟩ o ds
  | [], _, _ => trivial
  | d :: ds, o, h => by
    obtain ⟨⟨v, hv, hd⟩, h2⟩ := h
    refine ⟨⟨v, ?_, hd⟩, RdL.shift (o := o + 1) (by rw [← Nat.add_assoc]; exact h2)⟩
    rw [add_at] at hv ⊢
    rw [Nat.add_assoc]
    exact hv
theorem RdR.shift {w : World} {B b off k sz : Nat} : ∀ {rs : List (List Dat)} {o : Nat}, RdR w B sz ⟨b, off, none⟩ (k + o) rs → RdR w B sz ⟨b, off + k, none⟩ o rs
  | [], _, _ => trivial
  | r :: rs, o, h => ⟨RdL.shift h.1, RdR.shift (o := o + sz) (by rw [← Nat.add_assoc]; exact h.2)⟩
theorem RdR.drop_ {w : World} {B sz : Nat} {ad : Addr} : ∀ {m : Nat} {rs : List (List Dat)} {o : Nat}, RdR w B sz ad o rs → RdR w B sz ad (o + m * sz) (rs.drop m)
  | 0, rs, o, h => by simpa using h
  | m + 1, [], o, h => by simp [RdR]
  | m + 1, r :: rs, o, h => by
    have := RdR.drop_ (m := m) h.2
    rw [List.drop_succ_cons, show o + (m + 1) * sz = o + sz + m * sz by rw [Nat.succ_mul]; omega]
    exact this
theorem RdR.take_ {w : World} {B sz : Nat} {ad : Addr} : ∀ {m : Nat} {rs : List (List Dat)} {o : Nat}, RdR w B sz ad o rs → RdR w B sz ad o (rs.take m)
  | 0, rs, o, h => trivial
  | m + 1, [], o, h => h
  | m + 1, r :: rs, o, h => ⟨h.1, RdR.take_ h.2⟩
theorem RdC.drop_ {w : World} {B b off n c sz : Nat} {e : TypeId} {ds : List (List Dat)} (m : Nat) (h : RdC w B (.rows e sz ds) (.slice (some ⟨b, off, none⟩) n c)) : RdC w B (.rows e sz (ds.drop m)) (.slice (some ⟨b, off + m * sz, none⟩) (n - m) (c - m)) := by
  obtain ⟨A, c', hv, hc, hr⟩ := h
  injection hv with e1 e2 e3
  subst e2 e3
  refine ⟨_, _, by rw [List.length_drop], by rw [List.length_drop]; omega, fun h0 => ?_⟩
  rw [List.length_drop] at h0
  obtain ⟨ad, hA, hb, hs, hr⟩ := hr (by omega)
  rw [← e1] at hA
  injection hA with hA
  subst hA
  refine ⟨_, rfl, hb, .inr rfl, RdR.shift ?_⟩
  have := RdR.drop_ (m := m) hr
  rw [Nat.zero_add] at this
  exact this
theorem sliceV {w : World} {B sz : Nat} {e : TypeId} {ds : List (List Dat)} {v : Value} (h : RdC w B (.rows e sz ds) v) : ∃ A n c, v = .slice A n c := by
  obtain ⟨A, c, hv, _⟩ := h
  exact ⟨A, _, c, hv⟩
theorem RdC.cap_le {w : World} {B n c sz : Nat} {A : Option Addr} {e : TypeId} {ds : List (List Dat)} (h : RdC w B (.rows e sz ds) (.slice A n c)) : n ≤ c := by
  obtain ⟨A', c', hv, hc, hr⟩ := h
  injection hv with e1 e2 e3
  omega
theorem RdC.dropNil {w : World} {B c sz : Nat} {A : Option Addr} {e : TypeId} {ds : List (List Dat)} {m : Nat} (hm : ds.length ≤ m) : RdC w B (.rows e sz (ds.drop m)) (.slice A 0 c) := by
  rw [List.drop_eq_nil_of_le hm]
  exact ⟨A, c, rfl, Nat.zero_le _, fun h => absurd h (by simp)⟩
theorem RdC.take_ {w : World} {B n c sz : Nat} {A : Option Addr} {e : TypeId} {ds : List (List Dat)} {m : Nat} (h : RdC w B (.rows e sz ds) (.slice A n c)) (hm : m ≤ ds.length) : RdC w B (.rows e sz (ds.take m)) (.slice A m c) := by
  obtain ⟨A', c', hv, hc, hr⟩ := h
  injection hv with e1 e2 e3
  subst e1 e2 e3
  have hl : (ds.take m).length = m := by rw [List.length_take]; omega
  refine ⟨_, _, by rw [hl], by rw [hl]; omega, fun h0 => ?_⟩
  obtain ⟨ad, hA, hb, hs, hr⟩ := hr (by omega)
  exact ⟨ad, hA, hb, hs, RdR.take_ hr⟩
end
end Go.Proofs.Ytninppjomdhnmaa.low


/-
  More posts in the words of Ms: a datum beside numbers; values that are only read, out of new memory.
-/
namespace Go.Proofs.Ytninppjomdhnmaa.low
open Go.RowKit
set_option linter.unusedVariables false
/-- a datum of one's own, and a number -/
def ResN (d : Dat) (n : Int) (w : World) (e : Ending) (w' : World) : Prop := ∃ v, e = .returned (.tuple #[v, .int .i64 n]) ∧ Own w.heap.size w'.heap.size w' d v ∧ Below w.heap.size w w'
def ResNN (d : Dat) (n m : Int) (w : World) (e : Ending) (w' : World) : Prop := ∃ v, e = .returned (.tuple #[v, .int .i64 n, .int .i64 m]) ∧ Own w.heap.size w'.heap.size w' d v ∧ Below w.heap.size w w'
/-- a value that reads as a datum out of the blocks b alone, all of them in [lo, hi) -/
structure RdB (lo hi : Nat) (w : World) (d : Dat) (v : Value) (b : List Nat) : Prop where
  rd : ∀ W' : World, (∀ q ∈ b, W'.heap[q]? = w.heap[q]?) → ∀ B, (∀ q ∈ b, q < B) → RdC W' B d v
  rng : ∀ q ∈ b, lo ≤ q ∧ q < hi
  top : hi ≤ w.heap.size
  le : lo ≤ hi
def RdOwn (lo hi : Nat) (w : World) (d : Dat) (v : Value) : Prop := ∃ b, RdB lo hi w d v b
theorem RdOwn.blocks {lo hi : Nat} {w : World} {d : Dat} {v : Value} (h : RdOwn lo hi w d v) : ∃ b, RdB lo hi w d v b := h
theorem RdB.read {lo hi : Nat} {w : World} {d : Dat} {v : Value} {b : List Nat} (h : RdB lo hi w d v b) : RdC w w.heap.size d v := h.rd w (fun _ _ => rfl) _ (fun q hq => Nat.lt_of_lt_of_le (h.rng q hq).2 h.top)
theorem RdOwn.read {lo hi : Nat} {w : World} {d : Dat} {v : Value} (h : RdOwn lo hi w d v) : RdC w w.heap.size d v := by obtain ⟨b, h⟩ := h; exact h.read
theorem RdB.keep {lo hi : Nat} {w w' : World} {d : Dat} {v : Value} {b : List Nat} (h : RdB lo hi w d v b) (hk : ∀ q ∈ b, w'.heap[q]? = w.heap[q]?) (hs : w.heap.size ≤ w'.heap.size) : RdB lo hi w' d v b :=
  ⟨fun W2 h2 => h.rd W2 (fun q hq => (h2 q hq).trans (hk q hq)), h.rng, Nat.le_trans h.top hs, h.le⟩
theorem RdB.past {lo hi : Nat} {w w' : World} {d : Dat} {v : Value} {b : List Nat} (h : RdB lo hi w d v b) (hb : Below w.heap.size w w') : RdB lo hi w' d v b := h.keep (fun q hq => hb.block q (Nat.lt_of_lt_of_le (h.rng q hq).2 h.top)) hb.size
theorem RdB.touch {lo hi : Nat} {w w' : World} {d : Dat} {v : Value} {b : List Nat} {T : Nat → Prop} (h : RdB lo hi w d v b) (ht : Touch T w w') (hn : ∀ x ∈ b, ¬ T x) : RdB lo hi w' d v b := h.keep (fun q hq => ht.block q (hn q hq)) (Nat.le_of_eq ht.size.symm)
theorem RdB.apart {lo hi lo' hi' : Nat} {w w' : World} {d d' : Dat} {v v' : Value} {b b' : List Nat} {w0 : World} (h : RdB lo hi w d v b) (h' : OwB lo' hi' w0 d' v' b') (ht : Touch (fun x => x ∈ b') w w') (hd : hi ≤ lo' ∨ hi' ≤ lo) : RdB lo hi w' d v b :=
  h.touch ht (fun x hx hx' => by have h1 := h.rng x hx; have h2 := h'.rng x hx'; omega)
def RdNN (d : Dat) (n m : Int) (w : World) (e : Ending) (w' : World) : Prop := ∃ v, e = .returned (.tuple #[v, .int .i64 n, .int .i64 m]) ∧ RdOwn w.heap.size w'.heap.size w' d v ∧ Below w.heap.size w w'
section
variable {w0 W W' : World} {L L' : List It} {x y : It}
theorem Ms.resN {d : Dat} {v : Value} {b : List Nat} (n : Int) (h : Ms w0 (.dt d v b :: L) W) : ResN d n w0 (.returned (.tuple #[v, .int .i64 n])) W := ⟨v, rfl, h.own (i := 0) rfl, h.bl⟩
theorem Ms.resNN {d : Dat} {v : Value} {b : List Nat} (n m : Int) (h : Ms w0 (.dt d v b :: L) W) : ResNN d n m w0 (.returned (.tuple #[v, .int .i64 n, .int .i64 m])) W := ⟨v, rfl, h.own (i := 0) rfl, h.bl⟩
theorem Ms.rdown {d : Dat} {v : Value} {b : List Nat} (h : Ms w0 (.rd d v b :: L) W) : RdOwn w0.heap.size W.heap.size W d v :=
  ⟨b, (h.at_ (i := 0) (x := .rd d v b) rfl).2, h.bsAt (i := 0) (x := .rd d v b) rfl, Nat.le_refl _, h.size⟩
theorem Ms.rdNN {d : Dat} {v : Value} {b : List Nat} (n m : Int) (h : Ms w0 (.rd d v b :: L) W) : RdNN d n m w0 (.returned (.tuple #[v, .int .i64 n, .int .i64 m])) W := ⟨v, rfl, h.rdown, h.bl⟩
/-- what is only read may be said otherwise -/
theorem Ms.say {d d' : Dat} {v v' : Value} {b : List Nat} (h : Ms w0 (.rd d v b :: L) W) (hf : ∀ (W : World) (B : Nat), RdC W B d v → RdC W B d' v') : Ms w0 (.rd d' v' b :: L) W :=
  h.turn (Nat.le_refl _) (fun _ _ _ => rfl) h.bl ⟨(h.at_ (i := 0) (x := .rd d v b) rfl).1, fun W2 h2 B hB => hf _ _ ((h.at_ (i := 0) (x := .rd d v b) rfl).2 W2 h2 B hB)⟩ (show b.Nodup from h.ndAt (i := 0) (x := .rd d v b) rfl) (fun q hq => .inl hq)
theorem Ms.rk0 (h : Ms w0 L W) : Ms w0 (.rd (.agg []) (.agg #[]) [] :: L) W := h.cons (Below.refl _ _) ⟨fun q hq => by simp at hq, fun W' _ B _ => ⟨[], rfl, rfl⟩⟩ (by simp [It.bs]) (fun q hq => by simp [It.bs] at hq)
theorem rdagg {W : World} {B : Nat} {ds : List Dat} {vs : List Value} (h : RdC W B (.agg ds) (.agg vs.toArray)) : RdV W B ds vs := by
  obtain ⟨xs, hx, h⟩ := h
  have e := agg_inj hx
  subst e
  exact h
theorem Ms.rkF {ds : List Dat} {vs : List Value} {b : List Nat} {d : Dat} {u : Value} (h : Ms w0 (.rd (.agg ds) (.agg vs.toArray) b :: L) W) (hf : ∀ (W : World) (B : Nat), RdC W B d u) : Ms w0 (.rd (.agg (d :: ds)) (.agg (u :: vs).toArray) b :: L) W :=
  h.say (fun W B hr => ⟨u :: vs, rfl, u, vs, rfl, hf W B, rdagg hr⟩)
theorem Ms.rkO {ds : List Dat} {vs : List Value} {b c : List Nat} {d : Dat} {v : Value} (h : Ms w0 (.rd (.agg ds) (.agg vs.toArray) b :: .rd d v c :: L) W) : Ms w0 (.rd (.agg (d :: ds)) (.agg (v :: vs).toArray) (c ++ b) :: L) W := by
  have hnd := h.nd
  have hrg := h.rg
  rw [List.flatMap_cons, List.flatMap_cons, ← List.append_assoc] at hnd hrg
  have h1 := h.at_ (i := 0) (x := .rd (.agg ds) (.agg vs.toArray) b) rfl
  have h2 := h.at_ (i := 1) (x := .rd d v c) rfl
  have e : ∀ q, q ∈ c ++ b ↔ q ∈ b ++ c := fun q => by simp only [List.mem_append]; exact Or.comm
  refine ⟨fun z hz => ?_, ?_, fun q hq => ?_, h.bl⟩
  · rcases List.mem_cons.1 hz with rfl | hz
    · refine ⟨fun q hq => ?_, fun W2 k B hB => ⟨v :: vs, rfl, v, vs, rfl, h2.2 W2 (fun q hq => k q (List.mem_append_left _ hq)) B (fun q hq => hB q (List.mem_append_left _ hq)), rdagg (h1.2 W2 (fun q hq => k q (List.mem_append_right _ hq)) B (fun q hq => hB q (List.mem_append_right _ hq)))⟩⟩
      rcases List.mem_append.1 hq with hq | hq
      · exact h2.1 q hq
      · exact h1.1 q hq
    · exact h.ok z (by simp [hz])
  · rw [List.flatMap_cons]
    exact ((List.perm_append_comm (l₁ := b) (l₂ := c)).append_right _).nodup_iff.1 hnd
  · refine hrg q ?_
    rw [List.flatMap_cons] at hq
    rcases List.mem_append.1 hq with hq | hq
    · exact List.mem_append_left _ ((e q).1 hq)
    · exact List.mem_append_right _ hq
end
end Go.Proofs.Ytninppjomdhnmaa.low

