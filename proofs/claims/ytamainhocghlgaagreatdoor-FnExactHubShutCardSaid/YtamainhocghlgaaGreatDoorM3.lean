/-
  Texts that the proofs over this seat rest on, one behind the other (3 of 6).
-/
import Derived.Test.YtamainhocghlgaaGreatDoorM1
import Derived.Test.YtamainhocghlgaaGreatDoorM2
import Derived.Deep.AppendLies

/-
  The struct type Hub of the laws: its words, and the laws' own functions on it and on slices of it. Written by mkty.py.
-/
namespace Go.Proofs.YtamainhocghlgaaGreatDoor.low
open Go.RowKit
set_option linter.unusedVariables false

structure Hu where
  shut : Bool
  docs : List Do
  subs : List Su
  last : Int
def encHu (x : Hu) : List Dat := [.bool x.shut, encDos x.docs, encSus x.subs, .int x.last]
def datHu (x : Hu) : Dat := .agg (encHu x)
def totHu (x : Hu) : Nat := totDos x.docs + totSus x.subs
def LimHu (x : Hu) : Prop := LimDos x.docs ∧ LimSus x.subs
def SmHu (x : Hu) : Prop := totHu x ≤ 1048576
def totHus (l : List Hu) : Nat := l.length + sumN totHu l
def SmHus (l : List Hu) : Prop := totHus l ≤ 1048576
theorem SmHus.len {l : List Hu} (h : SmHus l) : l.length ≤ 1048576 := by unfold SmHus totHus at h; omega
theorem SmHus.at_ {l : List Hu} (h : SmHus l) {x : Hu} (hx : x ∈ l) : SmHu x := by
  unfold SmHus totHus at h
  have := sumN_at (f := totHu) hx
  unfold SmHu
  omega
theorem SmHu.docs {x : Hu} (h : SmHu x) : SmDos x.docs := smDos_of (by unfold SmHu totHu at h; omega)
theorem SmHu.subs {x : Hu} (h : SmHu x) : SmSus x.subs := smSus_of (by unfold SmHu totHu at h; omega)
theorem aggHu {w : World} {B : Nat} {x : Hu} {v : Value} (h : RdC w B (datHu x) v) : ∃ (A1 : Option Addr) (c1 : Nat) (A2 : Option Addr) (c2 : Nat), v = .agg #[.bool x.shut, .slice A1 x.docs.length c1, .slice A2 x.subs.length c2, .int .i64 x.last] ∧ RdC w B (encDos x.docs) (.slice A1 x.docs.length c1) ∧ RdC w B (encSus x.subs) (.slice A2 x.subs.length c2) := by
  obtain ⟨vs, rfl, v0, _, rfl, rfl, v1, _, rfl, r1, v2, _, rfl, r2, v3, _, rfl, rfl, rfl⟩ := h
  obtain ⟨A1, c1, rfl⟩ := sliceDos r1
  obtain ⟨A2, c2, rfl⟩ := sliceSus r2
  exact ⟨A1, c1, A2, c2, rfl, r1, r2⟩
theorem rdHu {w : World} {B : Nat} (x : Hu) {v1 : Value} {v2 : Value} (r1 : RdC w B (encDos x.docs) v1) (r2 : RdC w B (encSus x.subs) v2) : RdC w B (datHu x) (.agg #[.bool x.shut, v1, v2, .int .i64 x.last]) := ⟨_, rfl, _, _, rfl, rfl, _, _, rfl, r1, _, _, rfl, r2, _, _, rfl, rfl, rfl⟩
theorem cntHu_a (x : Hu) : cntC (datHu x) = cntC (encDos x.docs) + cntC (encSus x.subs) := by
  show cntA [.bool x.shut, encDos x.docs, encSus x.subs, .int x.last] = _
  simp only [cntA, cntF, encDos, encSus, cntC]
  try omega
theorem mkHu_a (k : Int) (x : Hu) : mkC k (datHu x) = .agg [.bool x.shut, mkC (k) (encDos x.docs), mkC (k + (cntC (encDos x.docs) : Int)) (encSus x.subs), .int x.last] := by
  show Dat.agg (mkA k [.bool x.shut, encDos x.docs, encSus x.subs, .int x.last]) = _
  simp [mkA, mkF, cntF, mkC, cntC, encDos, encSus]
theorem cntHu {x : Hu} (h : SmHu x) : cntC (datHu x) ≤ 5242880 := by
  rw [cntHu_a]
  unfold SmHu totHu at h
  have h1 := cntDos_le x.docs
  have h2 := cntSus_le x.subs
  omega

set_option maxRecDepth 100000 in
set_option maxHeartbeats 1600000 in
theorem szHu (v : Value) (x : Hu) (left : Int) (w : World) (h : RdC w w.heap.size (datHu x) v) (h0 : 0 ≤ left) (h1 : left ≤ 1048576) (hl : LimHu x) : Calls Tryz.prog 4 #[v, .int .i64 left] w (Sized (totHu x) left w) := by
  obtain ⟨A1, c1, A2, c2, rfl, r1, r2⟩ := aggHu h
  have b0 := alloc_below w (.cells #[.bool x.shut, .slice A1 x.docs.length c1, .slice A2 x.subs.length c2, .int .i64 x.last] 25)
  have hlt : w.heap.size < (w.alloc (.cells #[.bool x.shut, .slice A1 x.docs.length c1, .slice A2 x.subs.length c2, .int .i64 x.last] 25)).heap.size := by rw [World.size_alloc]; omega
  have D0 : Below (w.alloc (.cells #[.bool x.shut, .slice A1 x.docs.length c1, .slice A2 x.subs.length c2, .int .i64 x.last] 25)).heap.size (w.alloc (.cells #[.bool x.shut, .slice A1 x.docs.length c1, .slice A2 x.subs.length c2, .int .i64 x.last] 25)) (w.alloc (.cells #[.bool x.shut, .slice A1 x.docs.length c1, .slice A2 x.subs.length c2, .int .i64 x.last] 25)) := Below.refl _ _
  unfold LimHu at hl
  have HT := Lib.hid (show totHu x = totDos x.docs + totSus x.subs from rfl)
  go_enter Tryz.func4, Tryz.ntmps4
  go_wp2_with fail
  refine (szDos _ x.docs left _ ((r1.past b0).past D0) (by omega) (by omega) hl.1).mono ?_
  rintro e w1 ⟨e1, rfl, hr1, k1⟩
  have D1 := D0.trans (k1.mono D0.size)
  rcases hr1 with rfl | ⟨p1, q1⟩
  · go_wp2
    go_ret
    exact ⟨_, rfl, .inl rfl, b0.trans (D1.mono b0.size)⟩
  have t1 : e1 ≤ 1048576 := by omega
  have Q1 := Lib.hid q1
  clear q1 k1
  have y2 := (D1.cell (p := ⟨w.heap.size, 2, none⟩) hlt).trans (bxnew (w := w) (cs := #[.bool x.shut, .slice A1 x.docs.length c1, .slice A2 x.subs.length c2, .int .i64 x.last]) (j := 2) rfl)
  go_wp2_with fail
  refine (szSus _ x.subs e1 _ ((r2.past b0).past D1) (by omega) (by omega) hl.2).mono ?_
  rintro e w2 ⟨e2, rfl, hr2, k2⟩
  have D2 := D1.trans (k2.mono D1.size)
  rcases hr2 with rfl | ⟨p2, q2⟩
  · go_wp2
    go_ret
    exact ⟨_, rfl, .inl rfl, b0.trans (D2.mono b0.size)⟩
  have t2 : e2 ≤ 1048576 := by omega
  have Q2 := Lib.hid q2
  clear q2 k2
  go_wp2
  go_ret
  refine ⟨_, rfl, .inr ⟨by omega, ?_⟩, b0.trans (D2.mono b0.size)⟩
  rw [HT.out]
  have := Q1.out
  have := Q2.out
  omega

set_option maxRecDepth 100000 in
set_option maxHeartbeats 1600000 in
theorem toHu (v : Value) (x : Hu) (w : World) (h : RdC w w.heap.size (datHu x) v) (hs : SmHu x) : Calls Tryz.prog 6 #[v] w (OwnPost (datHu x) w) := by
  obtain ⟨A1, c1, A2, c2, rfl, r1, r2⟩ := aggHu h
  have R1 := Lib.hid r1
  clear r1
  have R2 := Lib.hid r2
  clear r2
  clear h
  have HM := Lib.hid (Ms.start w)
  replace HM := Lib.hid (HM.out.new #[.bool x.shut, .slice A1 x.docs.length c1, .slice A2 x.subs.length c2, .int .i64 x.last] 25)
  have hm := HM.out.new #[.bool false, .slice none 0 0, .slice none 0 0, .int .i64 0] 30
  simp only [World.size_alloc] at hm
  replace HM := Lib.hid hm
  clear hm
  have hm := HM.out.new #[.bool x.shut, .slice none 0 0, .slice none 0 0, .int .i64 0] 30
  simp only [World.size_alloc] at hm
  replace HM := Lib.hid hm
  clear hm
  go_enter Tryz.func6, Tryz.ntmps6
  go_wp2_with fail
  obtain ⟨W1, hW, hm⟩ := HM.out.name
  rw [← hW]
  replace HM := Lib.hid hm
  clear hm hW
  refine (toDos _ x.docs _ (HM.out.arg R1.out) hs.docs).mono ?_
  rintro e' W2 ⟨v', rfl, o', b'⟩
  obtain ⟨B1, d1, rfl⟩ := sliceDos o'.read
  obtain ⟨bl1, hm⟩ := HM.out.got o' b'
  clear o' b'
  replace HM := Lib.hid hm
  clear hm
  obtain ⟨nao, noa⟩ := HM.out.ne (i := 1) (j := 3) rfl rfl (by omega)
  have ka0 := HM.out.cell (i := 3) (j := 0) rfl rfl
  have ka1 := HM.out.cell (i := 3) (j := 1) rfl rfl
  have ka2 := HM.out.cell (i := 3) (j := 2) rfl rfl
  have ka3 := HM.out.cell (i := 3) (j := 3) rfl rfl
  have ko0 := HM.out.cell (i := 1) (j := 0) rfl rfl
  have ko1 := HM.out.cell (i := 1) (j := 1) rfl rfl
  have ko2 := HM.out.cell (i := 1) (j := 2) rfl rfl
  have ko3 := HM.out.cell (i := 1) (j := 3) rfl rfl
  have fo : ∀ j, _ := fun j => HM.out.free (i := 1) (j := j) rfl
  have fo0 := fo 0
  have fo1 := fo 1
  have fo2 := fo 2
  have fo3 := fo 3
  clear fo
  go_wp2_with fail
  clear ka0 ka1 ka2 ka3 ko0 ko1 ko2 ko3 fo0 fo1 fo2 fo3
  have hm := HM.out.pk [1, 0, 2, 3] (by decide) (by simp)
  simp only [low.pk, List.getElem?_cons_zero, List.getElem?_cons_succ] at hm
  replace HM := Lib.hid hm
  clear hm
  have hm := HM.out.set (j := 1) (.slice B1 x.docs.length d1)
  simp only [pa, pb, pc] at hm
  replace HM := Lib.hid hm
  clear hm
  obtain ⟨W3, hW, hm⟩ := HM.out.name
  rw [← hW]
  replace HM := Lib.hid hm
  clear hm hW
  refine (toSus _ x.subs _ (HM.out.arg R2.out) hs.subs).mono ?_
  rintro e' W4 ⟨v', rfl, o', b'⟩
  obtain ⟨B2, d2, rfl⟩ := sliceSus o'.read
  obtain ⟨bl2, hm⟩ := HM.out.got o' b'
  clear o' b'
  replace HM := Lib.hid hm
  clear hm
  have ka0 := HM.out.cell (i := 4) (j := 0) rfl rfl
  have ka1 := HM.out.cell (i := 4) (j := 1) rfl rfl
  have ka2 := HM.out.cell (i := 4) (j := 2) rfl rfl
  have ka3 := HM.out.cell (i := 4) (j := 3) rfl rfl
  have ko0 := HM.out.cell (i := 1) (j := 0) rfl rfl
  have ko1 := HM.out.cell (i := 1) (j := 1) rfl rfl
  have ko2 := HM.out.cell (i := 1) (j := 2) rfl rfl
  have ko3 := HM.out.cell (i := 1) (j := 3) rfl rfl
  have fo : ∀ j, _ := fun j => HM.out.free (i := 1) (j := j) rfl
  have fo0 := fo 0
  have fo1 := fo 1
  have fo2 := fo 2
  have fo3 := fo 3
  clear fo
  obtain ⟨nro, nor⟩ := HM.out.ne (i := 1) (j := 3) rfl rfl (by omega)
  have kr0 := HM.out.cell (i := 3) (j := 0) rfl rfl
  have kr1 := HM.out.cell (i := 3) (j := 1) rfl rfl
  have kr2 := HM.out.cell (i := 3) (j := 2) rfl rfl
  have kr3 := HM.out.cell (i := 3) (j := 3) rfl rfl
  have fr : ∀ j, _ := fun j => HM.out.free (i := 3) (j := j) rfl
  have fr0 := fr 0
  have fr1 := fr 1
  have fr2 := fr 2
  have fr3 := fr 3
  clear fr
  go_wp2
  clear ka0 ka1 ka2 ka3 ko0 ko1 ko2 ko3 fo0 fo1 fo2 fo3 kr0 kr1 kr2 kr3 fr0 fr1 fr2 fr3
  have hm := HM.out.pk [1, 0, 2, 3, 4] (by decide) (by simp)
  simp only [low.pk, List.getElem?_cons_zero, List.getElem?_cons_succ] at hm
  replace HM := Lib.hid hm
  clear hm
  have hm := HM.out.set (j := 2) (.slice B2 x.subs.length d2)
  simp only [pa, pb, pc] at hm
  replace HM := Lib.hid hm
  clear hm
  have hm := HM.out.set (j := 3) (.int .i64 x.last)
  simp only [pa, pb, pc] at hm
  replace HM := Lib.hid hm
  clear hm
  have hm := HM.out.pk [3, 0, 1, 2, 4] (by decide) (by simp)
  simp only [low.pk, List.getElem?_cons_zero, List.getElem?_cons_succ] at hm
  replace HM := Lib.hid hm
  clear hm
  have hm := HM.out.putRow (ys := [.bool x.shut, .slice B1 x.docs.length d1, .slice B2 x.subs.length d2, .int .i64 x.last]) rfl
  simp only [low.putRow, Nat.zero_add, Nat.reduceAdd] at hm
  replace HM := Lib.hid hm
  clear hm
  obtain ⟨W5, hW, hm⟩ := HM.out.name
  rw [← hW]
  replace HM := Lib.hid hm
  clear hm hW
  have kr0 := HM.out.cell (i := 0) (j := 0) rfl rfl
  have kr1 := HM.out.cell (i := 0) (j := 1) rfl rfl
  have kr2 := HM.out.cell (i := 0) (j := 2) rfl rfl
  have kr3 := HM.out.cell (i := 0) (j := 3) rfl rfl
  have hm := HM.out.pk [2, 3, 0, 1, 4] (by decide) (by simp)
  simp only [low.pk, List.getElem?_cons_zero, List.getElem?_cons_succ] at hm
  replace HM := Lib.hid hm
  clear hm
  exact bodyPost_ret (v := .agg #[.bool x.shut, .slice B1 x.docs.length d1, .slice B2 x.subs.length d2, .int .i64 x.last]) (by simp [results, Tryz.results6, go_sem, kr0, kr1, kr2, kr3]) rfl (show Ms w (.dt (datHu x) (.agg #[.bool x.shut, .slice B1 x.docs.length d1, .slice B2 x.subs.length d2, .int .i64 x.last]) _ :: _) _ from ((HM.out.pk0.pkF rfl).pkO.pkO.pkF rfl)).post

set_option maxRecDepth 100000 in
set_option maxHeartbeats 1600000 in
theorem eqHu (v v' : Value) (x : Hu) (w : World) (h : RdC w w.heap.size (datHu x) v) (h' : RdC w w.heap.size (datHu x) v') (hs : SmHu x) : Calls Tryz.prog 8 #[v, v'] w (Tells true w) := by
  obtain ⟨A1, c1, A2, c2, rfl, r1, r2⟩ := aggHu h
  obtain ⟨B1, d1, B2, d2, rfl, s1, s2⟩ := aggHu h'
  obtain ⟨g1, g2, b0⟩ := two_boxes w #[.bool x.shut, .slice A1 x.docs.length c1, .slice A2 x.subs.length c2, .int .i64 x.last] #[.bool x.shut, .slice B1 x.docs.length d1, .slice B2 x.subs.length d2, .int .i64 x.last] 30
  have D0 : Below ((w.alloc (.cells #[.bool x.shut, .slice A1 x.docs.length c1, .slice A2 x.subs.length c2, .int .i64 x.last] 30)).alloc (.cells #[.bool x.shut, .slice B1 x.docs.length d1, .slice B2 x.subs.length d2, .int .i64 x.last] 30)).heap.size ((w.alloc (.cells #[.bool x.shut, .slice A1 x.docs.length c1, .slice A2 x.subs.length c2, .int .i64 x.last] 30)).alloc (.cells #[.bool x.shut, .slice B1 x.docs.length d1, .slice B2 x.subs.length d2, .int .i64 x.last] 30)) ((w.alloc (.cells #[.bool x.shut, .slice A1 x.docs.length c1, .slice A2 x.subs.length c2, .int .i64 x.last] 30)).alloc (.cells #[.bool x.shut, .slice B1 x.docs.length d1, .slice B2 x.subs.length d2, .int .i64 x.last] 30)) := Below.refl _ _
  have lt2 := lt_of_some g2
  have lt1 := lt_of_some g1
  have n0 : (x.shut != x.shut) = false := by simp
  have n3 : (x.last != x.last) = false := by simp
  go_enter Tryz.func8, Tryz.ntmps8
  go_wp2_with fail
  refine (eqDos _ _ x.docs _ ((r1.past b0).past D0) ((s1.past b0).past D0) hs.docs).mono ?_
  rintro e w1 ⟨rfl, k1⟩
  have D1 := D0.trans (k1.mono D0.size)
  clear k1
  have y2 : w1.cell? ⟨w.heap.size, 2, none⟩ = some (.slice A2 x.subs.length c2) := (D1.cell (p := ⟨w.heap.size, 2, none⟩) lt1).trans (bxcell g1 rfl)
  have z2 : w1.cell? ⟨w.heap.size + 1, 2, none⟩ = some (.slice B2 x.subs.length d2) := (D1.cell (p := ⟨w.heap.size + 1, 2, none⟩) lt2).trans (bxcell g2 rfl)
  go_wp2_with fail
  refine (eqSus _ _ x.subs _ ((r2.past b0).past D1) ((s2.past b0).past D1) hs.subs).mono ?_
  rintro e w2 ⟨rfl, k2⟩
  have D2 := D1.trans (k2.mono D1.size)
  clear k2
  have y3 : w2.cell? ⟨w.heap.size, 3, none⟩ = some (.int .i64 x.last) := (D2.cell (p := ⟨w.heap.size, 3, none⟩) lt1).trans (bxcell g1 rfl)
  have z3 : w2.cell? ⟨w.heap.size + 1, 3, none⟩ = some (.int .i64 x.last) := (D2.cell (p := ⟨w.heap.size + 1, 3, none⟩) lt2).trans (bxcell g2 rfl)
  go_wp2
  go_ret
  exact ⟨rfl, b0.trans (D2.mono b0.size)⟩

end Go.Proofs.YtamainhocghlgaaGreatDoor.low


/-
  A law's argument of the struct type Entry, and a slice of them, opened. Written by mkty.py.
-/
namespace Go.Proofs.YtamainhocghlgaaGreatDoor.low
open Go.RowKit Go.ChangeShapes Go.WideShapes Go.Deep
set_option linter.unusedVariables false
theorem cellsLEn : Tryz.prog.cellsOf 142 = 3 := by kernel_rfl
theorem cellsLEns : Tryz.prog.cellsOf 62 = 1 := by kernel_rfl
section
variable {H : Type} {enc : TypeId × Value → H} {w : World} {base : Nat} {spare : Nat → Bool} {held : Bool}
set_option maxRecDepth 100000 in
theorem open_dEn {fuel : Nat} {cs : List Value} {x : DataW H × List MemPlace} (h : DataW.trod enc Tryz.prog w base spare held fuel 142 cs = some x) :
    ∃ (r : En) (A2 : Option Addr) (c2 : Nat), cs = [.int .i64 r.client, .int .i64 r.seq, .slice A2 r.o.length c2] ∧ RdC w w.heap.size (encPs r.o) (.slice A2 r.o.length c2) ∧ LimEn r := by
  obtain ⟨xs, n, _, _, hl, hxl, hf⟩ := DataW.trod_struct Tryz.underlying142 h
  rw [cellsLEn] at hl
  match cs, hl with
  | [k0, k1, k2], _ =>
    match xs, hxl with
    | [y0, y1, y2], _ =>
      have h0 := hf 0 _ rfl
      have h1 := hf 1 _ rfl
      have h2 := hf 2 _ rfl
      simp [cellsInt] at h0
      simp [cellsInt] at h1
      simp [cellsParts] at h2
      obtain ⟨z0, e0, _, _⟩ := DataW.trod_int Tryz.underlying3 h0
      obtain ⟨z1, e1, _, _⟩ := DataW.trod_int Tryz.underlying3 h1
      obtain ⟨z2, A2, c2, e2, r2, l2⟩ := open_dparts h2
      simp at e0 e1 e2
      subst e0
      subst e1
      subst e2
      exact ⟨⟨z0, z1, z2⟩, A2, c2, rfl, r2, l2⟩
set_option maxRecDepth 100000 in
theorem open_dEns {fuel : Nat} {cs : List Value} {x : DataW H × List MemPlace} (h : DataW.trod enc Tryz.prog w base spare held fuel 62 cs = some x) :
    ∃ (l : List En) (A : Option Addr) (c : Nat), cs = [.slice A l.length c] ∧ RdC w w.heap.size (encEns l) (.slice A l.length c) ∧ LimEns l := by
  rcases open_slice Tryz.underlying62 h with ⟨hcs, _⟩ | ⟨a, len, cap, m, n, D, Pl, hcs, _, hl, hm, hmm, _, hi⟩
  · exact ⟨[], none, 0, hcs, ⟨none, 0, rfl, Nat.le_refl _, fun hn => absurd hn (by simp)⟩, Nat.zero_le _, by simp⟩
  · have hlm : len ≤ m := by rw [hmm]; split <;> omega
    have hrow : ∀ i, i < len → ∃ p : En, a.block < w.heap.size ∧ (0 < len → a.spot = none) ∧ RdL w w.heap.size a (i * 3) (encEn p) ∧ LimEn p := fun i hil => by
      have hs : a.spot = none := by
        obtain ⟨cs', hc, ht⟩ := hi 0 (by omega)
        obtain ⟨p, A2, c2, rfl, _⟩ := open_dEn ht
        rw [cellsLEn] at hc
        obtain ⟨_, _, hcell⟩ := World.cells?_some hc
        have k0 := hcell 0 (by omega)
        simp only [List.getElem?_cons_zero] at k0
        simpa [Addr.add] using World.cell?_spot k0
      obtain ⟨b, off, spot⟩ := a
      simp only at hs
      subst hs
      obtain ⟨cs', hc, ht⟩ := hi i (by omega)
      obtain ⟨p, A2, c2, rfl, r2, hz⟩ := open_dEn ht
      rw [cellsLEn] at hc
      obtain ⟨_, _, hcell⟩ := World.cells?_some hc
      have k0 := hcell 0 (by omega)
      have k1 := hcell 1 (by omega)
      have k2 := hcell 2 (by omega)
      simp only [List.getElem?_cons_zero, List.getElem?_cons_succ] at k0 k1 k2
      rw [add_at, add_at] at k0 k1 k2
      have hb := cell_lt k0
      refine ⟨p, hb, fun _ => rfl, ⟨⟨_, ?_, rfl⟩, ⟨_, ?_, rfl⟩, ⟨_, ?_, r2⟩, trivial⟩, hz⟩
      · rw [add_at]; exact k0
      · rw [add_at]; exact k1
      · rw [add_at]; exact k2
    obtain ⟨ps, e1, e2, e3⟩ := open_rows (α := En) (f := encEn) (P := fun p => LimEn p ∧ (0 < len → a.spot = none)) (sz := 3) (e := 106) (w := w) (a := a) hl (fun hd => by
      rcases hd with hd | hd
      · cases hd
      · obtain ⟨p, _, hs, _⟩ := hrow 0 hd
        exact .inl (hs hd)) (fun i hil => by
      obtain ⟨p, h1, h2, h3, h4⟩ := hrow i hil
      exact ⟨p, h1, h3, h4, h2⟩)
    subst e1
    exact ⟨ps, some a, cap, hcs, e2, by omega, fun p hp => (e3 p hp).1⟩
end
end Go.Proofs.YtamainhocghlgaaGreatDoor.low


/-
  A law's argument of the struct type Seen, and a slice of them, opened. Written by mkty.py.
-/
namespace Go.Proofs.YtamainhocghlgaaGreatDoor.low
open Go.RowKit Go.ChangeShapes Go.WideShapes Go.Deep
set_option linter.unusedVariables false
theorem cellsLSe : Tryz.prog.cellsOf 150 = 3 := by kernel_rfl
theorem cellsLSes : Tryz.prog.cellsOf 63 = 1 := by kernel_rfl
section
variable {H : Type} {enc : TypeId × Value → H} {w : World} {base : Nat} {spare : Nat → Bool} {held : Bool}
set_option maxRecDepth 100000 in
theorem open_dSe {fuel : Nat} {cs : List Value} {x : DataW H × List MemPlace} (h : DataW.trod enc Tryz.prog w base spare held fuel 150 cs = some x) :
    ∃ (r : Se), cs = [.int .i64 r.client, .int .i64 r.seq, .int .i64 r.rev] ∧ LimSe r := by
  obtain ⟨xs, n, _, _, hl, hxl, hf⟩ := DataW.trod_struct Tryz.underlying150 h
  rw [cellsLSe] at hl
  match cs, hl with
  | [k0, k1, k2], _ =>
    match xs, hxl with
    | [y0, y1, y2], _ =>
      have h0 := hf 0 _ rfl
      have h1 := hf 1 _ rfl
      have h2 := hf 2 _ rfl
      simp [cellsInt] at h0
      simp [cellsInt] at h1
      simp [cellsInt] at h2
      obtain ⟨z0, e0, _, _⟩ := DataW.trod_int Tryz.underlying3 h0
      obtain ⟨z1, e1, _, _⟩ := DataW.trod_int Tryz.underlying3 h1
      obtain ⟨z2, e2, _, _⟩ := DataW.trod_int Tryz.underlying3 h2
      simp at e0 e1 e2
      subst e0
      subst e1
      subst e2
      exact ⟨⟨z0, z1, z2⟩, rfl, trivial⟩
set_option maxRecDepth 100000 in
theorem open_dSes {fuel : Nat} {cs : List Value} {x : DataW H × List MemPlace} (h : DataW.trod enc Tryz.prog w base spare held fuel 63 cs = some x) :
    ∃ (l : List Se) (A : Option Addr) (c : Nat), cs = [.slice A l.length c] ∧ RdC w w.heap.size (encSes l) (.slice A l.length c) ∧ LimSes l := by
  rcases open_slice Tryz.underlying63 h with ⟨hcs, _⟩ | ⟨a, len, cap, m, n, D, Pl, hcs, _, hl, hm, hmm, _, hi⟩
  · exact ⟨[], none, 0, hcs, ⟨none, 0, rfl, Nat.le_refl _, fun hn => absurd hn (by simp)⟩, Nat.zero_le _, by simp⟩
  · have hlm : len ≤ m := by rw [hmm]; split <;> omega
    have hrow : ∀ i, i < len → ∃ p : Se, a.block < w.heap.size ∧ (0 < len → a.spot = none) ∧ RdL w w.heap.size a (i * 3) (encSe p) ∧ LimSe p := fun i hil => by
      have hs : a.spot = none := by
        obtain ⟨cs', hc, ht⟩ := hi 0 (by omega)
        obtain ⟨p, rfl, _⟩ := open_dSe ht
        rw [cellsLSe] at hc
        obtain ⟨_, _, hcell⟩ := World.cells?_some hc
        have k0 := hcell 0 (by omega)
        simp only [List.getElem?_cons_zero] at k0
        simpa [Addr.add] using World.cell?_spot k0
      obtain ⟨b, off, spot⟩ := a
      simp only at hs
      subst hs
      obtain ⟨cs', hc, ht⟩ := hi i (by omega)
      obtain ⟨p, rfl, hz⟩ := open_dSe ht
      rw [cellsLSe] at hc
      obtain ⟨_, _, hcell⟩ := World.cells?_some hc
      have k0 := hcell 0 (by omega)
      have k1 := hcell 1 (by omega)
      have k2 := hcell 2 (by omega)
      simp only [List.getElem?_cons_zero, List.getElem?_cons_succ] at k0 k1 k2
      rw [add_at, add_at] at k0 k1 k2
      have hb := cell_lt k0
      refine ⟨p, hb, fun _ => rfl, ⟨⟨_, ?_, rfl⟩, ⟨_, ?_, rfl⟩, ⟨_, ?_, rfl⟩, trivial⟩, hz⟩
      · rw [add_at]; exact k0
      · rw [add_at]; exact k1
      · rw [add_at]; exact k2
    obtain ⟨ps, e1, e2, e3⟩ := open_rows (α := Se) (f := encSe) (P := fun p => LimSe p ∧ (0 < len → a.spot = none)) (sz := 3) (e := 111) (w := w) (a := a) hl (fun hd => by
      rcases hd with hd | hd
      · cases hd
      · obtain ⟨p, _, hs, _⟩ := hrow 0 hd
        exact .inl (hs hd)) (fun i hil => by
      obtain ⟨p, h1, h2, h3, h4⟩ := hrow i hil
      exact ⟨p, h1, h3, h4, h2⟩)
    subst e1
    exact ⟨ps, some a, cap, hcs, e2, by omega, fun p hp => (e3 p hp).1⟩
end
end Go.Proofs.YtamainhocghlgaaGreatDoor.low


/-
  A law's argument of the struct type Doc, and a slice of them, opened. Written by mkty.py.
-/
namespace Go.Proofs.YtamainhocghlgaaGreatDoor.low
open Go.RowKit Go.ChangeShapes Go.WideShapes Go.Deep
set_option linter.unusedVariables false
theorem cellsLDo : Tryz.prog.cellsOf 65 = 5 := by kernel_rfl
theorem cellsLDos : Tryz.prog.cellsOf 22 = 1 := by kernel_rfl
section
variable {H : Type} {enc : TypeId × Value → H} {w : World} {base : Nat} {spare : Nat → Bool} {held : Bool}
set_option maxRecDepth 100000 in
theorem open_dDo {fuel : Nat} {cs : List Value} {x : DataW H × List MemPlace} (h : DataW.trod enc Tryz.prog w base spare held fuel 65 cs = some x) :
    ∃ (r : Do) (A2 : Option Addr) (c2 : Nat) (A3 : Option Addr) (c3 : Nat) (A4 : Option Addr) (c4 : Nat), cs = [.string r.name, .int .i64 r.from_, .slice A2 r.text.length c2, .slice A3 r.list.length c3, .slice A4 r.seen.length c4] ∧ RdC w w.heap.size (encInts r.text) (.slice A2 r.text.length c2) ∧ RdC w w.heap.size (encEns r.list) (.slice A3 r.list.length c3) ∧ RdC w w.heap.size (encSes r.seen) (.slice A4 r.seen.length c4) ∧ LimDo r := by
  obtain ⟨xs, n, _, _, hl, hxl, hf⟩ := DataW.trod_struct Tryz.underlying65 h
  rw [cellsLDo] at hl
  match cs, hl with
  | [k0, k1, k2, k3, k4], _ =>
    match xs, hxl with
    | [y0, y1, y2, y3, y4], _ =>
      have h0 := hf 0 _ rfl
      have h1 := hf 1 _ rfl
      have h2 := hf 2 _ rfl
      have h3 := hf 3 _ rfl
      have h4 := hf 4 _ rfl
      simp [cellsStr] at h0
      simp [cellsInt] at h1
      simp [cellsInts] at h2
      simp [cellsLEns] at h3
      simp [cellsLSes] at h4
      obtain ⟨z0, e0, _, l0⟩ := DataW.trod_string Tryz.underlying9 h0
      obtain ⟨z1, e1, _, _⟩ := DataW.trod_int Tryz.underlying3 h1
      obtain ⟨A2, c2, z2, e2, r2, l2⟩ := open_dints h2
      obtain ⟨z3, A3, c3, e3, r3, l3⟩ := open_dEns h3
      obtain ⟨z4, A4, c4, e4, r4, l4⟩ := open_dSes h4
      simp at e0 e1 e2 e3 e4
      subst e0
      subst e1
      subst e2
      subst e3
      subst e4
      exact ⟨⟨z0, z1, z2, z3, z4⟩, A2, c2, A3, c3, A4, c4, rfl, r2, r3, r4, ⟨l0, l2, l3, l4⟩⟩
set_option maxRecDepth 100000 in
theorem open_dDos {fuel : Nat} {cs : List Value} {x : DataW H × List MemPlace} (h : DataW.trod enc Tryz.prog w base spare held fuel 22 cs = some x) :
    ∃ (l : List Do) (A : Option Addr) (c : Nat), cs = [.slice A l.length c] ∧ RdC w w.heap.size (encDos l) (.slice A l.length c) ∧ LimDos l := by
  rcases open_slice Tryz.underlying22 h with ⟨hcs, _⟩ | ⟨a, len, cap, m, n, D, Pl, hcs, _, hl, hm, hmm, _, hi⟩
  · exact ⟨[], none, 0, hcs, ⟨none, 0, rfl, Nat.le_refl _, fun hn => absurd hn (by simp)⟩, Nat.zero_le _, by simp⟩
  · have hlm : len ≤ m := by rw [hmm]; split <;> omega
    have hrow : ∀ i, i < len → ∃ p : Do, a.block < w.heap.size ∧ (0 < len → a.spot = none) ∧ RdL w w.heap.size a (i * 5) (encDo p) ∧ LimDo p := fun i hil => by
      have hs : a.spot = none := by
        obtain ⟨cs', hc, ht⟩ := hi 0 (by omega)
        obtain ⟨p, A2, c2, A3, c3, A4, c4, rfl, _⟩ := open_dDo ht
        rw [cellsLDo] at hc
        obtain ⟨_, _, hcell⟩ := World.cells?_some hc
        have k0 := hcell 0 (by omega)
        simp only [List.getElem?_cons_zero] at k0
        simpa [Addr.add] using World.cell?_spot k0
      obtain ⟨b, off, spot⟩ := a
      simp only at hs
      subst hs
      obtain ⟨cs', hc, ht⟩ := hi i (by omega)
      obtain ⟨p, A2, c2, A3, c3, A4, c4, rfl, r2, r3, r4, hz⟩ := open_dDo ht
      rw [cellsLDo] at hc
      obtain ⟨_, _, hcell⟩ := World.cells?_some hc
      have k0 := hcell 0 (by omega)
      have k1 := hcell 1 (by omega)
      have k2 := hcell 2 (by omega)
      have k3 := hcell 3 (by omega)
      have k4 := hcell 4 (by omega)
      simp only [List.getElem?_cons_zero, List.getElem?_cons_succ] at k0 k1 k2 k3 k4
      rw [add_at, add_at] at k0 k1 k2 k3 k4
      have hb := cell_lt k0
      refine ⟨p, hb, fun _ => rfl, ⟨⟨_, ?_, rfl⟩, ⟨_, ?_, rfl⟩, ⟨_, ?_, r2⟩, ⟨_, ?_, r3⟩, ⟨_, ?_, r4⟩, trivial⟩, hz⟩
      · rw [add_at]; exact k0
      · rw [add_at]; exact k1
      · rw [add_at]; exact k2
      · rw [add_at]; exact k3
      · rw [add_at]; exact k4
    obtain ⟨ps, e1, e2, e3⟩ := open_rows (α := Do) (f := encDo) (P := fun p => LimDo p ∧ (0 < len → a.spot = none)) (sz := 5) (e := 75) (w := w) (a := a) hl (fun hd => by
      rcases hd with hd | hd
      · cases hd
      · obtain ⟨p, _, hs, _⟩ := hrow 0 hd
        exact .inl (hs hd)) (fun i hil => by
      obtain ⟨p, h1, h2, h3, h4⟩ := hrow i hil
      exact ⟨p, h1, h3, h4, h2⟩)
    subst e1
    exact ⟨ps, some a, cap, hcs, e2, by omega, fun p hp => (e3 p hp).1⟩
end
end Go.Proofs.YtamainhocghlgaaGreatDoor.low


/-
  A law's argument of the struct type Ring, and a slice of them, opened. Written by mkty.py.
-/
namespace Go.Proofs.YtamainhocghlgaaGreatDoor.low
open Go.RowKit Go.ChangeShapes Go.WideShapes Go.Deep
set_option linter.unusedVariables false
theorem cellsLRi : Tryz.prog.cellsOf 68 = 4 := by kernel_rfl
section
variable {H : Type} {enc : TypeId × Value → H} {w : World} {base : Nat} {spare : Nat → Bool} {held : Bool}
set_option maxRecDepth 100000 in
theorem open_dRi {fuel : Nat} {cs : List Value} {x : DataW H × List MemPlace} (h : DataW.trod enc Tryz.prog w base spare held fuel 68 cs = some x) :
    ∃ (r : Ri) (A3 : Option Addr) (c3 : Nat), cs = [.int .i64 r.cap, .int .i64 r.next, .bool r.out, .slice A3 r.list.length c3] ∧ RdC w w.heap.size (encEns r.list) (.slice A3 r.list.length c3) ∧ LimRi r := by
  obtain ⟨xs, n, _, _, hl, hxl, hf⟩ := DataW.trod_struct Tryz.underlying68 h
  rw [cellsLRi] at hl
  match cs, hl with
  | [k0, k1, k2, k3], _ =>
    match xs, hxl with
    | [y0, y1, y2, y3], _ =>
      have h0 := hf 0 _ rfl
      have h1 := hf 1 _ rfl
      have h2 := hf 2 _ rfl
      have h3 := hf 3 _ rfl
      simp [cellsInt] at h0
      simp [cellsInt] at h1
      simp [cellsBool] at h2
      simp [cellsLEns] at h3
      obtain ⟨z0, e0, _, _⟩ := DataW.trod_int Tryz.underlying3 h0
      obtain ⟨z1, e1, _, _⟩ := DataW.trod_int Tryz.underlying3 h1
      obtain ⟨z2, e2, _⟩ := DataW.trod_bool Tryz.underlying4 h2
      obtain ⟨z3, A3, c3, e3, r3, l3⟩ := open_dEns h3
      simp at e0 e1 e2 e3
      subst e0
      subst e1
      subst e2
      subst e3
      exact ⟨⟨z0, z1, z2, z3⟩, A3, c3, rfl, r3, l3⟩
end
end Go.Proofs.YtamainhocghlgaaGreatDoor.low


/-
  A law's argument of the struct type Sub, and a slice of them, opened. Written by mkty.py.
-/
namespace Go.Proofs.YtamainhocghlgaaGreatDoor.low
open Go.RowKit Go.ChangeShapes Go.WideShapes Go.Deep
set_option linter.unusedVariables false
theorem cellsLSu : Tryz.prog.cellsOf 70 = 6 := by kernel_rfl
theorem cellsLSus : Tryz.prog.cellsOf 23 = 1 := by kernel_rfl
section
variable {H : Type} {enc : TypeId × Value → H} {w : World} {base : Nat} {spare : Nat → Bool} {held : Bool}
set_option maxRecDepth 100000 in
theorem open_dSu {fuel : Nat} {cs : List Value} {x : DataW H × List MemPlace} (h : DataW.trod enc Tryz.prog w base spare held fuel 70 cs = some x) :
    ∃ (r : Su) (A5 : Option Addr) (c5 : Nat), cs = [.int .i64 r.id, .string r.doc, .int .i64 r.cap, .int .i64 r.next, .bool r.out, .slice A5 r.list.length c5] ∧ RdC w w.heap.size (encEns r.list) (.slice A5 r.list.length c5) ∧ LimSu r := by
  obtain ⟨xs, n, _, _, hl, hxl, hf⟩ := DataW.trod_struct Tryz.underlying70 h
  rw [cellsLSu] at hl
  match cs, hl with
  | [k0, k1, k2, k3, k4, k5], _ =>
    match xs, hxl with
    | [y0, y1, y2], _ =>
      have h0 := hf 0 _ rfl
      have h1 := hf 1 _ rfl
      have h2 := hf 2 _ rfl
      simp [cellsInt] at h0
      simp [cellsStr] at h1
      simp [cellsLRi] at h2
      obtain ⟨z0, e0, _, _⟩ := DataW.trod_int Tryz.underlying3 h0
      obtain ⟨z1, e1, _, l1⟩ := DataW.trod_string Tryz.underlying9 h1
      obtain ⟨z2, A5, c5, e2, r5, l5⟩ := open_dRi h2
      simp at e0 e1 e2
      obtain ⟨rfl, rfl, rfl, rfl⟩ := e2
      subst e0
      subst e1
      exact ⟨⟨z0, z1, z2.cap, z2.next, z2.out, z2.list⟩, A5, c5, rfl, r5, ⟨l1, l5⟩⟩
set_option maxRecDepth 100000 in
theorem open_dSus {fuel : Nat} {cs : List Value} {x : DataW H × List MemPlace} (h : DataW.trod enc Tryz.prog w base spare held fuel 23 cs = some x) :
    ∃ (l : List Su) (A : Option Addr) (c : Nat), cs = [.slice A l.length c] ∧ RdC w w.heap.size (encSus l) (.slice A l.length c) ∧ LimSus l := by
  rcases open_slice Tryz.underlying23 h with ⟨hcs, _⟩ | ⟨a, len, cap, m, n, D, Pl, hcs, _, hl, hm, hmm, _, hi⟩
  · exact ⟨[], none, 0, hcs, ⟨none, 0, rfl, Nat.le_refl _, fun hn => absurd hn (by simp)⟩, Nat.zero_le _, by simp⟩
  · have hlm : len ≤ m := by rw [hmm]; split <;> omega
    have hrow : ∀ i, i < len → ∃ p : Su, a.block < w.heap.size ∧ (0 < len → a.spot = none) ∧ RdL w w.heap.size a (i * 6) (encSu p) ∧ LimSu p := fun i hil => by
      have hs : a.spot = none := by
        obtain ⟨cs', hc, ht⟩ := hi 0 (by omega)
        obtain ⟨p, A5, c5, rfl, _⟩ := open_dSu ht
        rw [cellsLSu] at hc
        obtain ⟨_, _, hcell⟩ := World.cells?_some hc
        have k0 := hcell 0 (by omega)
        simp only [List.getElem?_cons_zero] at k0
        simpa [Addr.add] using World.cell?_spot k0
      obtain ⟨b, off, spot⟩ := a
      simp only at hs
      subst hs
      obtain ⟨cs', hc, ht⟩ := hi i (by omega)
      obtain ⟨p, A5, c5, rfl, r5, hz⟩ := open_dSu ht
      rw [cellsLSu] at hc
      obtain ⟨_, _, hcell⟩ := World.cells?_some hc
      have k0 := hcell 0 (by omega)
      have k1 := hcell 1 (by omega)
      have k2 := hcell 2 (by omega)
      have k3 := hcell 3 (by omega)
      have k4 := hcell 4 (by omega)
      have k5 := hcell 5 (by omega)
      simp only [List.getElem?_cons_zero, List.getElem?_cons_succ] at k0 k1 k2 k3 k4 k5
      rw [add_at, add_at] at k0 k1 k2 k3 k4 k5
      have hb := cell_lt k0
      refine ⟨p, hb, fun _ => rfl, ⟨⟨_, ?_, rfl⟩, ⟨_, ?_, rfl⟩, ⟨_, ?_, rfl⟩, ⟨_, ?_, rfl⟩, ⟨_, ?_, rfl⟩, ⟨_, ?_, r5⟩, trivial⟩, hz⟩
      · rw [add_at]; exact k0
      · rw [add_at]; exact k1
      · rw [add_at]; exact k2
      · rw [add_at]; exact k3
      · rw [add_at]; exact k4
      · rw [add_at]; exact k5
    obtain ⟨ps, e1, e2, e3⟩ := open_rows (α := Su) (f := encSu) (P := fun p => LimSu p ∧ (0 < len → a.spot = none)) (sz := 6) (e := 80) (w := w) (a := a) hl (fun hd => by
      rcases hd with hd | hd
      · cases hd
      · obtain ⟨p, _, hs, _⟩ := hrow 0 hd
        exact .inl (hs hd)) (fun i hil => by
      obtain ⟨p, h1, h2, h3, h4⟩ := hrow i hil
      exact ⟨p, h1, h3, h4, h2⟩)
    subst e1
    exact ⟨ps, some a, cap, hcs, e2, by omega, fun p hp => (e3 p hp).1⟩
end
end Go.Proofs.YtamainhocghlgaaGreatDoor.low


/-
  A law's argument of the struct type Hub, and a slice of them, opened. Written by mkty.py.
-/
namespace Go.Proofs.YtamainhocghlgaaGreatDoor.low
open Go.RowKit Go.ChangeShapes Go.WideShapes Go.Deep
set_option linter.unusedVariables false
theorem cellsLHu : Tryz.prog.cellsOf 25 = 4 := by kernel_rfl
section
variable {H : Type} {enc : TypeId × Value → H} {w : World} {base : Nat} {spare : Nat → Bool} {held : Bool}
set_option maxRecDepth 100000 in
theorem open_dHu {fuel : Nat} {cs : List Value} {x : DataW H × List MemPlace} (h : DataW.trod enc Tryz.prog w base spare held fuel 25 cs = some x) :
    ∃ (r : Hu) (A1 : Option Addr) (c1 : Nat) (A2 : Option Addr) (c2 : Nat), cs = [.bool r.shut, .slice A1 r.docs.length c1, .slice A2 r.subs.length c2, .int .i64 r.last] ∧ RdC w w.heap.size (encDos r.docs) (.slice A1 r.docs.length c1) ∧ RdC w w.heap.size (encSus r.subs) (.slice A2 r.subs.length c2) ∧ LimHu r := by
  obtain ⟨xs, n, _, _, hl, hxl, hf⟩ := DataW.trod_struct Tryz.underlying25 h
  rw [cellsLHu] at hl
  match cs, hl with
  | [k0, k1, k2, k3], _ =>
    match xs, hxl with
    | [y0, y1, y2, y3], _ =>
      have h0 := hf 0 _ rfl
      have h1 := hf 1 _ rfl
      have h2 := hf 2 _ rfl
      have h3 := hf 3 _ rfl
      simp [cellsBool] at h0
      simp [cellsLDos] at h1
      simp [cellsLSus] at h2
      simp [cellsInt] at h3
      obtain ⟨z0, e0, _⟩ := DataW.trod_bool Tryz.underlying4 h0
      obtain ⟨z1, A1, c1, e1, r1, l1⟩ := open_dDos h1
      obtain ⟨z2, A2, c2, e2, r2, l2⟩ := open_dSus h2
      obtain ⟨z3, e3, _, _⟩ := DataW.trod_int Tryz.underlying3 h3
      simp at e0 e1 e2 e3
      subst e0
      subst e1
      subst e2
      subst e3
      exact ⟨⟨z0, z1, z2, z3⟩, A1, c1, A2, c2, rfl, r1, r2, ⟨l1, l2⟩⟩
end
end Go.Proofs.YtamainhocghlgaaGreatDoor.low


/-
  Contracts of spec.NameOk, spec.EntryOk, spec.EntrySame, spec.HeadRev, spec.SeenOf.
-/
namespace Go.Proofs.YtamainhocghlgaaGreatDoor.low
open Go.RowKit
set_option linter.unusedVariables false

theorem ret_b {a b : Bool} (h : a = b) : Ending.returned (.bool a) = .returned (.bool b) := by rw [h]
/-- a small letter at place i -/
def lowerAt (s : ByteArray) (i : Nat) : Bool := if h : i < s.size then decide (97 ≤ (s[i]'h).toNat ∧ (s[i]'h).toNat ≤ 122) else true
def lowersTo (s : ByteArray) : Nat → Bool
  | 0 => true
  | k + 1 => lowersTo s k && lowerAt s k
def nameB (s : ByteArray) : Bool := lowersTo s s.size && inB (s.size : Int) 1 8
theorem lowersTo_f {s : ByteArray} {k : Nat} (h : lowerAt s k = false) : ∀ n, k < n → lowersTo s n = false
  | 0, hk => by omega
  | n + 1, hk => by
    rw [lowersTo]
    by_cases e : k = n
    · rw [e] at h
      rw [h]
      simp
    · rw [lowersTo_f h n (by omega)]
      rfl
set_option maxRecDepth 100000 in
set_option maxHeartbeats 1600000 in
theorem specNameOk_d (s : ByteArray) (w : World) (hs : s.size ≤ 1048576) : Calls Tryz.prog 58 #[.string s] w (Tells (nameB s) w) := by
  go_enter Tryz.func58, Tryz.ntmps58
  go_wp2
  go_loopw [3] (fun i wr => ∃ j : Nat, j ≤ s.size ∧ i = .int .i64 (j : Int) ∧ lowersTo s j = true ∧ Below w.heap.size w wr) (fun i _ => s.size - (intOf i).toNat)
  case atStart => exact ⟨0, Nat.zero_le _, rfl, rfl, Below.refl _ _⟩
  case round =>
    obtain ⟨j, hj, rfl, hi, hbel⟩ := hrel
    have HI := Lib.hid hi
    clear hi
    by_cases hlt : j < s.size
    · obtain ⟨c, hc⟩ : ∃ c : Nat, c = (s[j]'hlt).toNat := ⟨_, rfl⟩
      have HLO := Lib.hid (show lowerAt s j = decide (97 ≤ c ∧ c ≤ 122) by unfold lowerAt; rw [dif_pos hlt, ← hc])
      by_cases h1 : c < 97
      · have HF := Lib.hid (lowersTo_f (s := s) (k := j) (by rw [HLO.out]; simp; omega) s.size hlt)
        go_wp2
        go_ret
        refine ⟨ret_b ?_, hbel⟩
        unfold nameB
        rw [HF.out]
        rfl
      by_cases h2 : 122 < c
      · have HF := Lib.hid (lowersTo_f (s := s) (k := j) (by rw [HLO.out]; simp; omega) s.size hlt)
        go_wp2
        go_ret
        refine ⟨ret_b ?_, hbel⟩
        unfold nameB
        rw [HF.out]
        rfl
      · have HT := Lib.hid (show lowersTo s (j + 1) = true by rw [lowersTo, HI.out, HLO.out]; simp; omega)
        go_wp2
        go_roundw
        case rel => exact ⟨j + 1, by omega, by go_num, HT.out, hbel⟩
        case measure => simp [intOf]; omega
    · obtain rfl : j = s.size := by omega
      go_wp2_with fail
      refine (in_any _ _ _ _).mono ?_
      rintro e w1 ⟨rfl, rfl⟩
      go_wp2
      go_ret
      refine ⟨ret_b ?_, hbel⟩
      unfold nameB
      rw [HI.out]
      rfl

/-- an entry is valid -/
def entryB (x : En) : Bool := inB x.client 1 8 && inB x.seq 1 1000000000 && isNormL x.o
set_option maxRecDepth 100000 in
set_option maxHeartbeats 1600000 in
theorem specEntryOk_d (v : Value) (x : En) (w : World) (h : RdC w w.heap.size (datEn x) v) (hs : SmEn x) : Calls Tryz.prog 61 #[v] w (Tells (entryB x) w) := by
  obtain ⟨A2, c2, rfl, r2⟩ := aggEn h
  have b0 := alloc_below w (.cells #[.int .i64 x.client, .int .i64 x.seq, .slice A2 x.o.length c2] 106)
  have HE := Lib.hid (show entryB x = (inB x.client 1 8 && inB x.seq 1 1000000000 && isNormL x.o) from rfl)
  cases h1 : inB x.client 1 8
  · go_enter Tryz.func61, Tryz.ntmps61
    go_wp2_with fail
    refine (in_any _ _ _ _).mono ?_
    rintro e w1 ⟨rfl, rfl⟩
    rw [h1]
    go_wp2
    go_ret
    exact ⟨ret_b (by rw [HE.out, h1]; rfl), b0⟩
  cases h2 : inB x.seq 1 1000000000
  · go_enter Tryz.func61, Tryz.ntmps61
    go_wp2_with fail
    refine (in_any _ _ _ _).mono ?_
    rintro e w1 ⟨rfl, rfl⟩
    rw [h1]
    go_wp2_with fail
    refine (in_any _ _ _ _).mono ?_
    rintro e w1 ⟨rfl, rfl⟩
    rw [h2]
    go_wp2
    go_ret
    exact ⟨ret_b (by rw [HE.out, h1, h2]; rfl), b0⟩
  obtain ⟨A, c, e2, hr, _⟩ := parts_rd r2
  injection e2 with e2 _ e3
  subst e2 e3
  have hso := hs.o
  have hs1 := hso.1
  have hs2 := hso.2
  go_enter Tryz.func61, Tryz.ntmps61
  go_wp2_with fail
  refine (in_any _ _ _ _).mono ?_
  rintro e w1 ⟨rfl, rfl⟩
  rw [h1]
  go_wp2_with fail
  refine (in_any _ _ _ _).mono ?_
  rintro e w1 ⟨rfl, rfl⟩
  rw [h2]
  go_wp2_with fail
  refine (specIsNorm_any A2 c2 x.o _ (hr.past b0) (by omega) hso.all4 hs2).mono ?_
  rintro e w1 ⟨rfl, b1⟩
  go_wp2
  go_ret
  exact ⟨ret_b (by rw [HE.out, h1, h2]; rfl), b0.trans (b1.mono b0.size)⟩

/-- the newest revision -/
def headRevT (x : Do) : Int := wrap64 (x.from_ + (x.list.length : Int))
set_option maxRecDepth 100000 in
set_option maxHeartbeats 1600000 in
theorem specHeadRev_w (v : Value) (x : Do) (w : World) (h : RdC w w.heap.size (datDo x) v) : Calls Tryz.prog 34 #[v] w (Nums1 (headRevT x) w) := by
  obtain ⟨A2, c2, A3, c3, A4, c4, rfl, _⟩ := aggDo h
  have b0 := alloc_below w (.cells #[.string x.name, .int .i64 x.from_, .slice A2 x.text.length c2, .slice A3 x.list.length c3, .slice A4 x.seen.length c4] 75)
  go_enter Tryz.func34, Tryz.ntmps34
  go_wp2
  go_ret
  exact ⟨rfl, b0⟩

theorem specHeadRev_d (v : Value) (x : Do) (w : World) (h : RdC w w.heap.size (datDo x) v) (hs : SmDo x) : Calls Tryz.prog 34 #[v] w (Nums1 (headRevT x) w) := specHeadRev_w v x w h
/-- the first row of that client -/
def seenGo (c : Int) : List Se → Option Se
  | [] => none
  | s :: l => if s.client = c then some s else seenGo c l
end Go.Proofs.YtamainhocghlgaaGreatDoor.low


/-
  Contract of spec.DocOk.
-/
namespace Go.Proofs.YtamainhocghlgaaGreatDoor.low
open Go.RowKit
set_option linter.unusedVariables false

/-- the entries apply one behind the other, each is valid -/
def chainGo : List En → List Int → Bool
  | [], _ => true
  | e :: l, t => fitsB e.o t && entryB e && okText (applyT e.o t) && chainGo l (applyT e.o t)
theorem chainGo_step {l : List En} {j : Nat} {e : En} (h : l[j]? = some e) (t : List Int) : chainGo (l.drop j) t = (fitsB e.o t && entryB e && okText (applyT e.o t) && chainGo (l.drop (j + 1)) (applyT e.o t)) := by
  obtain ⟨hlt, e'⟩ := List.getElem?_eq_some_iff.1 h
  rw [List.drop_eq_getElem_cons hlt, e']
  rfl
/-- the rows of clients, in ascending order -/
def seenOneB (h : Int) (prev : Option Int) (s : Se) : Bool := inB s.client 1 8 && inB s.seq 1 1000000000 && inB s.rev 1 h && (match prev with | none => true | some p => decide (p < s.client))
def seenAllB (h : Int) : Option Int → List Se → Bool
  | _, [] => true
  | prev, s :: l => seenOneB h prev s && seenAllB h (some s.client) l
def prevOf (l : List Se) : Nat → Option Int
  | 0 => none
  | k + 1 => (l[k]?).map Se.client
theorem seenAllB_step {h : Int} {l : List Se} {j : Nat} {s : Se} (hs : l[j]? = some s) : seenAllB h (prevOf l j) (l.drop j) = (seenOneB h (prevOf l j) s && seenAllB h (prevOf l (j + 1)) (l.drop (j + 1))) := by
  obtain ⟨hlt, e'⟩ := List.getElem?_eq_some_iff.1 hs
  rw [List.drop_eq_getElem_cons hlt, e']
  have : prevOf l (j + 1) = some s.client := by rw [prevOf, hs]; rfl
  rw [this]
  rfl
/-- a document is valid -/
def docB (x : Do) : Bool := nameB x.name && inB x.from_ 0 999999000 && okText x.text && decide (x.list.length ≤ 8) && chainGo x.list x.text && seenAllB (headRevT x) none x.seen
theorem okText_small {t : List Int} (h : okText t = true) : SmI t := by
  unfold okText at h
  rw [Bool.and_eq_true] at h
  have := of_decide_eq_true h.2
  unfold SmI
  omega
theorem SmDo.nameL {x : Do} (h : SmDo x) : x.name.size ≤ 1048576 := by unfold SmDo totDo at h; omega
/-- a document each of whose fields is small -/
structure SmD4 (x : Do) : Prop where
  nameL : x.name.size ≤ 1048576
  text : SmI x.text
  list : SmEns x.list
  seen : SmSes x.seen
theorem SmDo.four {x : Do} (h : SmDo x) : SmD4 x := ⟨h.nameL, h.text, h.list, h.seen⟩
set_option maxRecDepth 100000 in
set_option maxHeartbeats 12800000 in
theorem specDocOk_w (v : Value) (x : Do) (w : World) (h : RdC w w.heap.size (datDo x) v) (hs : SmD4 x) : Calls Tryz.prog 31 #[v] w (Tells (docB x) w) := by
  have HR := Lib.hid h
  obtain ⟨A2, c2, A3, c3, A4, c4, rfl, r2, r3, r4⟩ := aggDo h
  have hl3 := hs.list.len
  have hl4 := hs.seen.len
  have HD := Lib.hid (show docB x = (nameB x.name && inB x.from_ 0 999999000 && okText x.text && decide (x.list.length ≤ 8) && chainGo x.list x.text && seenAllB (headRevT x) none x.seen) from rfl)
  have b0 := alloc_below w (.cells #[.string x.name, .int .i64 x.from_, .slice A2 x.text.length c2, .slice A3 x.list.length c3, .slice A4 x.seen.length c4] 75)
  have bx := Bx.new w #[.string x.name, .int .i64 x.from_, .slice A2 x.text.length c2, .slice A3 x.list.length c3, .slice A4 x.seen.length c4] 75
  go_enter Tryz.func31, Tryz.ntmps31
  go_wp2_with fail
  generalize w.alloc (.cells #[.string x.name, .int .i64 x.from_, .slice A2 x.text.length c2, .slice A3 x.list.length c3, .slice A4 x.seen.length c4] 75) = W0 at b0 bx ⊢
  refine (specNameOk_d x.name _ hs.nameL).mono ?_
  rintro e w1 ⟨rfl, k1⟩
  have bx := bx.past k1
  have d1 := b0.trans (k1.mono b0.size)
  clear k1
  cases hn : nameB x.name
  · go_wp2
    go_ret
    exact ⟨ret_b (by rw [HD.out, hn]; rfl), d1⟩
  have y1 : w1.cell? ⟨w.heap.size, 1, none⟩ = some (.int .i64 x.from_) := bx.cell rfl
  go_wp2_with fail
  refine (in_any _ _ _ _).mono ?_
  rintro e w' ⟨rfl, rfl⟩
  cases hf : inB x.from_ 0 999999000
  · go_wp2
    go_ret
    exact ⟨ret_b (by rw [HD.out, hn, hf]; rfl), d1⟩
  have y2 : w1.cell? ⟨w.heap.size, 2, none⟩ = some (.slice A2 x.text.length c2) := bx.cell rfl
  go_wp2_with fail
  refine (specTextOk_d _ x.text _ (r2.past d1) hs.text).mono ?_
  rintro e w2 ⟨rfl, k2⟩
  have bx := bx.past k2
  have d2 := d1.trans (k2.mono d1.size)
  clear k2 y1 y2
  cases ht : okText x.text
  · go_wp2
    go_ret
    exact ⟨ret_b (by rw [HD.out, hn, hf, ht]; rfl), d2⟩
  have y3 : w2.cell? ⟨w.heap.size, 3, none⟩ = some (.slice A3 x.list.length c3) := bx.cell rfl
  by_cases hw : 8 < x.list.length
  · go_wp2
    go_ret
    exact ⟨ret_b (by rw [HD.out, hn, hf, ht, decide_eq_false (by omega)]; rfl), d2⟩
  have HD2 := Lib.hid (show docB x = (chainGo x.list x.text && seenAllB (headRevT x) none x.seen) by rw [HD.out, hn, hf, ht, decide_eq_true (by omega)]; rfl)
  have hst := okText_small ht
  have y2 : w2.cell? ⟨w.heap.size, 2, none⟩ = some (.slice A2 x.text.length c2) := bx.cell rfl
  have BX := Lib.hid bx
  have R2 := Lib.hid (r2.past d2)
  clear bx hn hf ht HD r2
  go_wp2
  go_loopw [3, 37] (fun tv i wr => ∃ (j : Nat) (t : List Int) (A : Option Addr) (c : Nat), j ≤ x.list.length ∧ i = .int .i64 (j : Int) ∧ tv = .slice A t.length c ∧ RdC wr wr.heap.size (encInts t) tv ∧ SmI t ∧ chainGo x.list x.text = chainGo (x.list.drop j) t ∧ Bx wr w.heap.size #[.string x.name, .int .i64 x.from_, .slice A2 x.text.length c2, .slice A3 x.list.length c3, .slice A4 x.seen.length c4] 75 ∧ Below w.heap.size w wr) (fun _ i _ => x.list.length - (intOf i).toNat)
  case atStart => exact ⟨0, x.text, A2, c2, Nat.zero_le _, rfl, rfl, R2.out, hst, by simp, BX.out, d2⟩
  case round =>
    obtain ⟨j, t, A, c, hj, rfl, rfl, hrt, hst, hch, hbx, hbel⟩ := hrel
    clear BX R2 y2 y3 d2
    have HCH := Lib.hid hch
    have HBX := Lib.hid hbx
    have HRT := Lib.hid hrt
    clear hch hbx hrt
    by_cases hlt : j < x.list.length
    · obtain ⟨b, off, e, A5, c5, rfl, hbb, hp, z0, z1, z2, q2⟩ := atEns (r3.below hbel) hlt
      have HS := Lib.hid (chainGo_step hp t)
      have hse := hs.list.at_ (List.mem_of_getElem? hp)
      clear hp
      have bA := alloc_below wr (.cells #[.int .i64 e.client, .int .i64 e.seq, .slice A5 e.o.length c5] 106)
      have bxE := Bx.new wr #[.int .i64 e.client, .int .i64 e.seq, .slice A5 e.o.length c5] 106
      have q2 := RdC.more hbel.size _ _ q2
      go_wp2_with fail
      generalize wr.alloc (.cells #[.int .i64 e.client, .int .i64 e.seq, .slice A5 e.o.length c5] 106) = W1 at bA bxE ⊢
      refine (specApply_d _ _ e.o t _ (q2.past bA) (HRT.out.past bA) hse.o hst).mono ?_
      rintro e' w3 ⟨v3, rfl, o3, b3⟩
      obtain ⟨A6, c6, rfl⟩ := sliceI o3.read
      have bxE := bxE.past b3
      have d3 := bA.trans (b3.mono bA.size)
      have R3 := Lib.hid o3.read
      clear o3 b3 bA
      cases hfit : fitsB e.o t
      · go_wp2
        go_ret
        exact ⟨ret_b (by rw [HD2.out, HCH.out, HS.out, hfit]; rfl), hbel.trans (d3.mono hbel.size)⟩
      have x0 : w3.cell? ⟨wr.heap.size, 0, none⟩ = some (.int .i64 e.client) := bxE.cell rfl
      have x1 : w3.cell? ⟨wr.heap.size, 1, none⟩ = some (.int .i64 e.seq) := bxE.cell rfl
      have x2 : w3.cell? ⟨wr.heap.size, 2, none⟩ = some (.slice A5 e.o.length c5) := bxE.cell rfl
      go_wp2_with fail
      refine (specEntryOk_d _ e _ (rdEn e (q2.past d3)) hse).mono ?_
      rintro e' w4 ⟨rfl, b4⟩
      have d4 := d3.trans (b4.mono d3.size)
      cases hent : entryB e
      · go_wp2
        go_ret
        exact ⟨ret_b (by rw [HD2.out, HCH.out, HS.out, hfit, hent]; rfl), hbel.trans (d4.mono hbel.size)⟩
      have hs6 : SmI (applyT e.o t) := apply_small hse.o hst
      go_wp2_with fail
      refine (specTextOk_d _ (applyT e.o t) _ (R3.out.past b4) hs6).mono ?_
      rintro e' w5 ⟨rfl, b5⟩
      have d5 := d4.trans (b5.mono d4.size)
      cases hok : okText (applyT e.o t)
      · go_wp2
        go_ret
        exact ⟨ret_b (by rw [HD2.out, HCH.out, HS.out, hfit, hent, hok]; rfl), hbel.trans (d5.mono hbel.size)⟩
      · have HN := Lib.hid (show chainGo x.list x.text = chainGo (x.list.drop (j + 1)) (applyT e.o t) by rw [HCH.out, HS.out, hfit, hent, hok]; rfl)
        go_wp2
        go_roundw
        case rel => exact ⟨j + 1, applyT e.o t, A6, c6, by omega, by go_num, rfl, (R3.out.past b4).past b5, okText_small hok, HN.out, HBX.out.past d5, hbel.trans (d5.mono hbel.size)⟩
        case measure => simp [intOf]; omega
    · have HD3 := Lib.hid (show docB x = seenAllB (headRevT x) none x.seen by rw [HD2.out, HCH.out, List.drop_eq_nil_of_le (by omega)]; rfl)
      have y4 : wr.cell? ⟨w.heap.size, 4, none⟩ = some (.slice A4 x.seen.length c4) := HBX.out.cell rfl
      have HBE := Lib.hid hbel
      clear HRT
      go_wp2
      go_loopw [65] (fun i wq => ∃ j : Nat, j ≤ x.seen.length ∧ i = .int .i64 (j : Int) ∧ docB x = seenAllB (headRevT x) (prevOf x.seen j) (x.seen.drop j) ∧ Bx wq w.heap.size #[.string x.name, .int .i64 x.from_, .slice A2 x.text.length c2, .slice A3 x.list.length c3, .slice A4 x.seen.length c4] 75 ∧ Below w.heap.size w wq) (fun i _ => x.seen.length - (intOf i).toNat)
      case atStart => exact ⟨0, Nat.zero_le _, rfl, by simpa [prevOf] using HD3.out, HBX.out, HBE.out⟩
      case round =>
        obtain ⟨j, hj, rfl, hdc, hbx, hbel⟩ := hrel
        clear HBX HBE HD3 y4
        have HDC := Lib.hid hdc
        have HBX := Lib.hid hbx
        clear hdc hbx
        by_cases hlt : j < x.seen.length
        · obtain ⟨b, off, s, rfl, hbb, hp, z0, z1, z2⟩ := atSes (r4.below hbel) hlt
          have HS := Lib.hid (seenAllB_step (h := headRevT x) hp)
          have HP := Lib.hid hp
          clear hp
          -- round2
          have bA := alloc_below wr (.cells #[.int .i64 s.client, .int .i64 s.seq, .int .i64 s.rev] 111)
          have bxS := Bx.new wr #[.int .i64 s.client, .int .i64 s.seq, .int .i64 s.rev] 111
          have bxD := HBX.out.past bA
          have hbq : b < wr.heap.size := Nat.lt_of_lt_of_le hbb hbel.size
          cases h1 : inB s.client 1 8
          · go_wp2
            generalize wr.alloc (.cells #[.int .i64 s.client, .int .i64 s.seq, .int .i64 s.rev] 111) = W1 at bA bxS bxD ⊢
            have y0 : W1.cell? ⟨wr.heap.size, 0, none⟩ = some (.int .i64 s.client) := bxS.cell rfl
            have y1 : W1.cell? ⟨wr.heap.size, 1, none⟩ = some (.int .i64 s.seq) := bxS.cell rfl
            have y2 : W1.cell? ⟨wr.heap.size, 2, none⟩ = some (.int .i64 s.rev) := bxS.cell rfl
            have y3 : W1.cell? ⟨w.heap.size, 0, none⟩ = some (.string x.name) := bxD.cell rfl
            have y4 : W1.cell? ⟨w.heap.size, 1, none⟩ = some (.int .i64 x.from_) := bxD.cell rfl
            have y5 : W1.cell? ⟨w.heap.size, 2, none⟩ = some (.slice A2 x.text.length c2) := bxD.cell rfl
            have y6 : W1.cell? ⟨w.heap.size, 3, none⟩ = some (.slice A3 x.list.length c3) := bxD.cell rfl
            have y7 : W1.cell? ⟨w.heap.size, 4, none⟩ = some (.slice (some ⟨b, off, none⟩) x.seen.length c4) := bxD.cell rfl
            have lS := bxS.lt
            have lD := bxD.lt
            have SX := Lib.hid (show ∀ (W W' : World), (W.cell? ⟨wr.heap.size, 0, none⟩ = some (.int .i64 s.client) ∧ W.cell? ⟨wr.heap.size, 1, none⟩ = some (.int .i64 s.seq) ∧ W.cell? ⟨wr.heap.size, 2, none⟩ = some (.int .i64 s.rev) ∧ W.cell? ⟨w.heap.size, 0, none⟩ = some (.string x.name) ∧ W.cell? ⟨w.heap.size, 1, none⟩ = some (.int .i64 x.from_) ∧ W.cell? ⟨w.heap.size, 2, none⟩ = some (.slice A2 x.text.length c2) ∧ W.cell? ⟨w.heap.size, 3, none⟩ = some (.slice A3 x.list.length c3) ∧ W.cell? ⟨w.heap.size, 4, none⟩ = some (.slice (some ⟨b, off, none⟩) x.seen.length c4) ∧ KS W1 W) → Below W.heap.size W W' → (W'.cell? ⟨wr.heap.size, 0, none⟩ = some (.int .i64 s.client) ∧ W'.cell? ⟨wr.heap.size, 1, none⟩ = some (.int .i64 s.seq) ∧ W'.cell? ⟨wr.heap.size, 2, none⟩ = some (.int .i64 s.rev) ∧ W'.cell? ⟨w.heap.size, 0, none⟩ = some (.string x.name) ∧ W'.cell? ⟨w.heap.size, 1, none⟩ = some (.int .i64 x.from_) ∧ W'.cell? ⟨w.heap.size, 2, none⟩ = some (.slice A2 x.text.length c2) ∧ W'.cell? ⟨w.heap.size, 3, none⟩ = some (.slice A3 x.list.length c3) ∧ W'.cell? ⟨w.heap.size, 4, none⟩ = some (.slice (some ⟨b, off, none⟩) x.seen.length c4) ∧ KS W1 W') from fun W W' h hb => by have hk := h.2.2.2.2.2.2.2.2; have hkk : KS W1 W' := hk.trans (hb.mono hk.size); exact ⟨(hkk.cell (p := ⟨wr.heap.size, 0, none⟩) lS).trans y0, (hkk.cell (p := ⟨wr.heap.size, 1, none⟩) lS).trans y1, (hkk.cell (p := ⟨wr.heap.size, 2, none⟩) lS).trans y2, (hkk.cell (p := ⟨w.heap.size, 0, none⟩) lD).trans y3, (hkk.cell (p := ⟨w.heap.size, 1, none⟩) lD).trans y4, (hkk.cell (p := ⟨w.heap.size, 2, none⟩) lD).trans y5, (hkk.cell (p := ⟨w.heap.size, 3, none⟩) lD).trans y6, (hkk.cell (p := ⟨w.heap.size, 4, none⟩) lD).trans y7, hkk⟩)
            have RD := Lib.hid (show ∀ W : World, (W.cell? ⟨wr.heap.size, 0, none⟩ = some (.int .i64 s.client) ∧ W.cell? ⟨wr.heap.size, 1, none⟩ = some (.int .i64 s.seq) ∧ W.cell? ⟨wr.heap.size, 2, none⟩ = some (.int .i64 s.rev) ∧ W.cell? ⟨w.heap.size, 0, none⟩ = some (.string x.name) ∧ W.cell? ⟨w.heap.size, 1, none⟩ = some (.int .i64 x.from_) ∧ W.cell? ⟨w.heap.size, 2, none⟩ = some (.slice A2 x.text.length c2) ∧ W.cell? ⟨w.heap.size, 3, none⟩ = some (.slice A3 x.list.length c3) ∧ W.cell? ⟨w.heap.size, 4, none⟩ = some (.slice (some ⟨b, off, none⟩) x.seen.length c4) ∧ KS W1 W) → RdC W W.heap.size (datDo x) (.agg #[.string x.name, .int .i64 x.from_, .slice A2 x.text.length c2, .slice A3 x.list.length c3, .slice (some ⟨b, off, none⟩) x.seen.length c4]) from fun W h => by have hk : Below W1.heap.size W1 W := h.2.2.2.2.2.2.2.2; exact (HR.out.past (hbel.trans (bA.mono hbel.size))).past hk)
            have hS0 : W1.drew.cell? ⟨wr.heap.size, 0, none⟩ = some (.int .i64 s.client) ∧ W1.drew.cell? ⟨wr.heap.size, 1, none⟩ = some (.int .i64 s.seq) ∧ W1.drew.cell? ⟨wr.heap.size, 2, none⟩ = some (.int .i64 s.rev) ∧ W1.drew.cell? ⟨w.heap.size, 0, none⟩ = some (.string x.name) ∧ W1.drew.cell? ⟨w.heap.size, 1, none⟩ = some (.int .i64 x.from_) ∧ W1.drew.cell? ⟨w.heap.size, 2, none⟩ = some (.slice A2 x.text.length c2) ∧ W1.drew.cell? ⟨w.heap.size, 3, none⟩ = some (.slice A3 x.list.length c3) ∧ W1.drew.cell? ⟨w.heap.size, 4, none⟩ = some (.slice (some ⟨b, off, none⟩) x.seen.length c4) ∧ KS W1 W1.drew := ⟨y0, y1, y2, y3, y4, y5, y6, y7, KS.start _⟩
            clear y0 y1 y2 y3 y4 y5 y6 y7
            refine wp_region_held_drew (S := fun W => W.cell? ⟨wr.heap.size, 0, none⟩ = some (.int .i64 s.client) ∧ W.cell? ⟨wr.heap.size, 1, none⟩ = some (.int .i64 s.seq) ∧ W.cell? ⟨wr.heap.size, 2, none⟩ = some (.int .i64 s.rev) ∧ W.cell? ⟨w.heap.size, 0, none⟩ = some (.string x.name) ∧ W.cell? ⟨w.heap.size, 1, none⟩ = some (.int .i64 x.from_) ∧ W.cell? ⟨w.heap.size, 2, none⟩ = some (.slice A2 x.text.length c2) ∧ W.cell? ⟨w.heap.size, 3, none⟩ = some (.slice A3 x.list.length c3) ∧ W.cell? ⟨w.heap.size, 4, none⟩ = some (.slice (some ⟨b, off, none⟩) x.seen.length c4) ∧ KS W1 W) (by kernel_rfl) hS0 (fun hS => ?_)
            clear hS0
            refine tk (v := .pointer (some ⟨wr.heap.size, 0, none⟩)) 0 70 rfl (fun w' hS' => ?_) hS ?_
            · (try dsimp only at hS'); go_simp
            try simp only [Act.put, pa, pb, pc]
            refine tk (v := .int .i64 s.client) 1 71 rfl (fun w' hS' => ?_) hS ?_
            · (try dsimp only at hS'); go_simp
            try simp only [Act.put, pa, pb, pc]
            refine r1 2 (some 72) rfl (fun K hK => ?_)
            go_simp
            refine (in_any _ _ _ _).mono ?_
            rw [h1]
            rintro e w2 ⟨rfl, rfl⟩
            refine hK.out _ _ hS (fun hS => ?_)
            clear hK K
            try simp only [Act.put, pa, pb, pc]
            refine tk (v := .bool true) 3 73 rfl (fun w' hS' => ?_) hS ?_
            · (try dsimp only at hS'); go_simp
            try simp only [Act.put, pa, pb, pc]
            refine tk (v := .bool true) 4 74 rfl (fun w' hS' => ?_) hS ?_
            · (try dsimp only at hS'); go_simp
            try simp only [Act.put, pa, pb, pc]
            refine tu 5 75 rfl hS ?_
            try simp only [Act.put, pa, pb, pc]
            refine tu 6 76 rfl hS ?_
            try simp only [Act.put, pa, pb, pc]
            refine tu 7 77 rfl hS ?_
            try simp only [Act.put, pa, pb, pc]
            refine tu 8 78 rfl hS ?_
            try simp only [Act.put, pa, pb, pc]
            refine tk (v := .bool true) 9 79 rfl (fun w' hS' => ?_) hS ?_
            · (try dsimp only at hS'); go_simp
            try simp only [Act.put, pa, pb, pc]
            refine tk (v := .bool true) 10 80 rfl (fun w' hS' => ?_) hS ?_
            · (try dsimp only at hS'); go_simp
            try simp only [Act.put, pa, pb, pc]
            refine tu 11 81 rfl hS ?_
            try simp only [Act.put, pa, pb, pc]
            refine tu 12 82 rfl hS ?_
            try simp only [Act.put, pa, pb, pc]
            refine tu 13 83 rfl hS ?_
            try simp only [Act.put, pa, pb, pc]
            refine tu 14 84 rfl hS ?_
            try simp only [Act.put, pa, pb, pc]
            refine tu 15 85 rfl hS ?_
            try simp only [Act.put, pa, pb, pc]
            refine tu 16 86 rfl hS ?_
            try simp only [Act.put, pa, pb, pc]
            refine tk (v := .bool true) 17 87 rfl (fun w' hS' => ?_) hS ?_
            · (try dsimp only at hS'); go_simp
            try simp only [Act.put, pa, pb, pc]
            refine tk (v := .bool true) 18 88 rfl (fun w' hS' => ?_) hS ?_
            · (try dsimp only at hS'); go_simp
            try simp only [Act.put, pa, pb, pc]
            refine tu 19 89 rfl hS ?_
            try simp only [Act.put, pa, pb, pc]
            refine tu 20 90 rfl hS ?_
            try simp only [Act.put, pa, pb, pc]
            refine tu 21 91 rfl hS ?_
            try simp only [Act.put, pa, pb, pc]
            refine tu 22 92 rfl hS ?_
            try simp only [Act.put, pa, pb, pc]
            refine tu 23 93 rfl hS ?_
            try simp only [Act.put, pa, pb, pc]
            refine tu 24 94 rfl hS ?_
            try simp only [Act.put, pa, pb, pc]
            refine tu 25 95 rfl hS ?_
            try simp only [Act.put, pa, pb, pc]
            refine tu 26 96 rfl hS ?_
            try simp only [Act.put, pa, pb, pc]
            refine tu 27 97 rfl hS ?_
            try simp only [Act.put, pa, pb, pc]
            refine tu 28 98 rfl hS ?_
            try simp only [Act.put, pa, pb, pc]
            refine tu 29 99 rfl hS ?_
            try simp only [Act.put, pa, pb, pc]
            refine tu 30 100 rfl hS ?_
            try simp only [Act.put, pa, pb, pc]
            refine tu 31 101 rfl hS ?_
            try simp only [Act.put, pa, pb, pc]
            refine tu 32 102 rfl hS ?_
            try simp only [Act.put, pa, pb, pc]
            refine tk (v := .bool true) 33 103 rfl (fun w' hS' => ?_) hS ?_
            · (try dsimp only at hS'); go_simp
            try simp only [Act.put, pa, pb, pc]
            refine wpAnyH_done (by kernel_rfl) ?_ _
            have HK : Below w.heap.size w _ := hbel.trans ((bA.trans (hS.2.2.2.2.2.2.2.2.mono bA.size)).mono hbel.size)
            have HBX2 := Lib.hid (bxD.past hS.2.2.2.2.2.2.2.2)
            have HKH := Lib.hid HK
            clear hS SX RD HK
            go_wp2
            go_ret
            exact ⟨ret_b (by rw [HDC.out, HS.out]; rw [show seenOneB (headRevT x) (prevOf x.seen j) s = false by unfold seenOneB; rw [h1]; simp]; rfl), HKH.out⟩
          cases h2 : inB s.seq 1 1000000000
          · go_wp2
            generalize wr.alloc (.cells #[.int .i64 s.client, .int .i64 s.seq, .int .i64 s.rev] 111) = W1 at bA bxS bxD ⊢
            have y0 : W1.cell? ⟨wr.heap.size, 0, none⟩ = some (.int .i64 s.client) := bxS.cell rfl
            have y1 : W1.cell? ⟨wr.heap.size, 1, none⟩ = some (.int .i64 s.seq) := bxS.cell rfl
            have y2 : W1.cell? ⟨wr.heap.size, 2, none⟩ = some (.int .i64 s.rev) := bxS.cell rfl
            have y3 : W1.cell? ⟨w.heap.size, 0, none⟩ = some (.string x.name) := bxD.cell rfl
            have y4 : W1.cell? ⟨w.heap.size, 1, none⟩ = some (.int .i64 x.from_) := bxD.cell rfl
            have y5 : W1.cell? ⟨w.heap.size, 2, none⟩ = some (.slice A2 x.text.length c2) := bxD.cell rfl
            have y6 : W1.cell? ⟨w.heap.size, 3, none⟩ = some (.slice A3 x.list.length c3) := bxD.cell rfl
            have y7 : W1.cell? ⟨w.heap.size, 4, none⟩ = some (.slice (some ⟨b, off, none⟩) x.seen.length c4) := bxD.cell rfl
            have lS := bxS.lt
            have lD := bxD.lt
            have SX := Lib.hid (show ∀ (W W' : World), (W.cell? ⟨wr.heap.size, 0, none⟩ = some (.int .i64 s.client) ∧ W.cell? ⟨wr.heap.size, 1, none⟩ = some (.int .i64 s.seq) ∧ W.cell? ⟨wr.heap.size, 2, none⟩ = some (.int .i64 s.rev) ∧ W.cell? ⟨w.heap.size, 0, none⟩ = some (.string x.name) ∧ W.cell? ⟨w.heap.size, 1, none⟩ = some (.int .i64 x.from_) ∧ W.cell? ⟨w.heap.size, 2, none⟩ = some (.slice A2 x.text.length c2) ∧ W.cell? ⟨w.heap.size, 3, none⟩ = some (.slice A3 x.list.length c3) ∧ W.cell? ⟨w.heap.size, 4, none⟩ = some (.slice (some ⟨b, off, none⟩) x.seen.length c4) ∧ KS W1 W) → Below W.heap.size W W' → (W'.cell? ⟨wr.heap.size, 0, none⟩ = some (.int .i64 s.client) ∧ W'.cell? ⟨wr.heap.size, 1, none⟩ = some (.int .i64 s.seq) ∧ W'.cell? ⟨wr.heap.size, 2, none⟩ = some (.int .i64 s.rev) ∧ W'.cell? ⟨w.heap.size, 0, none⟩ = some (.string x.name) ∧ W'.cell? ⟨w.heap.size, 1, none⟩ = some (.int .i64 x.from_) ∧ W'.cell? ⟨w.heap.size, 2, none⟩ = some (.slice A2 x.text.length c2) ∧ W'.cell? ⟨w.heap.size, 3, none⟩ = some (.slice A3 x.list.length c3) ∧ W'.cell? ⟨w.heap.size, 4, none⟩ = some (.slice (some ⟨b, off, none⟩) x.seen.length c4) ∧ KS W1 W') from fun W W' h hb => by have hk := h.2.2.2.2.2.2.2.2; have hkk : KS W1 W' := hk.trans (hb.mono hk.size); exact ⟨(hkk.cell (p := ⟨wr.heap.size, 0, none⟩) lS).trans y0, (hkk.cell (p := ⟨wr.heap.size, 1, none⟩) lS).trans y1, (hkk.cell (p := ⟨wr.heap.size, 2, none⟩) lS).trans y2, (hkk.cell (p := ⟨w.heap.size, 0, none⟩) lD).trans y3, (hkk.cell (p := ⟨w.heap.size, 1, none⟩) lD).trans y4, (hkk.cell (p := ⟨w.heap.size, 2, none⟩) lD).trans y5, (hkk.cell (p := ⟨w.heap.size, 3, none⟩) lD).trans y6, (hkk.cell (p := ⟨w.heap.size, 4, none⟩) lD).trans y7, hkk⟩)
            have RD := Lib.hid (show ∀ W : World, (W.cell? ⟨wr.heap.size, 0, none⟩ = some (.int .i64 s.client) ∧ W.cell? ⟨wr.heap.size, 1, none⟩ = some (.int .i64 s.seq) ∧ W.cell? ⟨wr.heap.size, 2, none⟩ = some (.int .i64 s.rev) ∧ W.cell? ⟨w.heap.size, 0, none⟩ = some (.string x.name) ∧ W.cell? ⟨w.heap.size, 1, none⟩ = some (.int .i64 x.from_) ∧ W.cell? ⟨w.heap.size, 2, none⟩ = some (.slice A2 x.text.length c2) ∧ W.cell? ⟨w.heap.size, 3, none⟩ = some (.slice A3 x.list.length c3) ∧ W.cell? ⟨w.heap.size, 4, none⟩ = some (.slice (some ⟨b, off, none⟩) x.seen.length c4) ∧ KS W1 W) → RdC W W.heap.size (datDo x) (.agg #[.string x.name, .int .i64 x.from_, .slice A2 x.text.length c2, .slice A3 x.list.length c3, .slice (some ⟨b, off, none⟩) x.seen.length c4]) from fun W h => by have hk : Below W1.heap.size W1 W := h.2.2.2.2.2.2.2.2; exact (HR.out.past (hbel.trans (bA.mono hbel.size))).past hk)
            have hS0 : W1.drew.cell? ⟨wr.heap.size, 0, none⟩ = some (.int .i64 s.client) ∧ W1.drew.cell? ⟨wr.heap.size, 1, none⟩ = some (.int .i64 s.seq) ∧ W1.drew.cell? ⟨wr.heap.size, 2, none⟩ = some (.int .i64 s.rev) ∧ W1.drew.cell? ⟨w.heap.size, 0, none⟩ = some (.string x.name) ∧ W1.drew.cell? ⟨w.heap.size, 1, none⟩ = some (.int .i64 x.from_) ∧ W1.drew.cell? ⟨w.heap.size, 2, none⟩ = some (.slice A2 x.text.length c2) ∧ W1.drew.cell? ⟨w.heap.size, 3, none⟩ = some (.slice A3 x.list.length c3) ∧ W1.drew.cell? ⟨w.heap.size, 4, none⟩ = some (.slice (some ⟨b, off, none⟩) x.seen.length c4) ∧ KS W1 W1.drew := ⟨y0, y1, y2, y3, y4, y5, y6, y7, KS.start _⟩
            clear y0 y1 y2 y3 y4 y5 y6 y7
            refine wp_region_held_drew (S := fun W => W.cell? ⟨wr.heap.size, 0, none⟩ = some (.int .i64 s.client) ∧ W.cell? ⟨wr.heap.size, 1, none⟩ = some (.int .i64 s.seq) ∧ W.cell? ⟨wr.heap.size, 2, none⟩ = some (.int .i64 s.rev) ∧ W.cell? ⟨w.heap.size, 0, none⟩ = some (.string x.name) ∧ W.cell? ⟨w.heap.size, 1, none⟩ = some (.int .i64 x.from_) ∧ W.cell? ⟨w.heap.size, 2, none⟩ = some (.slice A2 x.text.length c2) ∧ W.cell? ⟨w.heap.size, 3, none⟩ = some (.slice A3 x.list.length c3) ∧ W.cell? ⟨w.heap.size, 4, none⟩ = some (.slice (some ⟨b, off, none⟩) x.seen.length c4) ∧ KS W1 W) (by kernel_rfl) hS0 (fun hS => ?_)
            clear hS0
            refine tk (v := .pointer (some ⟨wr.heap.size, 0, none⟩)) 0 70 rfl (fun w' hS' => ?_) hS ?_
            · (try dsimp only at hS'); go_simp
            try simp only [Act.put, pa, pb, pc]
            refine tk (v := .int .i64 s.client) 1 71 rfl (fun w' hS' => ?_) hS ?_
            · (try dsimp only at hS'); go_simp
            try simp only [Act.put, pa, pb, pc]
            refine r1 2 (some 72) rfl (fun K hK => ?_)
            go_simp
            refine (in_any _ _ _ _).mono ?_
            rw [h1]
            rintro e w2 ⟨rfl, rfl⟩
            refine hK.out _ _ hS (fun hS => ?_)
            clear hK K
            try simp only [Act.put, pa, pb, pc]
            refine tk (v := .bool false) 3 73 rfl (fun w' hS' => ?_) hS ?_
            · (try dsimp only at hS'); go_simp
            try simp only [Act.put, pa, pb, pc]
            refine tk (v := .bool false) 4 74 rfl (fun w' hS' => ?_) hS ?_
            · (try dsimp only at hS'); go_simp
            try simp only [Act.put, pa, pb, pc]
            refine tk (v := .pointer (some ⟨wr.heap.size, 1, none⟩)) 5 75 rfl (fun w' hS' => ?_) hS ?_
            · (try dsimp only at hS'); go_simp
            try simp only [Act.put, pa, pb, pc]
            refine tk (v := .int .i64 s.seq) 6 76 rfl (fun w' hS' => ?_) hS ?_
            · (try dsimp only at hS'); go_simp
            try simp only [Act.put, pa, pb, pc]
            refine r1 7 (some 77) rfl (fun K hK => ?_)
            go_simp
            refine (in_any _ _ _ _).mono ?_
            rw [h2]
            rintro e w2 ⟨rfl, rfl⟩
            refine hK.out _ _ hS (fun hS => ?_)
            clear hK K
            try simp only [Act.put, pa, pb, pc]
            refine tk (v := .bool true) 8 78 rfl (fun w' hS' => ?_) hS ?_
            · (try dsimp only at hS'); go_simp
            try simp only [Act.put, pa, pb, pc]
            refine tk (v := .bool true) 9 79 rfl (fun w' hS' => ?_) hS ?_
            · (try dsimp only at hS'); go_simp
            try simp only [Act.put, pa, pb, pc]
            refine tk (v := .bool true) 10 80 rfl (fun w' hS' => ?_) hS ?_
            · (try dsimp only at hS'); go_simp
            try simp only [Act.put, pa, pb, pc]
            refine tu 11 81 rfl hS ?_
            try simp only [Act.put, pa, pb, pc]
            refine tu 12 82 rfl hS ?_
            try simp only [Act.put, pa, pb, pc]
            refine tu 13 83 rfl hS ?_
            try simp only [Act.put, pa, pb, pc]
            refine tu 14 84 rfl hS ?_
            try simp only [Act.put, pa, pb, pc]
            refine tu 15 85 rfl hS ?_
            try simp only [Act.put, pa, pb, pc]
            refine tu 16 86 rfl hS ?_
            try simp only [Act.put, pa, pb, pc]
            refine tk (v := .bool true) 17 87 rfl (fun w' hS' => ?_) hS ?_
            · (try dsimp only at hS'); go_simp
            try simp only [Act.put, pa, pb, pc]
            refine tk (v := .bool true) 18 88 rfl (fun w' hS' => ?_) hS ?_
            · (try dsimp only at hS'); go_simp
            try simp only [Act.put, pa, pb, pc]
            refine tu 19 89 rfl hS ?_
            try simp only [Act.put, pa, pb, pc]
            refine tu 20 90 rfl hS ?_
            try simp only [Act.put, pa, pb, pc]
            refine tu 21 91 rfl hS ?_
            try simp only [Act.put, pa, pb, pc]
            refine tu 22 92 rfl hS ?_
            try simp only [Act.put, pa, pb, pc]
            refine tu 23 93 rfl hS ?_
            try simp only [Act.put, pa, pb, pc]
            refine tu 24 94 rfl hS ?_
            try simp only [Act.put, pa, pb, pc]
            refine tu 25 95 rfl hS ?_
            try simp only [Act.put, pa, pb, pc]
            refine tu 26 96 rfl hS ?_
            try simp only [Act.put, pa, pb, pc]
            refine tu 27 97 rfl hS ?_
            try simp only [Act.put, pa, pb, pc]
            refine tu 28 98 rfl hS ?_
            try simp only [Act.put, pa, pb, pc]
            refine tu 29 99 rfl hS ?_
            try simp only [Act.put, pa, pb, pc]
            refine tu 30 100 rfl hS ?_
            try simp only [Act.put, pa, pb, pc]
            refine tu 31 101 rfl hS ?_
            try simp only [Act.put, pa, pb, pc]
            refine tu 32 102 rfl hS ?_
            try simp only [Act.put, pa, pb, pc]
            refine tk (v := .bool true) 33 103 rfl (fun w' hS' => ?_) hS ?_
            · (try dsimp only at hS'); go_simp
            try simp only [Act.put, pa, pb, pc]
            refine wpAnyH_done (by kernel_rfl) ?_ _
            have HK : Below w.heap.size w _ := hbel.trans ((bA.trans (hS.2.2.2.2.2.2.2.2.mono bA.size)).mono hbel.size)
            have HBX2 := Lib.hid (bxD.past hS.2.2.2.2.2.2.2.2)
            have HKH := Lib.hid HK
            clear hS SX RD HK
            go_wp2
            go_ret
            exact ⟨ret_b (by rw [HDC.out, HS.out]; rw [show seenOneB (headRevT x) (prevOf x.seen j) s = false by unfold seenOneB; rw [h1, h2]; simp]; rfl), HKH.out⟩
          cases h3 : inB s.rev 1 (headRevT x)
          · go_wp2
            generalize wr.alloc (.cells #[.int .i64 s.client, .int .i64 s.seq, .int .i64 s.rev] 111) = W1 at bA bxS bxD ⊢
            have y0 : W1.cell? ⟨wr.heap.size, 0, none⟩ = some (.int .i64 s.client) := bxS.cell rfl
            have y1 : W1.cell? ⟨wr.heap.size, 1, none⟩ = some (.int .i64 s.seq) := bxS.cell rfl
            have y2 : W1.cell? ⟨wr.heap.size, 2, none⟩ = some (.int .i64 s.rev) := bxS.cell rfl
            have y3 : W1.cell? ⟨w.heap.size, 0, none⟩ = some (.string x.name) := bxD.cell rfl
            have y4 : W1.cell? ⟨w.heap.size, 1, none⟩ = some (.int .i64 x.from_) := bxD.cell rfl
            have y5 : W1.cell? ⟨w.heap.size, 2, none⟩ = some (.slice A2 x.text.length c2) := bxD.cell rfl
            have y6 : W1.cell? ⟨w.heap.size, 3, none⟩ = some (.slice A3 x.list.length c3) := bxD.cell rfl
            have y7 : W1.cell? ⟨w.heap.size, 4, none⟩ = some (.slice (some ⟨b, off, none⟩) x.seen.length c4) := bxD.cell rfl
            have lS := bxS.lt
            have lD := bxD.lt
            have SX := Lib.hid (show ∀ (W W' : World), (W.cell? ⟨wr.heap.size, 0, none⟩ = some (.int .i64 s.client) ∧ W.cell? ⟨wr.heap.size, 1, none⟩ = some (.int .i64 s.seq) ∧ W.cell? ⟨wr.heap.size, 2, none⟩ = some (.int .i64 s.rev) ∧ W.cell? ⟨w.heap.size, 0, none⟩ = some (.string x.name) ∧ W.cell? ⟨w.heap.size, 1, none⟩ = some (.int .i64 x.from_) ∧ W.cell? ⟨w.heap.size, 2, none⟩ = some (.slice A2 x.text.length c2) ∧ W.cell? ⟨w.heap.size, 3, none⟩ = some (.slice A3 x.list.length c3) ∧ W.cell? ⟨w.heap.size, 4, none⟩ = some (.slice (some ⟨b, off, none⟩) x.seen.length c4) ∧ KS W1 W) → Below W.heap.size W W' → (W'.cell? ⟨wr.heap.size, 0, none⟩ = some (.int .i64 s.client) ∧ W'.cell? ⟨wr.heap.size, 1, none⟩ = some (.int .i64 s.seq) ∧ W'.cell? ⟨wr.heap.size, 2, none⟩ = some (.int .i64 s.rev) ∧ W'.cell? ⟨w.heap.size, 0, none⟩ = some (.string x.name) ∧ W'.cell? ⟨w.heap.size, 1, none⟩ = some (.int .i64 x.from_) ∧ W'.cell? ⟨w.heap.size, 2, none⟩ = some (.slice A2 x.text.length c2) ∧ W'.cell? ⟨w.heap.size, 3, none⟩ = some (.slice A3 x.list.length c3) ∧ W'.cell? ⟨w.heap.size, 4, none⟩ = some (.slice (some ⟨b, off, none⟩) x.seen.length c4) ∧ KS W1 W') from fun W W' h hb => by have hk := h.2.2.2.2.2.2.2.2; have hkk : KS W1 W' := hk.trans (hb.mono hk.size); exact ⟨(hkk.cell (p := ⟨wr.heap.size, 0, none⟩) lS).trans y0, (hkk.cell (p := ⟨wr.heap.size, 1, none⟩) lS).trans y1, (hkk.cell (p := ⟨wr.heap.size, 2, none⟩) lS).trans y2, (hkk.cell (p := ⟨w.heap.size, 0, none⟩) lD).trans y3, (hkk.cell (p := ⟨w.heap.size, 1, none⟩) lD).trans y4, (hkk.cell (p := ⟨w.heap.size, 2, none⟩) lD).trans y5, (hkk.cell (p := ⟨w.heap.size, 3, none⟩) lD).trans y6, (hkk.cell (p := ⟨w.heap.size, 4, none⟩) lD).trans y7, hkk⟩)
            have RD := Lib.hid (show ∀ W : World, (W.cell? ⟨wr.heap.size, 0, none⟩ = some (.int .i64 s.client) ∧ W.cell? ⟨wr.heap.size, 1, none⟩ = some (.int .i64 s.seq) ∧ W.cell? ⟨wr.heap.size, 2, none⟩ = some (.int .i64 s.rev) ∧ W.cell? ⟨w.heap.size, 0, none⟩ = some (.string x.name) ∧ W.cell? ⟨w.heap.size, 1, none⟩ = some (.int .i64 x.from_) ∧ W.cell? ⟨w.heap.size, 2, none⟩ = some (.slice A2 x.text.length c2) ∧ W.cell? ⟨w.heap.size, 3, none⟩ = some (.slice A3 x.list.length c3) ∧ W.cell? ⟨w.heap.size, 4, none⟩ = some (.slice (some ⟨b, off, none⟩) x.seen.length c4) ∧ KS W1 W) → RdC W W.heap.size (datDo x) (.agg #[.string x.name, .int .i64 x.from_, .slice A2 x.text.length c2, .slice A3 x.list.length c3, .slice (some ⟨b, off, none⟩) x.seen.length c4]) from fun W h => by have hk : Below W1.heap.size W1 W := h.2.2.2.2.2.2.2.2; exact (HR.out.past (hbel.trans (bA.mono hbel.size))).past hk)
            have hS0 : W1.drew.cell? ⟨wr.heap.size, 0, none⟩ = some (.int .i64 s.client) ∧ W1.drew.cell? ⟨wr.heap.size, 1, none⟩ = some (.int .i64 s.seq) ∧ W1.drew.cell? ⟨wr.heap.size, 2, none⟩ = some (.int .i64 s.rev) ∧ W1.drew.cell? ⟨w.heap.size, 0, none⟩ = some (.string x.name) ∧ W1.drew.cell? ⟨w.heap.size, 1, none⟩ = some (.int .i64 x.from_) ∧ W1.drew.cell? ⟨w.heap.size, 2, none⟩ = some (.slice A2 x.text.length c2) ∧ W1.drew.cell? ⟨w.heap.size, 3, none⟩ = some (.slice A3 x.list.length c3) ∧ W1.drew.cell? ⟨w.heap.size, 4, none⟩ = some (.slice (some ⟨b, off, none⟩) x.seen.length c4) ∧ KS W1 W1.drew := ⟨y0, y1, y2, y3, y4, y5, y6, y7, KS.start _⟩
            clear y0 y1 y2 y3 y4 y5 y6 y7
            refine wp_region_held_drew (S := fun W => W.cell? ⟨wr.heap.size, 0, none⟩ = some (.int .i64 s.client) ∧ W.cell? ⟨wr.heap.size, 1, none⟩ = some (.int .i64 s.seq) ∧ W.cell? ⟨wr.heap.size, 2, none⟩ = some (.int .i64 s.rev) ∧ W.cell? ⟨w.heap.size, 0, none⟩ = some (.string x.name) ∧ W.cell? ⟨w.heap.size, 1, none⟩ = some (.int .i64 x.from_) ∧ W.cell? ⟨w.heap.size, 2, none⟩ = some (.slice A2 x.text.length c2) ∧ W.cell? ⟨w.heap.size, 3, none⟩ = some (.slice A3 x.list.length c3) ∧ W.cell? ⟨w.heap.size, 4, none⟩ = some (.slice (some ⟨b, off, none⟩) x.seen.length c4) ∧ KS W1 W) (by kernel_rfl) hS0 (fun hS => ?_)
            clear hS0
            refine tk (v := .pointer (some ⟨wr.heap.size, 0, none⟩)) 0 70 rfl (fun w' hS' => ?_) hS ?_
            · (try dsimp only at hS'); go_simp
            try simp only [Act.put, pa, pb, pc]
            refine tk (v := .int .i64 s.client) 1 71 rfl (fun w' hS' => ?_) hS ?_
            · (try dsimp only at hS'); go_simp
            try simp only [Act.put, pa, pb, pc]
            refine r1 2 (some 72) rfl (fun K hK => ?_)
            go_simp
            refine (in_any _ _ _ _).mono ?_
            rw [h1]
            rintro e w2 ⟨rfl, rfl⟩
            refine hK.out _ _ hS (fun hS => ?_)
            clear hK K
            try simp only [Act.put, pa, pb, pc]
            refine tk (v := .bool false) 3 73 rfl (fun w' hS' => ?_) hS ?_
            · (try dsimp only at hS'); go_simp
            try simp only [Act.put, pa, pb, pc]
            refine tk (v := .bool false) 4 74 rfl (fun w' hS' => ?_) hS ?_
            · (try dsimp only at hS'); go_simp
            try simp only [Act.put, pa, pb, pc]
            refine tk (v := .pointer (some ⟨wr.heap.size, 1, none⟩)) 5 75 rfl (fun w' hS' => ?_) hS ?_
            · (try dsimp only at hS'); go_simp
            try simp only [Act.put, pa, pb, pc]
            refine tk (v := .int .i64 s.seq) 6 76 rfl (fun w' hS' => ?_) hS ?_
            · (try dsimp only at hS'); go_simp
            try simp only [Act.put, pa, pb, pc]
            refine r1 7 (some 77) rfl (fun K hK => ?_)
            go_simp
            refine (in_any _ _ _ _).mono ?_
            rw [h2]
            rintro e w2 ⟨rfl, rfl⟩
            refine hK.out _ _ hS (fun hS => ?_)
            clear hK K
            try simp only [Act.put, pa, pb, pc]
            refine tk (v := .bool false) 8 78 rfl (fun w' hS' => ?_) hS ?_
            · (try dsimp only at hS'); go_simp
            try simp only [Act.put, pa, pb, pc]
            refine tk (v := .bool false) 9 79 rfl (fun w' hS' => ?_) hS ?_
            · (try dsimp only at hS'); go_simp
            try simp only [Act.put, pa, pb, pc]
            refine tk (v := .bool false) 10 80 rfl (fun w' hS' => ?_) hS ?_
            · (try dsimp only at hS'); go_simp
            try simp only [Act.put, pa, pb, pc]
            refine tk (v := .pointer (some ⟨wr.heap.size, 2, none⟩)) 11 81 rfl (fun w' hS' => ?_) hS ?_
            · (try dsimp only at hS'); go_simp
            try simp only [Act.put, pa, pb, pc]
            refine tk (v := .int .i64 s.rev) 12 82 rfl (fun w' hS' => ?_) hS ?_
            · (try dsimp only at hS'); go_simp
            try simp only [Act.put, pa, pb, pc]
            refine tk (v := .agg #[.string x.name, .int .i64 x.from_, .slice A2 x.text.length c2, .slice A3 x.list.length c3, .slice (some ⟨b, off, none⟩) x.seen.length c4]) 13 83 rfl (fun w' hS' => ?_) hS ?_
            · (try dsimp only at hS'); go_simp
            try simp only [Act.put, pa, pb, pc]
            refine r1 14 (some 84) rfl (fun K hK => ?_)
            go_simp
            refine (specHeadRev_w _ x _ (RD.out _ hS)).mono ?_
            rintro e w2 ⟨rfl, b2⟩
            refine hK.out _ _ (SX.out _ _ hS b2) (fun hS => ?_)
            clear hK K
            try simp only [Act.put, pa, pb, pc]
            refine r1 15 (some 85) rfl (fun K hK => ?_)
            go_simp
            refine (in_any _ _ _ _).mono ?_
            rw [h3]
            rintro e w2 ⟨rfl, rfl⟩
            refine hK.out _ _ hS (fun hS => ?_)
            clear hK K
            try simp only [Act.put, pa, pb, pc]
            refine tk (v := .bool true) 16 86 rfl (fun w' hS' => ?_) hS ?_
            · (try dsimp only at hS'); go_simp
            try simp only [Act.put, pa, pb, pc]
            refine tk (v := .bool true) 17 87 rfl (fun w' hS' => ?_) hS ?_
            · (try dsimp only at hS'); go_simp
            try simp only [Act.put, pa, pb, pc]
            refine tk (v := .bool true) 18 88 rfl (fun w' hS' => ?_) hS ?_
            · (try dsimp only at hS'); go_simp
            try simp only [Act.put, pa, pb, pc]
            refine tu 19 89 rfl hS ?_
            try simp only [Act.put, pa, pb, pc]
            refine tu 20 90 rfl hS ?_
            try simp only [Act.put, pa, pb, pc]
            refine tu 21 91 rfl hS ?_
            try simp only [Act.put, pa, pb, pc]
            refine tu 22 92 rfl hS ?_
            try simp only [Act.put, pa, pb, pc]
            refine tu 23 93 rfl hS ?_
            try simp only [Act.put, pa, pb, pc]
            refine tu 24 94 rfl hS ?_
            try simp only [Act.put, pa, pb, pc]
            refine tu 25 95 rfl hS ?_
            try simp only [Act.put, pa, pb, pc]
            refine tu 26 96 rfl hS ?_
            try simp only [Act.put, pa, pb, pc]
            refine tu 27 97 rfl hS ?_
            try simp only [Act.put, pa, pb, pc]
            refine tu 28 98 rfl hS ?_
            try simp only [Act.put, pa, pb, pc]
            refine tu 29 99 rfl hS ?_
            try simp only [Act.put, pa, pb, pc]
            refine tu 30 100 rfl hS ?_
            try simp only [Act.put, pa, pb, pc]
            refine tu 31 101 rfl hS ?_
            try simp only [Act.put, pa, pb, pc]
            refine tu 32 102 rfl hS ?_
            try simp only [Act.put, pa, pb, pc]
            refine tk (v := .bool true) 33 103 rfl (fun w' hS' => ?_) hS ?_
            · (try dsimp only at hS'); go_simp
            try simp only [Act.put, pa, pb, pc]
            refine wpAnyH_done (by kernel_rfl) ?_ _
            have HK : Below w.heap.size w _ := hbel.trans ((bA.trans (hS.2.2.2.2.2.2.2.2.mono bA.size)).mono hbel.size)
            have HBX2 := Lib.hid (bxD.past hS.2.2.2.2.2.2.2.2)
            have HKH := Lib.hid HK
            clear hS SX RD HK
            go_wp2
            go_ret
            exact ⟨ret_b (by rw [HDC.out, HS.out]; rw [show seenOneB (headRevT x) (prevOf x.seen j) s = false by unfold seenOneB; rw [h1, h2, h3]; simp]; rfl), HKH.out⟩
          cases j with
          | zero =>
            have HN := Lib.hid (show docB x = seenAllB (headRevT x) (prevOf x.seen (0 + 1)) (x.seen.drop (0 + 1)) by rw [HDC.out, HS.out, show seenOneB (headRevT x) (prevOf x.seen 0) s = true by unfold seenOneB prevOf; rw [h1, h2, h3]; rfl]; rfl)
            rw [Nat.zero_mul, Nat.add_zero] at z0
            rw [Nat.zero_mul, Nat.add_zero] at z1
            rw [Nat.zero_mul, Nat.add_zero] at z2
            go_wp2
            generalize wr.alloc (.cells #[.int .i64 s.client, .int .i64 s.seq, .int .i64 s.rev] 111) = W1 at bA bxS bxD ⊢
            have y0 : W1.cell? ⟨wr.heap.size, 0, none⟩ = some (.int .i64 s.client) := bxS.cell rfl
            have y1 : W1.cell? ⟨wr.heap.size, 1, none⟩ = some (.int .i64 s.seq) := bxS.cell rfl
            have y2 : W1.cell? ⟨wr.heap.size, 2, none⟩ = some (.int .i64 s.rev) := bxS.cell rfl
            have y3 : W1.cell? ⟨w.heap.size, 0, none⟩ = some (.string x.name) := bxD.cell rfl
            have y4 : W1.cell? ⟨w.heap.size, 1, none⟩ = some (.int .i64 x.from_) := bxD.cell rfl
            have y5 : W1.cell? ⟨w.heap.size, 2, none⟩ = some (.slice A2 x.text.length c2) := bxD.cell rfl
            have y6 : W1.cell? ⟨w.heap.size, 3, none⟩ = some (.slice A3 x.list.length c3) := bxD.cell rfl
            have y7 : W1.cell? ⟨w.heap.size, 4, none⟩ = some (.slice (some ⟨b, off, none⟩) x.seen.length c4) := bxD.cell rfl
            have lS := bxS.lt
            have lD := bxD.lt
            have SX := Lib.hid (show ∀ (W W' : World), (W.cell? ⟨wr.heap.size, 0, none⟩ = some (.int .i64 s.client) ∧ W.cell? ⟨wr.heap.size, 1, none⟩ = some (.int .i64 s.seq) ∧ W.cell? ⟨wr.heap.size, 2, none⟩ = some (.int .i64 s.rev) ∧ W.cell? ⟨w.heap.size, 0, none⟩ = some (.string x.name) ∧ W.cell? ⟨w.heap.size, 1, none⟩ = some (.int .i64 x.from_) ∧ W.cell? ⟨w.heap.size, 2, none⟩ = some (.slice A2 x.text.length c2) ∧ W.cell? ⟨w.heap.size, 3, none⟩ = some (.slice A3 x.list.length c3) ∧ W.cell? ⟨w.heap.size, 4, none⟩ = some (.slice (some ⟨b, off, none⟩) x.seen.length c4) ∧ KS W1 W) → Below W.heap.size W W' → (W'.cell? ⟨wr.heap.size, 0, none⟩ = some (.int .i64 s.client) ∧ W'.cell? ⟨wr.heap.size, 1, none⟩ = some (.int .i64 s.seq) ∧ W'.cell? ⟨wr.heap.size, 2, none⟩ = some (.int .i64 s.rev) ∧ W'.cell? ⟨w.heap.size, 0, none⟩ = some (.string x.name) ∧ W'.cell? ⟨w.heap.size, 1, none⟩ = some (.int .i64 x.from_) ∧ W'.cell? ⟨w.heap.size, 2, none⟩ = some (.slice A2 x.text.length c2) ∧ W'.cell? ⟨w.heap.size, 3, none⟩ = some (.slice A3 x.list.length c3) ∧ W'.cell? ⟨w.heap.size, 4, none⟩ = some (.slice (some ⟨b, off, none⟩) x.seen.length c4) ∧ KS W1 W') from fun W W' h hb => by have hk := h.2.2.2.2.2.2.2.2; have hkk : KS W1 W' := hk.trans (hb.mono hk.size); exact ⟨(hkk.cell (p := ⟨wr.heap.size, 0, none⟩) lS).trans y0, (hkk.cell (p := ⟨wr.heap.size, 1, none⟩) lS).trans y1, (hkk.cell (p := ⟨wr.heap.size, 2, none⟩) lS).trans y2, (hkk.cell (p := ⟨w.heap.size, 0, none⟩) lD).trans y3, (hkk.cell (p := ⟨w.heap.size, 1, none⟩) lD).trans y4, (hkk.cell (p := ⟨w.heap.size, 2, none⟩) lD).trans y5, (hkk.cell (p := ⟨w.heap.size, 3, none⟩) lD).trans y6, (hkk.cell (p := ⟨w.heap.size, 4, none⟩) lD).trans y7, hkk⟩)
            have RD := Lib.hid (show ∀ W : World, (W.cell? ⟨wr.heap.size, 0, none⟩ = some (.int .i64 s.client) ∧ W.cell? ⟨wr.heap.size, 1, none⟩ = some (.int .i64 s.seq) ∧ W.cell? ⟨wr.heap.size, 2, none⟩ = some (.int .i64 s.rev) ∧ W.cell? ⟨w.heap.size, 0, none⟩ = some (.string x.name) ∧ W.cell? ⟨w.heap.size, 1, none⟩ = some (.int .i64 x.from_) ∧ W.cell? ⟨w.heap.size, 2, none⟩ = some (.slice A2 x.text.length c2) ∧ W.cell? ⟨w.heap.size, 3, none⟩ = some (.slice A3 x.list.length c3) ∧ W.cell? ⟨w.heap.size, 4, none⟩ = some (.slice (some ⟨b, off, none⟩) x.seen.length c4) ∧ KS W1 W) → RdC W W.heap.size (datDo x) (.agg #[.string x.name, .int .i64 x.from_, .slice A2 x.text.length c2, .slice A3 x.list.length c3, .slice (some ⟨b, off, none⟩) x.seen.length c4]) from fun W h => by have hk : Below W1.heap.size W1 W := h.2.2.2.2.2.2.2.2; exact (HR.out.past (hbel.trans (bA.mono hbel.size))).past hk)
            have hS0 : W1.drew.cell? ⟨wr.heap.size, 0, none⟩ = some (.int .i64 s.client) ∧ W1.drew.cell? ⟨wr.heap.size, 1, none⟩ = some (.int .i64 s.seq) ∧ W1.drew.cell? ⟨wr.heap.size, 2, none⟩ = some (.int .i64 s.rev) ∧ W1.drew.cell? ⟨w.heap.size, 0, none⟩ = some (.string x.name) ∧ W1.drew.cell? ⟨w.heap.size, 1, none⟩ = some (.int .i64 x.from_) ∧ W1.drew.cell? ⟨w.heap.size, 2, none⟩ = some (.slice A2 x.text.length c2) ∧ W1.drew.cell? ⟨w.heap.size, 3, none⟩ = some (.slice A3 x.list.length c3) ∧ W1.drew.cell? ⟨w.heap.size, 4, none⟩ = some (.slice (some ⟨b, off, none⟩) x.seen.length c4) ∧ KS W1 W1.drew := ⟨y0, y1, y2, y3, y4, y5, y6, y7, KS.start _⟩
            clear y0 y1 y2 y3 y4 y5 y6 y7
            refine wp_region_held_drew (S := fun W => W.cell? ⟨wr.heap.size, 0, none⟩ = some (.int .i64 s.client) ∧ W.cell? ⟨wr.heap.size, 1, none⟩ = some (.int .i64 s.seq) ∧ W.cell? ⟨wr.heap.size, 2, none⟩ = some (.int .i64 s.rev) ∧ W.cell? ⟨w.heap.size, 0, none⟩ = some (.string x.name) ∧ W.cell? ⟨w.heap.size, 1, none⟩ = some (.int .i64 x.from_) ∧ W.cell? ⟨w.heap.size, 2, none⟩ = some (.slice A2 x.text.length c2) ∧ W.cell? ⟨w.heap.size, 3, none⟩ = some (.slice A3 x.list.length c3) ∧ W.cell? ⟨w.heap.size, 4, none⟩ = some (.slice (some ⟨b, off, none⟩) x.seen.length c4) ∧ KS W1 W) (by kernel_rfl) hS0 (fun hS => ?_)
            clear hS0
            refine tk (v := .pointer (some ⟨wr.heap.size, 0, none⟩)) 0 70 rfl (fun w' hS' => ?_) hS ?_
            · (try dsimp only at hS'); go_simp
            try simp only [Act.put, pa, pb, pc]
            refine tk (v := .int .i64 s.client) 1 71 rfl (fun w' hS' => ?_) hS ?_
            · (try dsimp only at hS'); go_simp
            try simp only [Act.put, pa, pb, pc]
            refine r1 2 (some 72) rfl (fun K hK => ?_)
            go_simp
            refine (in_any _ _ _ _).mono ?_
            rw [h1]
            rintro e w2 ⟨rfl, rfl⟩
            refine hK.out _ _ hS (fun hS => ?_)
            clear hK K
            try simp only [Act.put, pa, pb, pc]
            refine tk (v := .bool false) 3 73 rfl (fun w' hS' => ?_) hS ?_
            · (try dsimp only at hS'); go_simp
            try simp only [Act.put, pa, pb, pc]
            refine tk (v := .bool false) 4 74 rfl (fun w' hS' => ?_) hS ?_
            · (try dsimp only at hS'); go_simp
            try simp only [Act.put, pa, pb, pc]
            refine tk (v := .pointer (some ⟨wr.heap.size, 1, none⟩)) 5 75 rfl (fun w' hS' => ?_) hS ?_
            · (try dsimp only at hS'); go_simp
            try simp only [Act.put, pa, pb, pc]
            refine tk (v := .int .i64 s.seq) 6 76 rfl (fun w' hS' => ?_) hS ?_
            · (try dsimp only at hS'); go_simp
            try simp only [Act.put, pa, pb, pc]
            refine r1 7 (some 77) rfl (fun K hK => ?_)
            go_simp
            refine (in_any _ _ _ _).mono ?_
            rw [h2]
            rintro e w2 ⟨rfl, rfl⟩
            refine hK.out _ _ hS (fun hS => ?_)
            clear hK K
            try simp only [Act.put, pa, pb, pc]
            refine tk (v := .bool false) 8 78 rfl (fun w' hS' => ?_) hS ?_
            · (try dsimp only at hS'); go_simp
            try simp only [Act.put, pa, pb, pc]
            refine tk (v := .bool false) 9 79 rfl (fun w' hS' => ?_) hS ?_
            · (try dsimp only at hS'); go_simp
            try simp only [Act.put, pa, pb, pc]
            refine tk (v := .bool false) 10 80 rfl (fun w' hS' => ?_) hS ?_
            · (try dsimp only at hS'); go_simp
            try simp only [Act.put, pa, pb, pc]
            refine tk (v := .pointer (some ⟨wr.heap.size, 2, none⟩)) 11 81 rfl (fun w' hS' => ?_) hS ?_
            · (try dsimp only at hS'); go_simp
            try simp only [Act.put, pa, pb, pc]
            refine tk (v := .int .i64 s.rev) 12 82 rfl (fun w' hS' => ?_) hS ?_
            · (try dsimp only at hS'); go_simp
            try simp only [Act.put, pa, pb, pc]
            refine tk (v := .agg #[.string x.name, .int .i64 x.from_, .slice A2 x.text.length c2, .slice A3 x.list.length c3, .slice (some ⟨b, off, none⟩) x.seen.length c4]) 13 83 rfl (fun w' hS' => ?_) hS ?_
            · (try dsimp only at hS'); go_simp
            try simp only [Act.put, pa, pb, pc]
            refine r1 14 (some 84) rfl (fun K hK => ?_)
            go_simp
            refine (specHeadRev_w _ x _ (RD.out _ hS)).mono ?_
            rintro e w2 ⟨rfl, b2⟩
            refine hK.out _ _ (SX.out _ _ hS b2) (fun hS => ?_)
            clear hK K
            try simp only [Act.put, pa, pb, pc]
            refine r1 15 (some 85) rfl (fun K hK => ?_)
            go_simp
            refine (in_any _ _ _ _).mono ?_
            rw [h3]
            rintro e w2 ⟨rfl, rfl⟩
            refine hK.out _ _ hS (fun hS => ?_)
            clear hK K
            try simp only [Act.put, pa, pb, pc]
            refine tk (v := .bool false) 16 86 rfl (fun w' hS' => ?_) hS ?_
            · (try dsimp only at hS'); go_simp
            try simp only [Act.put, pa, pb, pc]
            refine tk (v := .bool false) 17 87 rfl (fun w' hS' => ?_) hS ?_
            · (try dsimp only at hS'); go_simp
            try simp only [Act.put, pa, pb, pc]
            refine tk (v := .bool false) 18 88 rfl (fun w' hS' => ?_) hS ?_
            · (try dsimp only at hS'); go_simp
            try simp only [Act.put, pa, pb, pc]
            refine tk (v := .int .i64 (0 : Int)) 19 89 rfl (fun w' hS' => ?_) hS ?_
            · (try dsimp only at hS'); go_simp
            try simp only [Act.put, pa, pb, pc]
            refine tk (v := .bool false) 20 90 rfl (fun w' hS' => ?_) hS ?_
            · (try dsimp only at hS'); go_simp
            try simp only [Act.put, pa, pb, pc]
            refine tk (v := .bool false) 21 91 rfl (fun w' hS' => ?_) hS ?_
            · (try dsimp only at hS'); go_simp
            try simp only [Act.put, pa, pb, pc]
            refine tu 22 92 rfl hS ?_
            try simp only [Act.put, pa, pb, pc]
            refine tu 23 93 rfl hS ?_
            try simp only [Act.put, pa, pb, pc]
            refine tu 24 94 rfl hS ?_
            try simp only [Act.put, pa, pb, pc]
            refine tu 25 95 rfl hS ?_
            try simp only [Act.put, pa, pb, pc]
            refine tu 26 96 rfl hS ?_
            try simp only [Act.put, pa, pb, pc]
            refine tu 27 97 rfl hS ?_
            try simp only [Act.put, pa, pb, pc]
            refine tu 28 98 rfl hS ?_
            try simp only [Act.put, pa, pb, pc]
            refine tu 29 99 rfl hS ?_
            try simp only [Act.put, pa, pb, pc]
            refine tu 30 100 rfl hS ?_
            try simp only [Act.put, pa, pb, pc]
            refine tu 31 101 rfl hS ?_
            try simp only [Act.put, pa, pb, pc]
            refine tk (v := .bool false) 32 102 rfl (fun w' hS' => ?_) hS ?_
            · (try dsimp only at hS'); go_simp
            try simp only [Act.put, pa, pb, pc]
            refine tk (v := .bool false) 33 103 rfl (fun w' hS' => ?_) hS ?_
            · (try dsimp only at hS'); go_simp
            try simp only [Act.put, pa, pb, pc]
            refine wpAnyH_done (by kernel_rfl) ?_ _
            have HK : Below w.heap.size w _ := hbel.trans ((bA.trans (hS.2.2.2.2.2.2.2.2.mono bA.size)).mono hbel.size)
            have HBX2 := Lib.hid (bxD.past hS.2.2.2.2.2.2.2.2)
            have HKH := Lib.hid HK
            clear hS SX RD HK
            go_wp2
            go_roundw
            case rel => exact ⟨0 + 1, by omega, by go_num, HN.out, HBX2.out, HKH.out⟩
            case measure => simp [intOf]; omega
          | succ k =>
            obtain ⟨p, hpk⟩ : ∃ p, x.seen[k]? = some p := ⟨_, List.getElem?_eq_getElem (by omega)⟩
            obtain ⟨b', off', p', e1, _, hp', zp, _, _⟩ := atSes (r4.below hbel) (i := k) (by omega)
            obtain ⟨rfl, rfl⟩ : b = b' ∧ off = off' := by injection e1 with e1; injection e1 with e1 e2; exact ⟨e1, e2⟩
            obtain rfl : p = p' := by rw [hpk] at hp'; injection hp'
            have HPV := Lib.hid (show prevOf x.seen (k + 1) = some p.client by rw [prevOf, hpk]; rfl)
            clear e1 hp' hpk
            have gw2 : IntKind.i64.wrap (k : Int) = (k : Int) := IntWalk.i64_in _ (by omega)
            have gw3 : (0 : Int) ≤ (k : Int) := by omega
            have gw4 : (k : Int) < (x.seen.length : Int) := by omega
            have gj2 : decide ((0 : Int) < (k : Int) + 1) = true := decide_eq_true (by omega)
            by_cases hpc : s.client ≤ p.client
            · have gp : decide (s.client ≤ p.client) = true := decide_eq_true hpc
              go_wp2
              generalize wr.alloc (.cells #[.int .i64 s.client, .int .i64 s.seq, .int .i64 s.rev] 111) = W1 at bA bxS bxD ⊢
              have y0 : W1.cell? ⟨wr.heap.size, 0, none⟩ = some (.int .i64 s.client) := bxS.cell rfl
              have y1 : W1.cell? ⟨wr.heap.size, 1, none⟩ = some (.int .i64 s.seq) := bxS.cell rfl
              have y2 : W1.cell? ⟨wr.heap.size, 2, none⟩ = some (.int .i64 s.rev) := bxS.cell rfl
              have y3 : W1.cell? ⟨w.heap.size, 0, none⟩ = some (.string x.name) := bxD.cell rfl
              have y4 : W1.cell? ⟨w.heap.size, 1, none⟩ = some (.int .i64 x.from_) := bxD.cell rfl
              have y5 : W1.cell? ⟨w.heap.size, 2, none⟩ = some (.slice A2 x.text.length c2) := bxD.cell rfl
              have y6 : W1.cell? ⟨w.heap.size, 3, none⟩ = some (.slice A3 x.list.length c3) := bxD.cell rfl
              have y7 : W1.cell? ⟨w.heap.size, 4, none⟩ = some (.slice (some ⟨b, off, none⟩) x.seen.length c4) := bxD.cell rfl
              have y8 : W1.cell? ⟨b, off + k * 3, none⟩ = some (.int .i64 p.client) := (bA.cell (p := ⟨b, off + k * 3, none⟩) hbq).trans zp
              have lS := bxS.lt
              have lD := bxD.lt
              have lP : b < W1.heap.size := Nat.lt_of_lt_of_le hbq bA.size
              have SX := Lib.hid (show ∀ (W W' : World), (W.cell? ⟨wr.heap.size, 0, none⟩ = some (.int .i64 s.client) ∧ W.cell? ⟨wr.heap.size, 1, none⟩ = some (.int .i64 s.seq) ∧ W.cell? ⟨wr.heap.size, 2, none⟩ = some (.int .i64 s.rev) ∧ W.cell? ⟨w.heap.size, 0, none⟩ = some (.string x.name) ∧ W.cell? ⟨w.heap.size, 1, none⟩ = some (.int .i64 x.from_) ∧ W.cell? ⟨w.heap.size, 2, none⟩ = some (.slice A2 x.text.length c2) ∧ W.cell? ⟨w.heap.size, 3, none⟩ = some (.slice A3 x.list.length c3) ∧ W.cell? ⟨w.heap.size, 4, none⟩ = some (.slice (some ⟨b, off, none⟩) x.seen.length c4) ∧ W.cell? ⟨b, off + k * 3, none⟩ = some (.int .i64 p.client) ∧ KS W1 W) → Below W.heap.size W W' → (W'.cell? ⟨wr.heap.size, 0, none⟩ = some (.int .i64 s.client) ∧ W'.cell? ⟨wr.heap.size, 1, none⟩ = some (.int .i64 s.seq) ∧ W'.cell? ⟨wr.heap.size, 2, none⟩ = some (.int .i64 s.rev) ∧ W'.cell? ⟨w.heap.size, 0, none⟩ = some (.string x.name) ∧ W'.cell? ⟨w.heap.size, 1, none⟩ = some (.int .i64 x.from_) ∧ W'.cell? ⟨w.heap.size, 2, none⟩ = some (.slice A2 x.text.length c2) ∧ W'.cell? ⟨w.heap.size, 3, none⟩ = some (.slice A3 x.list.length c3) ∧ W'.cell? ⟨w.heap.size, 4, none⟩ = some (.slice (some ⟨b, off, none⟩) x.seen.length c4) ∧ W'.cell? ⟨b, off + k * 3, none⟩ = some (.int .i64 p.client) ∧ KS W1 W') from fun W W' h hb => by have hk := h.2.2.2.2.2.2.2.2.2; have hkk : KS W1 W' := hk.trans (hb.mono hk.size); exact ⟨(hkk.cell (p := ⟨wr.heap.size, 0, none⟩) lS).trans y0, (hkk.cell (p := ⟨wr.heap.size, 1, none⟩) lS).trans y1, (hkk.cell (p := ⟨wr.heap.size, 2, none⟩) lS).trans y2, (hkk.cell (p := ⟨w.heap.size, 0, none⟩) lD).trans y3, (hkk.cell (p := ⟨w.heap.size, 1, none⟩) lD).trans y4, (hkk.cell (p := ⟨w.heap.size, 2, none⟩) lD).trans y5, (hkk.cell (p := ⟨w.heap.size, 3, none⟩) lD).trans y6, (hkk.cell (p := ⟨w.heap.size, 4, none⟩) lD).trans y7, (hkk.cell (p := ⟨b, off + k * 3, none⟩) lP).trans y8, hkk⟩)
              have RD := Lib.hid (show ∀ W : World, (W.cell? ⟨wr.heap.size, 0, none⟩ = some (.int .i64 s.client) ∧ W.cell? ⟨wr.heap.size, 1, none⟩ = some (.int .i64 s.seq) ∧ W.cell? ⟨wr.heap.size, 2, none⟩ = some (.int .i64 s.rev) ∧ W.cell? ⟨w.heap.size, 0, none⟩ = some (.string x.name) ∧ W.cell? ⟨w.heap.size, 1, none⟩ = some (.int .i64 x.from_) ∧ W.cell? ⟨w.heap.size, 2, none⟩ = some (.slice A2 x.text.length c2) ∧ W.cell? ⟨w.heap.size, 3, none⟩ = some (.slice A3 x.list.length c3) ∧ W.cell? ⟨w.heap.size, 4, none⟩ = some (.slice (some ⟨b, off, none⟩) x.seen.length c4) ∧ W.cell? ⟨b, off + k * 3, none⟩ = some (.int .i64 p.client) ∧ KS W1 W) → RdC W W.heap.size (datDo x) (.agg #[.string x.name, .int .i64 x.from_, .slice A2 x.text.length c2, .slice A3 x.list.length c3, .slice (some ⟨b, off, none⟩) x.seen.length c4]) from fun W h => by have hk : Below W1.heap.size W1 W := h.2.2.2.2.2.2.2.2.2; exact (HR.out.past (hbel.trans (bA.mono hbel.size))).past hk)
              have hS0 : W1.drew.cell? ⟨wr.heap.size, 0, none⟩ = some (.int .i64 s.client) ∧ W1.drew.cell? ⟨wr.heap.size, 1, none⟩ = some (.int .i64 s.seq) ∧ W1.drew.cell? ⟨wr.heap.size, 2, none⟩ = some (.int .i64 s.rev) ∧ W1.drew.cell? ⟨w.heap.size, 0, none⟩ = some (.string x.name) ∧ W1.drew.cell? ⟨w.heap.size, 1, none⟩ = some (.int .i64 x.from_) ∧ W1.drew.cell? ⟨w.heap.size, 2, none⟩ = some (.slice A2 x.text.length c2) ∧ W1.drew.cell? ⟨w.heap.size, 3, none⟩ = some (.slice A3 x.list.length c3) ∧ W1.drew.cell? ⟨w.heap.size, 4, none⟩ = some (.slice (some ⟨b, off, none⟩) x.seen.length c4) ∧ W1.drew.cell? ⟨b, off + k * 3, none⟩ = some (.int .i64 p.client) ∧ KS W1 W1.drew := ⟨y0, y1, y2, y3, y4, y5, y6, y7, y8, KS.start _⟩
              clear y0 y1 y2 y3 y4 y5 y6 y7 y8
              refine wp_region_held_drew (S := fun W => W.cell? ⟨wr.heap.size, 0, none⟩ = some (.int .i64 s.client) ∧ W.cell? ⟨wr.heap.size, 1, none⟩ = some (.int .i64 s.seq) ∧ W.cell? ⟨wr.heap.size, 2, none⟩ = some (.int .i64 s.rev) ∧ W.cell? ⟨w.heap.size, 0, none⟩ = some (.string x.name) ∧ W.cell? ⟨w.heap.size, 1, none⟩ = some (.int .i64 x.from_) ∧ W.cell? ⟨w.heap.size, 2, none⟩ = some (.slice A2 x.text.length c2) ∧ W.cell? ⟨w.heap.size, 3, none⟩ = some (.slice A3 x.list.length c3) ∧ W.cell? ⟨w.heap.size, 4, none⟩ = some (.slice (some ⟨b, off, none⟩) x.seen.length c4) ∧ W.cell? ⟨b, off + k * 3, none⟩ = some (.int .i64 p.client) ∧ KS W1 W) (by kernel_rfl) hS0 (fun hS => ?_)
              clear hS0
              refine tk (v := .pointer (some ⟨wr.heap.size, 0, none⟩)) 0 70 rfl (fun w' hS' => ?_) hS ?_
              · (try dsimp only at hS'); go_simp
              try simp only [Act.put, pa, pb, pc]
              refine tk (v := .int .i64 s.client) 1 71 rfl (fun w' hS' => ?_) hS ?_
              · (try dsimp only at hS'); go_simp
              try simp only [Act.put, pa, pb, pc]
              refine r1 2 (some 72) rfl (fun K hK => ?_)
              go_simp
              refine (in_any _ _ _ _).mono ?_
              rw [h1]
              rintro e w2 ⟨rfl, rfl⟩
              refine hK.out _ _ hS (fun hS => ?_)
              clear hK K
              try simp only [Act.put, pa, pb, pc]
              refine tk (v := .bool false) 3 73 rfl (fun w' hS' => ?_) hS ?_
              · (try dsimp only at hS'); go_simp
              try simp only [Act.put, pa, pb, pc]
              refine tk (v := .bool false) 4 74 rfl (fun w' hS' => ?_) hS ?_
              · (try dsimp only at hS'); go_simp
              try simp only [Act.put, pa, pb, pc]
              refine tk (v := .pointer (some ⟨wr.heap.size, 1, none⟩)) 5 75 rfl (fun w' hS' => ?_) hS ?_
              · (try dsimp only at hS'); go_simp
              try simp only [Act.put, pa, pb, pc]
              refine tk (v := .int .i64 s.seq) 6 76 rfl (fun w' hS' => ?_) hS ?_
              · (try dsimp only at hS'); go_simp
              try simp only [Act.put, pa, pb, pc]
              refine r1 7 (some 77) rfl (fun K hK => ?_)
              go_simp
              refine (in_any _ _ _ _).mono ?_
              rw [h2]
              rintro e w2 ⟨rfl, rfl⟩
              refine hK.out _ _ hS (fun hS => ?_)
              clear hK K
              try simp only [Act.put, pa, pb, pc]
              refine tk (v := .bool false) 8 78 rfl (fun w' hS' => ?_) hS ?_
              · (try dsimp only at hS'); go_simp
              try simp only [Act.put, pa, pb, pc]
              refine tk (v := .bool false) 9 79 rfl (fun w' hS' => ?_) hS ?_
              · (try dsimp only at hS'); go_simp
              try simp only [Act.put, pa, pb, pc]
              refine tk (v := .bool false) 10 80 rfl (fun w' hS' => ?_) hS ?_
              · (try dsimp only at hS'); go_simp
              try simp only [Act.put, pa, pb, pc]
              refine tk (v := .pointer (some ⟨wr.heap.size, 2, none⟩)) 11 81 rfl (fun w' hS' => ?_) hS ?_
              · (try dsimp only at hS'); go_simp
              try simp only [Act.put, pa, pb, pc]
              refine tk (v := .int .i64 s.rev) 12 82 rfl (fun w' hS' => ?_) hS ?_
              · (try dsimp only at hS'); go_simp
              try simp only [Act.put, pa, pb, pc]
              refine tk (v := .agg #[.string x.name, .int .i64 x.from_, .slice A2 x.text.length c2, .slice A3 x.list.length c3, .slice (some ⟨b, off, none⟩) x.seen.length c4]) 13 83 rfl (fun w' hS' => ?_) hS ?_
              · (try dsimp only at hS'); go_simp
              try simp only [Act.put, pa, pb, pc]
              refine r1 14 (some 84) rfl (fun K hK => ?_)
              go_simp
              refine (specHeadRev_w _ x _ (RD.out _ hS)).mono ?_
              rintro e w2 ⟨rfl, b2⟩
              refine hK.out _ _ (SX.out _ _ hS b2) (fun hS => ?_)
              clear hK K
              try simp only [Act.put, pa, pb, pc]
              refine r1 15 (some 85) rfl (fun K hK => ?_)
              go_simp
              refine (in_any _ _ _ _).mono ?_
              rw [h3]
              rintro e w2 ⟨rfl, rfl⟩
              refine hK.out _ _ hS (fun hS => ?_)
              clear hK K
              try simp only [Act.put, pa, pb, pc]
              refine tk (v := .bool false) 16 86 rfl (fun w' hS' => ?_) hS ?_
              · (try dsimp only at hS'); go_simp
              try simp only [Act.put, pa, pb, pc]
              refine tk (v := .bool false) 17 87 rfl (fun w' hS' => ?_) hS ?_
              · (try dsimp only at hS'); go_simp
              try simp only [Act.put, pa, pb, pc]
              refine tk (v := .bool false) 18 88 rfl (fun w' hS' => ?_) hS ?_
              · (try dsimp only at hS'); go_simp
              try simp only [Act.put, pa, pb, pc]
              refine tk (v := .int .i64 ((k : Int) + 1)) 19 89 rfl (fun w' hS' => ?_) hS ?_
              · (try dsimp only at hS'); go_simp
              try simp only [Act.put, pa, pb, pc]
              refine tk (v := .bool true) 20 90 rfl (fun w' hS' => ?_) hS ?_
              · (try dsimp only at hS'); go_simp
              try simp only [Act.put, pa, pb, pc]
              refine tk (v := .bool true) 21 91 rfl (fun w' hS' => ?_) hS ?_
              · (try dsimp only at hS'); go_simp
              try simp only [Act.put, pa, pb, pc]
              refine tk (v := .pointer (some ⟨w.heap.size, 4, none⟩)) 22 92 rfl (fun w' hS' => ?_) hS ?_
              · (try dsimp only at hS'); go_simp
              try simp only [Act.put, pa, pb, pc]
              refine tk (v := .slice (some ⟨b, off, none⟩) x.seen.length c4) 23 93 rfl (fun w' hS' => ?_) hS ?_
              · (try dsimp only at hS'); go_simp
              try simp only [Act.put, pa, pb, pc]
              refine tk (v := .int .i64 ((k : Int) + 1)) 24 94 rfl (fun w' hS' => ?_) hS ?_
              · (try dsimp only at hS'); go_simp
              try simp only [Act.put, pa, pb, pc]
              refine tk (v := .int .i64 (k : Int)) 25 95 rfl (fun w' hS' => ?_) hS ?_
              · (try dsimp only at hS'); go_simp
              try simp only [Act.put, pa, pb, pc]
              refine tk (v := .pointer (some ⟨b, off + k * 3, none⟩)) 26 96 rfl (fun w' hS' => ?_) hS ?_
              · (try dsimp only at hS'); go_simp
              try simp only [Act.put, pa, pb, pc]
              refine tk (v := .pointer (some ⟨b, off + k * 3, none⟩)) 27 97 rfl (fun w' hS' => ?_) hS ?_
              · (try dsimp only at hS'); go_simp
              try simp only [Act.put, pa, pb, pc]
              refine tk (v := .int .i64 p.client) 28 98 rfl (fun w' hS' => ?_) hS ?_
              · (try dsimp only at hS'); go_simp
              try simp only [Act.put, pa, pb, pc]
              refine tk (v := .pointer (some ⟨wr.heap.size, 0, none⟩)) 29 99 rfl (fun w' hS' => ?_) hS ?_
              · (try dsimp only at hS'); go_simp
              try simp only [Act.put, pa, pb, pc]
              refine tk (v := .int .i64 s.client) 30 100 rfl (fun w' hS' => ?_) hS ?_
              · (try dsimp only at hS'); go_simp
              try simp only [Act.put, pa, pb, pc]
              refine tk (v := .bool true) 31 101 rfl (fun w' hS' => ?_) hS ?_
              · (try dsimp only at hS'); go_simp
              try simp only [Act.put, pa, pb, pc]
              refine tk (v := .bool true) 32 102 rfl (fun w' hS' => ?_) hS ?_
              · (try dsimp only at hS'); go_simp
              try simp only [Act.put, pa, pb, pc]
              refine tk (v := .bool true) 33 103 rfl (fun w' hS' => ?_) hS ?_
              · (try dsimp only at hS'); go_simp
              try simp only [Act.put, pa, pb, pc]
              refine wpAnyH_done (by kernel_rfl) ?_ _
              have HK : Below w.heap.size w _ := hbel.trans ((bA.trans (hS.2.2.2.2.2.2.2.2.2.mono bA.size)).mono hbel.size)
              have HBX2 := Lib.hid (bxD.past hS.2.2.2.2.2.2.2.2.2)
              have HKH := Lib.hid HK
              clear hS SX RD HK
              go_wp2
              go_ret
              exact ⟨ret_b (by rw [HDC.out, HS.out]; rw [show seenOneB (headRevT x) (prevOf x.seen (k + 1)) s = false by unfold seenOneB; rw [h1, h2, h3, HPV.out]; simp; omega]; rfl), HKH.out⟩
            · have gp : decide (s.client ≤ p.client) = false := decide_eq_false hpc
              have HN := Lib.hid (show docB x = seenAllB (headRevT x) (prevOf x.seen (k + 1 + 1)) (x.seen.drop (k + 1 + 1)) by rw [HDC.out, HS.out, show seenOneB (headRevT x) (prevOf x.seen (k + 1)) s = true by unfold seenOneB; rw [h1, h2, h3, HPV.out]; simp; omega]; rfl)
              go_wp2
              generalize wr.alloc (.cells #[.int .i64 s.client, .int .i64 s.seq, .int .i64 s.rev] 111) = W1 at bA bxS bxD ⊢
              have y0 : W1.cell? ⟨wr.heap.size, 0, none⟩ = some (.int .i64 s.client) := bxS.cell rfl
              have y1 : W1.cell? ⟨wr.heap.size, 1, none⟩ = some (.int .i64 s.seq) := bxS.cell rfl
              have y2 : W1.cell? ⟨wr.heap.size, 2, none⟩ = some (.int .i64 s.rev) := bxS.cell rfl
              have y3 : W1.cell? ⟨w.heap.size, 0, none⟩ = some (.string x.name) := bxD.cell rfl
              have y4 : W1.cell? ⟨w.heap.size, 1, none⟩ = some (.int .i64 x.from_) := bxD.cell rfl
              have y5 : W1.cell? ⟨w.heap.size, 2, none⟩ = some (.slice A2 x.text.length c2) := bxD.cell rfl
              have y6 : W1.cell? ⟨w.heap.size, 3, none⟩ = some (.slice A3 x.list.length c3) := bxD.cell rfl
              have y7 : W1.cell? ⟨w.heap.size, 4, none⟩ = some (.slice (some ⟨b, off, none⟩) x.seen.length c4) := bxD.cell rfl
              have y8 : W1.cell? ⟨b, off + k * 3, none⟩ = some (.int .i64 p.client) := (bA.cell (p := ⟨b, off + k * 3, none⟩) hbq).trans zp
              have lS := bxS.lt
              have lD := bxD.lt
              have lP : b < W1.heap.size := Nat.lt_of_lt_of_le hbq bA.size
              have SX := Lib.hid (show ∀ (W W' : World), (W.cell? ⟨wr.heap.size, 0, none⟩ = some (.int .i64 s.client) ∧ W.cell? ⟨wr.heap.size, 1, none⟩ = some (.int .i64 s.seq) ∧ W.cell? ⟨wr.heap.size, 2, none⟩ = some (.int .i64 s.rev) ∧ W.cell? ⟨w.heap.size, 0, none⟩ = some (.string x.name) ∧ W.cell? ⟨w.heap.size, 1, none⟩ = some (.int .i64 x.from_) ∧ W.cell? ⟨w.heap.size, 2, none⟩ = some (.slice A2 x.text.length c2) ∧ W.cell? ⟨w.heap.size, 3, none⟩ = some (.slice A3 x.list.length c3) ∧ W.cell? ⟨w.heap.size, 4, none⟩ = some (.slice (some ⟨b, off, none⟩) x.seen.length c4) ∧ W.cell? ⟨b, off + k * 3, none⟩ = some (.int .i64 p.client) ∧ KS W1 W) → Below W.heap.size W W' → (W'.cell? ⟨wr.heap.size, 0, none⟩ = some (.int .i64 s.client) ∧ W'.cell? ⟨wr.heap.size, 1, none⟩ = some (.int .i64 s.seq) ∧ W'.cell? ⟨wr.heap.size, 2, none⟩ = some (.int .i64 s.rev) ∧ W'.cell? ⟨w.heap.size, 0, none⟩ = some (.string x.name) ∧ W'.cell? ⟨w.heap.size, 1, none⟩ = some (.int .i64 x.from_) ∧ W'.cell? ⟨w.heap.size, 2, none⟩ = some (.slice A2 x.text.length c2) ∧ W'.cell? ⟨w.heap.size, 3, none⟩ = some (.slice A3 x.list.length c3) ∧ W'.cell? ⟨w.heap.size, 4, none⟩ = some (.slice (some ⟨b, off, none⟩) x.seen.length c4) ∧ W'.cell? ⟨b, off + k * 3, none⟩ = some (.int .i64 p.client) ∧ KS W1 W') from fun W W' h hb => by have hk := h.2.2.2.2.2.2.2.2.2; have hkk : KS W1 W' := hk.trans (hb.mono hk.size); exact ⟨(hkk.cell (p := ⟨wr.heap.size, 0, none⟩) lS).trans y0, (hkk.cell (p := ⟨wr.heap.size, 1, none⟩) lS).trans y1, (hkk.cell (p := ⟨wr.heap.size, 2, none⟩) lS).trans y2, (hkk.cell (p := ⟨w.heap.size, 0, none⟩) lD).trans y3, (hkk.cell (p := ⟨w.heap.size, 1, none⟩) lD).trans y4, (hkk.cell (p := ⟨w.heap.size, 2, none⟩) lD).trans y5, (hkk.cell (p := ⟨w.heap.size, 3, none⟩) lD).trans y6, (hkk.cell (p := ⟨w.heap.size, 4, none⟩) lD).trans y7, (hkk.cell (p := ⟨b, off + k * 3, none⟩) lP).trans y8, hkk⟩)
              have RD := Lib.hid (show ∀ W : World, (W.cell? ⟨wr.heap.size, 0, none⟩ = some (.int .i64 s.client) ∧ W.cell? ⟨wr.heap.size, 1, none⟩ = some (.int .i64 s.seq) ∧ W.cell? ⟨wr.heap.size, 2, none⟩ = some (.int .i64 s.rev) ∧ W.cell? ⟨w.heap.size, 0, none⟩ = some (.string x.name) ∧ W.cell? ⟨w.heap.size, 1, none⟩ = some (.int .i64 x.from_) ∧ W.cell? ⟨w.heap.size, 2, none⟩ = some (.slice A2 x.text.length c2) ∧ W.cell? ⟨w.heap.size, 3, none⟩ = some (.slice A3 x.list.length c3) ∧ W.cell? ⟨w.heap.size, 4, none⟩ = some (.slice (some ⟨b, off, none⟩) x.seen.length c4) ∧ W.cell? ⟨b, off + k * 3, none⟩ = some (.int .i64 p.client) ∧ KS W1 W) → RdC W W.heap.size (datDo x) (.agg #[.string x.name, .int .i64 x.from_, .slice A2 x.text.length c2, .slice A3 x.list.length c3, .slice (some ⟨b, off, none⟩) x.seen.length c4]) from fun W h => by have hk : Below W1.heap.size W1 W := h.2.2.2.2.2.2.2.2.2; exact (HR.out.past (hbel.trans (bA.mono hbel.size))).past hk)
              have hS0 : W1.drew.cell? ⟨wr.heap.size, 0, none⟩ = some (.int .i64 s.client) ∧ W1.drew.cell? ⟨wr.heap.size, 1, none⟩ = some (.int .i64 s.seq) ∧ W1.drew.cell? ⟨wr.heap.size, 2, none⟩ = some (.int .i64 s.rev) ∧ W1.drew.cell? ⟨w.heap.size, 0, none⟩ = some (.string x.name) ∧ W1.drew.cell? ⟨w.heap.size, 1, none⟩ = some (.int .i64 x.from_) ∧ W1.drew.cell? ⟨w.heap.size, 2, none⟩ = some (.slice A2 x.text.length c2) ∧ W1.drew.cell? ⟨w.heap.size, 3, none⟩ = some (.slice A3 x.list.length c3) ∧ W1.drew.cell? ⟨w.heap.size, 4, none⟩ = some (.slice (some ⟨b, off, none⟩) x.seen.length c4) ∧ W1.drew.cell? ⟨b, off + k * 3, none⟩ = some (.int .i64 p.client) ∧ KS W1 W1.drew := ⟨y0, y1, y2, y3, y4, y5, y6, y7, y8, KS.start _⟩
              clear y0 y1 y2 y3 y4 y5 y6 y7 y8
              refine wp_region_held_drew (S := fun W => W.cell? ⟨wr.heap.size, 0, none⟩ = some (.int .i64 s.client) ∧ W.cell? ⟨wr.heap.size, 1, none⟩ = some (.int .i64 s.seq) ∧ W.cell? ⟨wr.heap.size, 2, none⟩ = some (.int .i64 s.rev) ∧ W.cell? ⟨w.heap.size, 0, none⟩ = some (.string x.name) ∧ W.cell? ⟨w.heap.size, 1, none⟩ = some (.int .i64 x.from_) ∧ W.cell? ⟨w.heap.size, 2, none⟩ = some (.slice A2 x.text.length c2) ∧ W.cell? ⟨w.heap.size, 3, none⟩ = some (.slice A3 x.list.length c3) ∧ W.cell? ⟨w.heap.size, 4, none⟩ = some (.slice (some ⟨b, off, none⟩) x.seen.length c4) ∧ W.cell? ⟨b, off + k * 3, none⟩ = some (.int .i64 p.client) ∧ KS W1 W) (by kernel_rfl) hS0 (fun hS => ?_)
              clear hS0
              refine tk (v := .pointer (some ⟨wr.heap.size, 0, none⟩)) 0 70 rfl (fun w' hS' => ?_) hS ?_
              · (try dsimp only at hS'); go_simp
              try simp only [Act.put, pa, pb, pc]
              refine tk (v := .int .i64 s.client) 1 71 rfl (fun w' hS' => ?_) hS ?_
              · (try dsimp only at hS'); go_simp
              try simp only [Act.put, pa, pb, pc]
              refine r1 2 (some 72) rfl (fun K hK => ?_)
              go_simp
              refine (in_any _ _ _ _).mono ?_
              rw [h1]
              rintro e w2 ⟨rfl, rfl⟩
              refine hK.out _ _ hS (fun hS => ?_)
              clear hK K
              try simp only [Act.put, pa, pb, pc]
              refine tk (v := .bool false) 3 73 rfl (fun w' hS' => ?_) hS ?_
              · (try dsimp only at hS'); go_simp
              try simp only [Act.put, pa, pb, pc]
              refine tk (v := .bool false) 4 74 rfl (fun w' hS' => ?_) hS ?_
              · (try dsimp only at hS'); go_simp
              try simp only [Act.put, pa, pb, pc]
              refine tk (v := .pointer (some ⟨wr.heap.size, 1, none⟩)) 5 75 rfl (fun w' hS' => ?_) hS ?_
              · (try dsimp only at hS'); go_simp
              try simp only [Act.put, pa, pb, pc]
              refine tk (v := .int .i64 s.seq) 6 76 rfl (fun w' hS' => ?_) hS ?_
              · (try dsimp only at hS'); go_simp
              try simp only [Act.put, pa, pb, pc]
              refine r1 7 (some 77) rfl (fun K hK => ?_)
              go_simp
              refine (in_any _ _ _ _).mono ?_
              rw [h2]
              rintro e w2 ⟨rfl, rfl⟩
              refine hK.out _ _ hS (fun hS => ?_)
              clear hK K
              try simp only [Act.put, pa, pb, pc]
              refine tk (v := .bool false) 8 78 rfl (fun w' hS' => ?_) hS ?_
              · (try dsimp only at hS'); go_simp
              try simp only [Act.put, pa, pb, pc]
              refine tk (v := .bool false) 9 79 rfl (fun w' hS' => ?_) hS ?_
              · (try dsimp only at hS'); go_simp
              try simp only [Act.put, pa, pb, pc]
              refine tk (v := .bool false) 10 80 rfl (fun w' hS' => ?_) hS ?_
              · (try dsimp only at hS'); go_simp
              try simp only [Act.put, pa, pb, pc]
              refine tk (v := .pointer (some ⟨wr.heap.size, 2, none⟩)) 11 81 rfl (fun w' hS' => ?_) hS ?_
              · (try dsimp only at hS'); go_simp
              try simp only [Act.put, pa, pb, pc]
              refine tk (v := .int .i64 s.rev) 12 82 rfl (fun w' hS' => ?_) hS ?_
              · (try dsimp only at hS'); go_simp
              try simp only [Act.put, pa, pb, pc]
              refine tk (v := .agg #[.string x.name, .int .i64 x.from_, .slice A2 x.text.length c2, .slice A3 x.list.length c3, .slice (some ⟨b, off, none⟩) x.seen.length c4]) 13 83 rfl (fun w' hS' => ?_) hS ?_
              · (try dsimp only at hS'); go_simp
              try simp only [Act.put, pa, pb, pc]
              refine r1 14 (some 84) rfl (fun K hK => ?_)
              go_simp
              refine (specHeadRev_w _ x _ (RD.out _ hS)).mono ?_
              rintro e w2 ⟨rfl, b2⟩
              refine hK.out _ _ (SX.out _ _ hS b2) (fun hS => ?_)
              clear hK K
              try simp only [Act.put, pa, pb, pc]
              refine r1 15 (some 85) rfl (fun K hK => ?_)
              go_simp
              refine (in_any _ _ _ _).mono ?_
              rw [h3]
              rintro e w2 ⟨rfl, rfl⟩
              refine hK.out _ _ hS (fun hS => ?_)
              clear hK K
              try simp only [Act.put, pa, pb, pc]
              refine tk (v := .bool false) 16 86 rfl (fun w' hS' => ?_) hS ?_
              · (try dsimp only at hS'); go_simp
              try simp only [Act.put, pa, pb, pc]
              refine tk (v := .bool false) 17 87 rfl (fun w' hS' => ?_) hS ?_
              · (try dsimp only at hS'); go_simp
              try simp only [Act.put, pa, pb, pc]
              refine tk (v := .bool false) 18 88 rfl (fun w' hS' => ?_) hS ?_
              · (try dsimp only at hS'); go_simp
              try simp only [Act.put, pa, pb, pc]
              refine tk (v := .int .i64 ((k : Int) + 1)) 19 89 rfl (fun w' hS' => ?_) hS ?_
              · (try dsimp only at hS'); go_simp
              try simp only [Act.put, pa, pb, pc]
              refine tk (v := .bool true) 20 90 rfl (fun w' hS' => ?_) hS ?_
              · (try dsimp only at hS'); go_simp
              try simp only [Act.put, pa, pb, pc]
              refine tk (v := .bool true) 21 91 rfl (fun w' hS' => ?_) hS ?_
              · (try dsimp only at hS'); go_simp
              try simp only [Act.put, pa, pb, pc]
              refine tk (v := .pointer (some ⟨w.heap.size, 4, none⟩)) 22 92 rfl (fun w' hS' => ?_) hS ?_
              · (try dsimp only at hS'); go_simp
              try simp only [Act.put, pa, pb, pc]
              refine tk (v := .slice (some ⟨b, off, none⟩) x.seen.length c4) 23 93 rfl (fun w' hS' => ?_) hS ?_
              · (try dsimp only at hS'); go_simp
              try simp only [Act.put, pa, pb, pc]
              refine tk (v := .int .i64 ((k : Int) + 1)) 24 94 rfl (fun w' hS' => ?_) hS ?_
              · (try dsimp only at hS'); go_simp
              try simp only [Act.put, pa, pb, pc]
              refine tk (v := .int .i64 (k : Int)) 25 95 rfl (fun w' hS' => ?_) hS ?_
              · (try dsimp only at hS'); go_simp
              try simp only [Act.put, pa, pb, pc]
              refine tk (v := .pointer (some ⟨b, off + k * 3, none⟩)) 26 96 rfl (fun w' hS' => ?_) hS ?_
              · (try dsimp only at hS'); go_simp
              try simp only [Act.put, pa, pb, pc]
              refine tk (v := .pointer (some ⟨b, off + k * 3, none⟩)) 27 97 rfl (fun w' hS' => ?_) hS ?_
              · (try dsimp only at hS'); go_simp
              try simp only [Act.put, pa, pb, pc]
              refine tk (v := .int .i64 p.client) 28 98 rfl (fun w' hS' => ?_) hS ?_
              · (try dsimp only at hS'); go_simp
              try simp only [Act.put, pa, pb, pc]
              refine tk (v := .pointer (some ⟨wr.heap.size, 0, none⟩)) 29 99 rfl (fun w' hS' => ?_) hS ?_
              · (try dsimp only at hS'); go_simp
              try simp only [Act.put, pa, pb, pc]
              refine tk (v := .int .i64 s.client) 30 100 rfl (fun w' hS' => ?_) hS ?_
              · (try dsimp only at hS'); go_simp
              try simp only [Act.put, pa, pb, pc]
              refine tk (v := .bool false) 31 101 rfl (fun w' hS' => ?_) hS ?_
              · (try dsimp only at hS'); go_simp
              try simp only [Act.put, pa, pb, pc]
              refine tk (v := .bool false) 32 102 rfl (fun w' hS' => ?_) hS ?_
              · (try dsimp only at hS'); go_simp
              try simp only [Act.put, pa, pb, pc]
              refine tk (v := .bool false) 33 103 rfl (fun w' hS' => ?_) hS ?_
              · (try dsimp only at hS'); go_simp
              try simp only [Act.put, pa, pb, pc]
              refine wpAnyH_done (by kernel_rfl) ?_ _
              have HK : Below w.heap.size w _ := hbel.trans ((bA.trans (hS.2.2.2.2.2.2.2.2.2.mono bA.size)).mono hbel.size)
              have HBX2 := Lib.hid (bxD.past hS.2.2.2.2.2.2.2.2.2)
              have HKH := Lib.hid HK
              clear hS SX RD HK
              go_wp2
              go_roundw
              case rel => exact ⟨k + 1 + 1, by omega, by go_num, HN.out, HBX2.out, HKH.out⟩
              case measure => simp [intOf]; omega
          -- end2
        · have HE := Lib.hid (show docB x = true by rw [HDC.out, List.drop_eq_nil_of_le (by omega)]; rfl)
          go_wp2
          go_ret
          exact ⟨ret_b HE.out.symm, hbel⟩
theorem specDocOk_d (v : Value) (x : Do) (w : World) (h : RdC w w.heap.size (datDo x) v) (hs : SmDo x) : Calls Tryz.prog 31 #[v] w (Tells (docB x) w) := specDocOk_w v x w h hs.four
end Go.Proofs.YtamainhocghlgaaGreatDoor.low


/-
  Contract of spec.TextAt. Written by mkdoc3.py.
-/
namespace Go.Proofs.YtamainhocghlgaaGreatDoor.low
open Go.RowKit
set_option linter.unusedVariables false

theorem docB_of {x : Do} (h : docB x = true) : 0 ≤ x.from_ ∧ x.from_ ≤ 999999000 ∧ x.list.length ≤ 8 ∧ headRevT x = x.from_ + (x.list.length : Int) := by
  unfold docB at h
  simp only [Bool.and_eq_true] at h
  have h1 := of_decide_eq_true h.1.1.1.1.2
  have h2 := of_decide_eq_true h.1.1.2
  refine ⟨h1.1, h1.2, h2, ?_⟩
  unfold headRevT
  exact IntWalk.wrap64_in _ (by omega)
end Go.Proofs.YtamainhocghlgaaGreatDoor.low


/-
  Contracts of spec.HeadText and spec.DocNew.
-/
namespace Go.Proofs.YtamainhocghlgaaGreatDoor.low
open Go.RowKit
set_option linter.unusedVariables false

end Go.Proofs.YtamainhocghlgaaGreatDoor.low


/-
  Contract of spec.DocSame. Written by mkdoc5.py.
-/
namespace Go.Proofs.YtamainhocghlgaaGreatDoor.low
open Go.RowKit
set_option linter.unusedVariables false

def seSameB (s s' : Se) : Bool := decide (s.client = s'.client) && decide (s.seq = s'.seq) && decide (s.rev = s'.rev)
def seensB : List Se → List Se → Bool
  | [], [] => true
  | e :: l, e' :: l' => seSameB e e' && seensB l l'
  | _, _ => false
theorem seensB_step {l l' : List Se} {j : Nat} {e e' : Se} (h : l[j]? = some e) (h' : l'[j]? = some e') : seensB (l.drop j) (l'.drop j) = (seSameB e e' && seensB (l.drop (j + 1)) (l'.drop (j + 1))) := by
  obtain ⟨h1, e1⟩ := List.getElem?_eq_some_iff.1 h
  obtain ⟨h2, e2⟩ := List.getElem?_eq_some_iff.1 h'
  rw [List.drop_eq_getElem_cons h1, List.drop_eq_getElem_cons h2, e1, e2]
  rfl
end Go.Proofs.YtamainhocghlgaaGreatDoor.low


/-
  The loop of spec.Compose: its body, taken out of the translation; its invariant over the frame.
-/
namespace Go.Proofs.YtamainhocghlgaaGreatDoor.low
open Go.RowKit
set_option linter.unusedVariables false

/-- the loop's invariant -/
def CoR (K : Fx) (go : Nat) (w0 w' : World) : Prop := ∃ O L RX RY, CB K go 189 O L w' none none RX RY ∧ CInv K.a K.b RX RY L ∧ Below K.lo w0 w'
theorem CoR.mk {K : Fx} {go : Nat} {w0 w' : World} {O : Nat → Prop} {L : List Pt} {RX RY : List U} (h : CB K go 189 O L w' none none RX RY) (hi : CInv K.a K.b RX RY L) (D : Below K.lo w0 w') : CoR K go w0 w' := ⟨O, L, RX, RY, h, hi, D⟩
end Go.Proofs.YtamainhocghlgaaGreatDoor.low


/-
  The loop of spec.Compose: the cases of a round, each a theorem over the frame; the round; the loop.
-/
namespace Go.Proofs.YtamainhocghlgaaGreatDoor.low
open Go.RowKit
set_option linter.unusedVariables false

end Go.Proofs.YtamainhocghlgaaGreatDoor.low


/-
  Contract of spec.Compose.
-/
namespace Go.Proofs.YtamainhocghlgaaGreatDoor.low
open Go.RowKit
set_option linter.unusedVariables false

theorem heap_old (w : World) (o : Obj) {g : Nat} {x : Obj} (h : w.heap[g]? = some x) : (w.alloc o).heap[g]? = some x := by
  rw [Below.heap_alloc _ _ _ (lt_of_some h)]
  exact h
theorem cur_new {w : World} {g : Nat} {T : TypeId} {A : Option Addr} {c : Nat} {ps : List Pt} (h : w.heap[g]? = some (.cells #[.slice A ps.length c, .int .i64 0, .int .i64 0] T (0, 0))) : ∃ i d, Cur g T w A c ps i d ∧ rem ps i d = units ps ∧ Sett ps i d none :=
  ⟨0, 0, ⟨h, Nat.zero_le _, fun _ _ => Nat.zero_le _, fun _ => rfl⟩, by simp [rem], trivial⟩
/-- two cursors as they are made, at w.heap.size and behind it -/
theorem Cs.new {w w' : World} {A B : Option Addr} {ca cb lo : Nat} {a b : List Pt} {TC : TypeId} (hlo : lo ≤ w.heap.size) (ra : RdC w lo (encPs a) (.slice A a.length ca)) (rb : RdC w lo (encPs b) (.slice B b.length cb)) (sa : ∀ p ∈ a, szP_ p) (sb : ∀ p ∈ b, szP_ p) (na : a.length ≤ 1048576) (nb : b.length ≤ 1048576)
    (hx : w'.heap[w.heap.size]? = some (.cells #[.slice A a.length ca, .int .i64 0, .int .i64 0] TC (0, 0))) (hy : w'.heap[w.heap.size + 1]? = some (.cells #[.slice B b.length cb, .int .i64 0, .int .i64 0] TC (0, 0))) (hb : Below lo w w') : Cs ⟨lo, w.heap.size, w.heap.size + 1, TC, A, ca, a, B, cb, b⟩ w' none none (units a) (units b) :=
  ⟨cur_new hx, cur_new hy, ra.below hb, rb.below hb, by simp, hlo, Nat.le_succ_of_le hlo, sa, sb, na, nb⟩

theorem CB.new {w : World} {A B : Option Addr} {ca cb lo : Nat} {a b : List Pt} {TC TB : TypeId} (hlo : lo ≤ w.heap.size) (ra : RdC w lo (encPs a) (.slice A a.length ca)) (rb : RdC w lo (encPs b) (.slice B b.length cb)) (sa : ∀ p ∈ a, szP_ p) (sb : ∀ p ∈ b, szP_ p) (na : a.length ≤ 1048576) (nb : b.length ≤ 1048576) :
    CB ⟨lo, w.heap.size, w.heap.size + 1, TC, A, ca, a, B, cb, b⟩ (w.heap.size + 1 + 1) TB (fun q => q = w.heap.size + 1 + 1) [] (((w.alloc (.cells #[.slice A a.length ca, .int .i64 0, .int .i64 0] TC)).alloc (.cells #[.slice B b.length cb, .int .i64 0, .int .i64 0] TC)).alloc (.cells #[.slice none 0 0, .slice none 0 0, .int .i64 0] TB)) none none (units a) (units b) ∧
    Below lo w (((w.alloc (.cells #[.slice A a.length ca, .int .i64 0, .int .i64 0] TC)).alloc (.cells #[.slice B b.length cb, .int .i64 0, .int .i64 0] TC)).alloc (.cells #[.slice none 0 0, .slice none 0 0, .int .i64 0] TB)) := by
  have s1 : (w.alloc (.cells #[.slice A a.length ca, .int .i64 0, .int .i64 0] TC)).heap.size = w.heap.size + 1 := Array.size_push ..
  have s2 : ((w.alloc (.cells #[.slice A a.length ca, .int .i64 0, .int .i64 0] TC)).alloc (.cells #[.slice B b.length cb, .int .i64 0, .int .i64 0] TC)).heap.size = w.heap.size + 1 + 1 := by rw [← s1]; exact Array.size_push ..
  have b1 := (((alloc_below w (.cells #[.slice A a.length ca, .int .i64 0, .int .i64 0] TC)).mono hlo).alloc (by rw [s1]; omega) (.cells #[.slice B b.length cb, .int .i64 0, .int .i64 0] TC)).alloc (by rw [s2]; omega) (.cells #[.slice none 0 0, .slice none 0 0, .int .i64 0] TB)
  have hb := Bld.new lo TB ((w.alloc (.cells #[.slice A a.length ca, .int .i64 0, .int .i64 0] TC)).alloc (.cells #[.slice B b.length cb, .int .i64 0, .int .i64 0] TC)) (by rw [s2]; omega)
  rw [s2] at hb
  exact ⟨⟨Cs.new hlo ra rb sa sb na nb (heap_old _ _ (heap_old _ _ (heap_alloc_new w _))) (heap_old _ _ (by rw [← s1]; exact heap_alloc_new _ _)) b1, hb, by show ¬ w.heap.size = _; omega, by show ¬ w.heap.size + 1 = _; omega⟩, b1⟩
end Go.Proofs.YtamainhocghlgaaGreatDoor.low


/-
  Composing several operations, and counting parts: the functions on lists, and the contracts of spec.ComposeAll and spec.PartCount.
-/
namespace Go.Proofs.YtamainhocghlgaaGreatDoor.low
open Go.RowKit
set_option linter.unusedVariables false

end Go.Proofs.YtamainhocghlgaaGreatDoor.low


/-
  The algebra of operations: what is made of units is valid and normal; applying, composing, inverting and transforming valid operations, in the words of the contracts.
-/
namespace Go.Proofs.YtamainhocghlgaaGreatDoor.low
open Go.RowKit
set_option linter.unusedVariables false

/-- all that is inserted are characters -/
def goodU (us : List U) : Prop := ∀ x, U.p x ∈ us → signB x = true
/-- a valid operation's units -/
theorem op_units {a : List Pt} (h : okOp a = true) : (src (units a) : Int) = sumK a + sumD a ∧ (tgt (units a) : Int) = sumK a + sumP a ∧ src (units a) ≤ 200 ∧ tgt (units a) ≤ 200 ∧ goodU (units a) := by
  obtain ⟨h1, h2, h3, h4, h5, h6, h7⟩ := okOp_of h
  obtain ⟨t1, t2, t3⟩ := sum_t (okOp_partsB h)
  obtain ⟨s1, s2⟩ := src_units (okPs_sz h1)
  refine ⟨by rw [t1, t3]; exact s1, by rw [t1, t2]; exact s2, by omega, by omega, fun x hx => ?_⟩
  unfold units at hx
  obtain ⟨p, hp, hx⟩ := List.mem_flatMap.1 hx
  have ha := okPs_allB h1 p hp
  unfold unitsP at hx
  split at hx
  · have := List.eq_of_mem_replicate hx; cases this
  · split at hx
    · obtain ⟨z, hz, e⟩ := List.mem_map.1 hx
      injection e with e
      subst e
      unfold allB at ha
      exact List.all_eq_true.1 ha z hz
    · have := List.eq_of_mem_replicate hx; cases this
theorem apply_mem : ∀ (us : List U) (t : List Int) (x : Int), x ∈ applyU us t → x ∈ t ∨ U.p x ∈ us
  | [], t, x, h => by simp [applyU] at h
  | .k :: us, t, x, h => by
    rw [applyU] at h
    rcases List.mem_append.1 h with h | h
    · exact .inl (List.mem_of_mem_take h)
    · rcases apply_mem us _ x h with h | h
      · exact .inl (List.mem_of_mem_drop h)
      · exact .inr (by simp [h])
  | .p y :: us, t, x, h => by
    rw [applyU] at h
    rcases List.mem_cons.1 h with rfl | h
    · exact .inr (by simp)
    · rcases apply_mem us _ x h with h | h
      · exact .inl h
      · exact .inr (by simp [h])
  | .d :: us, t, x, h => by
    rw [applyU] at h
    rcases apply_mem us _ x h with h | h
    · exact .inl (List.mem_of_mem_drop h)
    · exact .inr (by simp [h])
theorem okText_mem {t : List Int} (h : okText t = true) : ∀ x ∈ t, signB x = true := fun x hx => by
  unfold okText at h
  rw [Bool.and_eq_true] at h
  exact List.all_eq_true.1 h.1 x hx
theorem okText_mk {t : List Int} (h : ∀ x ∈ t, signB x = true) (hl : t.length ≤ 200) : okText t = true := by
  unfold okText allB
  rw [decide_eq_true hl, List.all_eq_true.2 h]
  rfl
theorem fits_mk {a : List Pt} {t : List Int} (ha : okOp a = true) (ht : okText t = true) (hs : sumK a + sumD a = (t.length : Int)) : fitsB a t = true := by
  unfold fitsB
  rw [ha, ht, decide_eq_true hs]
  rfl
/-- applying a valid operation to a text that fits -/
theorem apply_ok {a : List Pt} {t : List Int} (ha : okOp a = true) (ht : okText t = true) (hs : sumK a + sumD a = (t.length : Int)) : fitsB a t = true ∧ applyT a t = applyU (units a) t ∧ okText (applyT a t) = true ∧ ((applyT a t).length : Int) = sumK a + sumP a ∧ src (units a) = t.length := by
  have hf := fits_mk ha ht hs
  obtain ⟨u1, u2, u3, u4, u5⟩ := op_units ha
  have hsrc : src (units a) = t.length := by omega
  have he := applyT_units hf
  have hl := apply_len_u (units a) t hsrc
  refine ⟨hf, he, ?_, by rw [he, hl]; exact u2, hsrc⟩
  rw [he]
  refine okText_mk (fun x hx => ?_) (by omega)
  rcases apply_mem _ _ _ hx with h | h
  · exact okText_mem ht x h
  · exact u5 x h
end Go.Proofs.YtamainhocghlgaaGreatDoor.low


/-
  A valid document is small: bounds read off its validity.
-/
namespace Go.Proofs.YtamainhocghlgaaGreatDoor.low
open Go.RowKit
set_option linter.unusedVariables false

structure DocIn (x : Do) : Prop where
  name : x.name.size ≤ 8
  from0 : 0 ≤ x.from_
  from1 : x.from_ ≤ 999999000
  text : x.text.length ≤ 200
  list : x.list.length ≤ 8
  ops : sumN totEn x.list ≤ 6400
  seen : x.seen.length ≤ 8
  head : headRevT x = x.from_ + (x.list.length : Int)
end Go.Proofs.YtamainhocghlgaaGreatDoor.low


/-
  What a ring of waiting entries answers, as mathematics.
-/
namespace Go.Proofs.YtamainhocghlgaaGreatDoor.low
open Go.RowKit
set_option linter.unusedVariables false

/-- a ring is valid -/
def ringB (x : Ri) : Bool := x.list.all entryB && (inB x.cap 1 6 && (inB x.next 1 1000000000 && (decide ((x.list.length : Int) ≤ x.cap) && (!x.out || decide ((x.list.length : Int) = 0)))))
theorem ringB_of {x : Ri} (h : ringB x = true) : x.list.all entryB = true ∧ 1 ≤ x.cap ∧ x.cap ≤ 6 ∧ 1 ≤ x.next ∧ x.next ≤ 1000000000 ∧ (x.list.length : Int) ≤ x.cap ∧ (x.out = true → x.list = []) := by
  unfold ringB inB at h
  simp only [Bool.and_eq_true, decide_eq_true_eq, Bool.or_eq_true, Bool.not_eq_true'] at h
  obtain ⟨h1, h2, h3, h4, h5⟩ := h
  refine ⟨h1, by omega, by omega, by omega, by omega, h4, fun ho => ?_⟩
  rcases h5 with h5 | h5
  · rw [ho] at h5; cases h5
  · exact List.eq_nil_of_length_eq_zero (by omega)
end Go.Proofs.YtamainhocghlgaaGreatDoor.low


/-
  What a hub of documents and subscribers answers, as mathematics.
-/
namespace Go.Proofs.YtamainhocghlgaaGreatDoor.low
open Go.RowKit
set_option linter.unusedVariables false

def noHu : Hu := ⟨false, [], [], 0⟩
/-- strings that are the same, and the order of strings, as the model says them -/
def eqSt (a b : ByteArray) : Bool := a.toList == b.toList
def ltSt (a b : ByteArray) : Bool := Op.bytesLess a.toList b.toList
def ixInt : Option Nat → Int
  | none => -1
  | some i => (i : Int)
/-- the first document of a name, the first subscriber of a number -/
def docIx (l : List Do) (s : ByteArray) : Option Nat := l.findIdx? (fun d => eqSt d.name s)
def hubDocT (x : Hu) (s : ByteArray) : Int := ixInt (docIx x.docs s)
theorem ix_step {α : Type} {p : α → Bool} {l : List α} {j : Nat} {x : α} (h : l[j]? = some x) (hp : p x = false) (hi : ∀ i, i < j → ∀ y, l[i]? = some y → p y = false) : ∀ i, i < j + 1 → ∀ y, l[i]? = some y → p y = false := fun i hi' y hy => by
  rcases Nat.lt_or_ge i j with h1 | h1
  · exact hi i h1 y hy
  · obtain rfl : i = j := by omega
    rw [h] at hy
    injection hy with hy
    subst hy
    exact hp
theorem ix_found {α : Type} {p : α → Bool} : ∀ {l : List α} {j : Nat} {x : α}, l[j]? = some x → p x = true → (∀ i, i < j → ∀ y, l[i]? = some y → p y = false) → l.findIdx? p = some j
  | [], j, x, h, _, _ => by simp at h
  | y :: l, 0, x, h, hp, _ => by
    obtain rfl : y = x := by simpa using h
    rw [List.findIdx?_cons, if_pos hp]
  | y :: l, j + 1, x, h, hp, hi => by
    have h0 := hi 0 (by omega) y rfl
    rw [List.findIdx?_cons, if_neg (by rw [h0]; simp), ix_found (l := l) (j := j) (x := x) (by simpa using h) hp (fun i hi' z hz => hi (i + 1) (by omega) z (by simpa using hz))]
    rfl
theorem ix_none {α : Type} {p : α → Bool} {l : List α} (hi : ∀ i, i < l.length → ∀ y, l[i]? = some y → p y = false) : l.findIdx? p = none := by
  rw [List.findIdx?_eq_none_iff]
  intro x hx
  obtain ⟨i, hi', e⟩ := List.mem_iff_getElem.1 hx
  exact hi i hi' x (by rw [List.getElem?_eq_getElem hi', e])
theorem ix_lt {α : Type} {p : α → Bool} {l : List α} {k : Nat} (h : l.findIdx? p = some k) : k < l.length := by
  obtain ⟨h1, -⟩ := List.findIdx?_eq_some_iff_getElem.1 h
  exact h1
/-- the documents, behind one of the name p -/
def docsB : Option ByteArray → List Do → Bool
  | _, [] => true
  | p, d :: l => docB d && ((match p with | none => true | some q => ltSt q d.name) && docsB (some d.name) l)
/-- what a subscriber's ring is to its document -/
def fitB (docs : List Do) (s : Su) : Bool := match docIx docs s.doc with
  | none => false
  | some k => s.out || (match docs[k]? with | none => false | some d => decide (s.next + (s.list.length : Int) = headRevT d + 1))
def subsB (docs : List Do) (last : Int) : Int → List Su → Bool
  | _, [] => true
  | p, s :: l => inB s.id 1 last && (ringB (ringSu s) && (fitB docs s && (decide (p < s.id) && subsB docs last s.id l)))
def hubB (x : Hu) : Bool := decide (x.docs.length ≤ 5) && (decide (x.subs.length ≤ 6) && (inB x.last 0 1000000000 && (docsB none x.docs && subsB x.docs x.last 0 x.subs)))
/-- the name in front of the j-th document -/
def nameAt (l : List Do) : Nat → Option ByteArray
  | 0 => none
  | j + 1 => (l[j]?).map (·.name)
def idAt (l : List Su) : Nat → Int
  | 0 => 0
  | j + 1 => ((l[j]?).map (·.id)).getD 0
theorem docsB_step {l : List Do} {p : Option ByteArray} {j : Nat} {d : Do} (h : l[j]? = some d) : docsB p (l.drop j) = (docB d && ((match p with | none => true | some q => ltSt q d.name) && docsB (nameAt l (j + 1)) (l.drop (j + 1)))) := by
  obtain ⟨h1, e1⟩ := List.getElem?_eq_some_iff.1 h
  rw [List.drop_eq_getElem_cons h1, e1]
  show _ = (docB d && (_ && docsB ((l[j]?).map (·.name)) _))
  rw [h]
  rfl
theorem subsB_step {docs : List Do} {last p : Int} {l : List Su} {j : Nat} {s : Su} (h : l[j]? = some s) : subsB docs last p (l.drop j) = (inB s.id 1 last && (ringB (ringSu s) && (fitB docs s && (decide (p < s.id) && subsB docs last (idAt l (j + 1)) (l.drop (j + 1)))))) := by
  obtain ⟨h1, e1⟩ := List.getElem?_eq_some_iff.1 h
  rw [List.drop_eq_getElem_cons h1, e1]
  show _ = (_ && (_ && (_ && (_ && subsB docs last (((l[j]?).map (·.id)).getD 0) _))))
  rw [h]
  rfl
theorem docsB_all : ∀ {l : List Do} {p : Option ByteArray}, docsB p l = true → ∀ {j : Nat} {d : Do}, l[j]? = some d → docB d = true
  | [], _, _, j, d, h => by simp at h
  | y :: l, p, hb, 0, d, h => by
    obtain rfl : y = d := by simpa using h
    unfold docsB at hb
    rw [Bool.and_eq_true] at hb
    exact hb.1
  | y :: l, p, hb, j + 1, d, h => by
    unfold docsB at hb
    rw [Bool.and_eq_true, Bool.and_eq_true] at hb
    exact docsB_all (l := l) hb.2.2 (j := j) (by simpa using h)
theorem nameAt_of {l : List Do} {q : Nat} {d : Do} (h : l[q]? = some d) : nameAt l (q + 1) = some d.name := by
  show (l[q]?).map _ = _
  rw [h]
  rfl
theorem idAt_of {l : List Su} {q : Nat} {d : Su} (h : l[q]? = some d) : idAt l (q + 1) = d.id := by
  show ((l[q]?).map _).getD 0 = _
  rw [h]
  rfl
theorem fit_none {docs : List Do} {s : Su} (h : docIx docs s.doc = none) : fitB docs s = false := by
  unfold fitB
  rw [h]
theorem fit_some {docs : List Do} {s : Su} {k : Nat} {d : Do} (h : docIx docs s.doc = some k) (hd : docs[k]? = some d) : fitB docs s = (s.out || decide (s.next + (s.list.length : Int) = headRevT d + 1)) := by
  unfold fitB
  rw [h]
  show (_ || (match docs[k]? with | none => false | some d => _)) = _
  rw [hd]
theorem hubDoc_neg {x : Hu} {s : ByteArray} {k : Int} (h : hubDocT x s = k) (hn : k < 0) : docIx x.docs s = none := by
  unfold hubDocT at h
  cases hk : docIx x.docs s with
  | none => rfl
  | some i =>
    rw [hk] at h
    have h : (i : Int) = k := h
    omega
theorem hubDoc_pos {x : Hu} {s : ByteArray} {k : Int} (h : hubDocT x s = k) (hn : ¬ k < 0) : ∃ i : Nat, k = (i : Int) ∧ docIx x.docs s = some i ∧ i < x.docs.length := by
  unfold hubDocT at h
  cases hk : docIx x.docs s with
  | none =>
    rw [hk] at h
    have h : (-1 : Int) = k := h
    omega
  | some i =>
    rw [hk] at h
    exact ⟨i, h.symm, rfl, ix_lt hk⟩
theorem docsOk_rev {d : Do} (h : docB d = true) : 0 ≤ headRevT d ∧ headRevT d ≤ 1000000000 := by
  obtain ⟨f0, f1, f2, f3⟩ := docB_of h
  rw [f3]
  omega
end Go.Proofs.YtamainhocghlgaaGreatDoor.low


/-
  Contract of spec.l02Copy, and the laws of append in a region that draws its order. Written by mkdoc6.py.
-/
namespace Go.Proofs.YtamainhocghlgaaGreatDoor.low
open Go.RowKit
set_option linter.unusedVariables false

theorem OwB.apartG {lo hi : Nat} {w w' : World} {d : Dat} {v : Value} {b : List Nat} {r : Option Nat} (h : OwB lo hi w d v b) (hg : w.grownBy w' r) (hr : ∀ k, r = some k → k < lo ∨ hi ≤ k) : OwB lo hi w' d v b :=
  ⟨OwC.keep d v b h.ow (fun x hx => hg.block x (OwC.lt d v b h.ow x hx) (fun e => by have := h.rng x hx; have := hr x e.symm; omega)), h.nd, h.rng, Nat.le_trans h.top hg.size, h.le⟩
theorem Grew.cellOut {O O' : Nat → Prop} {w w' : World} (h : Grew O O' w w') {p : Addr} (hb : p.block < w.heap.size) (hn : ¬ O p.block) : w'.cell? p = w.cell? p := World.cell?_of_block (w := w) (h.block p.block hb hn)
theorem step_append_zero {P : Program} {w : World} {ops : Array Oper} {o : Oper} {a : Act} {KN : Act → World → Prop} {Q : Exit → Act → World → Prop} {E : Prop} (hgd : o.guard = none) (s x : Operand) (t : TypeId)
    (ho : o.op = .call { callee := .builtin .append, args := #[s, x], argTypes := #[t, t] })
    (base : Nat) (e : TypeId) (i : TypeInfo) (size : Nat) (ht : P.underlying t = some (.slice e)) (hi : P.info? e = some i)
    (v : Value) (n : Nat) (xs : List Value) (hs : a.eval s = v) (hown : w.ownsRow base e size v n xs) (A : Option Addr) (c : Nat) (hx : a.eval x = .slice A 0 c)
    (h : KN (a.put o.dst v) w) : if Region.wanted o (yielded ops a.tmps) = true then Oper.wp P o a w KN Q else E := by
  have hw : Region.wanted o (yielded ops a.tmps) = true := by simp [Region.wanted, hgd]
  rw [if_pos hw]
  have hrun := run_append_zero (P := P) (w := w) base t o.type e i size ht hi v n xs hown A c
  unfold Oper.wp
  simp [execOp, ho, resolve, invoke, builtin, hs, hx, hrun, Result.andThen]
  exact h
theorem step_append_ints {w : World} {ops : Array Oper} {o : Oper} {a : Act} {KN : Act → World → Prop} {Q : Exit → Act → World → Prop} {E : Prop} (hgd : o.guard = none) (s x : Operand)
    (ho : o.op = .call { callee := .builtin .append, args := #[s, x], argTypes := #[61, 61] })
    (base : Nat) (v : Value) (zs : List Int) (hs : a.eval s = v) (hown : w.ownsRow base 3 1 v zs.length (zs.map (Value.int .i64)))
    (A : Option Addr) (m c : Nat) (ys : List Int) (hx : a.eval x = .slice A m c) (hm : ys.length = m) (hr : Row (Value.int .i64) w w.heap.size A ys)
    (h63 : zs.length + m ≤ 1000000000) (hbase : base ≤ w.heap.size)
    (h : ∀ A' c' w', w'.ownsRow base 3 1 (.slice A' (zs.length + m) c') (zs ++ ys).length ((zs ++ ys).map (Value.int .i64)) → w.grownBy w' v.ownBlock → KN (a.put o.dst (.slice A' (zs.length + m) c')) w') : if Region.wanted o (yielded ops a.tmps) = true then Oper.wp Tryz.prog o a w KN Q else E := by
  obtain ⟨i0, hi0, hz0, hz1, hz2⟩ := info_parts ints_info
  by_cases h0 : 0 < m
  · obtain ⟨ad, rfl, hbk, hcs⟩ := hr (by omega)
    refine step_append_lies _ hgd s x 61 ho base 3 i0 (.int .i64 0) 1 8 Tryz.underlying61 hi0 hz0 hz1 hz2 rfl (by decide) v zs.length (zs.map (Value.int .i64)) hs hown ad m c (ys.map (Value.int .i64)) hx (by simp [hm]) (fun j u hu => ?_) (by simp [Value.oneCell']) h0 (by unfold maxLen; omega) (by omega) hbase w.heap.size rfl ?_
    · rw [List.getElem?_map] at hu
      obtain ⟨z, hz, rfl⟩ := Option.map_eq_some_iff.1 hu
      exact hcs j z hz
    · intro g cap w' hown' hg _ _
      exact h _ cap w' (by simpa [hm] using hown') hg
  · have e0 : ys = [] := List.eq_nil_of_length_eq_zero (by omega)
    subst e0
    obtain rfl : m = 0 := by omega
    refine step_append_zero hgd s x 61 ho base 3 i0 1 Tryz.underlying61 hi0 v zs.length (zs.map (Value.int .i64)) hs hown A c hx ?_
    obtain ⟨Av, cv, rfl⟩ := own_form hown
    exact h Av cv w (by simpa using hown) (grown_refl _ _)
theorem step_append_row {w : World} {ops : Array Oper} {o : Oper} {a : Act} {KN : Act → World → Prop} {Q : Exit → Act → World → Prop} {E : Prop} (hgd : o.guard = none) (s x : Operand) (t : TypeId)
    (ho : o.op = .call { callee := .builtin .append, args := #[s, x], argTypes := #[t, t] }) (e : TypeId) (i : TypeInfo) (z : Value) (sz bytes : Nat) (ht : Tryz.prog.underlying t = some (.slice e)) (hi : Tryz.prog.info? e = some i) (hz : i.zero = some z) (hsize : i.size = sz) (hby : i.bytes = bytes) (hzs : z.cells.size = sz) (hsz : 0 < sz) (hbm : bytes ≤ 100000)
    (lo hi' : Nat) (v : Value) (ds : List (List Dat)) (b : List Nat) (h : OwB lo hi' w (.rows e sz ds) v b) (hs : a.eval s = v) (hlen : ds.length ≤ 2000000)
    (ad : Addr) (c0 : Nat) (ys : List Value) (hx : a.eval x = .slice (some ad) 1 c0) (hl : ys.length = sz) (hnews : ∀ j u, ys[j]? = some u → w.cell? (ad.add j) = some u) (h1 : ∀ u ∈ ys, u.oneCell' = true)
    (r : List Dat) (c : List Nat) (hr : OwL w r ys c) (hcn : c.Nodup) (hbc : ∀ q ∈ b, q ∉ c) (hcr : ∀ q ∈ c, lo ≤ q)
    (K : ∀ A' c' w' b', OwB lo w'.heap.size w' (.rows e sz (ds ++ [r])) (.slice A' (ds.length + 1) c') b' → (∀ q ∈ b', q ∈ b ∨ q ∈ c ∨ w.heap.size ≤ q) → Grew (fun q => q ∈ b) (fun q => q ∈ b ∨ w.heap.size ≤ q) w w' → Below lo w w' → KN (a.put o.dst (.slice A' (ds.length + 1) c')) w') : if Region.wanted o (yielded ops a.tmps) = true then Oper.wp Tryz.prog o a w KN Q else E := by
  have hnd := h.nd
  have hrg := h.rng
  obtain ⟨xs, cs, ho', hor, hb⟩ := h.ow
  refine step_append_lies _ hgd s x t ho 0 e i z sz bytes ht hi hz hsize hby hzs hsz v ds.length xs hs ho' ad 1 c0 ys hx (by simp [hl]) hnews h1 (by omega) (by unfold maxLen; omega) ?_ (Nat.zero_le _) _ rfl ?_
  · have : (ds.length + 1) * bytes ≤ 2000001 * 100000 := Nat.mul_le_mul (by omega) hbm
    omega
  intro g cap w' hown hg hat hlt
  rw [hb] at hnd
  obtain ⟨n1, n2, n3⟩ := List.nodup_append.1 hnd
  have own_mem : ∀ q, v.ownBlock = some q → q ∈ b := fun q hq => by rw [hb, hq]; simp
  have hcs : ∀ q ∈ cs, w'.heap[q]? = w.heap[q]? := fun q hq => hg.block q (OwR.lt sz _ _ _ hor q hq) (fun e => n3 q (by rw [← e]; simp) q hq rfl)
  have hcc : ∀ q ∈ c, w'.heap[q]? = w.heap[q]? := fun q hq => hg.block q (OwL.lt _ _ _ hr q hq) (fun e => hbc q (own_mem q e.symm) hq)
  have hor' := (OwR.keep sz _ _ _ hor hcs).append (OwR.one (OwL.keep _ _ _ hr hcc) hl)
  have g1 : g ∉ cs := fun hq => by
    rcases hat with e | e
    · exact n3 g (by rw [e]; simp) g hq rfl
    · have := OwR.lt sz _ _ _ hor g hq; omega
  have g2 : g ∉ c := fun hq => by
    rcases hat with e | e
    · exact hbc g (own_mem g e) hq
    · have := OwL.lt _ _ _ hr g hq; omega
  have g3 : lo ≤ g ∧ (g ∈ b ∨ w.heap.size ≤ g) := by
    rcases hat with e | e
    · exact ⟨(hrg g (own_mem g e)).1, .inl (own_mem g e)⟩
    · have := h.top; have := h.le; exact ⟨by omega, .inr (by omega)⟩
  have hsz' := hg.size
  have ht' := h.top
  refine K _ cap w' (g :: (cs ++ c)) ⟨⟨xs ++ ys, cs ++ c, by rw [List.length_append]; exact hown, hor', rfl⟩, ?_, ?_, Nat.le_refl _, by have := h.le; omega⟩ ?_ ⟨hg.size, fun q hq hn => hg.block q hq (fun e => hn (own_mem q e.symm)), fun q hq => hq⟩ ?_
  · refine List.nodup_cons.2 ⟨fun hq => ?_, List.nodup_append.2 ⟨n2, hcn, fun q hq q' hq' e => ?_⟩⟩
    · rcases List.mem_append.1 hq with hq | hq
      · exact g1 hq
      · exact g2 hq
    · subst e
      exact hbc q (by rw [hb]; simp [hq]) hq'
  · intro q hq
    rcases List.mem_cons.1 hq with rfl | hq
    · exact ⟨g3.1, hlt⟩
    · rcases List.mem_append.1 hq with hq | hq
      · have := hrg q (by rw [hb]; simp [hq]); exact ⟨this.1, by omega⟩
      · have := OwL.lt _ _ _ hr q hq; exact ⟨hcr q hq, by omega⟩
  · intro q hq
    rcases List.mem_cons.1 hq with rfl | hq
    · rcases g3.2 with h | h
      · exact .inl h
      · exact .inr (.inr h)
    · rcases List.mem_append.1 hq with hq | hq
      · exact .inl (by rw [hb]; simp [hq])
      · exact .inr (.inl hq)
  · exact (Below.refl lo w).grown hg (by have := h.le; omega) (fun k hk => (hrg k (own_mem k hk)).1)
set_option maxRecDepth 100000 in
set_option maxHeartbeats 3200000 in
theorem specCopy_d (v : Value) (ps : List Pt) (w : World) (h : RdC w w.heap.size (encPs ps) v) (hs : SmP ps) : Calls Tryz.prog 111 #[v] w (OwnPost (encPs ps) w) := by
  obtain ⟨A, c, rfl, hr, _⟩ := parts_rd h
  have hl := hs.1
  obtain ⟨i0, hi0, hz0, hz1, hz2⟩ := info_parts part_info
  have ob : OwB w.heap.size (w.heap.size + 1) (w.alloc (.cells #[] 145)) (encPs []) (.slice (some ⟨w.heap.size, 0, none⟩) 0 0) [w.heap.size] := ⟨⟨[], [], ⟨rfl, .inr ⟨w.heap.size, 0, #[], rfl, Nat.zero_le _, heap_alloc_new w _, Nat.le_refl _, by unfold maxLen; omega, rfl, rfl⟩⟩, ⟨rfl, rfl⟩, rfl⟩, by simp, fun q hq => by simp at hq; omega, by rw [World.size_alloc]; exact Nat.le_refl _, by omega⟩
  have b0 := alloc_below w (.cells #[] 145)
  have z0 : (w.alloc (.cells #[] 145)).heap.size = w.heap.size + 1 := World.size_alloc _ _
  rw [← z0] at ob
  have OB := Lib.hid ob
  clear ob z0
  go_enter Tryz.func111, Tryz.ntmps111
  go_wp2
  go_loopw [3, 9] (fun ov i wr => ∃ (j : Nat) (A1 : Option Addr) (c1 : Nat) (bs : List Nat), j ≤ ps.length ∧ i = .int .i64 (j : Int) ∧ ov = .slice A1 j c1 ∧ OwB w.heap.size wr.heap.size wr (encPs (ps.take j)) ov bs ∧ Below w.heap.size w wr) (fun _ i _ => ps.length - (intOf i).toNat)
  case atStart => exact ⟨0, _, _, _, Nat.zero_le _, rfl, rfl, OB.out, b0⟩
  case round =>
    obtain ⟨j, A1, c1, bs, hj, rfl, rfl, ho, hbel⟩ := hrel
    clear OB b0
    have HO := Lib.hid ho
    clear ho
    by_cases hlt : j < ps.length
    · obtain ⟨b, off, p, rfl, hbb, hp, hc⟩ := hr.at_ hlt
      obtain ⟨x0, x1, A5, c5, x2, r1⟩ := hc.keep (w' := wr) hbb (fun _ hq => hbel.cell hq)
      have hsp := hs.all p (List.mem_of_getElem? hp)
      have HT := Lib.hid (show ps.take (j + 1) = ps.take j ++ [p] by rw [List.take_add_one, hp]; rfl)
      clear hp hc
      have bA := alloc_below wr (.cells #[.int .i64 p.kind, .int .i64 p.n, .slice A5 p.signs.length c5] 145)
      have bxP := Bx.new wr #[.int .i64 p.kind, .int .i64 p.n, .slice A5 p.signs.length c5] 145
      have HO1 := Lib.hid (HO.out.past bA)
      have zA : (wr.alloc (.cells #[.int .i64 p.kind, .int .i64 p.n, .slice A5 p.signs.length c5] 145)).heap.size = wr.heap.size + 1 := World.size_alloc _ _
      go_wp2
      generalize wr.alloc (.cells #[.int .i64 p.kind, .int .i64 p.n, .slice A5 p.signs.length c5] 145) = W1 at bA bxP HO1 zA ⊢
      have lP := bxP.lt
      have hS0 : W1.drew.cell? ⟨wr.heap.size, 0, none⟩ = some (.int .i64 p.kind) ∧ W1.drew.cell? ⟨wr.heap.size, 1, none⟩ = some (.int .i64 p.n) ∧ W1.drew.cell? ⟨wr.heap.size, 2, none⟩ = some (.slice A5 p.signs.length c5) := ⟨bxP.cell (j := 0) rfl, bxP.cell (j := 1) rfl, bxP.cell (j := 2) rfl⟩
      refine wp_region_held_drew (S := fun W => W.cell? ⟨wr.heap.size, 0, none⟩ = some (.int .i64 p.kind) ∧ W.cell? ⟨wr.heap.size, 1, none⟩ = some (.int .i64 p.n) ∧ W.cell? ⟨wr.heap.size, 2, none⟩ = some (.slice A5 p.signs.length c5)) (by kernel_rfl) hS0 (fun hS => ?_)
      clear hS0
      have bA := bA.trans ((Below.refl _ _).drew.mono bA.size)
      have HO1 := Lib.hid (HO1.out.past (Below.refl _ _).drew)
      have zA : W1.drew.heap.size = wr.heap.size + 1 := zA
      have lP : wr.heap.size < W1.drew.heap.size := lP
      clear bxP
      generalize W1.drew = WD at hS bA HO1 zA lP ⊢
      refine tk (v := .slice A1 j c1) 0 13 rfl (fun w' hS' => ?_) (by assumption) ?_
      · (try dsimp only at hS'); go_simp
      try simp only [Act.put, pa, pb, pc]
      refine tk (v := .pointer (some ⟨wr.heap.size, 0, none⟩)) 1 14 rfl (fun w' hS' => ?_) (by assumption) ?_
      · (try dsimp only at hS'); go_simp
      try simp only [Act.put, pa, pb, pc]
      refine tk (v := .int .i64 p.kind) 2 15 rfl (fun w' hS' => ?_) (by assumption) ?_
      · (try dsimp only at hS'); go_simp
      try simp only [Act.put, pa, pb, pc]
      refine tk (v := .pointer (some ⟨wr.heap.size, 1, none⟩)) 3 16 rfl (fun w' hS' => ?_) (by assumption) ?_
      · (try dsimp only at hS'); go_simp
      try simp only [Act.put, pa, pb, pc]
      refine tk (v := .int .i64 p.n) 4 17 rfl (fun w' hS' => ?_) (by assumption) ?_
      · (try dsimp only at hS'); go_simp
      try simp only [Act.put, pa, pb, pc]
      refine tk (v := .pointer (some ⟨wr.heap.size, 2, none⟩)) 6 19 rfl (fun w' hS' => ?_) (by assumption) ?_
      · (try dsimp only at hS'); go_simp
      try simp only [Act.put, pa, pb, pc]
      refine tk (v := .slice A5 p.signs.length c5) 7 20 rfl (fun w' hS' => ?_) (by assumption) ?_
      · (try dsimp only at hS'); go_simp
      try simp only [Act.put, pa, pb, pc]
      refine low.r1 5 (some 18) rfl (fun K hK => ?_)
      go_simp
      have hS1 : (WD.alloc (.cells #[] 3)).cell? ⟨wr.heap.size, 0, none⟩ = some (.int .i64 p.kind) ∧ (WD.alloc (.cells #[] 3)).cell? ⟨wr.heap.size, 1, none⟩ = some (.int .i64 p.n) ∧ (WD.alloc (.cells #[] 3)).cell? ⟨wr.heap.size, 2, none⟩ = some (.slice A5 p.signs.length c5) := ⟨((alloc_below WD (.cells #[] 3)).cell (p := ⟨wr.heap.size, 0, none⟩) lP).trans hS.1, ((alloc_below WD (.cells #[] 3)).cell (p := ⟨wr.heap.size, 1, none⟩) lP).trans hS.2.1, ((alloc_below WD (.cells #[] 3)).cell (p := ⟨wr.heap.size, 2, none⟩) lP).trans hS.2.2⟩
      refine hK.out _ _ hS1 (fun hS => ?_)
      clear hK K hS1
      try simp only [Act.put, pa, pb, pc]
      have bD : Below WD.heap.size WD (WD.alloc (.cells #[] 3)) := alloc_below WD (.cells #[] 3)
      have hib : (WD.alloc (.cells #[] 3)).ownsRow (wr.heap.size + 1) 3 1 (.slice (some ⟨wr.heap.size + 1, 0, none⟩) 0 0) 0 [] := ⟨rfl, .inr ⟨wr.heap.size + 1, 0, #[], rfl, Nat.le_refl _, by rw [← zA]; exact heap_alloc_new WD _, Nat.le_refl _, by unfold maxLen; omega, rfl, rfl⟩⟩
      have zD : (WD.alloc (.cells #[] 3)).heap.size = wr.heap.size + 2 := by rw [World.size_alloc]; omega
      have hrow := (((r1.more hbel.size).past bA).past bD)
      have HO2 := Lib.hid (HO1.out.past bD)
      generalize WD.alloc (.cells #[] 3) = W2 at hS bD hib zD hrow HO2 ⊢
      refine low.r1 8 (some 21) rfl (fun K hK => ?_)
      refine step_append_ints (by rfl) (.tmp 18) (.tmp 20) (by rfl) (wr.heap.size + 1) (.slice (some ⟨wr.heap.size + 1, 0, none⟩) 0 0) [] (by rfl) hib A5 p.signs.length c5 p.signs (by rfl) rfl hrow (by simp; omega) (by omega) ?_
      intro An cn wn hon hgn
      simp only [List.nil_append, List.length_nil, Nat.zero_add] at hon ⊢
      have hS1 : wn.cell? ⟨wr.heap.size, 0, none⟩ = some (.int .i64 p.kind) ∧ wn.cell? ⟨wr.heap.size, 1, none⟩ = some (.int .i64 p.n) ∧ wn.cell? ⟨wr.heap.size, 2, none⟩ = some (.slice A5 p.signs.length c5) := ⟨(grown_cell (p := ⟨wr.heap.size, 0, none⟩) hgn (by simp only; omega) (by simp [Value.ownBlock])).trans hS.1, (grown_cell (p := ⟨wr.heap.size, 1, none⟩) hgn (by simp only; omega) (by simp [Value.ownBlock])).trans hS.2.1, (grown_cell (p := ⟨wr.heap.size, 2, none⟩) hgn (by simp only; omega) (by simp [Value.ownBlock])).trans hS.2.2⟩
      refine hK.out _ _ hS1 (fun hS => ?_)
      clear hK K hS1
      try simp only [Act.put, pa, pb, pc]
      have zn : wr.heap.size + 2 ≤ wn.heap.size := by have := hgn.size; omega
      have on := ownInts hon (by omega)
      have HO3 := Lib.hid (HO2.out.apartG hgn (fun k hk => by simp [Value.ownBlock] at hk; omega))
      have bn : Below wr.heap.size W2 wn := (Below.refl _ _).grown hgn (by omega) (fun q hq => by have := own_ge hib q hq; omega)
      have dn : Below w.heap.size w wn := hbel.trans (((bA.trans (bD.mono bA.size)).trans bn).mono hbel.size)
      clear hon hgn hib hrow HO2 bn bD
      refine tk (v := .agg #[.int .i64 p.kind, .int .i64 p.n, .slice An p.signs.length cn]) 9 22 rfl (fun w' hS' => ?_) (by assumption) ?_
      · (try dsimp only at hS'); go_simp
      try simp only [Act.put, pa, pb, pc]
      refine low.r1 10 (some 23) rfl (fun K hK => ?_)
      go_simp
      have hS1 : (wn.alloc (.cells #[.int .i64 p.kind, .int .i64 p.n, .slice An p.signs.length cn] 145)).cell? ⟨wr.heap.size, 0, none⟩ = some (.int .i64 p.kind) ∧ (wn.alloc (.cells #[.int .i64 p.kind, .int .i64 p.n, .slice An p.signs.length cn] 145)).cell? ⟨wr.heap.size, 1, none⟩ = some (.int .i64 p.n) ∧ (wn.alloc (.cells #[.int .i64 p.kind, .int .i64 p.n, .slice An p.signs.length cn] 145)).cell? ⟨wr.heap.size, 2, none⟩ = some (.slice A5 p.signs.length c5) := ⟨((alloc_below wn (.cells #[.int .i64 p.kind, .int .i64 p.n, .slice An p.signs.length cn] 145)).cell (p := ⟨wr.heap.size, 0, none⟩) (by simp only; omega)).trans hS.1, ((alloc_below wn (.cells #[.int .i64 p.kind, .int .i64 p.n, .slice An p.signs.length cn] 145)).cell (p := ⟨wr.heap.size, 1, none⟩) (by simp only; omega)).trans hS.2.1, ((alloc_below wn (.cells #[.int .i64 p.kind, .int .i64 p.n, .slice An p.signs.length cn] 145)).cell (p := ⟨wr.heap.size, 2, none⟩) (by simp only; omega)).trans hS.2.2⟩
      refine hK.out _ _ hS1 (fun hS => ?_)
      clear hK K hS1
      try simp only [Act.put, pa, pb, pc]
      have bP := alloc_below wn (.cells #[.int .i64 p.kind, .int .i64 p.n, .slice An p.signs.length cn] 145)
      have HN := Lib.hid (World.news_of_block (cs := #[.int .i64 p.kind, .int .i64 p.n, .slice An p.signs.length cn]) (t := 145) (fr := (0, 0)) (heap_alloc_new wn (.cells #[.int .i64 p.kind, .int .i64 p.n, .slice An p.signs.length cn] 145)))
      obtain ⟨cs, ox⟩ := (on.past bP).blocks
      have OX := Lib.hid ox
      have HO4 := Lib.hid (HO3.out.past bP)
      have zP : (wn.alloc (.cells #[.int .i64 p.kind, .int .i64 p.n, .slice An p.signs.length cn] 145)).heap.size = wn.heap.size + 1 := World.size_alloc _ _
      have d4 := dn.trans (bP.mono dn.size)
      have e1 : ((ps.take j).map encPt).length = j := by simp; omega
      generalize wn.alloc (.cells #[.int .i64 p.kind, .int .i64 p.n, .slice An p.signs.length cn] 145) = W4 at hS HN OX HO4 zP d4 ⊢
      clear on ox bP dn
      refine low.r1 11 (some 24) rfl (fun K hK => ?_)
      refine step_append_row (by rfl) (.tmp 13) (.tmp 23) 104 (by rfl) 145 i0 _ 3 40 Tryz.underlying104 hi0 hz0 hz1 hz2 rfl (by decide) (by decide) w.heap.size _ (.slice A1 j c1) ((ps.take j).map encPt) bs HO4.out (by rfl) (by omega) ⟨wn.heap.size, 0, none⟩ 1 [.int .i64 p.kind, .int .i64 p.n, .slice An p.signs.length cn] (by rfl) rfl HN.out (by simp [Value.oneCell']) (encPt p) cs ⟨_, _, [], cs, rfl, by simp, ⟨rfl, rfl⟩, _, _, [], cs, rfl, by simp, ⟨rfl, rfl⟩, _, [], cs, [], rfl, by simp, OX.out.ow, rfl, rfl⟩ OX.out.nd (fun q hq hq' => by have q1 := (HO4.out.rng q hq).2; have q2 := (OX.out.rng q hq').1; omega) (fun q hq => by have q2 := (OX.out.rng q hq).1; have := hbel.size; omega) ?_
      intro A7 c7 w7 b7 o7 in7 g7 bl7
      rw [e1]
      have hS1 : w7.cell? ⟨wr.heap.size, 0, none⟩ = some (.int .i64 p.kind) ∧ w7.cell? ⟨wr.heap.size, 1, none⟩ = some (.int .i64 p.n) ∧ w7.cell? ⟨wr.heap.size, 2, none⟩ = some (.slice A5 p.signs.length c5) := ⟨(g7.cellOut (p := ⟨wr.heap.size, 0, none⟩) (by simp only; omega) (fun hq => by have := (HO4.out.rng _ hq).2; simp only at this; omega)).trans hS.1, (g7.cellOut (p := ⟨wr.heap.size, 1, none⟩) (by simp only; omega) (fun hq => by have := (HO4.out.rng _ hq).2; simp only at this; omega)).trans hS.2.1, (g7.cellOut (p := ⟨wr.heap.size, 2, none⟩) (by simp only; omega) (fun hq => by have := (HO4.out.rng _ hq).2; simp only at this; omega)).trans hS.2.2⟩
      refine hK.out _ _ hS1 (fun hS => ?_)
      clear hK K hS1
      try simp only [Act.put, pa, pb, pc]
      refine tk (v := .slice A7 (j + 1) c7) 12 3 rfl (fun w' hS' => ?_) (by assumption) ?_
      · (try dsimp only at hS'); go_simp
      try simp only [Act.put, pa, pb, pc]
      refine wpAnyH_done (by kernel_rfl) ?_ _
      have O7 := Lib.hid (show OwB w.heap.size w7.heap.size w7 (encPs (ps.take (j + 1))) (.slice A7 (j + 1) c7) b7 by rw [HT.out]; rw [e1] at o7; unfold encPs; rw [List.map_append]; exact o7)
      have d7 := d4.trans bl7
      clear o7 hS
      go_wp2
      go_roundw
      case rel => exact ⟨j + 1, A7, c7, b7, by omega, by go_num, rfl, O7.out, d7⟩
      case measure => simp [intOf]; omega
    · obtain rfl : j = ps.length := by omega
      have k1 := HO.out
      rw [List.take_length] at k1
      have K1 := Lib.hid k1
      clear k1
      go_wp2
      go_ret
      exact ⟨_, rfl, ⟨bs, K1.out.ow, K1.out.nd, K1.out.rng, Nat.le_refl _, K1.out.le⟩, hbel⟩
end Go.Proofs.YtamainhocghlgaaGreatDoor.low


/-
  Contract of spec.OpsSince. Written by mkdoc7.py.
-/
namespace Go.Proofs.YtamainhocghlgaaGreatDoor.low
open Go.RowKit
set_option linter.unusedVariables false

end Go.Proofs.YtamainhocghlgaaGreatDoor.low


/-
  The specification's side of stage 8 (documents), gathered; spec.Forget is wanted.
-/
namespace Go.Proofs.YtamainhocghlgaaGreatDoor.low
set_option linter.unusedVariables false
end Go.Proofs.YtamainhocghlgaaGreatDoor.low


/-
  Contracts of spec.l08Entry, l08Entries, l08Copy and Forget, in the words of Ms. Written by mkdoc8.py.
-/
namespace Go.Proofs.YtamainhocghlgaaGreatDoor.low
open Go.RowKit
set_option linter.unusedVariables false

theorem elt_of {t e : TypeId} {z : Value} {sz bytes : Nat} (hu : Tryz.prog.underlying t = some (.slice e)) (hi : (Tryz.prog.info? e).map (fun i => (i.zero, i.size, i.bytes)) = some (some z, sz, bytes)) (h1 : z.cells.size = sz) (h2 : 0 < sz) (h3 : bytes ≤ 100000) : Elt t e z sz bytes := by
  obtain ⟨i, k1, k2⟩ := Option.map_eq_some_iff.1 hi
  simp only [Prod.mk.injEq] at k2
  exact ⟨i, hu, k1, k2.1, k2.2.1, k2.2.2, h1, h2, h3⟩
theorem eltInt : Elt 61 3 (.int .i64 0) 1 8 := elt_of (by kernel_rfl) (by kernel_rfl) rfl (by omega) (by omega)
theorem eltEn : Elt 72 106 (.agg #[.int .i64 0, .int .i64 0, .slice none 0 0]) 3 40 := elt_of (by kernel_rfl) (by kernel_rfl) rfl (by omega) (by omega)
theorem eltSe : Elt 73 111 (.agg #[.int .i64 0, .int .i64 0, .int .i64 0]) 3 24 := elt_of (by kernel_rfl) (by kernel_rfl) rfl (by omega) (by omega)
theorem flatI (zs : List Int) : FlatR (zs.map fun z => [.int z]) 1 := fun r hr => by
  obtain ⟨z, _, rfl⟩ := List.mem_map.1 hr
  exact ⟨rfl, fun d hd => by rw [List.mem_singleton] at hd; subst hd; exact ⟨_, rfl, rfl⟩⟩
theorem flatSe (l : List Se) : FlatR (l.map encSe) 3 := fun r hr => by
  obtain ⟨z, _, rfl⟩ := List.mem_map.1 hr
  refine ⟨rfl, fun d hd => ?_⟩
  unfold encSe at hd
  simp only [List.mem_cons, List.not_mem_nil, or_false] at hd
  rcases hd with rfl | rfl | rfl <;> exact ⟨_, rfl, rfl⟩

set_option maxRecDepth 100000 in
set_option maxHeartbeats 3200000 in
theorem specEntryC_d (v : Value) (x : En) (w : World) (h : RdC w w.heap.size (datEn x) v) (hs : SmEn x) : Calls Tryz.prog 90 #[v] w (OwnPost (datEn x) w) := by
  obtain ⟨A2, c2, rfl, r2⟩ := aggEn h
  have HR := Lib.hid r2
  clear h r2
  have HM := Lib.hid (Ms.start w)
  replace HM := Lib.hid (HM.out.new #[.int .i64 x.client, .int .i64 x.seq, .slice A2 x.o.length c2] 106)
  have hm := HM.out.new #[.int .i64 0, .int .i64 0, .slice none 0 0] 106
  simp only [World.size_alloc] at hm
  replace HM := Lib.hid hm
  clear hm
  go_enter Tryz.func90, Tryz.ntmps90
  go_wp2
  obtain ⟨W1, hW, hm⟩ := HM.out.name
  rw [← hW]
  replace HM := Lib.hid hm
  clear hm hW
  replace HM := Lib.hid (HM.out.drew)
  refine wp_region_held_drew (S := fun W => Ms w [.bx w.heap.size (.cells #[.int .i64 x.client, .int .i64 x.seq, .slice A2 x.o.length c2] 106 (0, 0))] W) (by kernel_rfl) (HM.out.pick (ks := [1]) (by decide) rfl) (fun hS => ?_)
  generalize W1.drew = W2 at HM hS  ⊢
  refine tk (v := ?_) 0 3 rfl (fun w' hS' => ?_) hS ?_
  rotate_left
  · go_simp; all_goals (with_reducible rfl)
  try simp only [Act.put, pa, pb, pc]
  refine tk (v := ?_) 1 4 rfl (fun w' hS' => ?_) hS ?_
  rotate_left
  · (try dsimp only at hS'); obtain ⟨q0, q1, q2⟩ := hS'.c3 0 rfl; go_simp; all_goals (with_reducible rfl)
  try simp only [Act.put, pa, pb, pc]
  refine tk (v := ?_) 2 5 rfl (fun w' hS' => ?_) hS ?_
  rotate_left
  · go_simp; all_goals (with_reducible rfl)
  try simp only [Act.put, pa, pb, pc]
  refine tk (v := ?_) 3 6 rfl (fun w' hS' => ?_) hS ?_
  rotate_left
  · (try dsimp only at hS'); obtain ⟨q0, q1, q2⟩ := hS'.c3 0 rfl; go_simp; all_goals (with_reducible rfl)
  try simp only [Act.put, pa, pb, pc]
  refine tk (v := ?_) 4 7 rfl (fun w' hS' => ?_) hS ?_
  rotate_left
  · go_simp; all_goals (with_reducible rfl)
  try simp only [Act.put, pa, pb, pc]
  refine tk (v := ?_) 5 8 rfl (fun w' hS' => ?_) hS ?_
  rotate_left
  · (try dsimp only at hS'); obtain ⟨q0, q1, q2⟩ := hS'.c3 0 rfl; go_simp; all_goals (with_reducible rfl)
  try simp only [Act.put, pa, pb, pc]
  refine r1 6 (some 9) rfl (fun K hK => ?_)
  go_simp
  refine (specCopy_d _ x.o _ (HM.out.arg HR.out) hs.o).mono ?_
  rintro e' W3 ⟨v', rfl, o', b'⟩
  obtain ⟨An, cn, rfl⟩ := sliceP o'.read
  obtain ⟨bo, hm⟩ := HM.out.got o' b'
  clear o' b'
  replace HM := Lib.hid hm
  clear hm
  clear hS
  refine hK.out _ _ (HM.out.pick (ks := [2]) (by decide) rfl) (fun hS => ?_)
  clear hK K
  try simp only [Act.put, pa, pb, pc]
  refine tk (v := ?_) 7 10 rfl (fun w' hS' => ?_) hS ?_
  rotate_left
  · go_simp; all_goals (with_reducible rfl)
  try simp only [Act.put, pa, pb, pc]
  refine r1 8 none rfl (fun K hK => ?_)
  obtain ⟨kr0, kr1, kr2⟩ := HM.out.c3 1 rfl
  obtain ⟨fr0, fr1, fr2⟩ := HM.out.f3 1 rfl
  go_simp
  clear hS kr0 kr1 kr2 fr0 fr1 fr2
  have hm := HM.out.pk [1, 0, 2] (by decide) (by simp)
  simp only [low.pk, List.getElem?_cons_zero, List.getElem?_cons_succ] at hm
  replace HM := Lib.hid hm
  clear hm
  have hm := HM.out.putRow (ys := [.int .i64 x.client, .int .i64 x.seq, .slice An x.o.length cn]) rfl
  simp only [low.putRow, Nat.zero_add, Nat.reduceAdd] at hm
  replace HM := Lib.hid hm
  clear hm
  obtain ⟨W4, hW, hm⟩ := HM.out.name
  rw [← hW]
  replace HM := Lib.hid hm
  clear hm hW
  refine hK.out _ _ (HM.out.pick (ks := [2]) (by decide) rfl) (fun hS => ?_)
  clear hK K
  try simp only [Act.put]
  refine wpAnyH_done (by kernel_rfl) ?_ _
  clear hS
  go_wp2
  obtain ⟨kr0, kr1, kr2⟩ := HM.out.c3 0 rfl
  have hm := HM.out.pk [1, 0, 2] (by decide) (by simp)
  simp only [low.pk, List.getElem?_cons_zero, List.getElem?_cons_succ] at hm
  replace HM := Lib.hid hm
  clear hm
  exact bodyPost_ret (v := .agg #[.int .i64 x.client, .int .i64 x.seq, .slice An x.o.length cn]) (by simp [results, Tryz.results90, go_sem, kr0, kr1, kr2]) rfl (show Ms w (.dt (datEn x) (.agg #[.int .i64 x.client, .int .i64 x.seq, .slice An x.o.length cn]) (bo ++ []) :: _) _ from (HM.out.pk0.pkO.pkF rfl).pkF rfl).post
set_option maxRecDepth 100000 in
set_option maxHeartbeats 3200000 in
theorem specEntriesC_d (v : Value) (l : List En) (w : World) (h : RdC w w.heap.size (encEns l) v) (hs : SmEns l) : Calls Tryz.prog 62 #[v] w (OwnPost (encEns l) w) := by
  obtain ⟨A, c, rfl⟩ := sliceEns h
  have hl := hs.len
  have HR := Lib.hid h
  clear h
  have HM := Lib.hid (Ms.start w)
  replace HM := Lib.hid (HM.out.empty 106 3)
  go_enter Tryz.func62, Tryz.ntmps62
  go_wp2
  go_loopw [3, 9] (fun ov i wr => ∃ (j : Nat) (A1 : Option Addr) (c1 : Nat) (bs : List Nat), j ≤ l.length ∧ i = .int .i64 (j : Int) ∧ ov = .slice A1 j c1 ∧ Ms w [.dt (.rows 106 3 ((l.take j).map encEn)) (.slice A1 j c1) bs] wr) (fun _ i _ => l.length - (intOf i).toNat)
  case atStart => exact ⟨0, _, _, _, Nat.zero_le _, rfl, rfl, HM.out⟩
  case round =>
    obtain ⟨j, A1, c1, bs, hj, rfl, rfl, hm⟩ := hrel
    clear HM
    have HM := Lib.hid hm
    clear hm
    by_cases hlt : j < l.length
    · obtain ⟨b, off, e, A5, c5, rfl, hbb, hp, y0, y1, y2, q2⟩ := atEns HR.out hlt
      have x0 := (HM.out.bl.cell (p := ⟨b, off + j * 3, none⟩) hbb).trans y0
      have x1 := (HM.out.bl.cell (p := ⟨b, off + j * 3 + 1, none⟩) hbb).trans y1
      have x2 := (HM.out.bl.cell (p := ⟨b, off + j * 3 + 2, none⟩) hbb).trans y2
      clear y0 y1 y2
      have hse := hs.at_ (List.mem_of_getElem? hp)
      have HT := Lib.hid (show (l.take (j + 1)).map encEn = (l.take j).map encEn ++ [encEn e] by rw [List.take_add_one, hp]; simp)
      clear hp
      replace HM := Lib.hid (HM.out.new #[.int .i64 e.client, .int .i64 e.seq, .slice A5 e.o.length c5] 106)
      go_wp2_with fail
      obtain ⟨W1, hW, hm⟩ := HM.out.name
      rw [← hW]
      replace HM := Lib.hid hm
      clear hm hW
      refine (specEntryC_d _ e _ (rdEn e (HM.out.arg q2)) hse).mono ?_
      rintro e' W2 ⟨v', rfl, o', b'⟩
      obtain ⟨A6, c6, rfl, -⟩ := aggEn o'.read
      obtain ⟨bn, hm⟩ := HM.out.got o' b'
      clear o' b'
      replace HM := Lib.hid hm
      clear hm
      clear x0 x1 x2
      replace HM := Lib.hid (HM.out.new #[.int .i64 e.client, .int .i64 e.seq, .slice A6 e.o.length c6] 106)
      have hm := HM.out.pk [3, 1, 0, 2] (by decide) (by simp)
      simp only [low.pk, List.getElem?_cons_zero, List.getElem?_cons_succ] at hm
      replace HM := Lib.hid hm
      clear hm
      go_wp2_with (at_builtin; refine wpList_ms1 rfl (.tmp 13) (.tmp 16) 72 rfl eltEn HM.out rfl (by simp; omega) W2.heap.size _ rfl (HM.out.at_ (i := 2) rfl) rfl (by simp [Value.oneCell']) ?_; intro A7 c7 w7 b7 hm)
      have e1 : ((l.take j).map encEn).length = j := by simp; omega
      rw [e1] at hm
      try rw [e1]
      rw [HT.out.symm] at hm
      have HM7 := Lib.hid hm
      clear hm e1 HM
      go_wp2
      go_roundw
      case rel => exact ⟨j + 1, A7, c7, b7, by omega, by go_num, rfl, HM7.out.pick (ks := [0]) (by decide) rfl⟩
      case measure => simp [intOf]; omega
    · obtain rfl : j = l.length := by omega
      have hm := HM.out
      rw [List.take_length] at hm
      have HM7 := Lib.hid hm
      clear hm HM
      go_wp2
      go_ret
      exact (show Ms w [.dt (encEns l) _ _] _ from HM7.out).post
set_option maxRecDepth 100000 in
set_option maxHeartbeats 3200000 in
theorem specCopyD_d (v : Value) (x : Do) (w : World) (h : RdC w w.heap.size (datDo x) v) (hs : SmDo x) : Calls Tryz.prog 35 #[v] w (OwnPost (datDo x) w) := by
  obtain ⟨A2, c2, A3, c3, A4, c4, rfl, r2, r3, r4⟩ := aggDo h
  have ht : x.text.length ≤ 1048576 := hs.text
  have hl := hs.list.len
  have hl4 := hs.seen.len
  have R2 := Lib.hid r2
  have R3 := Lib.hid r3
  have R4 := Lib.hid r4
  clear h r2 r3 r4
  have HM := Lib.hid (Ms.start w)
  replace HM := Lib.hid (HM.out.new #[.string x.name, .int .i64 x.from_, .slice A2 x.text.length c2, .slice A3 x.list.length c3, .slice A4 x.seen.length c4] 75)
  have hm := HM.out.new #[.string ⟨#[]⟩, .int .i64 0, .slice none 0 0, .slice none 0 0, .slice none 0 0] 75
  simp only [World.size_alloc] at hm
  replace HM := Lib.hid hm
  clear hm
  go_enter Tryz.func35, Tryz.ntmps35
  go_wp2
  obtain ⟨W1, hW, hm⟩ := HM.out.name
  rw [← hW]
  replace HM := Lib.hid hm
  clear hm hW
  replace HM := Lib.hid (HM.out.drew)
  refine wp_region_held_drew (S := fun W => Ms w [.bx w.heap.size (.cells #[.string x.name, .int .i64 x.from_, .slice A2 x.text.length c2, .slice A3 x.list.length c3, .slice A4 x.seen.length c4] 75 (0, 0))] W) (by kernel_rfl) (HM.out.pick (ks := [1]) (by decide) rfl) (fun hS => ?_)
  generalize W1.drew = W2 at HM hS  ⊢
  refine tk (v := ?_) 0 3 rfl (fun w' hS' => ?_) hS ?_
  rotate_left
  · go_simp; all_goals (with_reducible rfl)
  try simp only [Act.put, pa, pb, pc]
  refine tk (v := ?_) 1 4 rfl (fun w' hS' => ?_) hS ?_
  rotate_left
  · (try dsimp only at hS'); obtain ⟨q0, q1, q2, q3, q4⟩ := hS'.c5 0 rfl; go_simp; all_goals (with_reducible rfl)
  try simp only [Act.put, pa, pb, pc]
  refine tk (v := ?_) 2 5 rfl (fun w' hS' => ?_) hS ?_
  rotate_left
  · go_simp; all_goals (with_reducible rfl)
  try simp only [Act.put, pa, pb, pc]
  refine tk (v := ?_) 3 6 rfl (fun w' hS' => ?_) hS ?_
  rotate_left
  · (try dsimp only at hS'); obtain ⟨q0, q1, q2, q3, q4⟩ := hS'.c5 0 rfl; go_simp; all_goals (with_reducible rfl)
  try simp only [Act.put, pa, pb, pc]
  refine tk (v := ?_) 5 8 rfl (fun w' hS' => ?_) hS ?_
  rotate_left
  · go_simp; all_goals (with_reducible rfl)
  try simp only [Act.put, pa, pb, pc]
  refine tk (v := ?_) 6 9 rfl (fun w' hS' => ?_) hS ?_
  rotate_left
  · (try dsimp only at hS'); obtain ⟨q0, q1, q2, q3, q4⟩ := hS'.c5 0 rfl; go_simp; all_goals (with_reducible rfl)
  try simp only [Act.put, pa, pb, pc]
  refine tk (v := ?_) 8 11 rfl (fun w' hS' => ?_) hS ?_
  rotate_left
  · go_simp; all_goals (with_reducible rfl)
  try simp only [Act.put, pa, pb, pc]
  refine tk (v := ?_) 9 12 rfl (fun w' hS' => ?_) hS ?_
  rotate_left
  · (try dsimp only at hS'); obtain ⟨q0, q1, q2, q3, q4⟩ := hS'.c5 0 rfl; go_simp; all_goals (with_reducible rfl)
  try simp only [Act.put, pa, pb, pc]
  refine tk (v := ?_) 12 15 rfl (fun w' hS' => ?_) hS ?_
  rotate_left
  · go_simp; all_goals (with_reducible rfl)
  try simp only [Act.put, pa, pb, pc]
  refine tk (v := ?_) 13 16 rfl (fun w' hS' => ?_) hS ?_
  rotate_left
  · (try dsimp only at hS'); obtain ⟨q0, q1, q2, q3, q4⟩ := hS'.c5 0 rfl; go_simp; all_goals (with_reducible rfl)
  try simp only [Act.put, pa, pb, pc]
  refine wpAnyH_ready (rs := [4, 11]) (by kernel_rfl) (by simp) ?_
  refine AllReadyH.cons (o := ⟨some 7, _, _, _, _, _⟩) rfl (fun K hK => ?_) ?_
  · go_simp
    replace HM := Lib.hid (HM.out.empty 3 1)
    obtain ⟨W3, hW, hm⟩ := HM.out.name
    rw [← hW]
    replace HM := Lib.hid hm
    clear hm hW
    clear hS
    refine hK.out _ _ (HM.out.pick (ks := [2]) (by decide) rfl) (fun hS => ?_)
    clear hK K
    try simp only [Act.put, pa, pb, pc]
    refine wpAnyH_ready (rs := [7, 11]) (by kernel_rfl) (by simp) ?_
    refine AllReadyH.cons (o := ⟨some 10, _, _, _, _, _⟩) rfl (fun K hK => ?_) ?_
    · refine step_msAll (by rfl) (.tmp 7) (.tmp 9) 61 (by rfl) eltInt HM.out (by rfl) A2 x.text.length c2 (by rfl) (HM.out.arg R2.out) (flatI _) (by simp; omega) ?_
      intro Ant cnt W4 bnt hm
      simp only [List.nil_append, List.length_nil, Nat.zero_add] at hm ⊢
      replace HM := Lib.hid hm
      clear hm
      clear hS
      refine hK.out _ _ (HM.out.pick (ks := [2]) (by decide) rfl) (fun hS => ?_)
      clear hK K
      try simp only [Act.put, pa, pb, pc]
      refine wpAnyH_ready (rs := [10, 11]) (by kernel_rfl) (by simp) ?_
      refine AllReadyH.cons (o := ⟨some 13, _, _, _, _, _⟩) rfl (fun K hK => ?_) ?_
      · go_simp
        refine (specEntriesC_d _ x.list _ (HM.out.arg R3.out) hs.list).mono ?_
        rintro e' W5 ⟨v', rfl, o', b'⟩
        obtain ⟨Anl, cnl, rfl⟩ := sliceEns o'.read
        obtain ⟨bl, hm⟩ := HM.out.got o' b'
        clear o' b'
        replace HM := Lib.hid hm
        clear hm
        clear hS
        refine hK.out _ _ (HM.out.pick (ks := [3]) (by decide) rfl) (fun hS => ?_)
        clear hK K
        try simp only [Act.put, pa, pb, pc]
        refine r1 11 (some 14) rfl (fun K hK => ?_)
        go_simp
        replace HM := Lib.hid (HM.out.empty 111 3)
        obtain ⟨W6, hW, hm⟩ := HM.out.name
        rw [← hW]
        replace HM := Lib.hid hm
        clear hm hW
        clear hS
        refine hK.out _ _ (HM.out.pick (ks := [4]) (by decide) rfl) (fun hS => ?_)
        clear hK K
        try simp only [Act.put, pa, pb, pc]
        refine r1 14 (some 17) rfl (fun K hK => ?_)
        refine step_msAll (by rfl) (.tmp 14) (.tmp 16) 73 (by rfl) eltSe HM.out (by rfl) A4 x.seen.length c4 (by rfl) (HM.out.arg R4.out) (flatSe _) (by simp; omega) ?_
        intro Ans cns W7 bns hm
        simp only [List.nil_append, List.length_nil, Nat.zero_add] at hm ⊢
        replace HM := Lib.hid hm
        clear hm
        clear hS
        refine hK.out _ _ (HM.out.pick (ks := [4]) (by decide) rfl) (fun hS => ?_)
        clear hK K
        try simp only [Act.put, pa, pb, pc]
        refine tk (v := ?_) 15 18 rfl (fun w' hS' => ?_) hS ?_
        rotate_left
        · go_simp; all_goals (with_reducible rfl)
        try simp only [Act.put, pa, pb, pc]
        refine r1 16 none rfl (fun K hK => ?_)
        obtain ⟨kr0, kr1, kr2, kr3, kr4⟩ := HM.out.c5 3 rfl
        obtain ⟨fr0, fr1, fr2, fr3, fr4⟩ := HM.out.f5 3 rfl
        go_simp
        clear hS kr0 kr1 kr2 kr3 kr4 fr0 fr1 fr2 fr3 fr4
        have hm := HM.out.pk [3, 0, 1, 2, 4] (by decide) (by simp)
        simp only [low.pk, List.getElem?_cons_zero, List.getElem?_cons_succ] at hm
        replace HM := Lib.hid hm
        clear hm
        have hm := HM.out.putRow (ys := [.string x.name, .int .i64 x.from_, .slice Ant x.text.length cnt, .slice Anl x.list.length cnl, .slice Ans x.seen.length cns]) rfl
        simp only [low.putRow, Nat.zero_add, Nat.reduceAdd] at hm
        replace HM := Lib.hid hm
        clear hm
        obtain ⟨W8, hW, hm⟩ := HM.out.name
        rw [← hW]
        replace HM := Lib.hid hm
        clear hm hW
        refine hK.out _ _ (HM.out.pick (ks := [4]) (by decide) rfl) (fun hS => ?_)
        clear hK K
        try simp only [Act.put]
        refine wpAnyH_done (by kernel_rfl) ?_ _
        clear hS
        go_wp2
        obtain ⟨kr0, kr1, kr2, kr3, kr4⟩ := HM.out.c5 0 rfl
        have hm := HM.out.pk [1, 2, 3, 0, 4] (by decide) (by simp)
        simp only [low.pk, List.getElem?_cons_zero, List.getElem?_cons_succ] at hm
        replace HM := Lib.hid hm
        clear hm
        exact bodyPost_ret (v := .agg #[.string x.name, .int .i64 x.from_, .slice Ant x.text.length cnt, .slice Anl x.list.length cnl, .slice Ans x.seen.length cns]) (by simp [results, Tryz.results35, go_sem, kr0, kr1, kr2, kr3, kr4]) rfl (show Ms w (.dt (datDo x) (.agg #[.string x.name, .int .i64 x.from_, .slice Ant x.text.length cnt, .slice Anl x.list.length cnl, .slice Ans x.seen.length cns]) _ :: _) _ from (HM.out.pk0.pkO.pkO.pkO.pkF rfl).pkF rfl).post
      refine AllReadyH.cons (o := ⟨some 14, _, _, _, _, _⟩) rfl (fun K hK => ?_) AllReadyH.nil
      go_simp
      replace HM := Lib.hid (HM.out.empty 111 3)
      obtain ⟨W9, hW, hm⟩ := HM.out.name
      rw [← hW]
      replace HM := Lib.hid hm
      clear hm hW
      clear hS
      refine hK.out _ _ (HM.out.pick (ks := [3]) (by decide) rfl) (fun hS => ?_)
      clear hK K
      try simp only [Act.put, pa, pb, pc]
      refine r1 10 (some 13) rfl (fun K hK => ?_)
      go_simp
      refine (specEntriesC_d _ x.list _ (HM.out.arg R3.out) hs.list).mono ?_
      rintro e' W10 ⟨v', rfl, o', b'⟩
      obtain ⟨Anl, cnl, rfl⟩ := sliceEns o'.read
      obtain ⟨bl, hm⟩ := HM.out.got o' b'
      clear o' b'
      replace HM := Lib.hid hm
      clear hm
      clear hS
      refine hK.out _ _ (HM.out.pick (ks := [4]) (by decide) rfl) (fun hS => ?_)
      clear hK K
      try simp only [Act.put, pa, pb, pc]
      refine r1 14 (some 17) rfl (fun K hK => ?_)
      have hm := HM.out.pk [1, 0, 2, 3, 4] (by decide) (by simp)
      simp only [low.pk, List.getElem?_cons_zero, List.getElem?_cons_succ] at hm
      replace HM := Lib.hid hm
      clear hm
      refine step_msAll (by rfl) (.tmp 14) (.tmp 16) 73 (by rfl) eltSe HM.out (by rfl) A4 x.seen.length c4 (by rfl) (HM.out.arg R4.out) (flatSe _) (by simp; omega) ?_
      intro Ans cns W11 bns hm
      simp only [List.nil_append, List.length_nil, Nat.zero_add] at hm ⊢
      replace HM := Lib.hid hm
      clear hm
      clear hS
      refine hK.out _ _ (HM.out.pick (ks := [4]) (by decide) rfl) (fun hS => ?_)
      clear hK K
      try simp only [Act.put, pa, pb, pc]
      refine tk (v := ?_) 15 18 rfl (fun w' hS' => ?_) hS ?_
      rotate_left
      · go_simp; all_goals (with_reducible rfl)
      try simp only [Act.put, pa, pb, pc]
      refine r1 16 none rfl (fun K hK => ?_)
      obtain ⟨kr0, kr1, kr2, kr3, kr4⟩ := HM.out.c5 3 rfl
      obtain ⟨fr0, fr1, fr2, fr3, fr4⟩ := HM.out.f5 3 rfl
      go_simp
      clear hS kr0 kr1 kr2 kr3 kr4 fr0 fr1 fr2 fr3 fr4
      have hm := HM.out.pk [3, 0, 1, 2, 4] (by decide) (by simp)
      simp only [low.pk, List.getElem?_cons_zero, List.getElem?_cons_succ] at hm
      replace HM := Lib.hid hm
      clear hm
      have hm := HM.out.putRow (ys := [.string x.name, .int .i64 x.from_, .slice Ant x.text.length cnt, .slice Anl x.list.length cnl, .slice Ans x.seen.length cns]) rfl
      simp only [low.putRow, Nat.zero_add, Nat.reduceAdd] at hm
      replace HM := Lib.hid hm
      clear hm
      obtain ⟨W12, hW, hm⟩ := HM.out.name
      rw [← hW]
      replace HM := Lib.hid hm
      clear hm hW
      refine hK.out _ _ (HM.out.pick (ks := [4]) (by decide) rfl) (fun hS => ?_)
      clear hK K
      try simp only [Act.put]
      refine wpAnyH_done (by kernel_rfl) ?_ _
      clear hS
      go_wp2
      obtain ⟨kr0, kr1, kr2, kr3, kr4⟩ := HM.out.c5 0 rfl
      have hm := HM.out.pk [1, 2, 3, 0, 4] (by decide) (by simp)
      simp only [low.pk, List.getElem?_cons_zero, List.getElem?_cons_succ] at hm
      replace HM := Lib.hid hm
      clear hm
      exact bodyPost_ret (v := .agg #[.string x.name, .int .i64 x.from_, .slice Ant x.text.length cnt, .slice Anl x.list.length cnl, .slice Ans x.seen.length cns]) (by simp [results, Tryz.results35, go_sem, kr0, kr1, kr2, kr3, kr4]) rfl (show Ms w (.dt (datDo x) (.agg #[.string x.name, .int .i64 x.from_, .slice Ant x.text.length cnt, .slice Anl x.list.length cnl, .slice Ans x.seen.length cns]) _ :: _) _ from (HM.out.pk0.pkO.pkO.pkO.pkF rfl).pkF rfl).post
    refine AllReadyH.cons (o := ⟨some 14, _, _, _, _, _⟩) rfl (fun K hK => ?_) AllReadyH.nil
    go_simp
    replace HM := Lib.hid (HM.out.empty 111 3)
    obtain ⟨W13, hW, hm⟩ := HM.out.name
    rw [← hW]
    replace HM := Lib.hid hm
    clear hm hW
    clear hS
    refine hK.out _ _ (HM.out.pick (ks := [3]) (by decide) rfl) (fun hS => ?_)
    clear hK K
    try simp only [Act.put, pa, pb, pc]
    refine r1 7 (some 10) rfl (fun K hK => ?_)
    have hm := HM.out.pk [1, 0, 2, 3] (by decide) (by simp)
    simp only [low.pk, List.getElem?_cons_zero, List.getElem?_cons_succ] at hm
    replace HM := Lib.hid hm
    clear hm
    refine step_msAll (by rfl) (.tmp 7) (.tmp 9) 61 (by rfl) eltInt HM.out (by rfl) A2 x.text.length c2 (by rfl) (HM.out.arg R2.out) (flatI _) (by simp; omega) ?_
    intro Ant cnt W14 bnt hm
    simp only [List.nil_append, List.length_nil, Nat.zero_add] at hm ⊢
    replace HM := Lib.hid hm
    clear hm
    clear hS
    refine hK.out _ _ (HM.out.pick (ks := [3]) (by decide) rfl) (fun hS => ?_)
    clear hK K
    try simp only [Act.put, pa, pb, pc]
    refine r1 10 (some 13) rfl (fun K hK => ?_)
    go_simp
    refine (specEntriesC_d _ x.list _ (HM.out.arg R3.out) hs.list).mono ?_
    rintro e' W15 ⟨v', rfl, o', b'⟩
    obtain ⟨Anl, cnl, rfl⟩ := sliceEns o'.read
    obtain ⟨bl, hm⟩ := HM.out.got o' b'
    clear o' b'
    replace HM := Lib.hid hm
    clear hm
    clear hS
    refine hK.out _ _ (HM.out.pick (ks := [4]) (by decide) rfl) (fun hS => ?_)
    clear hK K
    try simp only [Act.put, pa, pb, pc]
    refine r1 14 (some 17) rfl (fun K hK => ?_)
    have hm := HM.out.pk [2, 0, 1, 3, 4] (by decide) (by simp)
    simp only [low.pk, List.getElem?_cons_zero, List.getElem?_cons_succ] at hm
    replace HM := Lib.hid hm
    clear hm
    refine step_msAll (by rfl) (.tmp 14) (.tmp 16) 73 (by rfl) eltSe HM.out (by rfl) A4 x.seen.length c4 (by rfl) (HM.out.arg R4.out) (flatSe _) (by simp; omega) ?_
    intro Ans cns W16 bns hm
    simp only [List.nil_append, List.length_nil, Nat.zero_add] at hm ⊢
    replace HM := Lib.hid hm
    clear hm
    clear hS
    refine hK.out _ _ (HM.out.pick (ks := [4]) (by decide) rfl) (fun hS => ?_)
    clear hK K
    try simp only [Act.put, pa, pb, pc]
    refine tk (v := ?_) 15 18 rfl (fun w' hS' => ?_) hS ?_
    rotate_left
    · go_simp; all_goals (with_reducible rfl)
    try simp only [Act.put, pa, pb, pc]
    refine r1 16 none rfl (fun K hK => ?_)
    obtain ⟨kr0, kr1, kr2, kr3, kr4⟩ := HM.out.c5 3 rfl
    obtain ⟨fr0, fr1, fr2, fr3, fr4⟩ := HM.out.f5 3 rfl
    go_simp
    clear hS kr0 kr1 kr2 kr3 kr4 fr0 fr1 fr2 fr3 fr4
    have hm := HM.out.pk [3, 0, 1, 2, 4] (by decide) (by simp)
    simp only [low.pk, List.getElem?_cons_zero, List.getElem?_cons_succ] at hm
    replace HM := Lib.hid hm
    clear hm
    have hm := HM.out.putRow (ys := [.string x.name, .int .i64 x.from_, .slice Ant x.text.length cnt, .slice Anl x.list.length cnl, .slice Ans x.seen.length cns]) rfl
    simp only [low.putRow, Nat.zero_add, Nat.reduceAdd] at hm
    replace HM := Lib.hid hm
    clear hm
    obtain ⟨W17, hW, hm⟩ := HM.out.name
    rw [← hW]
    replace HM := Lib.hid hm
    clear hm hW
    refine hK.out _ _ (HM.out.pick (ks := [4]) (by decide) rfl) (fun hS => ?_)
    clear hK K
    try simp only [Act.put]
    refine wpAnyH_done (by kernel_rfl) ?_ _
    clear hS
    go_wp2
    obtain ⟨kr0, kr1, kr2, kr3, kr4⟩ := HM.out.c5 0 rfl
    have hm := HM.out.pk [1, 2, 3, 0, 4] (by decide) (by simp)
    simp only [low.pk, List.getElem?_cons_zero, List.getElem?_cons_succ] at hm
    replace HM := Lib.hid hm
    clear hm
    exact bodyPost_ret (v := .agg #[.string x.name, .int .i64 x.from_, .slice Ant x.text.length cnt, .slice Anl x.list.length cnl, .slice Ans x.seen.length cns]) (by simp [results, Tryz.results35, go_sem, kr0, kr1, kr2, kr3, kr4]) rfl (show Ms w (.dt (datDo x) (.agg #[.string x.name, .int .i64 x.from_, .slice Ant x.text.length cnt, .slice Anl x.list.length cnl, .slice Ans x.seen.length cns]) _ :: _) _ from (HM.out.pk0.pkO.pkO.pkO.pkF rfl).pkF rfl).post
  refine AllReadyH.cons (o := ⟨some 14, _, _, _, _, _⟩) rfl (fun K hK => ?_) AllReadyH.nil
  go_simp
  replace HM := Lib.hid (HM.out.empty 111 3)
  obtain ⟨W18, hW, hm⟩ := HM.out.name
  rw [← hW]
  replace HM := Lib.hid hm
  clear hm hW
  clear hS
  refine hK.out _ _ (HM.out.pick (ks := [2]) (by decide) rfl) (fun hS => ?_)
  clear hK K
  try simp only [Act.put, pa, pb, pc]
  refine r1 4 (some 7) rfl (fun K hK => ?_)
  go_simp
  replace HM := Lib.hid (HM.out.empty 3 1)
  obtain ⟨W19, hW, hm⟩ := HM.out.name
  rw [← hW]
  replace HM := Lib.hid hm
  clear hm hW
  clear hS
  refine hK.out _ _ (HM.out.pick (ks := [3]) (by decide) rfl) (fun hS => ?_)
  clear hK K
  try simp only [Act.put, pa, pb, pc]
  refine r1 7 (some 10) rfl (fun K hK => ?_)
  refine step_msAll (by rfl) (.tmp 7) (.tmp 9) 61 (by rfl) eltInt HM.out (by rfl) A2 x.text.length c2 (by rfl) (HM.out.arg R2.out) (flatI _) (by simp; omega) ?_
  intro Ant cnt W20 bnt hm
  simp only [List.nil_append, List.length_nil, Nat.zero_add] at hm ⊢
  replace HM := Lib.hid hm
  clear hm
  clear hS
  refine hK.out _ _ (HM.out.pick (ks := [3]) (by decide) rfl) (fun hS => ?_)
  clear hK K
  try simp only [Act.put, pa, pb, pc]
  refine r1 10 (some 13) rfl (fun K hK => ?_)
  go_simp
  refine (specEntriesC_d _ x.list _ (HM.out.arg R3.out) hs.list).mono ?_
  rintro e' W21 ⟨v', rfl, o', b'⟩
  obtain ⟨Anl, cnl, rfl⟩ := sliceEns o'.read
  obtain ⟨bl, hm⟩ := HM.out.got o' b'
  clear o' b'
  replace HM := Lib.hid hm
  clear hm
  clear hS
  refine hK.out _ _ (HM.out.pick (ks := [4]) (by decide) rfl) (fun hS => ?_)
  clear hK K
  try simp only [Act.put, pa, pb, pc]
  refine r1 14 (some 17) rfl (fun K hK => ?_)
  have hm := HM.out.pk [2, 0, 1, 3, 4] (by decide) (by simp)
  simp only [low.pk, List.getElem?_cons_zero, List.getElem?_cons_succ] at hm
  replace HM := Lib.hid hm
  clear hm
  refine step_msAll (by rfl) (.tmp 14) (.tmp 16) 73 (by rfl) eltSe HM.out (by rfl) A4 x.seen.length c4 (by rfl) (HM.out.arg R4.out) (flatSe _) (by simp; omega) ?_
  intro Ans cns W22 bns hm
  simp only [List.nil_append, List.length_nil, Nat.zero_add] at hm ⊢
  replace HM := Lib.hid hm
  clear hm
  clear hS
  refine hK.out _ _ (HM.out.pick (ks := [4]) (by decide) rfl) (fun hS => ?_)
  clear hK K
  try simp only [Act.put, pa, pb, pc]
  refine tk (v := ?_) 15 18 rfl (fun w' hS' => ?_) hS ?_
  rotate_left
  · go_simp; all_goals (with_reducible rfl)
  try simp only [Act.put, pa, pb, pc]
  refine r1 16 none rfl (fun K hK => ?_)
  obtain ⟨kr0, kr1, kr2, kr3, kr4⟩ := HM.out.c5 3 rfl
  obtain ⟨fr0, fr1, fr2, fr3, fr4⟩ := HM.out.f5 3 rfl
  go_simp
  clear hS kr0 kr1 kr2 kr3 kr4 fr0 fr1 fr2 fr3 fr4
  have hm := HM.out.pk [3, 0, 1, 2, 4] (by decide) (by simp)
  simp only [low.pk, List.getElem?_cons_zero, List.getElem?_cons_succ] at hm
  replace HM := Lib.hid hm
  clear hm
  have hm := HM.out.putRow (ys := [.string x.name, .int .i64 x.from_, .slice Ant x.text.length cnt, .slice Anl x.list.length cnl, .slice Ans x.seen.length cns]) rfl
  simp only [low.putRow, Nat.zero_add, Nat.reduceAdd] at hm
  replace HM := Lib.hid hm
  clear hm
  obtain ⟨W23, hW, hm⟩ := HM.out.name
  rw [← hW]
  replace HM := Lib.hid hm
  clear hm hW
  refine hK.out _ _ (HM.out.pick (ks := [4]) (by decide) rfl) (fun hS => ?_)
  clear hK K
  try simp only [Act.put]
  refine wpAnyH_done (by kernel_rfl) ?_ _
  clear hS
  go_wp2
  obtain ⟨kr0, kr1, kr2, kr3, kr4⟩ := HM.out.c5 0 rfl
  have hm := HM.out.pk [1, 2, 3, 0, 4] (by decide) (by simp)
  simp only [low.pk, List.getElem?_cons_zero, List.getElem?_cons_succ] at hm
  replace HM := Lib.hid hm
  clear hm
  exact bodyPost_ret (v := .agg #[.string x.name, .int .i64 x.from_, .slice Ant x.text.length cnt, .slice Anl x.list.length cnl, .slice Ans x.seen.length cns]) (by simp [results, Tryz.results35, go_sem, kr0, kr1, kr2, kr3, kr4]) rfl (show Ms w (.dt (datDo x) (.agg #[.string x.name, .int .i64 x.from_, .slice Ant x.text.length cnt, .slice Anl x.list.length cnl, .slice Ans x.seen.length cns]) _ :: _) _ from (HM.out.pk0.pkO.pkO.pkO.pkF rfl).pkF rfl).post
end Go.Proofs.YtamainhocghlgaaGreatDoor.low


/-
  Contracts of spec.RingOk, RingNew, RingLag, RingResync and l10Copy. Written by mkring.py.
-/
namespace Go.Proofs.YtamainhocghlgaaGreatDoor.low
open Go.RowKit
set_option linter.unusedVariables false

set_option maxRecDepth 100000 in
set_option maxHeartbeats 3200000 in
theorem specRingOk_d (v : Value) (x : Ri) (w : World) (h : RdC w w.heap.size (datRi x) v) (hs : SmRi x) : Calls Tryz.prog 33 #[v] w (Tells (ringB x) w) := by
  have HR := Lib.hid h
  obtain ⟨A3, c3, rfl, r3⟩ := aggRi h
  have R3 := Lib.hid r3
  have hl := hs.list.len
  clear h r3
  have HM := Lib.hid (Ms.start w)
  replace HM := Lib.hid (HM.out.new #[.int .i64 x.cap, .int .i64 x.next, .bool x.out, .slice A3 x.list.length c3] 78)
  go_enter Tryz.func33, Tryz.ntmps33
  go_wp2_with fail
  obtain ⟨W1, hW, hm⟩ := HM.out.name
  rw [← hW]
  replace HM := Lib.hid hm
  clear hm hW
  go_loopw [8] (fun i wr => ∃ j : Nat, j ≤ x.list.length ∧ i = .int .i64 (j : Int) ∧ (x.list.take j).all entryB = true ∧ Ms w [.bx w.heap.size (.cells #[.int .i64 x.cap, .int .i64 x.next, .bool x.out, .slice A3 x.list.length c3] 78 (0, 0))] wr) (fun i _ => x.list.length - (intOf i).toNat)
  case atStart => exact ⟨0, Nat.zero_le _, rfl, by simp, HM.out⟩
  case round =>
    obtain ⟨j, hj, rfl, hi, hm⟩ := hrel
    clear HM
    have HM := Lib.hid hm
    have HI := Lib.hid hi
    clear hm hi
    by_cases hlt : j < x.list.length
    · obtain ⟨b, off, e, A5, c5, rfl, hbb, hp, y0, y1, y2, q2⟩ := atEns R3.out hlt
      have x0 := (HM.out.bl.cell (p := ⟨b, off + j * 3, none⟩) hbb).trans y0
      have x1 := (HM.out.bl.cell (p := ⟨b, off + j * 3 + 1, none⟩) hbb).trans y1
      have x2 := (HM.out.bl.cell (p := ⟨b, off + j * 3 + 2, none⟩) hbb).trans y2
      clear y0 y1 y2
      have hse := hs.list.at_ (List.mem_of_getElem? hp)
      have HT := Lib.hid (show (x.list.take (j + 1)).all entryB = entryB e by rw [List.take_add_one, hp, List.all_append, HI.out]; simp)
      have HF := Lib.hid (show entryB e = false → x.list.all entryB = false from fun e1 => Bool.eq_false_iff.2 (fun e2 => by rw [List.all_eq_true.1 e2 e (List.mem_of_getElem? hp)] at e1; cases e1))
      clear hp
      replace HM := Lib.hid (HM.out.new #[.int .i64 e.client, .int .i64 e.seq, .slice A5 e.o.length c5] 106)
      go_wp2_with fail
      obtain ⟨W2, hW, hm⟩ := HM.out.name
      rw [← hW]
      replace HM := Lib.hid hm
      clear hm hW
      refine (specEntryOk_d _ e _ (rdEn e (HM.out.arg q2)) hse).mono ?_
      rintro e' W3 ⟨rfl, b'⟩
      replace HM := Lib.hid (HM.out.past b')
      clear b'
      clear x0 x1 x2 hse
      cases h1 : entryB e
      · go_wp2
        go_ret
        exact ⟨ret_b (by unfold ringB; rw [HF.out h1]; rfl), HM.out.bl⟩
      go_wp2
      go_roundw
      case rel => exact ⟨j + 1, by omega, by go_num, by rw [HT.out, h1], HM.out.pick (ks := [1]) (by decide) rfl⟩
      case measure => simp [intOf]; omega
    · obtain rfl : j = x.list.length := by omega
      have HI2 := Lib.hid (show x.list.all entryB = true by have := HI.out; rwa [List.take_length] at this)
      clear HI
      obtain ⟨kx0, kx1, kx2, kx3⟩ := HM.out.c4 0 rfl
      go_wp2_with fail
      refine (in_any _ _ _ _).mono ?_
      rintro e w1 ⟨rfl, rfl⟩
      cases h1 : inB x.cap 1 6
      · go_wp2
        go_ret
        exact ⟨ret_b (by unfold ringB; rw [HI2.out, h1]; rfl), HM.out.bl⟩
      go_wp2_with fail
      refine (in_any _ _ _ _).mono ?_
      rintro e w1 ⟨rfl, rfl⟩
      cases h2 : inB x.next 1 1000000000
      · go_wp2
        go_ret
        exact ⟨ret_b (by unfold ringB; rw [HI2.out, h1, h2]; rfl), HM.out.bl⟩
      by_cases h3 : (x.list.length : Int) ≤ x.cap
      rotate_left
      · have g3 : decide ((x.list.length : Int) ≤ x.cap) = false := decide_eq_false h3
        go_wp2
        go_ret
        exact ⟨ret_b (by unfold ringB; rw [HI2.out, h1, h2, g3]; rfl), HM.out.bl⟩
      have g3 : decide ((x.list.length : Int) ≤ x.cap) = true := decide_eq_true h3
      cases h4 : x.out
      · rw [h4] at kx2
        go_wp2
        go_ret
        exact ⟨ret_b (by unfold ringB; rw [HI2.out, h1, h2, g3, h4]; rfl), HM.out.bl⟩
      rw [h4] at kx2
      have HQ := Lib.hid (show ringB x = decide ((x.list.length : Int) = 0) by unfold ringB; rw [HI2.out, h1, h2, g3, h4]; rfl)
      by_cases h5 : x.list.length = 0
      · have g5 : ((x.list.length : Int) == 0) = true := by simp [h5]
        have HQ2 := Lib.hid (show ringB x = true by rw [HQ.out]; simp [h5])
        clear h5
        go_wp2
        go_ret
        exact ⟨ret_b HQ2.out.symm, HM.out.bl⟩
      have g5 : ((x.list.length : Int) == 0) = false := by rw [beq_eq_false_iff_ne]; omega
      have HQ2 := Lib.hid (show ringB x = false by rw [HQ.out]; exact decide_eq_false (by omega))
      clear h5
      go_wp2
      go_ret
      exact ⟨ret_b HQ2.out.symm, HM.out.bl⟩
end Go.Proofs.YtamainhocghlgaaGreatDoor.low


/-
  Contract of spec.RingSame. Written by mkring3.py.
-/
namespace Go.Proofs.YtamainhocghlgaaGreatDoor.low
open Go.RowKit
set_option linter.unusedVariables false

end Go.Proofs.YtamainhocghlgaaGreatDoor.low


/-
  Contracts of spec.HubDoc, HubSub and HubSame. Written by mkhub1.py.
-/
namespace Go.Proofs.YtamainhocghlgaaGreatDoor.low
open Go.RowKit
set_option linter.unusedVariables false

set_option maxRecDepth 100000 in
set_option maxHeartbeats 3200000 in
theorem specHubDoc_d (v : Value) (x : Hu) (s : ByteArray) (w : World) (h : RdC w w.heap.size (datHu x) v) (hs : SmHu x) : Calls Tryz.prog 32 #[v, .string s] w (Nums1 (hubDocT x s) w) := by
  have HR := Lib.hid h
  obtain ⟨A1, ca, A2, cb, rfl, r1, r2⟩ := aggHu h
  have R1 := Lib.hid r1
  have R2 := Lib.hid r2
  have hl1 := hs.docs.len
  have hl2 := hs.subs.len
  clear h r1 r2
  have HM := Lib.hid (Ms.start w)
  replace HM := Lib.hid (HM.out.new #[.bool x.shut, .slice A1 x.docs.length ca, .slice A2 x.subs.length cb, .int .i64 x.last] 30)
  go_enter Tryz.func32, Tryz.ntmps32
  go_wp2_with fail
  obtain ⟨W1, hW, hm⟩ := HM.out.name
  rw [← hW]
  replace HM := Lib.hid hm
  clear hm hW
  go_loopw [10] (fun i wr => ∃ j : Nat, j ≤ x.docs.length ∧ i = .int .i64 (j : Int) ∧ (∀ i, i < j → ∀ y, x.docs[i]? = some y → eqSt y.name s = false) ∧ Ms w [.bx w.heap.size (.cells #[.bool x.shut, .slice A1 x.docs.length ca, .slice A2 x.subs.length cb, .int .i64 x.last] 30 (0, 0))] wr) (fun i _ => x.docs.length - (intOf i).toNat)
  case atStart => exact ⟨0, Nat.zero_le _, rfl, fun i hi => absurd hi (Nat.not_lt_zero _), HM.out⟩
  case round =>
    obtain ⟨j, hj, rfl, hi, hm⟩ := hrel
    clear HM
    have HM := Lib.hid hm
    have HI := Lib.hid hi
    clear hm hi
    by_cases hlt : j < x.docs.length
    · obtain ⟨b, off, y, C2, c2, C3, c3, C4, c4, rfl, hbb, hp, y0, y1, y2, y3, y4, q2, q3, q4⟩ := atDos R1.out hlt
      have x0 := (HM.out.bl.cell (p := ⟨b, off + j * 5, none⟩) hbb).trans y0
      have x1 := (HM.out.bl.cell (p := ⟨b, off + j * 5 + 1, none⟩) hbb).trans y1
      have x2 := (HM.out.bl.cell (p := ⟨b, off + j * 5 + 2, none⟩) hbb).trans y2
      have x3 := (HM.out.bl.cell (p := ⟨b, off + j * 5 + 3, none⟩) hbb).trans y3
      have x4 := (HM.out.bl.cell (p := ⟨b, off + j * 5 + 4, none⟩) hbb).trans y4
      clear y0 y1 y2 y3 y4
      have HP := Lib.hid hp
      clear hp
      replace HM := Lib.hid (HM.out.new #[.string y.name, .int .i64 y.from_, .slice C2 y.text.length c2, .slice C3 y.list.length c3, .slice C4 y.seen.length c4] 75)
      rcases (show (y.name.toList == s.toList) = true ∨ (y.name.toList == s.toList) = false by cases (y.name.toList == s.toList) <;> simp) with h1 | h1
      · have HF := Lib.hid (show docIx x.docs s = some j from ix_found HP.out h1 HI.out)
        go_wp2
        go_ret
        exact ⟨ret_i (by show _ = ixInt (docIx x.docs s); rw [HF.out]; rfl), (HM.out).bl⟩
      have HI2 := Lib.hid (ix_step (p := fun y : Do => eqSt y.name s) HP.out h1 HI.out)
      go_wp2
      go_roundw
      case rel => exact ⟨j + 1, by omega, by go_num, HI2.out, HM.out.pick (ks := [1]) (by decide) rfl⟩
      case measure => simp [intOf]; omega
    · have HF := Lib.hid (show docIx x.docs s = none from ix_none (fun i hi y hy => HI.out i (by omega) y hy))
      go_wp2
      go_ret
      exact ⟨ret_i (by show _ = ixInt (docIx x.docs s); rw [HF.out]; rfl), HM.out.bl⟩
end Go.Proofs.YtamainhocghlgaaGreatDoor.low

