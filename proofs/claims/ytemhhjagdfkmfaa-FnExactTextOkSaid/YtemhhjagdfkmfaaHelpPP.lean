
/-
  The laws' own functions on lists of slices of parts, in the words of data: szPartSS, toPartSS, eqPartSS, markPartSS, heldPartSS; and heldPartS.
-/
import Derived.Test.YtemhhjagdfkmfaaHelpP
namespace Go.Proofs.Ytemhhjagdfkmfaa.low
open Go.RowKit
set_option linter.unusedVariables false

def encPss (l : List (List Pt)) : Dat := .rows 30 1 (l.map fun ps => [encPs ps])
/-- how many parts and characters the lists hold -/
def bulk (l : List (List Pt)) : Nat := (l.map fun ps => ps.length + signsIn ps).sum
theorem bulk_snoc {l : List (List Pt)} {k : Nat} {ps : List Pt} (h : l[k]? = some ps) : bulk (l.take (k + 1)) = bulk (l.take k) + (ps.length + signsIn ps) := by
  unfold bulk
  rw [List.take_add_one, h]
  simp
theorem bulk_at {l : List (List Pt)} {k : Nat} {ps : List Pt} (h : l[k]? = some ps) : ps.length + signsIn ps ≤ bulk l := by
  have hm := List.mem_of_getElem? h
  clear h
  unfold bulk
  induction l with
  | nil => cases hm
  | cons q r ih =>
    rw [List.map_cons, List.sum_cons]
    rcases List.mem_cons.1 hm with rfl | hm
    · omega
    · have := ih hm; omega
theorem bulk_take (l : List (List Pt)) (k : Nat) : bulk (l.take k) ≤ bulk l := by
  have e : bulk l = bulk (l.take k) + bulk (l.drop k) := by
    unfold bulk
    rw [← List.sum_append, ← List.map_append, List.take_append_drop]
  omega

/-- a list of slices of parts: one of them -/
theorem pss_at {w : World} {B : Nat} {A : Option Addr} {n c i : Nat} {l : List (List Pt)} (h : RdC w B (encPss l) (.slice A n c)) (hi : i < l.length) :
    ∃ ad ps A' c', A = some ad ∧ ad.block < B ∧ l[i]? = some ps ∧ w.cell? (ad.add i) = some (.slice A' ps.length c') ∧ RdC w B (encPs ps) (.slice A' ps.length c') := by
  obtain ⟨ad, r, hA, hb, _, hr, hl⟩ := RdC.at_ (ds := l.map fun ps => [encPs ps]) h (by simpa using hi)
  rw [List.getElem?_map, List.getElem?_eq_getElem hi] at hr
  obtain rfl : [encPs l[i]] = r := by simpa using hr
  obtain ⟨⟨v, hv, r1⟩, _⟩ := hl
  obtain ⟨A', c', rfl, _⟩ := parts_rd r1
  rw [Nat.mul_one] at hv
  exact ⟨ad, l[i], A', c', hA, hb, List.getElem?_eq_getElem hi, hv, r1⟩
theorem pss_len {w : World} {B : Nat} {v : Value} {l : List (List Pt)} (h : RdC w B (encPss l) v) : ∃ A c, v = .slice A l.length c := by
  obtain ⟨A, c, hv, _⟩ := RdC.len h
  exact ⟨A, c, by simpa using hv⟩

set_option maxHeartbeats 1600000 in
theorem szPartSS_d (v : Value) (l : List (List Pt)) (left : Int) (w : World) (hr : RdC w w.heap.size (encPss l) v) (h0 : 0 ≤ left) (h1 : left ≤ 1048576) (hl : l.length ≤ 9223372036854775807)
    (hls : ∀ ps ∈ l, ps.length ≤ 9223372036854775807 ∧ ∀ p ∈ ps, p.signs.length ≤ 9223372036854775807) :
    Calls Try.prog 26 #[v, .int .i64 left] w (Sized (l.length + bulk l) left w) := by
  obtain ⟨A, c, rfl⟩ := pss_len hr
  by_cases h : (l.length : Int) ≤ left
  · go_enter Try.func26, Try.ntmps26
    go_wp2
    go_loopw [1, 5] (fun x i wr => ∃ j : Nat, j ≤ l.length ∧ i = .int .i64 j ∧ x = .int .i64 (left - (l.length : Int) - (bulk (l.take j) : Int)) ∧ 0 ≤ left - (l.length : Int) - (bulk (l.take j) : Int) ∧ Below w.heap.size w wr) (fun _ i _ => l.length - (intOf i).toNat)
    case atStart => exact ⟨0, Nat.zero_le _, rfl, by simp [bulk], by simp [bulk]; omega, Below.refl _ _⟩
    case round =>
      obtain ⟨j, hj, rfl, rfl, hs, hbel⟩ := hrel
      by_cases hlt : j < l.length
      · obtain ⟨ad, ps, A', c', rfl, hb, hp, hc, hpr⟩ := pss_at (hr.below hbel) hlt
        have HS := Lib.hid (bulk_snoc hp)
        have hlp := hls ps (List.mem_of_getElem? hp)
        have hb1 : left - (l.length : Int) - (bulk (l.take j) : Int) ≤ 1048576 := by omega
        clear hp
        generalize hq : left - (l.length : Int) - (bulk (l.take j) : Int) = q at *
        have HQ := Lib.hid hq
        clear hq
        go_wp2_with fail
        obtain ⟨A2, c2, e2, hpr2, _⟩ := parts_rd hpr
        injection e2 with e2 _ e3
        subst e2; subst e3
        refine (szPartS_any A' c' ps q _ (hpr2.more hbel.size) hs hb1 hlp.1 hlp.2).mono ?_
        rintro e w1 ⟨r, rfl, hr', b1⟩
        rcases hr' with rfl | ⟨hr0, hr1⟩
        · go_wp2
          go_ret
          exact ⟨_, rfl, .inl rfl, hbel.trans (b1.mono hbel.size)⟩
        · have HR := Lib.hid hr1
          clear hr1
          go_wp2
          go_roundw
          case rel =>
            have e1 : r = left - (l.length : Int) - (bulk (l.take (j + 1)) : Int) := by rw [HR.out, HS.out, ← HQ.out]; omega
            exact ⟨j + 1, by omega, by go_num, by rw [e1], by rw [← e1]; exact hr0, hbel.trans (b1.mono hbel.size)⟩
          case measure => simp [intOf]; omega
      · have hke : l.take j = l := List.take_of_length_le (by omega)
        rw [hke] at hs ⊢
        go_wp2
        go_ret
        exact ⟨_, rfl, .inr ⟨hs, by omega⟩, hbel⟩
  · have h' : left - (l.length : Int) < 0 := by omega
    go_enter Try.func26, Try.ntmps26
    go_wp2
    go_ret
    exact ⟨_, rfl, .inl rfl, Below.refl _ _⟩

set_option maxHeartbeats 1600000 in
theorem eqPartSS_d (v v' : Value) (l : List (List Pt)) (w : World) (h : RdC w w.heap.size (encPss l) v) (h' : RdC w w.heap.size (encPss l) v') (hl : l.length ≤ 4294967296) (hls : ∀ ps ∈ l, ps.length ≤ 4294967296 ∧ ∀ p ∈ ps, p.signs.length ≤ 4294967296) :
    Calls Try.prog 30 #[v, v'] w (Tells true w) := by
  obtain ⟨A, c, rfl⟩ := pss_len h
  obtain ⟨A', c', rfl⟩ := pss_len h'
  go_enter Try.func30, Try.ntmps30
  have hb : ((l.length : Int) != (l.length : Int)) = false := by simp
  go_wp2
  go_loopw [5] (fun i wr => ∃ k : Nat, k ≤ l.length ∧ i = .int .i64 k ∧ Below w.heap.size w wr) (fun i _ => l.length - (intOf i).toNat)
  case atStart => exact ⟨0, Nat.zero_le _, rfl, Below.refl _ _⟩
  case round =>
    obtain ⟨k, hk, rfl, hbel⟩ := hrel
    by_cases hlt : k < l.length
    · obtain ⟨ad, ps, A1, c1, rfl, hb1, hp, hc1, r1⟩ := pss_at (h.below hbel) hlt
      obtain ⟨bd, qs, A2, c2, rfl, hb2, hq, hc2, r2⟩ := pss_at (h'.below hbel) hlt
      obtain rfl : ps = qs := by rw [hp] at hq; injection hq
      have hsp := hls ps (List.mem_of_getElem? hp)
      clear hp hq
      have q1 := Lib.hid (RdC.more hbel.size _ _ r1).drewS
      have q2 := Lib.hid (RdC.more hbel.size _ _ r2).drewS
      clear r1 r2
      go_wp2
      go_region_with (go_at_call 17; refine (eqPartS_d _ _ ps _ (by exact q1.out) (by exact q2.out) hsp.1 hsp.2).mono ?_; rintro e w2 ⟨rfl, b2⟩)
      all_goals
        go_wp2
        go_roundw
        case rel => exact ⟨k + 1, by omega, by go_num, hbel.drew.trans (b2.mono hbel.size)⟩
        case measure => simp [intOf]; omega
    · go_wp2
      go_ret
      exact ⟨rfl, hbel⟩

theorem pss_info : (Try.prog.info? 30).map (fun i => (i.zero, i.size, i.bytes)) = some (some (.slice none 0 0), 1, 24) := by kernel_rfl

set_option maxHeartbeats 3200000 in
theorem toPartSS_d (v : Value) (l : List (List Pt)) (w : World) (h : RdC w w.heap.size (encPss l) v) (hl : l.length ≤ 1048576) (hls : ∀ ps ∈ l, ps.length ≤ 1048576 ∧ ∀ p ∈ ps, p.signs.length ≤ 1048576) :
    Calls Try.prog 28 #[v] w (OwnPost (encPss l) w) := by
  obtain ⟨A, c, rfl⟩ := pss_len h
  obtain ⟨i0, hi0, hz0, hz1, hz2⟩ := info_parts pss_info
  go_enter Try.func28, Try.ntmps28
  go_wp2_with (at_make; refine wpList_make_full _ rfl _ _ 42 rfl w.heap.size 30 i0 (.slice none 0 0) 1 Try.underlying42 hi0 hz0 hz1 _ _ _ _ l.length rfl rfl (by omega) (by omega) (by rw [hz2]; omega) (by unfold maxLen; omega) (Nat.le_refl _) ?_; intro w1 hown hg)
  have hbel : Below w.heap.size w w1 := (Below.refl _ _).grown hg (Nat.le_refl _) (fun _ h => by cases h)
  generalize hxs : (madeCells (Value.slice none 0 0).cells (l.length * 1)).toList = xs0 at hown
  clear hxs hg
  go_loopw [4] (fun i wr => ∃ (j : Nat) (xs : List Value) (cs : List Nat), j ≤ l.length ∧ i = .int .i64 j ∧ wr.ownsRow w.heap.size 30 1 (.slice (some ⟨w.heap.size, 0, none⟩) l.length l.length) l.length xs ∧
      OwR wr 1 ((l.take j).map fun ps => [encPs ps]) (xs.take j) cs ∧ cs.Nodup ∧ (∀ b ∈ cs, w.heap.size < b) ∧ Below w.heap.size w wr) (fun i _ => l.length - (intOf i).toNat)
  case atStart => exact ⟨0, xs0, [], Nat.zero_le _, rfl, hown, ⟨rfl, rfl⟩, by simp, fun b hb => by simp at hb, hbel⟩
  case round =>
    obtain ⟨j, xs, cs, hj, rfl, ho, hx, hnd, hcs, hb⟩ := hrel
    clear hown hbel
    have HX := Lib.hid hx
    have HND := Lib.hid hnd
    have HCS := Lib.hid hcs
    clear hx hnd hcs
    by_cases hlt : j < l.length
    · obtain ⟨ad, ps, A1, c1, rfl, hbb, hp, hc, r1⟩ := pss_at (h.below hb) hlt
      have hsp := hls ps (List.mem_of_getElem? hp)
      have HP := Lib.hid hp
      clear hp
      have HO := Lib.hid ho
      clear ho
      go_wp2_with fail
      refine (toPartS_d _ ps wr (RdC.more hb.size _ _ r1) hsp.1 hsp.2).mono ?_
      rintro e w2 ⟨v2, rfl, o2, b2⟩
      have ho3 := own_past3 HO.out b2
      obtain ⟨bs, oc, ndb, inb, _, _⟩ := o2
      obtain ⟨A2, c2, rfl, _⟩ := parts_rd (oc.read _ _ _ (fun b hb => oc.lt _ _ _ b hb))
      have hxl := ho3.1
      obtain ⟨u0, hu0⟩ : ∃ u, w2.cell? ⟨w.heap.size, j, none⟩ = some u := by
        rw [ho3.cellAt j (by omega)]
        exact ⟨_, List.getElem?_eq_getElem (by omega)⟩
      have f0 := ho3.frozenAt j
      have HO3 := Lib.hid ho3
      have HOC := Lib.hid oc
      have HIN := Lib.hid inb
      clear ho3 oc inb
      go_wp2
      go_roundw
      case rel =>
        have s1 := (HO3.out.stored j (.slice A2 ps.length c2)).1
        have hg0 : w.heap.size < wr.heap.size := own_in HO.out (k := w.heap.size) rfl
        have k1 := OwR.keep 1 _ _ cs HX.out (w' := w2) (fun b hb' => b2.block b (OwR.lt 1 _ _ cs HX.out b hb'))
        have k2 : OwR w2 1 [[encPs ps]] [.slice A2 ps.length c2] bs := OwR.one ⟨_, [], bs, [], rfl, by simp, HOC.out, rfl, rfl⟩ rfl
        have k3 := k1.append k2
        have hne : ∀ b ∈ cs ++ bs, b ≠ w.heap.size := fun b hb' => by
          rcases List.mem_append.1 hb' with hb' | hb'
          · have := HCS.out b hb'; omega
          · have := (HIN.out b hb').1; omega
        have k4 := OwR.keep 1 _ _ _ k3 (w' := w2.setCell ⟨w.heap.size, j, none⟩ (.slice A2 ps.length c2)) (fun b hb' => Below.heap_setCell _ _ _ _ (hne b hb'))
        refine ⟨j + 1, _, cs ++ bs, by omega, by go_num, s1, ?_, ?_, fun b hb' => ?_, (hb.trans (b2.mono hb.size)).setCell (Nat.le_refl _) _⟩
        · have e1 : (xs.set j (.slice A2 ps.length c2)).take (j + 1) = xs.take j ++ [.slice A2 ps.length c2] := by
            rw [List.take_add_one, List.take_set_of_le (Nat.le_refl j)]
            simp [show j < xs.length by omega]
          rw [e1, List.take_add_one, HP.out]
          simpa using k4
        · rw [List.nodup_append]
          refine ⟨HND.out, ndb, fun a ha b hb' e => ?_⟩
          subst e
          have := OwR.lt 1 _ _ cs HX.out a ha
          have := (HIN.out a hb').1
          omega
        · rcases List.mem_append.1 hb' with hb' | hb'
          · exact HCS.out b hb'
          · have := (HIN.out b hb').1; omega
      case measure => simp [intOf]; omega
    · obtain rfl : j = l.length := by omega
      have hxl := ho.1
      go_wp2
      go_ret
      have k1 := HX.out
      rw [List.take_of_length_le (Nat.le_refl _), List.take_of_length_le (by omega)] at k1
      have hg0 : w.heap.size < wr.heap.size := own_in ho (k := w.heap.size) rfl
      refine ⟨_, rfl, ⟨w.heap.size :: cs, ⟨xs, cs, by simpa using own_lower ho (Nat.zero_le _), k1, rfl⟩, ?_, fun b hb' => ?_, Nat.le_refl _, hb.size⟩, hb⟩
      · rw [List.nodup_cons]
        exact ⟨fun hc => by have := HCS.out _ hc; omega, HND.out⟩
      · rcases List.mem_cons.1 hb' with rfl | hb'
        · exact ⟨Nat.le_refl _, hg0⟩
        · exact ⟨Nat.le_of_lt (HCS.out b hb'), OwR.lt 1 _ _ cs HX.out b hb'⟩
end Go.Proofs.Ytemhhjagdfkmfaa.low
