/-
  Texts that the proofs over this seat rest on, one behind the other (5 of 7).
-/
import Derived.Test.YtgfbcpcfdlnbhabGreatDoorM4
import Derived.Test.YtgfbcpcfdlnbhabGreatDoorM3
import Derived.Lib.SliceRun
import Derived.Test.YtgfbcpcfdlnbhabGreatDoorM2
import Derived.Laws.CopyOwn
import Derived.IntWalk
import Derived.Test.YtgfbcpcfdlnbhabGreatDoorM1
import Derived.WalkKit
import Derived.LaidEql
import Derived.Stop.Asserts
import Derived.RowKitTokens

/-
  Contracts of impl.requestsOf and of a map's rows in order. Written by mkimp8.py.
-/
namespace Go.Proofs.YtgfbcpcfdlnbhabGreatDoor.low
open Go.RowKit Go.Sort
set_option linter.unusedVariables false

theorem rqT : Tryz.prog.underlying 144 = some (.map 3 87) := by kernel_rfl
theorem rqK : Tryz.prog.underlying 3 = some (.int .i64) := by kernel_rfl
theorem rqZ (w : World) : (zeroValue 87).run Tryz.prog w = .ok (valSe ⟨0, 0, 0⟩) w := by kernel_rfl
/-- a map of one's own -/
def MapPost (l : List Se) (w : World) (e : Ending) (w' : World) : Prop := ∃ (g : Nat) (es : Array MapEntry) (c0 : Nat), e = .returned (.map (some g)) ∧ MapO l es c0 ∧ w'.heap[g]? = some (.map es c0) ∧ w.heap.size ≤ g ∧ Below w.heap.size w w'
set_option maxRecDepth 100000 in
set_option maxHeartbeats 3200000 in
theorem implRequestsOf_d (v : Value) (l : List Se) (w : World) (h : RdC w w.heap.size (encSes l) v) (hs : SmSes l) : Calls Tryz.prog 110 #[v] w (MapPost (dedSe l) w) := by
  obtain ⟨A, c, rfl⟩ := sliceSes h
  have hl := hs.len
  have HR := Lib.hid h
  clear h
  have HM := Lib.hid (Ms.start w)
  replace HM := Lib.hid (show Ms w [.bx w.heap.size (.map #[] 0)] (w.alloc (.map #[] 0)) from HM.out.newO _)
  have hmm := @run_makeMap Tryz.prog
  go_enter Tryz.func110, Tryz.ntmps110
  go_wp2
  clear hmm
  go_loopw [11] (fun i wr => ∃ (j : Nat) (es : Array MapEntry) (c0 : Nat), j ≤ l.length ∧ i = .int .i64 (j : Int) ∧ MapO (dedSe (l.take j)) es c0 ∧ Ms w [.bx w.heap.size (.map es c0)] wr) (fun i _ => l.length - (intOf i).toNat)
  case atStart => exact ⟨0, _, _, Nat.zero_le _, rfl, MapO.new, HM.out⟩
  case round =>
    obtain ⟨j, es, c0, hj, rfl, hm0, hm⟩ := hrel
    clear HM
    have HM := Lib.hid hm
    have HO := Lib.hid hm0
    clear hm hm0
    by_cases hlt : j < l.length
    · obtain ⟨b, off, s, rfl, hbb, hp, y0, y1, y2⟩ := atSes HR.out hlt
      have x0 := (HM.out.bl.cell (p := ⟨b, off + j * 3, none⟩) hbb).trans y0
      have x1 := (HM.out.bl.cell (p := ⟨b, off + j * 3 + 1, none⟩) hbb).trans y1
      have x2 := (HM.out.bl.cell (p := ⟨b, off + j * 3 + 2, none⟩) hbb).trans y2
      clear y0 y1 y2
      have HD := Lib.hid (ded_snoc hp)
      clear hp
      replace HM := Lib.hid (HM.out.new #[.int .i64 s.client, .int .i64 s.seq, .int .i64 s.rev] 87)
      cases hg : seenGo s.client (dedSe (l.take j)) with
      | none =>
        have HG := Lib.hid hg
        clear hg
        have HM1 := HM
        have hm := HM.out.new #[.int .i64 0, .int .i64 0, .int .i64 0] 87
        simp only [World.size_alloc] at hm
        replace HM := Lib.hid hm
        clear hm
        have HD2 := Lib.hid (show dedSe (l.take (j + 1)) = putSe (dedSe (l.take j)) s by rw [HD.out]; unfold firstSe; rw [HG.out]; rfl)
        go_wp2_with (first | (at_lookup; refine wpList_lookup_none rfl (.tmp 16) (.tmp 18) 144 rfl 3 87 rqT rqK rqZ w.heap.size rfl s.client rfl (HM1.out.at_ (i := 1) rfl) HO.out HG.out ?_) | (at_mapUpdate; refine wpList_update_se rfl (.tmp 24) (.tmp 26) (.tmp 27) 144 rfl 3 87 rqT rqK w.heap.size rfl s rfl rfl (HM.out.at_ (i := 2) rfl) HO.out ?_; intro es' c' hm1))
        clear HM1
        have hm := HM.out.pk [2, 0, 1] (by decide) (by simp)
        simp only [low.pk, List.getElem?_cons_zero, List.getElem?_cons_succ] at hm
        replace HM := Lib.hid hm
        clear hm
        have hm := HM.out.obj (o' := .map es' c')
        go_roundw
        case rel => exact ⟨j + 1, es', c', by omega, by go_num, by rw [HD2.out]; exact hm1, hm.pick (ks := [0]) (by decide) rfl⟩
        case measure => simp [intOf]; omega
      | some u =>
        have HG := Lib.hid hg
        clear hg
        have HM1 := HM
        have hm := HM.out.new #[.int .i64 u.client, .int .i64 u.seq, .int .i64 u.rev] 87
        simp only [World.size_alloc] at hm
        replace HM := Lib.hid hm
        clear hm
        have HD2 := Lib.hid (show dedSe (l.take (j + 1)) = dedSe (l.take j) by rw [HD.out]; unfold firstSe; rw [HG.out]; rfl)
        go_wp2_with (at_lookup; refine wpList_lookup_hit rfl (.tmp 16) (.tmp 18) 144 rfl 3 87 rqT rqK rqZ w.heap.size rfl s.client rfl (HM1.out.at_ (i := 1) rfl) HO.out HG.out ?_)
        clear HM1
        go_roundw
        case rel => exact ⟨j + 1, es, c0, by omega, by go_num, by rw [HD2.out]; exact HO.out, HM.out.pick (ks := [2]) (by decide) rfl⟩
        case measure => simp [intOf]; omega
    · obtain rfl : j = l.length := by omega
      have hm0 := HO.out
      rw [List.take_length] at hm0
      have HO2 := Lib.hid hm0
      clear hm0 HO
      go_wp2
      go_ret
      exact ⟨_, es, c0, rfl, HO2.out, HM.out.at_ (i := 0) rfl, Nat.le_refl _, HM.out.bl⟩
theorem isNaN_any (a : Int) (w : World) : Calls Tryz.prog 153 #[.int .i64 a] w fun e w' => e = .returned (.bool false) ∧ w = w' := by
  go_enter Tryz.func153, Tryz.ntmps153
  go_wp2
  go_ret
  exact ⟨by simp, rfl⟩
set_option maxHeartbeats 1600000 in
theorem compare_any (a b : Int) (w : World) : Calls Tryz.prog 140 #[.int .i64 a, .int .i64 b] w fun e w' => e = .returned (.int .i64 (Lib.compareInt a b)) ∧ w = w' := by
  by_cases h1 : a < b
  · have HC := Lib.hid (show Lib.compareInt a b = -1 by unfold Lib.compareInt; rw [if_pos h1])
    go_enter Tryz.func140, Tryz.ntmps140
    go_wp2_with (go_at_call 153; refine (isNaN_any _ _).mono ?_; rintro e w' ⟨rfl, rfl⟩)
    go_ret
    exact ⟨by rw [HC.out]; rfl, rfl⟩
  by_cases h2 : b < a
  · have HC := Lib.hid (show Lib.compareInt a b = 1 by unfold Lib.compareInt; rw [if_neg h1, if_pos h2])
    go_enter Tryz.func140, Tryz.ntmps140
    go_wp2_with (go_at_call 153; refine (isNaN_any _ _).mono ?_; rintro e w' ⟨rfl, rfl⟩)
    go_ret
    exact ⟨by rw [HC.out]; rfl, rfl⟩
  · have HC := Lib.hid (show Lib.compareInt a b = 0 by unfold Lib.compareInt; rw [if_neg h1, if_neg h2])
    go_enter Tryz.func140, Tryz.ntmps140
    go_wp2_with (go_at_call 153; refine (isNaN_any _ _).mono ?_; rintro e w' ⟨rfl, rfl⟩)
    go_ret
    exact ⟨by rw [HC.out]; rfl, rfl⟩
set_option maxHeartbeats 1600000 in
theorem byClient_any (x y : Se) (w : World) : Calls Tryz.prog 139 #[.agg #[.int .i64 x.client, .int .i64 x.seq, .int .i64 x.rev], .agg #[.int .i64 y.client, .int .i64 y.seq, .int .i64 y.rev]] w fun e w' => e = .returned (.int .i64 (Lib.compareInt x.client y.client)) ∧ ∃ q os', w' = grow (w.drewN q) os' := by
  have hcon := fun W' => compare_any x.client y.client W'
  generalize Lib.compareInt x.client y.client = r at hcon ⊢
  go_enter Tryz.func139, Tryz.ntmps139
  go_wp2_with (go_at_call 140; refine (hcon _).mono ?_; rintro e w' ⟨rfl, rfl⟩)
  go_ret
  exact ⟨rfl, 0, _, by rw [alloc_eq_grow, alloc_eq_grow, grow_grow]; rfl⟩
theorem byClient_lays (blk off size : Nat) (w : World) : CmpLays Tryz.prog 139 #[] encV 3 (fun x y => Lib.compareInt x.client y.client) blk off size w := fun _ _ _ _ x y => byClient_any x y _
set_option maxHeartbeats 1600000 in
theorem ins_none (p : Option Addr) (cap : Nat) (fv : Value) (w : World) : Calls Tryz.prog 162 #[.slice p 0 cap, .int .i64 0, .int .i64 0, fv] w fun e w' => e = .returned (.tuple #[]) ∧ w = w' := by
  go_enter Tryz.func162, Tryz.ntmps162
  go_wp2
  refine wp_loop_rounds 1 ?_
  rw [rounds_succ]
  go_wp2
  go_end0
  exact ⟨rfl, rfl⟩
set_option maxHeartbeats 1600000 in
theorem pdq_none (p : Option Addr) (cap : Nat) (lim : Int) (fv : Value) (w : World) : Calls Tryz.prog 151 #[.slice p 0 cap, .int .i64 0, .int .i64 0, .int .i64 lim, fv] w fun e w' => e = .returned (.tuple #[]) ∧ w = w' := by
  go_enter Tryz.func151, Tryz.ntmps151
  go_wp2
  refine wp_loop_rounds 1 ?_
  rw [rounds_succ]
  go_wp2_with (go_at_call 162; refine (ins_none p cap fv _).mono ?_; rintro e w' ⟨rfl, rfl⟩)
  (try simp only [Exit.inBlock, Exit.then]); refine bodyPost_ret (results_none rfl _ _ _) rfl ?_
  exact ⟨rfl, rfl⟩
set_option maxHeartbeats 1600000 in
theorem sort_none (p : Option Addr) (cap : Nat) (fv : Value) (w : World) : Calls Tryz.prog 138 #[.slice p 0 cap, fv] w fun e w' => e = .returned (.tuple #[]) ∧ w = w' := by
  have hl : ∀ W, Calls Tryz.prog 152 #[.int .u64 0] W fun e w' => e = .returned (.int .i64 (Lib.bitLen 0 : Nat)) ∧ w' = W := fun W => Tryz.bits_Len 0 W (by omega) (by omega)
  go_enter Tryz.func138, Tryz.ntmps138
  go_wp2_with (first | (go_at_call 152; refine (hl _).mono ?_; rintro e w' ⟨rfl, rfl⟩) | (go_at_call 151; refine (pdq_none p cap _ fv _).mono ?_; rintro e w' ⟨rfl, rfl⟩))
  go_end0
  exact ⟨rfl, rfl⟩
theorem sort_rows (g cap : Nat) (c : List Se) (w : World) (hH : HoldsK encV 3 w g 0 c.toArray) (hg : g < w.heap.size) (hl : c.length ≤ 2000000) (h1 : OneSe c) :
    Calls Tryz.prog 138 #[.slice (some ⟨g, 0, none⟩) c.length cap, .func (.func 139) #[] #[]] w fun e w' => e = .returned (.tuple #[]) ∧ ∃ n os, w' = sortWorldK encV 3 w g 0 n (ordSe c).toArray os ∧ (ordSe c).length = c.length := by
  have eg : ∀ args w, (callFunc 139 args).run Tryz.prog w = .ok (.enter 139 args) w := enters_of Tryz.func139 (by kernel_rfl) rfl
  have hcon := AnyQ.slices_SortFunc Tryz.sortSe 3 (fun w => by kernel_rfl) (fun w => by kernel_rfl) encV (fun _ => rfl) (fun x v hv => by simp [encV] at hv; rcases hv with rfl | rfl | rfl <;> rfl) (fun x y => Lib.compareInt x.client y.client) swoSe 139 #[] g 0 cap c.toArray w eg (byClient_lays g 0 _ w) hH hg (by simp; omega)
  rw [List.size_toArray] at hcon
  refine Calls.mono hcon fun e w' ⟨he, d', n, os, hp, hs, hw⟩ => ?_
  obtain ⟨d, rfl⟩ : ∃ d : List Se, d' = d.toArray := ⟨d'.toList, by simp⟩
  obtain ⟨k1, rfl⟩ := sorted_ord h1 (by simpa using hp) (by simpa using hs)
  exact ⟨he, n, os, hw, k1⟩
theorem ord_perm {l c : List Se} (h : OneSe l) (hp : c.Perm l) : ordSe c = ordSe l := one_ordered h (ordSe_perm.trans hp) (ordSe_asc ((hp.map Se.client).nodup_iff.2 h))
theorem left_all {es : Array MapEntry} : (leftOf es #[]).size = es.size := by unfold leftOf; simp
set_option maxRecDepth 100000 in
set_option maxHeartbeats 3200000 in
theorem implInOrder_d (g : Nat) (l : List Se) (es : Array MapEntry) (c0 : Nat) (w : World) (hb : w.heap[g]? = some (.map es c0)) (h : MapO l es c0) (hl : l.length ≤ 1048576) : Calls Tryz.prog 113 #[.map (some g)] w (OwnPost (encSes (ordSe l)) w) := by
  have hg : g < w.heap.size := lt_of_some hb
  have HB := Lib.hid hb
  have HO := Lib.hid h
  have hes : es.size ≤ 1048576 := by have := congrArg List.length h.ents; simp at this; omega
  clear hb h
  have HM := Lib.hid (Ms.start w)
  replace HM := Lib.hid (show Ms w [.dt (.rows 87 3 (([] : List Se).map encSe)) (.slice none 0 0) []] w from HM.out.nil 87 3)
  replace HM := Lib.hid (show Ms w [.bx w.heap.size (.mapIter (some g) c0 #[] c0), .dt (.rows 87 3 (([] : List Se).map encSe)) (.slice none 0 0) []] (w.alloc (.mapIter (some g) c0 #[] c0)) from HM.out.newO _)
  go_enter Tryz.func113, Tryz.ntmps113
  go_wp2_with (at_range; refine wpList_range_se rfl (.tmp 6) 144 rfl 3 87 rqT g rfl HB.out ?_)
  go_frame
  go_loopw [3] (fun lv wr => ∃ (c : List Se) (seen : Array Nat) (A1 : Option Addr) (c1 : Nat) (bs : List Nat), Seen_ es seen c ∧ c.length + (leftOf es seen).size ≤ 1048576 ∧ lv = .slice A1 c.length c1 ∧ Ms w [.bx w.heap.size (.mapIter (some g) c0 seen c0), .dt (.rows 87 3 (c.map encSe)) (.slice A1 c.length c1) bs] wr) (fun _ wr => wr.rangeLeft g w.heap.size)
  case atStart => exact ⟨[], #[], none, 0, [], Seen_.nil es, by rw [left_all]; simpa using hes, rfl, HM.out⟩
  case round =>
    obtain ⟨c, seen, A1, c1, bs, hs, hlen, rfl, hm⟩ := hrel
    clear HM
    have HM := Lib.hid hm
    have HS := Lib.hid hs
    clear hm hs
    have hb1 : wr.heap[g]? = some (.map es c0) := (HM.out.bl.block g hg).trans HB.out
    have HB1 := Lib.hid hb1
    clear hb1
    have HRL := Lib.hid (show wr.rangeLeft g w.heap.size = (leftOf es seen).size by unfold World.rangeLeft; rw [HB1.out, show wr.heap[w.heap.size]? = some (.mapIter (some g) c0 seen c0) from HM.out.at_ (i := 0) rfl])
    go_wp2_with (at_next; refine wpList_next_se rfl (.tmp 7) rfl w.heap.size g seen c rfl (HM.out.at_ (i := 0) rfl) HB1.out HO.out HS.out ?_ ?_)
    · intro hp
      have HP := Lib.hid hp
      clear hp
      have HC := Lib.hid (show OneSe c from (HP.out.map Se.client).nodup_iff.2 HO.out.one)
      obtain ⟨b9, hm9⟩ : ∃ b9, Ms w [.dt (encSes c) (.slice A1 c.length c1) b9] wr := ⟨bs, HM.out.pick (ks := [1]) (by decide) rfl⟩
      have HM9 := Lib.hid hm9
      clear hm9 HM
      go_wp2_with fail
      rcases OwC.cases (show OwC wr (encSes c) (.slice A1 c.length c1) b9 from HM9.out.at_ (i := 0) rfl) with ⟨hv, h0, _⟩ | ⟨gc, cap, hv⟩
      · injection hv with e1 e2 e3
        subst e1 e3
        clear e2
        obtain rfl : c = [] := by cases c with | nil => rfl | cons s c => cases h0
        clear h0
        refine (sort_none none 0 _ _).mono ?_
        rintro e' w' ⟨rfl, rfl⟩
        go_wp2
        go_ret
        have e9 : ordSe l = [] := by rw [← ord_perm HO.out.one HP.out]; rfl
        rw [e9]
        exact HM9.out.post
      · injection hv with e1 e2 e3
        subst e1 e3
        clear e2
        obtain ⟨-, -, hH⟩ := holds_se (show OwC wr (encSes c) _ b9 from HM9.out.at_ (i := 0) rfl)
        have hgc : gc < wr.heap.size := (HM9.out.bsAt (i := 0) rfl gc (OwC.head (HM9.out.at_ (i := 0) rfl))).2
        refine (sort_rows gc c1 c _ hH hgc (by omega) HC.out).mono ?_
        rintro e' w' ⟨rfl, n9, os9, rfl, hl9⟩
        have hm := HM9.out.sorted hl9 n9 os9
        clear hH hgc
        generalize sortWorldK encV 3 wr gc 0 n9 (ordSe c).toArray os9 = W9 at hm ⊢
        have HM8 := Lib.hid hm
        clear hm HM9 hl9 hlen hes
        go_wp2
        go_ret
        rw [← ord_perm HO.out.one HP.out]
        exact HM8.out.post
    · intro s seen' w1 hsl hs' hlt hw hen
      have HS2 := Lib.hid hs'
      clear hs' hsl
      have hm := (HM.out.either hw).obj (o' := .mapIter (some g) c0 seen' c0)
      clear HM hw
      generalize Go.ChangeMaps.setBlock w1 w.heap.size (.mapIter (some g) c0 seen' c0) = W1 at hm hen ⊢
      have HM := Lib.hid hm
      clear hm
      replace HM := Lib.hid (HM.out.new #[.int .i64 s.client, .int .i64 s.seq, .int .i64 s.rev] 87)
      have hm := HM.out.new #[.int .i64 s.client, .int .i64 s.seq, .int .i64 s.rev] 87
      simp only [World.size_alloc] at hm
      replace HM := Lib.hid hm
      clear hm
      replace HM := Lib.hid (show Ms w [.dt (.agg (encSe s)) (.agg ([.int .i64 s.client, .int .i64 s.seq, .int .i64 s.rev] : List Value).toArray) [], .bx (W1.heap.size + 1) (.cells #[.int .i64 s.client, .int .i64 s.seq, .int .i64 s.rev] 87 (0, 0)), .bx W1.heap.size (.cells #[.int .i64 s.client, .int .i64 s.seq, .int .i64 s.rev] 87 (0, 0)), .bx w.heap.size (.mapIter (some g) c0 seen' c0), .dt (.rows 87 3 (c.map encSe)) (.slice A1 c.length c1) bs] ((W1.alloc (.cells #[.int .i64 s.client, .int .i64 s.seq, .int .i64 s.rev] 87)).alloc (.cells #[.int .i64 s.client, .int .i64 s.seq, .int .i64 s.rev] 87)) from ((HM.out.pk0.pkF rfl).pkF rfl).pkF rfl)
      have hm := HM.out.pk [4, 0, 1, 2, 3] (by decide) (by simp)
      simp only [low.pk, List.getElem?_cons_zero, List.getElem?_cons_succ] at hm
      replace HM := Lib.hid hm
      clear hm
      go_wp2_with (at_builtin; refine wpList_ms1 rfl (.tmp 12) (.tmp 14) 34 rfl eltSe HM.out rfl (by simp; omega) (W1.heap.size + 1) _ rfl (HM.out.at_ (i := 2) rfl) rfl (by simp [Value.oneCell']) ?_; intro A7 c7 w7 b7 hm)
      have e1 : (c.map encSe).length = c.length := by simp
      rw [e1] at hm
      try rw [e1]
      have HM7 := Lib.hid (show Ms w [.bx w.heap.size (.mapIter (some g) c0 seen' c0), .dt (.rows 87 3 (c.map encSe ++ [encSe s])) (.slice A7 (c.length + 1) c7) b7] w7 from hm.pick (ks := [3, 0]) (by decide) rfl)
      clear hm e1 HM hen
      go_wp2
      go_roundw
      case rel => exact ⟨c ++ [s], seen', A7, c7, b7, HS2.out, by simp; omega, by simp, by simpa using HM7.out⟩
      case measure => rw [HRL.out]; have e9 : w7.rangeLeft g w.heap.size = (leftOf es seen').size := (by unfold World.rangeLeft; rw [(HM7.out.bl.block g hg).trans HB.out, show w7.heap[w.heap.size]? = some (.mapIter (some g) c0 seen' c0) from HM7.out.at_ (i := 0) rfl]); rw [e9]; exact hlt
end Go.Proofs.YtgfbcpcfdlnbhabGreatDoor.low


/-
  What the program asks of a document is what the specification asks.
-/
namespace Go.Proofs.YtgfbcpcfdlnbhabGreatDoor.low
open Go.RowKit
set_option linter.unusedVariables false

def okSe (h : Int) (s : Se) : Bool := inB s.client 1 8 && inB s.seq 1 1000000000 && inB s.rev 1 h
def seenIB (h : Int) (l : List Se) : Bool := l.all (okSe h) && seensB l (ordSe (dedSe l))
def entriesIB (l : List En) : Bool := decide (l.length ≤ 8) && l.all entryB
theorem seSame_eq {a b : Se} : seSameB a b = true ↔ a = b := by
  obtain ⟨a1, a2, a3⟩ := a
  obtain ⟨b1, b2, b3⟩ := b
  simp [seSameB, and_assoc]
theorem seens_eq : ∀ {l m : List Se}, seensB l m = true ↔ l = m
  | [], [] => by simp [seensB]
  | [], _ :: _ => by simp [seensB]
  | _ :: _, [] => by simp [seensB]
  | a :: l, b :: m => by simp [seensB, seSame_eq, seens_eq (l := l) (m := m)]
theorem seenAll_some {h : Int} : ∀ {l : List Se} {p : Int}, seenAllB h (some p) l = true ↔ (l.all (okSe h) = true ∧ (∀ s ∈ l, p < s.client) ∧ AscSe l)
  | [], p => by simp [seenAllB, AscSe]
  | s :: l, p => by
    have ih := seenAll_some (h := h) (l := l) (p := s.client)
    rw [seenAllB, Bool.and_eq_true, ih, List.all_cons, Bool.and_eq_true]
    have e : seenOneB h (some p) s = (okSe h s && decide (p < s.client)) := rfl
    rw [e, Bool.and_eq_true, decide_eq_true_eq]
    unfold AscSe
    rw [List.pairwise_cons]
    constructor
    · rintro ⟨⟨h1, h2⟩, h3, h4, h5⟩
      refine ⟨⟨h1, h3⟩, fun t ht => ?_, h4, h5⟩
      rcases List.mem_cons.1 ht with rfl | ht
      · exact h2
      · have := h4 t ht; omega
    · rintro ⟨⟨h1, h3⟩, h4, h5, h6⟩
      exact ⟨⟨h1, h4 s (by simp)⟩, h3, h5, h6⟩
theorem seenAll_none {h : Int} {l : List Se} : seenAllB h none l = true ↔ (l.all (okSe h) = true ∧ AscSe l) := by
  cases l with
  | nil => simp [seenAllB, AscSe]
  | cons s l =>
    rw [seenAllB, Bool.and_eq_true, seenAll_some, List.all_cons, Bool.and_eq_true]
    have e : seenOneB h none s = okSe h s := by simp [seenOneB, okSe]
    rw [e]
    unfold AscSe
    rw [List.pairwise_cons]
    constructor
    · rintro ⟨h1, h3, h4, h5⟩
      exact ⟨⟨h1, h3⟩, h4, h5⟩
    · rintro ⟨⟨h1, h3⟩, h5, h6⟩
      exact ⟨h1, h3, h5, h6⟩
theorem seen_eq (h : Int) (l : List Se) : seenAllB h none l = seenIB h l := by
  rw [Bool.eq_iff_iff, seenAll_none]
  unfold seenIB
  rw [Bool.and_eq_true, seens_eq, ord_ded]
theorem foldAll_cons (o : List Pt) (l : List (List Pt)) (t : List Int) : foldAll (o :: l) t = if fitsB o t = true then foldAll l (applyT o t) else none := by
  show l.foldl stepAll (if fitsB o t = true then some (applyT o t) else none) = _
  by_cases h : fitsB o t = true
  · rw [if_pos h, if_pos h]
    rfl
  · rw [if_neg h, if_neg h]
    exact fold_none l
theorem fits_len {o : List Pt} {t : List Int} (h : fitsB o t = true) : okOp o = true ∧ okText t = true ∧ sumK o + sumD o = (t.length : Int) := by
  unfold fitsB at h
  rw [Bool.and_eq_true, Bool.and_eq_true, decide_eq_true_eq] at h
  exact ⟨h.1.1, h.1.2, h.2⟩
theorem fits_next {o : List Pt} {t : List Int} (h : fitsB o t = true) : okText (applyT o t) = true := by
  obtain ⟨h1, h2, h3⟩ := fits_len h
  exact (apply_ok h1 h2 h3).2.2.1
theorem chain_eq : ∀ {l : List En} {t : List Int}, chainGo l t = (l.all entryB && (foldAll (l.map En.o) t).isSome)
  | [], t => by simp [chainGo, foldAll]
  | e :: l, t => by
    rw [chainGo, chain_eq (l := l), List.map_cons, foldAll_cons, List.all_cons]
    cases h1 : fitsB e.o t
    · simp
    · rw [fits_next h1]
      cases entryB e <;> simp
theorem doc_eq (x : Do) : docB x = (nameB x.name && inB x.from_ 0 999999000 && entriesIB x.list && seenIB (headRevT x) x.seen && applyAllB (x.list.map En.o) x.text) := by
  unfold docB entriesIB applyAllB
  rw [seen_eq, chain_eq]
  cases nameB x.name <;> cases inB x.from_ 0 999999000 <;> cases okText x.text <;> cases decide (x.list.length ≤ 8) <;> cases x.list.all entryB <;> cases seenIB (headRevT x) x.seen <;> cases (foldAll (x.list.map En.o) x.text).isSome <;> rfl
theorem foldAll_end : ∀ {l : List En} {t : List Int}, (foldAll (l.map En.o) t).isSome = true → foldAll (l.map En.o) t = some (endT l t)
  | [], t, _ => rfl
  | e :: l, t, h => by
    rw [List.map_cons, foldAll_cons] at h ⊢
    cases h1 : fitsB e.o t
    · rw [h1] at h
      cases h
    · rw [h1, if_pos rfl] at h
      rw [if_pos rfl]
      exact foldAll_end h
theorem foldAll_take : ∀ {l : List En} {t : List Int} (k : Nat), (foldAll (l.map En.o) t).isSome = true → (foldAll ((l.take k).map En.o) t).isSome = true
  | [], t, k, h => by simpa using h
  | e :: l, t, 0, h => rfl
  | e :: l, t, k + 1, h => by
    rw [List.take_succ_cons]
    rw [List.map_cons, foldAll_cons] at h ⊢
    cases h1 : fitsB e.o t
    · rw [h1] at h
      cases h
    · rw [h1, if_pos rfl] at h
      rw [if_pos rfl]
      exact foldAll_take k h
theorem doc_apply {x : Do} (h : docB x = true) : applyAllB (x.list.map En.o) x.text = true := by
  rw [doc_eq, Bool.and_eq_true] at h
  exact h.2
theorem doc_text {x : Do} (h : docB x = true) (k : Nat) : applyAllB ((x.list.take k).map En.o) x.text = true ∧ applyAllT ((x.list.take k).map En.o) x.text = endT (x.list.take k) x.text := by
  have h1 := doc_apply h
  unfold applyAllB at h1
  rw [Bool.and_eq_true] at h1
  have h2 := foldAll_take k h1.1
  have h3 : applyAllB ((x.list.take k).map En.o) x.text = true := by
    unfold applyAllB
    rw [h2, h1.2]
    rfl
  refine ⟨h3, ?_⟩
  unfold applyAllT
  rw [if_pos h3, foldAll_end h2]
  rfl
end Go.Proofs.YtgfbcpcfdlnbhabGreatDoor.low


/-
  A slice cloned, its rows then made the caller's own one by one: the first rows are owned, the cells behind them are known.
-/
namespace Go.Proofs.YtgfbcpcfdlnbhabGreatDoor.low
open Go.RowKit
set_option linter.unusedVariables false

/-- the cells from k on are those of the list -/
def Raw (W : World) (g k : Nat) (raw : List Value) : Prop := ∃ cur T, W.heap[g]? = some (.cells cur T (0, 0)) ∧ ∀ t u, k ≤ t → raw[t]? = some u → cur[t]? = some u
theorem Raw.cell {W : World} {g k t : Nat} {raw : List Value} {u : Value} (h : Raw W g k raw) (hk : k ≤ t) (hu : raw[t]? = some u) : W.cell? ⟨g, t, none⟩ = some u := by
  obtain ⟨cur, T, hh, hc⟩ := h
  exact bxcell hh (hc t u hk hu)
theorem Raw.free {W : World} {g k t : Nat} {raw : List Value} (h : Raw W g k raw) : W.frozen? ⟨g, t, none⟩ = false := by
  obtain ⟨cur, T, hh, hc⟩ := h
  exact bxfree hh
theorem Raw.keep {W W' : World} {g k : Nat} {raw : List Value} (h : Raw W g k raw) (hk : W'.heap[g]? = W.heap[g]?) : Raw W' g k raw := by
  obtain ⟨cur, T, hh, hc⟩ := h
  exact ⟨cur, T, hk.trans hh, hc⟩
theorem Raw.lt {W : World} {g k : Nat} {raw : List Value} (h : Raw W g k raw) : g < W.heap.size := by
  obtain ⟨cur, T, hh, hc⟩ := h
  exact lt_of_some hh
theorem Raw.past {W W' : World} {g k : Nat} {raw : List Value} (h : Raw W g k raw) (hb : Below W.heap.size W W') : Raw W' g k raw := h.keep (hb.block g h.lt)
theorem Raw.other {W : World} {g k q o : Nat} {raw : List Value} (h : Raw W g k raw) (hne : ¬ g = q) (u : Value) : Raw (W.setCell ⟨q, o, none⟩ u) g k raw := h.keep (Below.heap_setCell _ _ _ _ hne)
theorem Raw.set {W : World} {g k k' : Nat} {raw : List Value} (h : Raw W g k raw) (o : Nat) (u : Value) (h1 : k ≤ k') (h2 : o < k') : Raw (W.setCell ⟨g, o, none⟩ u) g k' raw := by
  obtain ⟨cur, T, hh, hc⟩ := h
  refine ⟨_, T, bxset (j := o) hh u, fun t v ht hv => ?_⟩
  rw [Array.getElem?_setIfInBounds_ne (by omega)]
  exact hc t v (by omega) hv
section
variable {w0 W : World} {L : List It}
/-- the next row is the caller's own: its third cell has been written -/
theorem Ms.fill3 {g n cap : Nat} {e : TypeId} {ds : List (List Dat)} {d : Dat} {v : Value} {b c : List Nat} {x y : Int} {raw : List Value} (h : Ms w0 (.dt (.rows e 3 ds) (.slice (some ⟨g, 0, none⟩) n cap) b :: .dt d v c :: L) W) (hn : n = ds.length) (hcap : n < cap)
    (hr : Raw W g (n * 3) raw) (hx : raw[n * 3]? = some (.int .i64 x)) (hy : raw[n * 3 + 1]? = some (.int .i64 y)) :
    ∃ b', Ms w0 (.dt (.rows e 3 (ds ++ [[.int x, .int y, d]])) (.slice (some ⟨g, 0, none⟩) (n + 1) cap) b' :: L) (W.setCell ⟨g, n * 3 + 2, none⟩ v) := by
  subst hn
  have hd : OwC W d v c := h.at_ (i := 1) rfl
  have hrow : OwR W 3 [[.int x, .int y, d]] [.int .i64 x, .int .i64 y, v] c := OwR.one ⟨_, _, [], c, rfl, rfl, ⟨rfl, rfl⟩, _, _, [], c, rfl, rfl, ⟨rfl, rfl⟩, v, [], c, [], rfl, by simp, hd, rfl, rfl⟩ rfl
  obtain ⟨xs, hown, grow⟩ := Ms.grow (Y := [.dt d v c]) h hrow (h.ndAt (i := 1) (x := .dt d v c) rfl) (fun q hq => by simpa [It.bs] using hq)
  obtain ⟨hxs, hcase⟩ := hown
  rcases hcase with ⟨h0, _⟩ | ⟨g', cap', cur, hv, _, hh, hnc, hcm, hcs, htk⟩
  · cases h0
  injection hv with hv1 _ hv3
  injection hv1 with hv1
  injection hv1 with hv1 _ _
  subst hv1 hv3
  obtain ⟨cur', T', hh', hc'⟩ := hr
  rw [hh] at hh'
  injection hh' with hh'
  injection hh' with e1 e2 _
  subst e1 e2
  have q0 := hc' _ _ (Nat.le_refl _) hx
  have q1 := hc' _ _ (by omega) hy
  have hb := Below.heap_setCell W ⟨g, ds.length * 3 + 2, none⟩ v
  refine grow g (ds.length + 1) cap _ ?_ ⟨rfl, rfl, rfl, by simp [World.setCell], fun k hk hne => Below.heap_setCell _ _ _ _ (fun e => hne (by rw [e]; rfl))⟩ (.inl rfl) (by simp only [World.setCell, Array.size_modify]; exact lt_of_some hh)
  refine ⟨by simp [hxs]; omega, .inr ⟨g, cap, cur.setIfInBounds (ds.length * 3 + 2) v, by simp, Nat.zero_le _, bxset hh v, by simp; omega, hcm, by simpa using hcs, ?_⟩⟩
  have hsz : ds.length * 3 + 3 ≤ cur.toList.length := by
    have e : cur.toList.length = cap * 3 := by rw [Array.length_toList]; exact hcs
    rw [e]
    have : (ds.length + 1) * 3 ≤ cap * 3 := Nat.mul_le_mul_right 3 hcap
    omega
  rw [Array.toList_setIfInBounds, List.length_append, List.length_singleton, Nat.add_mul, Nat.one_mul]
  have l0 : cur.toList[ds.length * 3]? = some (.int .i64 x) := by rw [Array.getElem?_toList]; exact q0
  have l1 : cur.toList[ds.length * 3 + 1]? = some (.int .i64 y) := by rw [Array.getElem?_toList]; exact q1
  apply List.ext_getElem?
  intro t
  rw [List.getElem?_take]
  by_cases ht : t < ds.length * 3
  · rw [if_pos (by omega), List.getElem?_set_ne (by omega), List.getElem?_append_left (by rw [hxs]; exact ht), ← htk, List.getElem?_take, if_pos ht]
  · rw [List.getElem?_append_right (by rw [hxs]; omega), hxs]
    by_cases h3 : t < ds.length * 3 + 3
    · rw [if_pos h3]
      obtain ⟨k, rfl⟩ : ∃ k, t = ds.length * 3 + k := ⟨t - ds.length * 3, by omega⟩
      rw [Nat.add_sub_cancel_left]
      have hk : k = 0 ∨ k = 1 ∨ k = 2 := by omega
      rcases hk with rfl | rfl | rfl
      · rw [List.getElem?_set_ne (by omega), Nat.add_zero, l0]
        rfl
      · rw [List.getElem?_set_ne (by omega), l1]
        rfl
      · rw [List.getElem?_set_self (by omega)]
        rfl
    · rw [if_neg h3, List.getElem?_eq_none (by simp; omega)]
end
/-- the cells of rows, as values -/
theorem RdL.vals {w : World} {B : Nat} {ad : Addr} : ∀ {r : List Dat} {o : Nat}, RdL w B ad o r → ∃ ys : List Value, ys.length = r.length ∧ RdV w B r ys ∧ ∀ j u, ys[j]? = some u → w.cell? (ad.add (o + j)) = some u
  | [], o, _ => ⟨[], rfl, rfl, fun j u h => by simp at h⟩
  | d :: r, o, h => by
    obtain ⟨⟨v, hv, hd⟩, h2⟩ := h
    obtain ⟨ys, h3, h4, h5⟩ := RdL.vals h2
    refine ⟨v :: ys, by simp [h3], ⟨v, ys, rfl, hd, h4⟩, fun j u hu => ?_⟩
    cases j with
    | zero => simp at hu; subst hu; exact hv
    | succ j =>
      have := h5 j u (by simpa using hu)
      rwa [show o + (j + 1) = o + 1 + j by omega]
theorem RdR.vals {w : World} {B sz : Nat} {ad : Addr} : ∀ {rs : List (List Dat)} {o : Nat}, (∀ r ∈ rs, r.length = sz) → RdR w B sz ad o rs → ∃ ys : List Value, ys.length = rs.length * sz ∧ (∀ i r, rs[i]? = some r → ∃ y, RdV w B r y ∧ y.length = sz ∧ ∀ k u, y[k]? = some u → ys[i * sz + k]? = some u) ∧ ∀ j u, ys[j]? = some u → w.cell? (ad.add (o + j)) = some u
  | [], o, _, _ => ⟨[], by simp, fun i r h => by simp at h, fun j u h => by simp at h⟩
  | r :: rs, o, hl, h => by
    obtain ⟨y, y1, y2, y3⟩ := RdL.vals h.1
    obtain ⟨ys, h3, h4, h5⟩ := RdR.vals (rs := rs) (fun q hq => hl q (by simp [hq])) h.2
    have hy : y.length = sz := by rw [y1]; exact hl r (by simp)
    refine ⟨y ++ ys, by rw [List.length_append, hy, h3, List.length_cons, Nat.add_mul]; omega, fun i q hq => ?_, fun j u hu => ?_⟩
    · cases i with
      | zero =>
        simp at hq
        subst hq
        refine ⟨y, y2, hy, fun k u hu => ?_⟩
        rw [Nat.zero_mul, Nat.zero_add, List.getElem?_append_left (idx_lt hu)]
        exact hu
      | succ i =>
        obtain ⟨z, z1, z2, z3⟩ := h4 i q (by simpa using hq)
        refine ⟨z, z1, z2, fun k u hu => ?_⟩
        rw [List.getElem?_append_right (by rw [hy, Nat.add_mul]; omega), hy, show (i + 1) * sz + k - sz = i * sz + k by rw [Nat.add_mul]; omega]
        exact z3 k u hu
    · by_cases hj : j < sz
      · rw [List.getElem?_append_left (by omega)] at hu
        exact y3 j u hu
      · rw [List.getElem?_append_right (by omega), hy] at hu
        have := h5 (j - sz) u hu
        rwa [show o + sz + (j - sz) = o + j by omega] at this
/-- a value without parts fills one cell -/
def Dat.one : Dat → Bool
  | .agg _ => false
  | _ => true
theorem RdC.oneCell {w : World} {B : Nat} {d : Dat} {v : Value} (h : RdC w B d v) (hd : d.one = true) : v.oneCell' = true := by
  cases d with
  | int n => have h : v = .int .i64 n := h; rw [h]; rfl
  | bool b => have h : v = .bool b := h; rw [h]; rfl
  | str s => have h : v = .string s := h; rw [h]; rfl
  | rows e sz ds => obtain ⟨A, c, rfl, _⟩ := h; rfl
  | agg ds => cases hd
theorem RdV.ones {w : World} {B : Nat} : ∀ {r : List Dat} {ys : List Value}, (∀ d ∈ r, d.one = true) → RdV w B r ys → ∀ u ∈ ys, u.oneCell' = true
  | [], ys, _, h, u, hu => by
    have h : ys = [] := h
    subst h
    simp at hu
  | d :: r, ys, hd, h, u, hu => by
    obtain ⟨x, xs, rfl, h1, h2⟩ := h
    rcases List.mem_cons.1 hu with rfl | hu
    · exact h1.oneCell (hd d (by simp))
    · exact RdV.ones (fun q hq => hd q (by simp [hq])) h2 u hu
theorem RdR.ones {w : World} {B sz : Nat} {ad : Addr} : ∀ {rs : List (List Dat)} {o : Nat}, (∀ r ∈ rs, r.length = sz ∧ ∀ d ∈ r, d.one = true) → RdR w B sz ad o rs → ∃ ys : List Value, ys.length = rs.length * sz ∧ (∀ i r, rs[i]? = some r → ∃ y, RdV w B r y ∧ y.length = sz ∧ ∀ k u, y[k]? = some u → ys[i * sz + k]? = some u) ∧ (∀ u ∈ ys, u.oneCell' = true) ∧ ∀ j u, ys[j]? = some u → w.cell? (ad.add (o + j)) = some u
  | [], o, _, _ => ⟨[], by simp, fun i r h => by simp at h, by simp, fun j u h => by simp at h⟩
  | r :: rs, o, hl, h => by
    obtain ⟨y, y1, y2, y3⟩ := RdL.vals h.1
    obtain ⟨ys, h3, h4, h5, h6⟩ := RdR.ones (rs := rs) (fun q hq => hl q (by simp [hq])) h.2
    have hy : y.length = sz := by rw [y1]; exact (hl r (by simp)).1
    refine ⟨y ++ ys, by rw [List.length_append, hy, h3, List.length_cons, Nat.add_mul]; omega, fun i q hq => ?_, fun u hu => ?_, fun j u hu => ?_⟩
    · cases i with
      | zero =>
        simp at hq
        subst hq
        refine ⟨y, y2, hy, fun k u hu => ?_⟩
        rw [Nat.zero_mul, Nat.zero_add, List.getElem?_append_left (idx_lt hu)]
        exact hu
      | succ i =>
        obtain ⟨z, z1, z2, z3⟩ := h4 i q (by simpa using hq)
        refine ⟨z, z1, z2, fun k u hu => ?_⟩
        rw [List.getElem?_append_right (by rw [hy, Nat.add_mul]; omega), hy, show (i + 1) * sz + k - sz = i * sz + k by rw [Nat.add_mul]; omega]
        exact z3 k u hu
    · rcases List.mem_append.1 hu with hu | hu
      · exact RdV.ones (hl r (by simp)).2 y2 u hu
      · exact h5 u hu
    · by_cases hj : j < sz
      · rw [List.getElem?_append_left (by omega)] at hu
        exact y3 j u hu
      · rw [List.getElem?_append_right (by omega), hy] at hu
        have := h6 (j - sz) u hu
        rwa [show o + sz + (j - sz) = o + j by omega] at this
/-- the cells of rows as a list of values, each row read -/
def Cells (w : World) (rs : List (List Dat)) (ys : List Value) : Prop := ∀ i r, rs[i]? = some r → ∃ y, RdV w w.heap.size r y ∧ y.length = 3 ∧ ∀ k u, y[k]? = some u → ys[i * 3 + k]? = some u
section
variable {w0 W : World} {L : List It}
/-- to a slice without elements all of another's cells are added, whatever they lead to -/
theorem wpList_raw {ops : Array Oper} {rest : List Oper} {o : Oper} {a : Act} {Q : Exit → Act → World → Prop} (hgd : o.guard = none) (s x : Operand) (t : TypeId)
    (ho : o.op = .call { callee := .builtin .append, args := #[s, x], argTypes := #[t, t] }) {e : TypeId} {z : Value} {bytes : Nat} (he : Elt t e z 3 bytes) {rs : List (List Dat)} {g0 c1 : Nat} {b : List Nat}
    (h : Ms w0 (.dt (.rows e 3 []) (.slice (some ⟨g0, 0, none⟩) 0 c1) b :: L) W) (hs : a.eval s = .slice (some ⟨g0, 0, none⟩) 0 c1) (A : Option Addr) (m c0 : Nat) (hx : a.eval x = .slice A m c0) (hrd : RdC w0 w0.heap.size (.rows e 3 rs) (.slice A m c0)) (hone : ∀ r ∈ rs, r.length = 3 ∧ ∀ d ∈ r, d.one = true) (hlen : rs.length ≤ 2000000)
    (K : ∀ g cap W' b' ys, m ≤ cap → Ms w0 (.dt (.rows e 3 []) (.slice (some ⟨g, 0, none⟩) 0 cap) b' :: L) W' → Raw W' g 0 ys → Cells w0 rs ys → wpList Tryz.prog ops Q rest (a.put o.dst (.slice (some ⟨g, 0, none⟩) m cap)) W') : wpList Tryz.prog ops Q (o :: rest) a W := by
  obtain ⟨i, ht, hi, hz, hsize, hby, hzs, hsz, hbm⟩ := he
  obtain ⟨A', c', hv, hc, hrd⟩ := hrd
  injection hv with e1 e2 e3
  subst e1 e2 e3
  by_cases h0 : 0 < rs.length
  · obtain ⟨ad, rfl, hbk, hsp, hrr⟩ := hrd h0
    obtain ⟨ys, k1, k2, k3, k4⟩ := RdR.ones hone hrr
    obtain ⟨xs, hown, grow⟩ := Ms.grow (Y := []) (rs := []) (news := []) (c := []) h ⟨rfl, rfl⟩ (by simp) (by simp)
    have hx0 : xs = [] := List.eq_nil_of_length_eq_zero (by rw [hown.1]; simp)
    subst hx0
    refine wpList_append_lies _ hgd s x t ho 0 e i z 3 bytes ht hi hz hsize hby hzs hsz _ 0 [] hs hown ad rs.length c0 ys hx k1 (fun j u hu => by have := k4 j u hu; rw [Nat.zero_add] at this; exact (h.bl.cell (p := ad.add j) (by rw [block_of_add]; exact hbk)).trans this) k3 h0 (by unfold maxLen; omega) ?_ (Nat.zero_le _) _ rfl ?_
    · exact bytes_fit (by omega) hbm
    · intro g cap W' hown' hg hat hlt
      rw [Nat.zero_add, List.nil_append] at hown'
      rcases hown'.2 with ⟨e0, _⟩ | ⟨g', cap', cur, e0, q1, q2, q3, q4, q5, q6⟩
      · cases e0
      injection e0 with e1 _ e3
      injection e1 with e1
      injection e1 with e1
      subst e1 e3
      obtain ⟨b', hm⟩ := grow g 0 cap W' ⟨by simp, .inr ⟨g, cap, cur, rfl, Nat.zero_le _, q2, Nat.zero_le _, q4, q5, by simp⟩⟩ hg hat hlt
      have hraw : Raw W' g 0 ys := by
        refine ⟨cur, e, q2, fun t u _ hu => ?_⟩
        rw [← q6, List.getElem?_take] at hu
        split at hu
        · rwa [Array.getElem?_toList] at hu
        · cases hu
      rw [Nat.zero_add]
      exact K g cap W' b' ys q3 (by simpa using hm) hraw k2
  · obtain rfl : rs = [] := List.eq_nil_of_length_eq_zero (by omega)
    obtain ⟨xs, cs, hown, _⟩ : OwC W (.rows e 3 []) (.slice (some ⟨g0, 0, none⟩) 0 c1) b := h.at_ (i := 0) rfl
    refine wpList_append_zero hgd s x t ho 0 e i 3 ht hi _ 0 xs hs hown A c0 hx ?_
    rcases hown.2 with ⟨e0, _⟩ | ⟨g', cap', cur, e0, q1, q2, q3⟩
    · cases e0
    injection e0 with e1 _ e3
    injection e1 with e1
    injection e1 with e1
    subst e1 e3
    exact K g0 c1 W b [] (Nat.zero_le _) h ⟨cur, e, q2, fun t u _ hu => by simp at hu⟩ (fun i r hr => by simp at hr)
end
/-- a slice whose cells are those of the rows, in a block of its own; nil if the rows came as nil -/
def RawPost (e : TypeId) (rs : List (List Dat)) (w : World) (E : Ending) (w' : World) : Prop := (rs = [] ∧ E = .returned (.slice none 0 0) ∧ w = w') ∨
  ∃ g cap ys, E = .returned (.slice (some ⟨g, 0, none⟩) rs.length cap) ∧ rs.length ≤ cap ∧ Own w.heap.size w'.heap.size w' (.rows e 3 []) (.slice (some ⟨g, 0, none⟩) 0 cap) ∧ Raw w' g 0 ys ∧ Cells w rs ys ∧ Below w.heap.size w w'
end Go.Proofs.YtgfbcpcfdlnbhabGreatDoor.low


/-
  Contracts of impl.seenOk, entriesOk, copyOp and opsOf. Written by mkimp8b.py.
-/
namespace Go.Proofs.YtgfbcpcfdlnbhabGreatDoor.low
open Go.RowKit
set_option linter.unusedVariables false

theorem seens_len : ∀ {l m : List Se}, ¬ l.length = m.length → seensB l m = false
  | [], [], h => absurd rfl h
  | [], _ :: _, _ => rfl
  | _ :: _, [], _ => rfl
  | a :: l, b :: m, h => by
    rw [seensB, seens_len (l := l) (m := m) (by simpa using h), Bool.and_false]
set_option maxRecDepth 100000 in
set_option maxHeartbeats 3200000 in
theorem equalSe_d (v v' : Value) (l m : List Se) (w : World) (h : RdC w w.heap.size (encSes l) v) (h' : RdC w w.heap.size (encSes m) v') (hl : l.length ≤ 1048576) (hm : m.length ≤ 1048577) : Calls Tryz.prog 136 #[v, v'] w (Tells (seensB l m) w) := by
  obtain ⟨A, c, rfl⟩ := sliceSes h
  obtain ⟨A', c', rfl⟩ := sliceSes h'
  have HR := Lib.hid h
  have HR' := Lib.hid h'
  clear h h'
  by_cases hlen : l.length = m.length
  · have gl : (((l.length : Int)) != (m.length : Int)) = false := by simp [hlen]
    have HL := Lib.hid hlen
    clear hlen
    go_enter Tryz.func136, Tryz.ntmps136
    go_wp2
    go_loopw [13] (fun i wr => ∃ j : Nat, j ≤ l.length ∧ i = .int .i64 (j : Int) ∧ seensB l m = seensB (l.drop j) (m.drop j) ∧ Below w.heap.size w wr) (fun i _ => l.length - (intOf i).toNat)
    case atStart => exact ⟨0, Nat.zero_le _, rfl, by simp, Below.refl _ _⟩
    case round =>
      obtain ⟨j, hj, rfl, hi, hbel⟩ := hrel
      have HI := Lib.hid hi
      clear hi
      by_cases hlt : j < l.length
      · have hlt2 : j < m.length := by have := HL.out; omega
        obtain ⟨b, off, s, rfl, hbb, hp, x0, x1, x2⟩ := atSes (HR.out.below hbel) hlt
        obtain ⟨b', off', u, rfl, hbb', hp', y0, y1, y2⟩ := atSes (HR'.out.below hbel) hlt2
        have HS := Lib.hid (seensB_step hp hp')
        clear hp hp'
        by_cases h1 : s = u
        · subst h1
          have HS2 := Lib.hid (show seensB l m = seensB (l.drop (j + 1)) (m.drop (j + 1)) by rw [HI.out, HS.out, seSame_eq.2 rfl, Bool.true_and])
          go_wp2
          go_quiet (fail)
          go_wp2
          go_roundw
          case rel => exact ⟨j + 1, by omega, by go_num, HS2.out, hbel.trans ⟨rfl, rfl, rfl, Nat.le_refl _, fun _ _ => rfl⟩⟩
          case measure => simp [intOf]; omega
        · have HS2 := Lib.hid (show seensB l m = false by rw [HI.out, HS.out, Bool.eq_false_iff.2 (fun e => h1 (seSame_eq.1 e)), Bool.false_and])
          have h2 : ((s.client == u.client) && ((s.seq == u.seq) && (s.rev == u.rev))) = false := by rw [Bool.eq_false_iff]; intro e; simp at e; obtain ⟨s1, s2, s3⟩ := s; obtain ⟨u1, u2, u3⟩ := u; simp at e; obtain ⟨rfl, rfl, rfl⟩ := e; exact h1 rfl
          clear h1
          cases q1 : s.client == u.client
          · clear h2
            go_wp2
            go_quiet (fail)
            go_wp2
            go_ret
            exact ⟨ret_b HS2.out.symm, hbel.trans ⟨rfl, rfl, rfl, Nat.le_refl _, fun _ _ => rfl⟩⟩
          cases q2 : s.seq == u.seq
          · clear h2
            go_wp2
            go_quiet (fail)
            go_wp2
            go_ret
            exact ⟨ret_b HS2.out.symm, hbel.trans ⟨rfl, rfl, rfl, Nat.le_refl _, fun _ _ => rfl⟩⟩
          have q3 : (s.rev == u.rev) = false := by simpa [q1, q2] using h2
          clear h2
          go_wp2
          go_quiet (fail)
          go_wp2
          go_ret
          exact ⟨ret_b HS2.out.symm, hbel.trans ⟨rfl, rfl, rfl, Nat.le_refl _, fun _ _ => rfl⟩⟩
      · have h9 : l.drop j = [] := List.drop_eq_nil_of_le (by omega)
        have h8 : m.drop j = [] := List.drop_eq_nil_of_le (by have := HL.out; omega)
        have HS2 := Lib.hid (show seensB l m = true by rw [HI.out, h9, h8]; rfl)
        clear h9 h8
        go_wp2
        go_ret
        exact ⟨ret_b HS2.out.symm, hbel⟩
  · have gl : (((l.length : Int)) != (m.length : Int)) = true := by simp; omega
    have HS2 := Lib.hid (seens_len hlen)
    clear hlen
    go_enter Tryz.func136, Tryz.ntmps136
    go_wp2
    go_ret
    exact ⟨ret_b HS2.out.symm, Below.refl _ _⟩
set_option maxRecDepth 100000 in
set_option maxHeartbeats 3200000 in
theorem implSeenOk_d (v : Value) (l : List Se) (head : Int) (w : World) (h : RdC w w.heap.size (encSes l) v) (hs : SmSes l) : Calls Tryz.prog 109 #[v, .int .i64 head] w (Tells (seenIB head l) w) := by
  obtain ⟨A, c, rfl⟩ := sliceSes h
  have hl := hs.len
  have HR := Lib.hid h
  clear h
  have HM := Lib.hid (Ms.start w)
  go_enter Tryz.func109, Tryz.ntmps109
  go_wp2
  go_loopw [9] (fun i wr => ∃ j : Nat, j ≤ l.length ∧ i = .int .i64 (j : Int) ∧ (l.take j).all (okSe head) = true ∧ Ms w [] wr) (fun i _ => l.length - (intOf i).toNat)
  case atStart => exact ⟨0, Nat.zero_le _, rfl, by simp, HM.out⟩
  case round =>
    obtain ⟨j, hj, rfl, hi, hm⟩ := hrel
    clear HM
    have HM := Lib.hid hm
    have HI := Lib.hid hi
    clear hm hi
    by_cases hlt : j < l.length
    · obtain ⟨b, off, s, rfl, hbb, hp, y0, y1, y2⟩ := atSes HR.out hlt
      have x0 := (HM.out.bl.cell (p := ⟨b, off + j * 3, none⟩) hbb).trans y0
      have x1 := (HM.out.bl.cell (p := ⟨b, off + j * 3 + 1, none⟩) hbb).trans y1
      have x2 := (HM.out.bl.cell (p := ⟨b, off + j * 3 + 2, none⟩) hbb).trans y2
      clear y0 y1 y2
      have HT := Lib.hid (show (l.take (j + 1)).all (okSe head) = okSe head s by rw [List.take_add_one, hp, List.all_append, HI.out]; simp)
      have HF := Lib.hid (show okSe head s = false → seenIB head l = false from fun e => by unfold seenIB; rw [show l.all (okSe head) = false from Bool.eq_false_iff.2 (fun e2 => by rw [List.all_eq_true.1 e2 s (List.mem_of_getElem? hp)] at e; cases e), Bool.false_and])
      clear hp
      replace HM := Lib.hid (HM.out.new #[.int .i64 s.client, .int .i64 s.seq, .int .i64 s.rev] 87)
      have HE := Lib.hid (show okSe head s = (inB s.client 1 8 && inB s.seq 1 1000000000 && inB s.rev 1 head) from rfl)
      go_wp2_with fail
      refine (clientOk_any _ _).mono ?_
      rintro e' w' ⟨rfl, rfl⟩
      cases h1 : inB s.client 1 8
      · go_wp2
        go_ret
        exact ⟨ret_b (HF.out (by rw [HE.out, h1]; simp)).symm, HM.out.bl⟩
      go_wp2_with fail
      refine (seqOk_any _ _).mono ?_
      rintro e' w' ⟨rfl, rfl⟩
      cases h2 : inB s.seq 1 1000000000
      · go_wp2
        go_ret
        exact ⟨ret_b (HF.out (by rw [HE.out, h1, h2]; simp)).symm, HM.out.bl⟩
      by_cases h3 : s.rev < 1
      · have h9 : inB s.rev 1 head = false := inB_f (by omega)
        have H9 := Lib.hid h9
        clear h9
        have g3 : decide (s.rev < 1) = true := decide_eq_true h3
        go_wp2
        go_ret
        exact ⟨ret_b (HF.out (by rw [HE.out, h1, h2, H9.out]; simp)).symm, HM.out.bl⟩
      have g3 : decide (s.rev < 1) = false := decide_eq_false h3
      by_cases h4 : head < s.rev
      · have h9 : inB s.rev 1 head = false := inB_f (by omega)
        have H9 := Lib.hid h9
        clear h9
        have g4 : decide (head < s.rev) = true := decide_eq_true h4
        go_wp2
        go_ret
        exact ⟨ret_b (HF.out (by rw [HE.out, h1, h2, H9.out]; simp)).symm, HM.out.bl⟩
      have g4 : decide (head < s.rev) = false := decide_eq_false h4
      have H9 := Lib.hid (show okSe head s = true by rw [HE.out, h1, h2, inB_t (by omega)]; rfl)
      go_wp2
      go_roundw
      case rel => exact ⟨j + 1, by omega, by go_num, by rw [HT.out, H9.out], HM.out.pick (ks := []) (by decide) rfl⟩
      case measure => simp [intOf]; omega
    · obtain rfl : j = l.length := by omega
      have HI2 := Lib.hid (show l.all (okSe head) = true by have := HI.out; rwa [List.take_length] at this)
      clear HI
      go_wp2_with fail
      refine (implRequestsOf_d _ l _ (HM.out.arg HR.out) hs).mono ?_
      rintro e' W1 ⟨g, es, c0, rfl, ho, hb, hg, b'⟩
      have HO := Lib.hid ho
      have HB := Lib.hid hb
      clear ho hb
      replace HM := Lib.hid (HM.out.past b')
      clear b'
      go_wp2_with fail
      refine (implInOrder_d g _ es c0 _ HB.out HO.out (by have := ded_len (l := l) (m := []); simp at this; unfold dedSe; omega)).mono ?_
      rintro e' W2 ⟨v', rfl, o', b'⟩
      obtain ⟨Ao, co, rfl⟩ := sliceSes o'.read
      obtain ⟨bo, hm⟩ := HM.out.got o' b'
      clear o' b'
      replace HM := Lib.hid hm
      clear hm
      go_wp2_with fail
      refine (equalSe_d _ _ l (ordSe (dedSe l)) _ (HM.out.arg HR.out) (HM.out.read (i := 0) rfl) hl (by have := ded_len (l := l) (m := []); have h9 := ordSe_perm (l := dedSe l); have h8 := h9.length_eq; simp at this; unfold dedSe at *; omega)).mono ?_
      rintro e' W3 ⟨rfl, b'⟩
      replace HM := Lib.hid (HM.out.past b')
      clear b'
      go_wp2
      go_ret
      exact ⟨ret_b (by unfold seenIB; rw [HI2.out, Bool.true_and]), HM.out.bl⟩
set_option maxRecDepth 100000 in
set_option maxHeartbeats 3200000 in
theorem implEntriesOk_d (v : Value) (l : List En) (w : World) (h : RdC w w.heap.size (encEns l) v) (hs : SmEns l) : Calls Tryz.prog 108 #[v] w (Tells (entriesIB l) w) := by
  obtain ⟨A, c, rfl⟩ := sliceEns h
  have hl := hs.len
  have HR := Lib.hid h
  clear h
  by_cases h8 : 8 < l.length
  · have HN := Lib.hid (show entriesIB l = false by unfold entriesIB; rw [decide_eq_false (by omega), Bool.false_and])
    have g8 : decide (8 < (l.length : Int)) = true := decide_eq_true (by omega)
    go_enter Tryz.func108, Tryz.ntmps108
    go_wp2
    go_ret
    exact ⟨ret_b HN.out.symm, Below.refl _ _⟩
  have HN := Lib.hid (show entriesIB l = l.all entryB by unfold entriesIB; rw [decide_eq_true (by omega), Bool.true_and])
  have g8 : decide (8 < (l.length : Int)) = false := decide_eq_false (by omega)
  have HM := Lib.hid (Ms.start w)
  go_enter Tryz.func108, Tryz.ntmps108
  go_wp2
  go_loopw [10] (fun i wr => ∃ j : Nat, j ≤ l.length ∧ i = .int .i64 (j : Int) ∧ (l.take j).all entryB = true ∧ Ms w [] wr) (fun i _ => l.length - (intOf i).toNat)
  case atStart => exact ⟨0, Nat.zero_le _, rfl, by simp, HM.out⟩
  case round =>
    obtain ⟨j, hj, rfl, hi, hm⟩ := hrel
    clear HM
    have HM := Lib.hid hm
    have HI := Lib.hid hi
    clear hm hi
    by_cases hlt : j < l.length
    · obtain ⟨b, off, e, A5, c5, rfl, hbb, hp, y0, y1, y2, q2⟩ := atEns HR.out hlt
      have x0 := (HM.out.bl.cell (p := ⟨b, off + j * 3, none⟩) hbb).trans y0
      have x1 := (HM.out.bl.cell (p := ⟨b, off + j * 3 + 1, none⟩) hbb).trans y1
      have x2 := (HM.out.bl.cell (p := ⟨b, off + j * 3 + 2, none⟩) hbb).trans y2
      clear y0 y1 y2
      have hse := hs.at_ (List.mem_of_getElem? hp)
      have HT := Lib.hid (show (l.take (j + 1)).all entryB = entryB e by rw [List.take_add_one, hp, List.all_append, HI.out]; simp)
      have HF := Lib.hid (show entryB e = false → l.all entryB = false from fun e1 => Bool.eq_false_iff.2 (fun e2 => by rw [List.all_eq_true.1 e2 e (List.mem_of_getElem? hp)] at e1; cases e1))
      clear hp
      replace HM := Lib.hid (HM.out.new #[.int .i64 e.client, .int .i64 e.seq, .slice A5 e.o.length c5] 92)
      go_wp2_with fail
      obtain ⟨W1, hW, hm⟩ := HM.out.name
      rw [← hW]
      replace HM := Lib.hid hm
      clear hm hW
      refine (implEntryOk_d _ e _ (rdEn e (HM.out.arg q2)) hse).mono ?_
      rintro e' W2 ⟨rfl, b'⟩
      replace HM := Lib.hid (HM.out.past b')
      clear b'
      clear x0 x1 x2 hse
      cases h1 : entryB e
      · go_wp2
        go_ret
        exact ⟨ret_b (by rw [HN.out, HF.out h1]), HM.out.bl⟩
      go_wp2
      go_roundw
      case rel => exact ⟨j + 1, by omega, by go_num, by rw [HT.out, h1], HM.out.pick (ks := []) (by decide) rfl⟩
      case measure => simp [intOf]; omega
    · obtain rfl : j = l.length := by omega
      have HI2 := Lib.hid (show l.all entryB = true by have := HI.out; rwa [List.take_length] at this)
      clear HI
      go_wp2
      go_ret
      exact ⟨ret_b (by rw [HN.out, HI2.out]), HM.out.bl⟩
end Go.Proofs.YtgfbcpcfdlnbhabGreatDoor.low


/-
  Contracts of clones, impl.copyOp and opsOf. Written by mkimp8c.py.
-/
namespace Go.Proofs.YtgfbcpcfdlnbhabGreatDoor.low
open Go.RowKit
set_option linter.unusedVariables false

set_option maxRecDepth 100000 in
set_option maxHeartbeats 3200000 in
theorem cloneI_d (v : Value) (zs : List Int) (w : World) (h : RdC w w.heap.size (encInts zs) v) (hs : zs.length ≤ 1048576) : Calls Tryz.prog 115 #[v] w (OwnPost (encInts zs) w) := by
  obtain ⟨A, c, rfl⟩ := sliceI h
  have hq : ∀ (w : World) (A : Option Addr) (n c n' c' : Nat), (binOp .eql 22 (.slice A n c) (.slice none n' c')).run Tryz.prog w = .ok (.bool A.isNone) w := fun w A n c n' c' => Lib.run_eql_slice_nil w _ _ A n c n' c' Tryz.underlying22
  cases A with
  | none =>
    obtain rfl : zs = [] := by
      obtain ⟨A9, c9, hv, _, h9⟩ := h
      injection hv with e1 e2 e3
      by_cases h0 : 0 < zs.length
      · obtain ⟨ad, e4, _⟩ := h9 (by simpa using h0)
        rw [← e1] at e4
        cases e4
      · exact List.eq_nil_of_length_eq_zero (by omega)
    clear h
    go_enter Tryz.func115, Tryz.ntmps115
    go_wp2
    go_ret
    exact ((Ms.start w).nil 3 1).post
  | some ad =>
    have HR := Lib.hid h
    clear h
    have HM := Lib.hid (Ms.start w)
    replace HM := Lib.hid (HM.out.empty 3 1)
    go_enter Tryz.func115, Tryz.ntmps115
    go_wp2_with (at_builtin; refine wpList_msAll rfl (.tmp 5) (.tmp 6) 22 rfl eltInt HM.out rfl (some ad) zs.length c rfl (HM.out.arg HR.out) (flatI _) (by simp; omega) ?_; intro A1 c1 w1 b1 hm)
    simp only [List.nil_append, List.length_nil, Nat.zero_add] at hm ⊢
    have HM1 := Lib.hid hm
    clear hm HM
    go_wp2
    go_ret
    exact (show Ms w (.dt (encInts zs) _ _ :: _) _ from HM1.out).post
theorem eltPt : Elt 30 74 (.agg #[.int .i64 0, .int .i64 0, .slice none 0 0]) 3 40 := elt_of (by kernel_rfl) (by kernel_rfl) rfl (by omega) (by omega)
set_option maxRecDepth 100000 in
set_option maxHeartbeats 3200000 in
theorem clonePs_d (v : Value) (ps : List Pt) (w : World) (h : RdC w w.heap.size (encPs ps) v) (hs : ps.length ≤ 1048576) : Calls Tryz.prog 114 #[v] w (RawPost 74 (ps.map encPt) w) := by
  obtain ⟨A, c, rfl⟩ := sliceP h
  have hq : ∀ (w : World) (A : Option Addr) (n c n' c' : Nat), (binOp .eql 30 (.slice A n c) (.slice none n' c')).run Tryz.prog w = .ok (.bool A.isNone) w := fun w A n c n' c' => Lib.run_eql_slice_nil w _ _ A n c n' c' Tryz.underlying30
  cases A with
  | none =>
    obtain rfl : ps = [] := by
      obtain ⟨A9, c9, hv, _, h9⟩ := h
      injection hv with e1 e2 e3
      by_cases h0 : 0 < ps.length
      · obtain ⟨ad, e4, _⟩ := h9 (by simpa using h0)
        rw [← e1] at e4
        cases e4
      · exact List.eq_nil_of_length_eq_zero (by omega)
    clear h
    go_enter Tryz.func114, Tryz.ntmps114
    go_wp2
    go_ret
    exact .inl ⟨rfl, rfl, rfl⟩
  | some ad =>
    have HR := Lib.hid h
    clear h
    have e0 : (ps.map encPt).length = ps.length := List.length_map _
    have E0 := Lib.hid e0
    clear e0
    have HM := Lib.hid (Ms.start w)
    replace HM := Lib.hid (HM.out.empty 74 3)
    go_enter Tryz.func114, Tryz.ntmps114
    go_wp2_with (at_builtin; refine wpList_raw (rs := ps.map encPt) rfl (.tmp 5) (.tmp 6) 30 rfl eltPt HM.out rfl (some ad) ps.length c rfl HR.out (fun r hr => by obtain ⟨q, _, rfl⟩ := List.mem_map.1 hr; exact ⟨rfl, fun d hd => by simp only [encPt, List.mem_cons, List.not_mem_nil, or_false] at hd; rcases hd with rfl | rfl | rfl <;> rfl⟩) (by rw [E0.out]; omega) ?_; intro g cap w1 b1 ys hcap hm hraw hcells)
    have HM1 := Lib.hid hm
    have HX := Lib.hid (And.intro hraw (And.intro hcells hcap))
    clear hm HM hraw hcells hcap
    go_wp2
    go_ret
    exact .inr ⟨g, cap, ys, by rw [E0.out]; rfl, by rw [E0.out]; exact HX.out.2.2, HM1.out.own (i := 0) rfl, HX.out.1, HX.out.2.1, HM1.out.bl⟩
set_option maxRecDepth 100000 in
set_option maxHeartbeats 3200000 in
theorem implCopyOp_d (v : Value) (ps : List Pt) (w : World) (h : RdC w w.heap.size (encPs ps) v) (hs : SmP ps) : Calls Tryz.prog 90 #[v] w (OwnPost (encPs ps) w) := by
  obtain ⟨A, c, rfl⟩ := sliceP h
  have hl : ps.length ≤ 1048576 := by have := hs.1; omega
  have HR := Lib.hid h
  clear h
  have HM := Lib.hid (Ms.start w)
  go_enter Tryz.func90, Tryz.ntmps90
  go_wp2_with fail
  refine (clonePs_d _ ps _ HR.out hl).mono ?_
  rintro e' W1 (⟨h0, rfl, rfl⟩ | ⟨g, cap, ys, rfl, hcap, o', hraw, hcells, b'⟩)
  · obtain rfl : ps = [] := List.map_eq_nil_iff.1 h0
    go_wp2
    refine wp_loop_rounds 1 ?_
    rw [rounds_succ]
    go_wp2
    go_ret
    exact (HM.out.nil 74 3).post
  · rw [show (ps.map encPt).length = ps.length from List.length_map _] at hcap ⊢
    have HW := Lib.hid hraw
    have HC := Lib.hid hcells
    clear hraw hcells
    obtain ⟨bp, hm⟩ := HM.out.got o' b'
    clear o' b'
    replace HM := Lib.hid hm
    clear hm
    go_wp2
    go_loopw [10] (fun i wr => ∃ (j : Nat) (bs : List Nat), j ≤ ps.length ∧ i = .int .i64 (j : Int) ∧ Ms w [.dt (.rows 74 3 ((ps.take j).map encPt)) (.slice (some ⟨g, 0, none⟩) j cap) bs] wr ∧ Raw wr g (j * 3) ys) (fun i _ => ps.length - (intOf i).toNat)
    case atStart => exact ⟨0, _, Nat.zero_le _, rfl, HM.out, by simpa using HW.out⟩
    case round =>
      obtain ⟨j, bs, hj, rfl, hm, hw⟩ := hrel
      clear HM HW
      have HM := Lib.hid hm
      have HW := Lib.hid hw
      clear hm hw
      by_cases hlt : j < ps.length
      · obtain ⟨p, hp⟩ : ∃ p, ps[j]? = some p := ⟨_, List.getElem?_eq_getElem hlt⟩
        obtain ⟨y, hy, hyl, hyk⟩ := HC.out j (encPt p) (by rw [List.getElem?_map, hp]; rfl)
        obtain ⟨_, _, rfl, rfl, _, _, rfl, rfl, v2, _, rfl, hr2, rfl⟩ := hy
        obtain ⟨A5, c5, rfl⟩ := sliceI hr2
        have x0 : wr.cell? ⟨g, j * 3, none⟩ = some (.int .i64 p.kind) := HW.out.cell (Nat.le_refl _) (hyk 0 _ rfl)
        have x1 : wr.cell? ⟨g, j * 3 + 1, none⟩ = some (.int .i64 p.n) := HW.out.cell (by omega) (hyk 1 _ rfl)
        have x2 : wr.cell? ⟨g, j * 3 + 2, none⟩ = some (.slice A5 p.signs.length c5) := HW.out.cell (by omega) (hyk 2 _ rfl)
        have HY := Lib.hid (show ys[j * 3]? = some (.int .i64 p.kind) ∧ ys[j * 3 + 1]? = some (.int .i64 p.n) from ⟨hyk 0 _ rfl, hyk 1 _ rfl⟩)
        have x3 : ys[j * 3 + 2]? = some (.slice A5 p.signs.length c5) := hyk 2 _ rfl
        have X3 := Lib.hid x3
        have HR2 := Lib.hid hr2
        have HT := Lib.hid (show (ps.take (j + 1)).map encPt = (ps.take j).map encPt ++ [[.int p.kind, .int p.n, encInts p.signs]] by rw [List.take_add_one, hp]; simp [encPt])
        have hsm := (show p.signs.length ≤ 1048576 from hs.all p (List.mem_of_getElem? hp))
        have hlj : j < cap := by omega
        have hlen : ((ps.take j).map encPt).length = j := by simp; omega
        have HLN := Lib.hid hlen
        clear hyk hyl hr2 x3 hp hlen
        have HW := Lib.hid (HW.out.past (alloc_below wr (.cells #[.int .i64 p.kind, .int .i64 p.n, .slice A5 p.signs.length c5] 74)))
        replace HM := Lib.hid (HM.out.new #[.int .i64 p.kind, .int .i64 p.n, .slice A5 p.signs.length c5] 74)
        go_wp2_with fail
        generalize (wr.alloc (.cells #[.int .i64 p.kind, .int .i64 p.n, .slice A5 p.signs.length c5] 74)) = W2 at HM HW ⊢
        refine (cloneI_d _ p.signs _ (HM.out.arg HR2.out) hsm).mono ?_
        rintro e' W3 ⟨v', rfl, o', b'⟩
        obtain ⟨A6, c6, rfl⟩ := sliceI o'.read
        have HW := Lib.hid (HW.out.past b')
        obtain ⟨b6, hm⟩ := HM.out.got o' b'
        clear o' b'
        replace HM := Lib.hid hm
        clear hm
        have y2 : W3.cell? ⟨g, j * 3 + 2, none⟩ = some (.slice A5 p.signs.length c5) := HW.out.cell (by omega) X3.out
        have f2 : W3.frozen? ⟨g, j * 3 + 2, none⟩ = false := HW.out.free
        clear x0 x1 x2
        have hm := HM.out.pk [2, 0, 1] (by decide) (by simp)
        simp only [low.pk, List.getElem?_cons_zero, List.getElem?_cons_succ] at hm
        replace HM := Lib.hid hm
        clear hm
        obtain ⟨b8, hm⟩ := HM.out.fill3 HLN.out.symm hlj HW.out HY.out.1 HY.out.2
        rw [← HT.out] at hm
        have HM8 := Lib.hid hm
        have HW8 := Lib.hid (HW.out.set (k' := (j + 1) * 3) (j * 3 + 2) (.slice A6 p.signs.length c6) (by omega) (by omega))
        clear hm HM HW HY X3 HT HR2
        go_wp2
        go_roundw
        case rel => exact ⟨j + 1, b8, by omega, by go_num, HM8.out.pick (ks := [0]) (by decide) rfl, HW8.out⟩
        case measure => simp [intOf]; omega
      · obtain rfl : j = ps.length := by omega
        have hm := HM.out
        rw [List.take_length] at hm
        have HM7 := Lib.hid hm
        clear hm HM
        go_wp2
        go_ret
        exact (show Ms w [.dt (encPs ps) _ _] _ from HM7.out).post
theorem eltPs : Elt 64 30 (.slice none 0 0) 1 24 := elt_of (by kernel_rfl) (by kernel_rfl) rfl (by omega) (by omega)
set_option maxRecDepth 100000 in
set_option maxHeartbeats 3200000 in
theorem implOpsOf_d (v : Value) (l : List En) (w : World) (h : RdC w w.heap.size (encEns l) v) (hs : SmEns l) : Calls Tryz.prog 100 #[v] w (OwnPost (encPss (l.map En.o)) w) := by
  obtain ⟨A, c, rfl⟩ := sliceEns h
  have hl := hs.len
  have HR := Lib.hid h
  clear h
  have HM := Lib.hid (Ms.start w)
  replace HM := Lib.hid (show Ms w [.dt (.rows 30 1 []) (.slice none 0 0) []] w from HM.out.nil 30 1)
  go_enter Tryz.func100, Tryz.ntmps100
  go_wp2
  go_loopw [3, 8] (fun ov i wr => ∃ (j : Nat) (A1 : Option Addr) (c1 : Nat) (bs : List Nat), j ≤ l.length ∧ i = .int .i64 (j : Int) ∧ ov = .slice A1 j c1 ∧ Ms w [.dt (.rows 30 1 (((l.take j).map En.o).map encPsL)) (.slice A1 j c1) bs] wr) (fun _ i _ => l.length - (intOf i).toNat)
  case atStart => exact ⟨0, _, _, _, Nat.zero_le _, rfl, rfl, HM.out⟩
  case round =>
    obtain ⟨j, A1, c1, bs, hj, rfl, rfl, hm⟩ := hrel
    clear HM
    have HM := Lib.hid hm
    clear hm
    by_cases hlt : j < l.length
    · obtain ⟨b, off, e, A5, c5, rfl, hbb, hp, y0, y1, y2, q2⟩ := atEns HR.out hlt
      have x0 := (HM.out.bl.cell (p := ⟨b, off + j * 3, none⟩) hbb).trans y0
      have x1 := (HM.out.bl.cell (p := ⟨b, off + j * 3 + 1, none⟩) hbb).trans y1
      have x2 := (HM.out.bl.cell (p := ⟨b, off + j * 3 + 2, none⟩) hbb).trans y2
      clear y0 y1 y2
      have hse := hs.at_ (List.mem_of_getElem? hp)
      have HT := Lib.hid (show ((l.take (j + 1)).map En.o).map encPsL = ((l.take j).map En.o).map encPsL ++ [[encPs e.o]] by rw [List.take_add_one, hp]; simp [encPsL])
      have HQ := Lib.hid q2
      clear hp q2
      replace HM := Lib.hid (HM.out.new #[.int .i64 e.client, .int .i64 e.seq, .slice A5 e.o.length c5] 92)
      go_wp2_with fail
      obtain ⟨W1, hW, hm⟩ := HM.out.name
      rw [← hW]
      replace HM := Lib.hid hm
      clear hm hW
      refine (implCopyOp_d _ e.o _ (HM.out.arg HQ.out) hse.o).mono ?_
      rintro e' W2 ⟨v', rfl, o', b'⟩
      obtain ⟨A6, c6, rfl⟩ := sliceP o'.read
      obtain ⟨b6, hm⟩ := HM.out.got o' b'
      clear o' b'
      replace HM := Lib.hid hm
      clear hm
      clear x0 x1 x2
      replace HM := Lib.hid (HM.out.new #[.slice A6 e.o.length c6] 30)
      have hm := HM.out.pk [1, 3, 0, 2] (by decide) (by simp)
      simp only [low.pk, List.getElem?_cons_zero, List.getElem?_cons_succ] at hm
      replace HM := Lib.hid hm
      clear hm
      replace HM := Lib.hid (show Ms w [.dt (.agg [encPs e.o]) (.agg ([.slice A6 e.o.length c6] : List Value).toArray) (b6 ++ []), .dt (.rows 30 1 (((l.take j).map En.o).map encPsL)) (.slice A1 j c1) bs, .bx W2.heap.size (.cells #[.slice A6 e.o.length c6] 30 (0, 0)), .bx wr.heap.size (.cells #[.int .i64 e.client, .int .i64 e.seq, .slice A5 e.o.length c5] 92 (0, 0))] (W2.alloc (.cells #[.slice A6 e.o.length c6] 30)) from HM.out.pk0.pkO)
      have hm := HM.out.pk [1, 0, 2, 3] (by decide) (by simp)
      simp only [low.pk, List.getElem?_cons_zero, List.getElem?_cons_succ] at hm
      replace HM := Lib.hid hm
      clear hm
      go_wp2_with (at_builtin; refine wpList_ms1 rfl (.tmp 12) (.tmp 16) 64 rfl eltPs HM.out rfl (by simp; omega) W2.heap.size _ rfl (HM.out.at_ (i := 2) rfl) rfl (by simp [Value.oneCell']) ?_; intro A7 c7 w7 b7 hm)
      have e1 : (((l.take j).map En.o).map encPsL).length = j := by simp; omega
      rw [e1] at hm
      try rw [e1]
      rw [HT.out.symm] at hm
      have HM7 := Lib.hid hm
      clear hm e1 HM
      go_wp2
      go_roundw
      case rel => exact ⟨j + 1, A7, c7, b7, by omega, by go_num, rfl, HM7.out.pick (ks := [0]) (by decide) rfl⟩
      case measure => simp [intOf]; omega
    · obtain rfl : j = l.length := by omega
      have hm := HM.out
      rw [List.take_length] at hm
      have HM7 := Lib.hid hm
      clear hm HM
      go_wp2
      go_ret
      exact (show Ms w [.dt (encPss (l.map En.o)) _ _] _ from HM7.out).post
end Go.Proofs.YtgfbcpcfdlnbhabGreatDoor.low


/-
  Applying: the lengths; a row that is filled from the front by copies.
-/
namespace Go.Proofs.YtgfbcpcfdlnbhabGreatDoor.low
open Go.RowKit
set_option linter.unusedVariables false

theorem foldA_len {t : List Int} {ps : List Pt} (h : fitsB ps t = true) : ∀ k, k ≤ ps.length → ((foldA t (ps.take k)).2.length : Int) = sumOf keepOf (ps.take k) + sumOf putOf (ps.take k)
  | 0, _ => by simp [foldA, sumOf]
  | k + 1, hk => by
    obtain ⟨p, hp⟩ := idx_some (l := ps) (i := k) (by omega)
    have i2 := foldA_len h k (by omega)
    have hok := (fits_of h).1
    have hp' := of_okPt (okPs_at hp hok)
    have hin := foldA_in h hp
    rw [foldA_snoc hp, sumOf_snoc hp, sumOf_snoc hp]
    generalize foldA t (ps.take k) = s at *
    generalize sumOf keepOf (ps.take k) = q1 at *
    generalize sumOf putOf (ps.take k) = q2 at *
    unfold stepA keepOf putOf
    rcases (show p.kind = 1 ∨ p.kind = 2 ∨ p.kind = 3 by omega) with e | e | e
    · have hin := hin (.inl e)
      simp only [e, if_true]
      rw [List.length_append, List.length_take, List.length_drop]
      simp
      omega
    · simp only [e]
      simp
      omega
    · simp only [e]
      simp
      omega
theorem foldA_upto {t : List Int} {ps : List Pt} {n : Nat} (h : fitsB ps t = true) (hn : sumK ps + sumP ps = (n : Int)) (k : Nat) (hk : k ≤ ps.length) : (foldA t (ps.take k)).2.length ≤ n := by
  have h1 := foldA_len h k hk
  obtain ⟨hok, _, _, _, _, _, ho⟩ := fits_of h
  have hp : partsB ps = true := by unfold okOp at ho; rw [Bool.and_eq_true, Bool.and_eq_true] at ho; exact ho.1.1
  obtain ⟨t1, t2, t3⟩ := sum_t hp
  rw [t1, t2] at hn
  have a1 := sumOf_take (f := keepOf) (ps := ps) (fun q hq => (ok_bd (okPs_mem' hok hq)).1.1) k
  have a2 := sumOf_take (f := putOf) (ps := ps) (fun q hq => (ok_bd (okPs_mem' hok hq)).2.1.1) k
  omega
theorem foldA_all {t : List Int} {ps : List Pt} {n : Nat} (h : fitsB ps t = true) (hn : sumK ps + sumP ps = (n : Int)) : (foldA t ps).2.length = n := by
  have h1 := foldA_len h ps.length (Nat.le_refl _)
  rw [List.take_length] at h1
  obtain ⟨hok, _, _, _, _, _, ho⟩ := fits_of h
  have hp : partsB ps = true := by unfold okOp at ho; rw [Bool.and_eq_true, Bool.and_eq_true] at ho; exact ho.1.1
  obtain ⟨t1, t2, t3⟩ := sum_t hp
  rw [t1, t2] at hn
  omega
theorem fits_n {t : List Int} {ps : List Pt} (h : fitsB ps t = true) : ∃ n : Nat, sumK ps + sumP ps = (n : Int) ∧ n ≤ 200 := by
  obtain ⟨hok, _, _, h4, _, _, ho⟩ := fits_of h
  have hp : partsB ps = true := by unfold okOp at ho; rw [Bool.and_eq_true, Bool.and_eq_true] at ho; exact ho.1.1
  obtain ⟨t1, t2, t3⟩ := sum_t hp
  have h1 := foldA_len h ps.length (Nat.le_refl _)
  rw [List.take_length] at h1
  exact ⟨(foldA t ps).2.length, by rw [t1, t2]; omega, by omega⟩
/-- a row of n cells of which the first are filled -/
def fillR (n : Nat) (out : List Int) : List Value := out.map (Value.int .i64) ++ List.replicate (n - out.length) (Value.int .i64 0)
theorem fill_len (n : Nat) (out : List Int) (h : out.length ≤ n) : (fillR n out).length = n := by unfold fillR; simp; omega
theorem fill_splice (n : Nat) (out ys : List Int) (h : out.length + ys.length ≤ n) : splice (fillR n out) out.length (ys.map (Value.int .i64)) = fillR n (out ++ ys) := by
  unfold splice fillR
  have e1 : (out.map (Value.int .i64) ++ List.replicate (n - out.length) (Value.int .i64 0)).take out.length = out.map (Value.int .i64) := by
    rw [List.take_append_of_le_length (by simp), List.take_of_length_le (by simp)]
  have e2 : (out.map (Value.int .i64) ++ List.replicate (n - out.length) (Value.int .i64 0)).drop (out.length + (ys.map (Value.int .i64)).length) = List.replicate (n - (out ++ ys).length) (Value.int .i64 0) := by
    rw [List.drop_append, List.drop_eq_nil_of_le (by simp), List.nil_append, List.drop_replicate]
    congr 1
    simp
    omega
  rw [e1, e2, List.map_append, List.append_assoc]
theorem fill_all (n : Nat) (out : List Int) (h : out.length = n) : fillR n out = out.map (Value.int .i64) := by
  unfold fillR
  rw [h]
  simp
theorem own_full {w : World} {base r n : Nat} {e : TypeId} {xs : List Value} (h : w.ownsRow base e 1 (.slice (some ⟨r, 0, none⟩) n n) n xs) : w.heap[r]? = some (.cells xs.toArray e (0, 0)) ∧ base ≤ r ∧ xs.length = n := by
  have hl := h.1
  rcases h.2 with ⟨h1, _⟩ | ⟨g, cap, cur, hv, hge, hh, h4, h5, h6, h7⟩
  · cases h1
  · injection hv with q1 q2 q3
    injection q1 with q1
    injection q1 with q1
    subst q1
    subst q3
    have : cur = xs.toArray := by
      rw [← h7, List.take_of_length_le (by simp; omega)]
    subst this
    exact ⟨hh, hge, by simpa using hl⟩
theorem full_own {w : World} {base r n : Nat} {e : TypeId} {xs : List Value} (h : w.heap[r]? = some (.cells xs.toArray e (0, 0))) (hb : base ≤ r) (hl : xs.length = n) (hn : n ≤ 4294967296) : w.ownsRow base e 1 (.slice (some ⟨r, 0, none⟩) n n) n xs := by
  refine ⟨by simpa using hl, .inr ⟨r, n, xs.toArray, rfl, hb, h, Nat.le_refl _, by unfold maxLen; omega, by simp [hl], ?_⟩⟩
  rw [List.take_of_length_le (by simp [hl])]
end Go.Proofs.YtgfbcpcfdlnbhabGreatDoor.low


/-
  The program's side: contracts of impl.TextOk, impl.applies and of the reader's next.
-/
namespace Go.Proofs.YtgfbcpcfdlnbhabGreatDoor.low
open Go.RowKit
set_option linter.unusedVariables false

set_option maxHeartbeats 800000 in
theorem implTextOk_d (v : Value) (t : List Int) (w : World) (h : RdC w w.heap.size (encInts t) v) (hs : SmI t) : Calls Tryz.prog 127 #[v] w (Tells (okText t) w) := by
  obtain ⟨A, c, rfl, hr, _⟩ := ints_rd h
  have hl : t.length ≤ 1048576 := hs
  by_cases h2 : t.length ≤ 200
  · have HS := Lib.hid (show okText t = allB t by unfold okText; rw [decide_eq_true h2, Bool.and_true])
    go_enter Tryz.func127, Tryz.ntmps127
    go_wp2_with fail
    refine (implSignsOk_any A c t _ hr (by omega)).mono ?_
    rintro e w1 ⟨rfl, rfl⟩
    generalize allB t = q at *
    go_wp2
    go_ret
    exact ⟨ret_bool (by rw [HS.out]), Below.refl _ _⟩
  · have HS := Lib.hid (show okText t = false by unfold okText; rw [decide_eq_false h2, Bool.and_false])
    go_enter Tryz.func127, Tryz.ntmps127
    go_wp2
    go_ret
    exact ⟨ret_bool (by rw [HS.out]), Below.refl _ _⟩

set_option maxHeartbeats 1600000 in
theorem implFits_d (v v' : Value) (ps : List Pt) (t : List Int) (w : World) (h : RdC w w.heap.size (encPs ps) v) (h' : RdC w w.heap.size (encInts t) v') (hs : SmP ps) (hs' : SmI t) : Calls Tryz.prog 145 #[v, v'] w (Tells (fitsB ps t) w) := by
  obtain ⟨A, c, rfl, hr, _⟩ := parts_rd h
  obtain ⟨A', c', rfl, hr', _⟩ := ints_rd h'
  have hl := hs.1
  cases ho : okOp ps
  · have HS := Lib.hid (show fitsB ps t = false by unfold fitsB; rw [ho]; rfl)
    go_enter Tryz.func145, Tryz.ntmps145
    go_wp2_with fail
    refine (implOpOk_any A c ps _ hr (by omega) hs.all4).mono ?_
    rintro e w1 ⟨rfl, b1⟩
    rw [ho]
    go_wp2
    go_ret
    exact ⟨ret_bool (by rw [HS.out]), b1⟩
  · cases ht : okText t
    · have HS := Lib.hid (show fitsB ps t = false by unfold fitsB; rw [ho, ht]; rfl)
      go_enter Tryz.func145, Tryz.ntmps145
      go_wp2_with fail
      refine (implOpOk_any A c ps _ hr (by omega) hs.all4).mono ?_
      rintro e w1 ⟨rfl, b1⟩
      rw [ho]
      go_wp2_with fail
      refine (implTextOk_d _ t _ (h'.past b1) hs').mono ?_
      rintro e w2 ⟨rfl, b2⟩
      rw [ht]
      go_wp2
      go_ret
      exact ⟨ret_bool (by rw [HS.out]), b1.trans (b2.mono b1.size)⟩
    · have HS := Lib.hid (show fitsB ps t = (sumK ps + sumD ps == (t.length : Int)) by unfold fitsB; rw [ho, ht, Bool.true_and]; cases hq : (sumK ps + sumD ps == (t.length : Int)) <;> simp_all)
      go_enter Tryz.func145, Tryz.ntmps145
      go_wp2_with fail
      refine (implOpOk_any A c ps _ hr (by omega) hs.all4).mono ?_
      rintro e w1 ⟨rfl, b1⟩
      rw [ho]
      go_wp2_with fail
      refine (implTextOk_d _ t _ (h'.past b1) hs').mono ?_
      rintro e w2 ⟨rfl, b2⟩
      rw [ht]
      have d2 := b1.trans (b2.mono b1.size)
      go_wp2_with fail
      refine (implOpFrom_any A c ps _ (hr.past d2) (by omega) hs.all4).mono ?_
      rintro e w3 ⟨rfl, b3⟩
      generalize sumK ps + sumD ps = q at *
      go_wp2
      go_ret
      exact ⟨ret_bool (by rw [HS.out]), d2.trans (b3.mono d2.size)⟩

/-- the reader at block g: zs is left of the text, which lies in blocks below B -/
def Rdr (B g : Nat) (w : World) (zs : List Int) : Prop := ∃ A c, w.heap[g]? = some (.cells #[.slice A zs.length c] 182 (0, 0)) ∧ zs.length ≤ c ∧ Row (Value.int .i64) w B A zs ∧ B ≤ g
theorem Rdr.keep {B g : Nat} {w w' : World} {zs : List Int} (h : Rdr B g w zs) (hg : w'.heap[g]? = w.heap[g]?) (hk : ∀ p : Addr, p.block < B → w'.cell? p = w.cell? p) : Rdr B g w' zs := by
  obtain ⟨A, c, h1, h2, h3, h4⟩ := h
  exact ⟨A, c, hg.trans h1, h2, h3.keep hk, h4⟩
theorem Rdr.lt {B g : Nat} {w : World} {zs : List Int} (h : Rdr B g w zs) : g < w.heap.size := by
  obtain ⟨A, c, h1, _⟩ := h
  exact lt_of_some h1
theorem Rdr.past {B g : Nat} {w w' : World} {zs : List Int} (h : Rdr B g w zs) (hb : Below w.heap.size w w') : Rdr B g w' zs := by
  have hlt := h.lt
  have hB : B ≤ g := by obtain ⟨_, _, _, _, _, h4⟩ := h; exact h4
  exact h.keep (hb.block g hlt) (fun p hp => hb.cell (by omega))
theorem Rdr.touch {B g : Nat} {w w' : World} {zs : List Int} {T : Nat → Prop} (h : Rdr B g w zs) (ht : Touch T w w') (hT : ∀ b, T b → B ≤ b ∧ ¬ b = g) : Rdr B g w' zs :=
  h.keep (ht.block g (fun e => (hT g e).2 rfl)) (fun p hp => ht.cell (fun e => by have := (hT _ e).1; omega))
/-- next gives the first n numbers, and the reader goes on behind them -/
def NextP (B g : Nat) (zs : List Int) (n : Nat) (w : World) (e : Ending) (w' : World) : Prop := ∃ A, e = .returned (.slice A n n) ∧ Row (Value.int .i64) w' B A (zs.take n) ∧ Rdr B g w' (zs.drop n) ∧ Touch (fun b => b = g) w w'

theorem addr_add_add (p : Addr) (i j : Nat) : (p.add i).add j = p.add (i + j) := by
  unfold Addr.add
  by_cases hi : i = 0
  · subst hi; simp
  · by_cases hj : j = 0
    · subst hj; simp [hi]
    · simp [hi, hj, Nat.add_assoc]
theorem Row.init {w : World} {B : Nat} {A : Option Addr} {zs : List Int} (h : Row (Value.int .i64) w B A zs) (n : Nat) : Row (Value.int .i64) w B A (zs.take n) := fun hn => by
  have h0 : 0 < zs.length := by rw [List.length_take] at hn; omega
  obtain ⟨ad, e, hb, hc⟩ := h h0
  refine ⟨ad, e, hb, fun k z hz => ?_⟩
  rw [List.getElem?_take] at hz
  split at hz
  · exact hc k z hz
  · cases hz
theorem Row.tail {w : World} {B : Nat} {ad : Addr} {zs : List Int} (h : Row (Value.int .i64) w B (some ad) zs) (n : Nat) : Row (Value.int .i64) w B (some (ad.add n)) (zs.drop n) := fun hn => by
  have h0 : 0 < zs.length := by rw [List.length_drop] at hn; omega
  obtain ⟨ad', e, hb, hc⟩ := h h0
  injection e with e
  subst e
  refine ⟨_, rfl, by rw [block_of_add]; exact hb, fun k z hz => ?_⟩
  rw [List.getElem?_drop] at hz
  rw [addr_add_add]
  exact hc (n + k) z hz
theorem heap_set0 {w : World} {g : Nat} {T : TypeId} {u v : Value} (h : w.heap[g]? = some (.cells #[u] T (0, 0))) : (w.setCell ⟨g, 0, none⟩ v).heap[g]? = some (.cells #[v] T (0, 0)) := by
  rw [heap_setCell_same _ _ _ _ _ _ h]
  rfl

set_option maxHeartbeats 1600000 in
theorem implNext (B g n : Nat) (zs : List Int) (w : World) (h : Rdr B g w zs) (hn : n ≤ zs.length) (hz : zs.length ≤ 1000000) : Calls Tryz.prog 146 #[.pointer (some ⟨g, 0, none⟩), .int .i64 n] w (NextP B g zs n w) := by
  obtain ⟨A, c, h1, h2, h3, h4⟩ := h
  have hcell : w.cell? ⟨g, 0, none⟩ = some (.slice A zs.length c) := cell_of_row _ _ 0 _ _ _ h1
  have hfree : w.frozen? ⟨g, 0, none⟩ = false := by simp [World.frozen?, h1]
  have H1 := Lib.hid h1
  clear h1
  cases A with
  | none =>
    have h0 : zs = [] := by
      rcases Nat.eq_zero_or_pos zs.length with h | h
      · exact List.eq_nil_of_length_eq_zero h
      · obtain ⟨_, hn, _⟩ := h3 h
        cases hn
    subst h0
    obtain rfl : n = 0 := by simpa using hn
    go_enter Tryz.func146, Tryz.ntmps146
    go_wp2
    all_goals
      go_ret
      refine ⟨none, rfl, Row.nil, ⟨none, _, heap_set0 H1.out, ?_, Row.nil, h4⟩, (Touch.refl (fun b => b = g) _).setCell (p := ⟨g, 0, none⟩) rfl _⟩
      simp
  | some ad =>
    by_cases hc : n = c
    · obtain rfl : n = c := hc
      obtain rfl : n = zs.length := by omega
      go_enter Tryz.func146, Tryz.ntmps146
      have hd : zs.drop zs.length = [] := List.drop_length
      have HD := Lib.hid hd
      clear hd
      go_wp2
      go_ret
      refine ⟨some ad, rfl, (h3.init _).keep (fun p hp => ?_), ?_, (Touch.refl (fun b => b = g) _).setCell (p := ⟨g, 0, none⟩) rfl _⟩
      · exact ((Touch.refl (fun b => b = g) _).setCell (p := ⟨g, 0, none⟩) rfl _).cell (fun e => by omega)
      · rw [HD.out]
        exact ⟨some ad, 0, heap_set0 H1.out, Nat.le_refl _, Row.nil, h4⟩
    · go_enter Tryz.func146, Tryz.ntmps146
      go_wp2
      go_ret
      have hk : ∀ p : Addr, p.block < B → (w.setCell ⟨g, 0, none⟩ (.slice (some (ad.add n)) (zs.length - n) (c - n))).cell? p = w.cell? p := fun p hp => ((Touch.refl (fun b => b = g) w).setCell (p := ⟨g, 0, none⟩) rfl _).cell (fun e => by omega)
      refine ⟨some ad, rfl, (h3.init _).keep hk, ⟨some (ad.add n), c - n, ?_, by rw [List.length_drop]; omega, (h3.tail n).keep hk, h4⟩, (Touch.refl (fun b => b = g) _).setCell (p := ⟨g, 0, none⟩) rfl _⟩
      rw [List.length_drop]
      exact heap_set0 H1.out
end Go.Proofs.YtgfbcpcfdlnbhabGreatDoor.low


/-
  The program's side: contract of impl.Apply.
-/
namespace Go.Proofs.YtgfbcpcfdlnbhabGreatDoor.low
open Go.RowKit
set_option linter.unusedVariables false

theorem Rdr.drew {B g : Nat} {w : World} {zs : List Int} (h : Rdr B g w zs) : Rdr B g w.drew zs := h.keep rfl (fun _ _ => rfl)
theorem int_size : (Tryz.prog.info? 3).map (·.size) = some 1 := by kernel_rfl
theorem made_zero (n : Nat) : (madeCells (Value.cells (Value.int .i64 0)) (n * 1)).toList = fillR n [] := by
  unfold fillR
  simp [madeCells, Value.cells, Nat.mod_one, List.map_const']
theorem Row.src {w : World} {B : Nat} {A : Option Addr} {ys : List Int} (h : Row (Value.int .i64) w B A ys) (hp : 0 < (ys.map (Value.int .i64)).length) : ∃ ad, A = some ad ∧ ∀ j v, (ys.map (Value.int .i64))[j]? = some v → w.cell? (ad.add j) = some v := by
  obtain ⟨ad, e, _, hc⟩ := h (by simpa using hp)
  refine ⟨ad, e, fun j v hv => ?_⟩
  rw [List.getElem?_map] at hv
  obtain ⟨z, hz, rfl⟩ := Option.map_eq_some_iff.1 hv
  exact hc j z hz
theorem ints_one (ys : List Int) : ∀ v ∈ ys.map (Value.int .i64), v.oneCell' = true := by
  intro v hv
  obtain ⟨z, _, rfl⟩ := List.mem_map.1 hv
  rfl

set_option maxRecDepth 100000 in
set_option maxHeartbeats 3200000 in
theorem implApply_d (v v' : Value) (ps : List Pt) (t : List Int) (w : World) (h : RdC w w.heap.size (encPs ps) v) (h' : RdC w w.heap.size (encInts t) v') (hs : SmP ps) (hs' : SmI t) : Calls Tryz.prog 128 #[v, v'] w (ResB (encInts (applyT ps t)) (fitsB ps t) w) := by
  obtain ⟨A, c, rfl, hr, _⟩ := parts_rd h
  obtain ⟨A', c', rfl, hr', hcap⟩ := ints_rd h'
  obtain ⟨i0, hi0, hz0, hz1, hz2⟩ := info_parts ints_info
  cases hf : fitsB ps t
  · have e1 : applyT ps t = [] := by simp [applyT, hf]
    rw [e1]
    go_enter Tryz.func128, Tryz.ntmps128
    go_wp2_with fail
    refine (implFits_d _ _ ps t _ h h' hs hs').mono ?_
    rintro e w1 ⟨rfl, b1⟩
    rw [hf]
    go_wp2
    go_ret2
    exact ⟨_, rfl, ⟨[], ⟨[], [], World.ownsRow_nil _ _ _ _, ⟨rfl, rfl⟩, rfl⟩, by simp, fun b hb => by simp at hb, Nat.le_refl _, b1.size⟩, b1⟩
  · have e1 : applyT ps t = (foldA t ps).2 := by simp [applyT, hf]
    rw [e1]
    have HF := Lib.hid hf
    have HFO := Lib.hid (fits_of hf)
    have hl := HFO.out.2.1
    have ht := HFO.out.2.2.2.2.2.1
    obtain ⟨n, hn, hn2⟩ := fits_n hf
    have HN := Lib.hid hn
    clear hn
    have hl1 := hs.1
    go_enter Tryz.func128, Tryz.ntmps128
    go_wp2_with fail
    refine (implFits_d _ _ ps t _ h h' hs hs').mono ?_
    rintro e w1 ⟨rfl, b1⟩
    rw [hf]
    clear hf e1
    go_wp2_with fail
    have hrd : Rdr w.heap.size w1.heap.size (w1.alloc (.cells #[.slice A' t.length c'] 182)) t := ⟨A', c', heap_alloc_new w1 _, hcap, (hr'.below b1).keep (fun p hp => (alloc_below w1 _).cell (Nat.lt_of_lt_of_le hp b1.size)), b1.size⟩
    have hb2 := b1.trans ((alloc_below w1 (.cells #[.slice A' t.length c'] 182)).mono b1.size)
    generalize w1.alloc (.cells #[.slice A' t.length c'] 182) = w2 at *
    have hwg := b1.size
    generalize w1.heap.size = g at *
    clear b1
    refine (implOpTo_any A c ps w2 (hr.past hb2) (by omega) hs.all4).mono ?_
    rintro e w3 ⟨rfl, b3⟩
    rw [HN.out]
    have hrd3 := hrd.past b3
    have hb3 := hb2.trans (b3.mono hb2.size)
    clear hrd hb2 b3
    go_wp2_with (at_make; refine wpList_make_full _ rfl _ _ 22 rfl w3.heap.size 3 i0 (.int .i64 0) 1 Tryz.underlying22 hi0 hz0 hz1 _ _ _ _ n rfl rfl (by omega) (by omega) (by rw [hz2]; omega) (by unfold maxLen; omega) (Nat.le_refl _) ?_; intro w4 hown hg4)
    have hb4 := (Below.refl w3.heap.size w3).grown hg4 (Nat.le_refl _) (fun _ h => by cases h)
    rw [made_zero] at hown
    have hrow := (own_full hown).1
    have hrd4 := hrd3.past hb4
    have hgr := hrd3.lt
    have hbw := hb3.trans (hb4.mono hb3.size)
    have hwr := hb3.size
    generalize w3.heap.size = r at *
    have HRW := Lib.hid hrow
    have HRD := Lib.hid hrd4
    clear hown hg4 hb4 hrow hrd4 hrd3 hb3
    go_loopw [8, 23] (fun a i wr => ∃ k : Nat, k ≤ ps.length ∧ i = .int .i64 k ∧ a = .int .i64 ((foldA t (ps.take k)).2.length : Int) ∧ wr.heap[r]? = some (.cells (fillR n (foldA t (ps.take k)).2).toArray 3 (0, 0)) ∧ Rdr w.heap.size g wr (t.drop (foldA t (ps.take k)).1) ∧ Below w.heap.size w wr) (fun _ i _ => ps.length - (intOf i).toNat)
    case atStart => exact ⟨0, Nat.zero_le _, rfl, rfl, HRW.out, HRD.out, hbw⟩
    case round =>
      obtain ⟨k, hk, rfl, rfl, hrow, hrd, hbel⟩ := hrel
      clear HRW HRD hbw
      have hout := foldA_upto HF.out HN.out k hk
      have hfit := Lib.hid (foldA_fit (t := t) HFO.out.1 k hk)
      by_cases hlt : k < ps.length
      · obtain ⟨b, off, p, rfl, hb, hp, hc⟩ := hr.at_ hlt
        obtain ⟨x0, x1, A1, e1, x2, r1⟩ := hc.keep (w' := wr) hb (fun _ hq => hbel.cell hq)
        have hokp := okPs_at hp HFO.out.1
        have hok := of_okPt hokp
        have hout1 := foldA_upto HF.out HN.out (k + 1) hlt
        have hin := foldA_in HF.out hp
        rw [foldA_snoc (t := t) hp] at hout1
        have K1 := Lib.hid (foldA_snoc (t := t) hp)
        have hsl := hs.all p (List.mem_of_getElem? hp)
        clear hp hc
        have hat : (foldA t (ps.take k)).1 ≤ 200 := by
          have f := hfit.out
          have a1 := sumOf_take (f := keepOf) (ps := ps) (fun q hq => (ok_bd (okPs_mem' HFO.out.1 hq)).1.1) k
          have a3 := sumOf_take (f := dropOf) (ps := ps) (fun q hq => (ok_bd (okPs_mem' HFO.out.1 hq)).2.2.1) k
          have g1 := HFO.out.2.2.1
          omega
        generalize foldA t (ps.take k) = st at *
        obtain ⟨at_, out⟩ := st
        obtain ⟨pk, pn, pz⟩ := p
        simp only at x0 x1 x2 hok r1 hin hrow hrd hat hout
        rcases (show pk = 1 ∨ pk = 2 ∨ pk = 3 by omega) with rfl | rfl | rfl
        · have hn1 : 0 ≤ pn := by omega
          have hn2 : pn ≤ 200 := by omega
          have hin' := hin (.inl rfl)
          obtain ⟨m, rfl⟩ := Int.eq_ofNat_of_zero_le hn1
          have hlen : ((t.drop at_).take m).length = m := piece_len (by omega)
          have K2 := Lib.hid (show stepA t (at_, out) ⟨1, (m : Int), pz⟩ = (at_ + m, out ++ (t.drop at_).take m) by simp [stepA])
          rw [K2.out] at hout1
          have HY := Lib.hid (show (t.drop at_).take ((t.drop at_).take m).length = (t.drop at_).take m by rw [hlen])
          generalize (t.drop at_).take m = ys at *
          obtain rfl : ys.length = m := hlen
          have hn3 : out.length + ys.length ≤ n := by simpa using hout1
          clear hok hin hout1
          have bA := alloc_below wr (.cells #[.int .i64 1, .int .i64 (ys.length : Int), .slice A1 pz.length e1] 74)
          have HRD := Lib.hid (hrd.past bA)
          have hrl := lt_of_some hrow
          have HRW := Lib.hid ((bA.block r hrl).trans hrow)
          clear hrd hrow r1
          have hb0 := hbel.trans (bA.mono hbel.size)
          clear bA
          have hfl : (ys.map (Value.int .i64)).length = Nat.min ys.length (n - out.length) := by rw [List.length_map]; exact (Nat.min_eq_left (by omega)).symm
          have HFL := Lib.hid hfl
          clear hfl
          have hdst : 0 < (ys.map (Value.int .i64)).length → (if n = out.length then some (⟨r, 0, none⟩ : Addr) else some ⟨r, out.length, none⟩) = some ⟨r, out.length, none⟩ := fun hp => if_neg (by rw [List.length_map] at hp; omega)
          have HDST := Lib.hid hdst
          clear hdst
          have hz1 : ys.length ≤ (t.drop at_).length := by rw [List.length_drop]; omega
          have hz2' : (t.drop at_).length ≤ 1000000 := by rw [List.length_drop]; omega
          have HZ1 := Lib.hid hz1
          have HZ2 := Lib.hid hz2'
          clear hz1 hz2'
          have hw1 : IntKind.i64.wrap ((out.length : Int) + (ys.length : Int)) = (out.length : Int) + (ys.length : Int) := IntWalk.i64_in _ (by omega)
          go_wp2
          go_region_law (first | (refine step_copy_splice rfl (.tmp 34) (.tmp 38) 22 22 rfl 3 Tryz.underlying22 int_size (if n = out.length then some (⟨r, 0, none⟩ : Addr) else some ⟨r, out.length, none⟩) A4 (n - out.length) (n - out.length) ys.length ys.length rfl rfl r out.length (fillR n out) 3 (by exact hrw4.out) (ys.map (Value.int .i64)) (by exact HFL.out) (fun hp => ⟨HDST.out hp, r4.out.src hp⟩) (by rw [fill_len _ _ hout]; simpa using hn3) (ints_one _) r _ (Below.refl _ _) (Nat.le_refl _) ?_; intro w5 hg5 hb5) | (go_simp; go_at_call 146; refine (implNext w.heap.size g ys.length (t.drop at_) _ (by exact HRD.out.drew) (by exact HZ1.out) (by exact HZ2.out)).mono ?_; rintro e w4 ⟨A4, rfl, r4, rd4, t4⟩; rw [HY.out] at r4; replace r4 := Lib.hid r4; have HR4 := Lib.hid rd4; have hrw4 := Lib.hid ((t4.block r (by omega)).trans HRW.out); clear rd4))
          have hb4' : Below w.heap.size w w4 := hb0.drew.trans (t4.below (fun b hb => by have hb' : b = g := hb; omega))
          have hb5' : Below w.heap.size w w5 := hb4'.trans (hb5.mono hwr)
          have HR5 := Lib.hid (show w5.heap[r]? = some (.cells (fillR n (out ++ ys)).toArray 3 (0, 0)) by rw [hg5.out, fill_splice _ _ _ hn3])
          have HD5 := Lib.hid (HR4.out.keep (hb5.block g hgr) (fun p hp => hb5.cell (by omega)))
          clear hg5 hb5 HDST HFL hb4' t4
          go_wp2
          go_roundw
          case rel => exact ⟨k + 1, by omega, by go_num, by rw [K1.out, K2.out]; simp, by rw [K1.out, K2.out]; exact HR5.out, by rw [K1.out, K2.out]; have := HD5.out; rw [List.drop_drop] at this; exact this, hb5'⟩
          case measure => simp [intOf]; omega
        · have hn3 : out.length + pz.length ≤ n := by
            have := hout1
            simp [stepA] at this
            exact this
          clear hok hin hout1
          have bA := alloc_below wr (.cells #[.int .i64 2, .int .i64 pn, .slice A1 pz.length e1] 74)
          have HRD := Lib.hid (hrd.past bA)
          have hrl := lt_of_some hrow
          have HRW := Lib.hid ((bA.block r hrl).trans hrow)
          have hpc := Lib.hid (Row.past_alloc (r1.more hbel.size) (.cells #[.int .i64 2, .int .i64 pn, .slice A1 pz.length e1] 74))
          clear hrd hrow r1
          have hb0 := hbel.trans (bA.mono hbel.size)
          clear bA
          have hfl : (pz.map (Value.int .i64)).length = Nat.min pz.length (n - out.length) := by rw [List.length_map]; exact (Nat.min_eq_left (by omega)).symm
          have HFL := Lib.hid hfl
          clear hfl
          have hw1 : IntKind.i64.wrap ((out.length : Int) + (pz.length : Int)) = (out.length : Int) + (pz.length : Int) := IntWalk.i64_in _ (by omega)
          have hdst : 0 < (pz.map (Value.int .i64)).length → (if n = out.length then some (⟨r, 0, none⟩ : Addr) else some ⟨r, out.length, none⟩) = some ⟨r, out.length, none⟩ := fun hp => if_neg (by rw [List.length_map] at hp; omega)
          have HDST := Lib.hid hdst
          clear hdst
          go_wp2
          go_region_law (refine step_copy_splice rfl (.tmp 46) (.tmp 48) 22 22 rfl 3 Tryz.underlying22 int_size (if n = out.length then some (⟨r, 0, none⟩ : Addr) else some ⟨r, out.length, none⟩) A1 (n - out.length) (n - out.length) pz.length e1 rfl rfl r out.length (fillR n out) 3 (by exact HRW.out) (pz.map (Value.int .i64)) (by exact HFL.out) (fun hp => ⟨HDST.out hp, hpc.out.src hp⟩) (by rw [fill_len _ _ hout]; simpa using hn3) (ints_one _) r _ (Below.refl _ _) (Nat.le_refl _) ?_; intro w5 hg5 hb5)
          have hb5' : Below w.heap.size w w5 := hb0.drew.trans (hb5.mono hwr)
          have HR5 := Lib.hid (show w5.heap[r]? = some (.cells (fillR n (out ++ pz)).toArray 3 (0, 0)) by rw [hg5.out, fill_splice _ _ _ hn3])
          have HD5 := Lib.hid (HRD.out.drew.keep (hb5.block g hgr) (fun p hp => hb5.cell (by omega)))
          clear hg5 hb5 HDST HFL
          go_wp2
          go_roundw
          case rel => exact ⟨k + 1, by omega, by go_num, by rw [K1.out]; simp [stepA], by rw [K1.out]; exact HR5.out, by rw [K1.out]; exact HD5.out, hb5'⟩
          case measure => simp [intOf]; omega
        · have hn1 : 0 ≤ pn := by omega
          have hn2 : pn ≤ 200 := by omega
          have hin' := hin (.inr rfl)
          clear hok hin hout1
          obtain ⟨m, rfl⟩ := Int.eq_ofNat_of_zero_le hn1
          have bA := alloc_below wr (.cells #[.int .i64 3, .int .i64 (m : Int), .slice A1 pz.length e1] 74)
          have HRD := Lib.hid (hrd.past bA)
          have hrl := lt_of_some hrow
          have HRW := Lib.hid ((bA.block r hrl).trans hrow)
          clear hrd hrow
          have hb0 := hbel.trans (bA.mono hbel.size)
          clear bA
          go_wp2_with fail
          refine (implNext w.heap.size g m (t.drop at_) _ HRD.out (by rw [List.length_drop]; omega) (by rw [List.length_drop]; omega)).mono ?_
          rintro e w4 ⟨A4, rfl, r4, rd4, t4⟩
          have HR4 := Lib.hid rd4
          have hrw4 := Lib.hid ((t4.block r (by omega)).trans HRW.out)
          have hb4 := hb0.trans (t4.below (fun b hb => by have := hb; omega))
          clear r4 rd4 t4
          go_wp2
          go_roundw
          case rel => exact ⟨k + 1, by omega, by go_num, by rw [K1.out]; rfl, by rw [K1.out]; exact hrw4.out, by rw [K1.out]; have := HR4.out; rw [List.drop_drop] at this; simpa [stepA] using this, hb4⟩
          case measure => simp [intOf]; omega
      · have hke : ps.take k = ps := List.take_of_length_le (by omega)
        rw [hke] at hrow hrd ⊢
        have hall := foldA_all HF.out HN.out
        rw [fill_all _ _ hall] at hrow
        have HO := Lib.hid (full_own (base := w.heap.size) hrow hwr (by simpa using hall) (by omega))
        have HL := Lib.hid hall
        clear hrow hrd hall hke hout
        generalize (foldA t ps).2 = out at *
        go_wp2
        go_ret2
        have HO2 := HO.out
        rw [← HL.out] at HO2 ⊢
        exact ⟨_, rfl, ⟨_, ow_ints HO2, by simp [Value.ownBlock], fun b hb => by
          have hb' : b = r := by simpa [Value.ownBlock] using hb
          subst hb'
          exact ⟨hwr, own_in HO2 rfl⟩, Nat.le_refl _, hbel.size⟩, hbel⟩
end Go.Proofs.YtgfbcpcfdlnbhabGreatDoor.low


/-
  The program's side: contracts of impl.ApplyAll and impl.Idle.
-/
namespace Go.Proofs.YtgfbcpcfdlnbhabGreatDoor.low
open Go.RowKit
set_option linter.unusedVariables false

set_option maxRecDepth 100000 in
set_option maxHeartbeats 3200000 in
theorem implApplyAll_d (v v' : Value) (l : List (List Pt)) (t : List Int) (w : World) (h : RdC w w.heap.size (encPss l) v) (h' : RdC w w.heap.size (encInts t) v') (hs : SmPP l) (hs' : SmI t) : Calls Tryz.prog 99 #[v, v'] w (ResB (encInts (applyAllT l t)) (applyAllB l t) w) := by
  obtain ⟨A, c, rfl⟩ := pss_len h
  obtain ⟨A', c', rfl, hr', _⟩ := ints_rd h'
  obtain ⟨i0, hi0, hz0, hz1, hz2⟩ := info_parts ints_info
  have hl := hs.1
  have ht : t.length ≤ 1048576 := hs'
  cases htx : okText t
  · have HN := Lib.hid (show applyAllB l t = false ∧ applyAllT l t = [] by
      have e1 : applyAllB l t = false := by unfold applyAllB; rw [htx, Bool.and_false]
      exact ⟨e1, by unfold applyAllT; rw [e1]; rfl⟩)
    go_enter Tryz.func99, Tryz.ntmps99
    go_wp2_with fail
    refine (implTextOk_d _ t _ h' hs').mono ?_
    rintro e w1 ⟨rfl, b1⟩
    rw [htx]
    go_wp2
    go_ret2
    rw [HN.out.1, HN.out.2]
    exact ⟨_, rfl, nilOwn _ _ rfl b1.size, b1⟩
  · have HTX := Lib.hid htx
    have hsrc : Nat.min t.length t.length = t.length := Nat.min_self _
    have hfl : (t.map (Value.int .i64)).length = Nat.min t.length t.length := by rw [List.length_map, hsrc]
    have HFL := Lib.hid hfl
    clear hfl hsrc
    go_enter Tryz.func99, Tryz.ntmps99
    go_wp2_with fail
    refine (implTextOk_d _ t _ h' hs').mono ?_
    rintro e w1 ⟨rfl, b1⟩
    rw [htx]
    clear htx
    go_wp2_with (first | (at_make; refine wpList_make_full _ rfl _ _ 22 rfl w1.heap.size 3 i0 (.int .i64 0) 1 Tryz.underlying22 hi0 hz0 hz1 _ _ _ _ t.length rfl rfl (by omega) (by omega) (by rw [hz2]; omega) (by unfold maxLen; omega) (Nat.le_refl _) ?_; intro w2 hown hg2; rw [made_zero] at hown; have HROW := Lib.hid (own_full hown).1; have hb2 := (Below.refl w1.heap.size w1).grown hg2 (Nat.le_refl _) (fun _ h => by cases h); have hsr := Lib.hid ((hr'.past b1).past hb2); clear hown hg2) | (refine wpList_copy_splice (o := ⟨some 19, _, _, _, _, _⟩) rfl (.tmp 17) (.tmp 18) 22 22 rfl 3 Tryz.underlying22 int_size (some ⟨w1.heap.size, 0, none⟩) A' t.length t.length t.length c' rfl rfl w1.heap.size 0 (fillR t.length []) 3 HROW.out (t.map (Value.int .i64)) HFL.out (fun hp => ⟨rfl, hsr.out.src hp⟩) (by rw [fill_len _ _ (Nat.zero_le _)]; simp) (ints_one _) w1.heap.size _ (Below.refl _ _) (Nat.le_refl _) ?_; intro w3 hg3 hb3))
    have hbn := b1.trans ((hb2.trans hb3).mono b1.size)
    have hrow3 : w3.heap[w1.heap.size]? = some (.cells (t.map (Value.int .i64)).toArray 3 (0, 0)) := by
      have e := fill_splice t.length [] t (by simp)
      rw [List.nil_append, List.length_nil] at e
      rw [hg3.out, e, fill_all _ _ rfl]
    have HON := Lib.hid (ownInts (full_own (base := w.heap.size) hrow3 b1.size (by simp) (by omega)) hbn.size)
    clear hrow3 hg3 hb3 hb2 b1 HROW hsr HFL
    generalize w1.heap.size = r at *
    go_loopw [6, 22] (fun o i wr => ∃ (k : Nat) (cur : List Int), k ≤ l.length ∧ i = .int .i64 k ∧ foldAll (l.take k) t = some cur ∧ Own w.heap.size wr.heap.size wr (encInts cur) o ∧ Below w.heap.size w wr) (fun _ i _ => l.length - (intOf i).toNat)
    case atStart => exact ⟨0, t, Nat.zero_le _, rfl, rfl, HON.out, hbn⟩
    case round =>
      obtain ⟨k, cur, hk, rfl, hf, ho, hbel⟩ := hrel
      clear HON hbn
      have HF := Lib.hid hf
      have hcl := foldAll_len hk hf
      clear hf
      by_cases hlt : k < l.length
      · obtain ⟨ad, ps, A1, c1, rfl, hb, hp, hc, hpr⟩ := pss_at (h.below hbel) hlt
        have K1 := Lib.hid (foldAll_snoc (t := t) hp)
        rw [HF.out] at K1
        have hsp := hs.all ps (List.mem_of_getElem? hp)
        clear hp
        obtain ⟨Ao, co, rfl⟩ := sliceI ho.read
        have HO := Lib.hid ho
        have HPR := Lib.hid (RdC.more hbel.size _ _ hpr)
        clear ho hpr
        have hsc : SmI cur := by unfold SmI; omega
        go_wp2_with fail
        refine (implApply_d _ _ ps cur _ HPR.out HO.out.read hsp hsc).mono ?_
        rintro e w1 ⟨v1, rfl, o1, b1⟩
        obtain ⟨A3, c3, rfl⟩ := sliceI o1.read
        have HO1 := Lib.hid o1
        clear o1
        cases hfit : fitsB ps cur
        · have HN := Lib.hid (show applyAllB l t = false ∧ applyAllT l t = [] by
            have : foldAll l t = none := foldAll_none (k := k + 1) (by rw [K1.out]; simp [stepAll, hfit])
            have e1 : applyAllB l t = false := by unfold applyAllB; rw [this]; rfl
            exact ⟨e1, by unfold applyAllT; rw [e1]; rfl⟩)
          go_wp2
          go_ret2
          rw [HN.out.1, HN.out.2]
          exact ⟨_, rfl, nilOwn _ _ rfl (hbel.trans (b1.mono hbel.size)).size, hbel.trans (b1.mono hbel.size)⟩
        · have K2 := Lib.hid (show foldAll (l.take (k + 1)) t = some (applyT ps cur) by rw [K1.out]; simp [stepAll, hfit])
          go_wp2
          go_roundw
          case rel => exact ⟨k + 1, applyT ps cur, by omega, by go_num, K2.out, HO1.out.wide hbel.size (Nat.le_refl _) (Nat.le_refl _), hbel.trans (b1.mono hbel.size)⟩
          case measure => simp [intOf]; omega

      · have hke : l.take k = l := List.take_of_length_le (by omega)
        have HF2 := Lib.hid (show foldAll l t = some cur by rw [← HF.out, hke])
        obtain ⟨Ao, co, rfl⟩ := sliceI ho.read
        have HO := Lib.hid ho
        clear ho
        have HN := Lib.hid (show applyAllB l t = true ∧ applyAllT l t = cur by
          have e1 : applyAllB l t = true := by unfold applyAllB; rw [HTX.out, HF2.out]; rfl
          exact ⟨e1, by unfold applyAllT; rw [if_pos e1, HF2.out]; rfl⟩)
        go_wp2
        go_ret2
        rw [HN.out.1, HN.out.2]
        exact ⟨_, rfl, HO.out, hbel⟩
end Go.Proofs.YtgfbcpcfdlnbhabGreatDoor.low


/-
  Contracts of impl.DocOk, DocNew, stores, TextAt, HeadText and OpsSince. Written by mkimp8d.py.
-/
namespace Go.Proofs.YtgfbcpcfdlnbhabGreatDoor.low
open Go.RowKit
set_option linter.unusedVariables false

theorem bulk_mapI : ∀ l : List En, bulk (l.map En.o) = sumN totEn l
  | [] => rfl
  | e :: l => by
    have ih := bulk_mapI l
    rw [sumN_cons, ← ih]
    simp [bulk, totEn, totP]
theorem smEns_pp {l : List En} (h : SmEns l) : SmPP (l.map En.o) := by
  have h1 := h.len
  unfold SmEns totEns at h
  exact ⟨by simp; omega, by rw [bulk_mapI]; omega⟩
theorem rdEns_dropN {w : World} {B c m : Nat} {A : Option Addr} {l : List En} (h : l.length - m = 0) : RdC w B (encEns (l.drop m)) (.slice A (l.length - m) c) := by
  rw [h]
  exact rdEns_drop0 h
theorem smEns_take {l : List En} (h : SmEns l) (m : Nat) : SmEns (l.take m) := by
  have h1 := sumN_take totEn l m
  have h2 : (l.take m).length ≤ l.length := by simp; omega
  unfold SmEns totEns at *
  omega
set_option maxRecDepth 100000 in
set_option maxHeartbeats 3200000 in
theorem implDocOk_w (v : Value) (x : Do) (w : World) (h : RdC w w.heap.size (datDo x) v) (hs : SmD4 x) : Calls Tryz.prog 81 #[v] w (Tells (docB x) w) := by
  have HR := Lib.hid h
  obtain ⟨A2, c2, A3, c3, A4, c4, rfl, r2, r3, r4⟩ := aggDo h
  have R2 := Lib.hid r2
  have R3 := Lib.hid r3
  have R4 := Lib.hid r4
  have HD := Lib.hid (doc_eq x)
  clear h r2 r3 r4
  have HM := Lib.hid (Ms.start w)
  replace HM := Lib.hid (HM.out.new #[.string x.name, .int .i64 x.from_, .slice A2 x.text.length c2, .slice A3 x.list.length c3, .slice A4 x.seen.length c4] 36)
  go_enter Tryz.func81, Tryz.ntmps81
  go_wp2_with fail
  obtain ⟨W1, hW, hm⟩ := HM.out.name
  rw [← hW]
  replace HM := Lib.hid hm
  clear hm hW
  refine (implNameOk_d x.name _ hs.nameL).mono ?_
  rintro e' W2 ⟨rfl, b'⟩
  replace HM := Lib.hid (HM.out.past b')
  clear b'
  cases hn : nameB x.name
  · go_wp2
    go_ret
    exact ⟨ret_b (by rw [HD.out, hn]; rfl), HM.out.bl⟩
  obtain ⟨kx0, kx1, kx2, kx3, kx4⟩ := HM.out.c5 0 rfl
  by_cases hf1 : x.from_ < 0
  · have H9 := Lib.hid (show inB x.from_ 0 999999000 = false from inB_f (by omega))
    have g1 : decide (x.from_ < 0) = true := decide_eq_true hf1
    go_wp2
    go_ret
    exact ⟨ret_b (by rw [HD.out, hn, H9.out]; rfl), HM.out.bl⟩
  have g1 : decide (x.from_ < 0) = false := decide_eq_false hf1
  by_cases hf2 : 999999000 < x.from_
  · have H9 := Lib.hid (show inB x.from_ 0 999999000 = false from inB_f (by omega))
    have g2 : decide (999999000 < x.from_) = true := decide_eq_true hf2
    go_wp2
    go_ret
    exact ⟨ret_b (by rw [HD.out, hn, H9.out]; rfl), HM.out.bl⟩
  have g2 : decide (999999000 < x.from_) = false := decide_eq_false hf2
  have HF := Lib.hid (show inB x.from_ 0 999999000 = true from inB_t (by omega))
  go_wp2
  clear kx0 kx1 kx2 kx3 kx4 g1 g2
  cases he : entriesIB x.list
  · replace HM := Lib.hid (HM.out.drew)
    refine wp_region_held_drew (S := fun W => Ms w [.bx w.heap.size (.cells #[.string x.name, .int .i64 x.from_, .slice A2 x.text.length c2, .slice A3 x.list.length c3, .slice A4 x.seen.length c4] 36 (0, 0))] W) (by kernel_rfl) (HM.out.pick (ks := [0]) (by decide) rfl) (fun hS => ?_)
    generalize W2.drew = W3 at HM hS  ⊢
    refine tk (v := ?_) 0 19 rfl (fun w' hS' => ?_) hS ?_
    rotate_left
    · go_simp; all_goals (with_reducible rfl)
    try simp only [Act.put, pa, pb, pc]
    refine tk (v := ?_) 1 20 rfl (fun w' hS' => ?_) hS ?_
    rotate_left
    · (try dsimp only at hS'); obtain ⟨q0, q1, q2, q3, q4⟩ := hS'.c5 0 rfl; go_simp; all_goals (with_reducible rfl)
    try simp only [Act.put, pa, pb, pc]
    refine r1 2 (some 21) rfl (fun K hK => ?_)
    go_simp
    refine (implEntriesOk_d _ x.list _ (HM.out.arg R3.out) hs.list).mono ?_
    rw [he]
    rintro e' W4 ⟨rfl, b'⟩
    replace HM := Lib.hid (HM.out.past b')
    clear b'
    clear hS
    refine hK.out _ _ (HM.out.pick (ks := [0]) (by decide) rfl) (fun hS => ?_)
    clear hK K
    try simp only [Act.put, pa, pb, pc]
    refine tk (v := ?_) 3 22 rfl (fun w' hS' => ?_) hS ?_
    rotate_left
    · go_simp; all_goals (with_reducible rfl)
    try simp only [Act.put, pa, pb, pc]
    refine tk (v := ?_) 4 23 rfl (fun w' hS' => ?_) hS ?_
    rotate_left
    · go_simp; all_goals (with_reducible rfl)
    try simp only [Act.put, pa, pb, pc]
    refine tu 5 24 rfl hS ?_
    try simp only [Act.put, pa, pb, pc]
    refine tu 6 25 rfl hS ?_
    try simp only [Act.put, pa, pb, pc]
    refine tu 7 26 rfl hS ?_
    try simp only [Act.put, pa, pb, pc]
    refine tu 8 27 rfl hS ?_
    try simp only [Act.put, pa, pb, pc]
    refine tu 9 28 rfl hS ?_
    try simp only [Act.put, pa, pb, pc]
    refine tu 10 29 rfl hS ?_
    try simp only [Act.put, pa, pb, pc]
    refine tk (v := ?_) 11 30 rfl (fun w' hS' => ?_) hS ?_
    rotate_left
    · go_simp; all_goals (with_reducible rfl)
    try simp only [Act.put, pa, pb, pc]
    refine wpAnyH_done (by kernel_rfl) ?_ _
    clear hS
    go_wp2
    go_ret
    exact ⟨ret_b (by rw [HD.out, hn, HF.out, he]; rfl), HM.out.bl⟩
  cases hse : seenIB (headRevT x) x.seen
  · replace HM := Lib.hid (HM.out.drew)
    refine wp_region_held_drew (S := fun W => Ms w [.bx w.heap.size (.cells #[.string x.name, .int .i64 x.from_, .slice A2 x.text.length c2, .slice A3 x.list.length c3, .slice A4 x.seen.length c4] 36 (0, 0))] W) (by kernel_rfl) (HM.out.pick (ks := [0]) (by decide) rfl) (fun hS => ?_)
    generalize W2.drew = W5 at HM hS  ⊢
    refine tk (v := ?_) 0 19 rfl (fun w' hS' => ?_) hS ?_
    rotate_left
    · go_simp; all_goals (with_reducible rfl)
    try simp only [Act.put, pa, pb, pc]
    refine tk (v := ?_) 1 20 rfl (fun w' hS' => ?_) hS ?_
    rotate_left
    · (try dsimp only at hS'); obtain ⟨q0, q1, q2, q3, q4⟩ := hS'.c5 0 rfl; go_simp; all_goals (with_reducible rfl)
    try simp only [Act.put, pa, pb, pc]
    refine r1 2 (some 21) rfl (fun K hK => ?_)
    go_simp
    refine (implEntriesOk_d _ x.list _ (HM.out.arg R3.out) hs.list).mono ?_
    rw [he]
    rintro e' W6 ⟨rfl, b'⟩
    replace HM := Lib.hid (HM.out.past b')
    clear b'
    clear hS
    refine hK.out _ _ (HM.out.pick (ks := [0]) (by decide) rfl) (fun hS => ?_)
    clear hK K
    try simp only [Act.put, pa, pb, pc]
    refine tk (v := ?_) 3 22 rfl (fun w' hS' => ?_) hS ?_
    rotate_left
    · go_simp; all_goals (with_reducible rfl)
    try simp only [Act.put, pa, pb, pc]
    refine tk (v := ?_) 4 23 rfl (fun w' hS' => ?_) hS ?_
    rotate_left
    · go_simp; all_goals (with_reducible rfl)
    try simp only [Act.put, pa, pb, pc]
    first | refine tu 5 24 rfl hS ?_ | (refine tk (v := ?_) 5 24 rfl (fun w' hS' => ?_) hS ?_; rotate_left; · (go_simp; all_goals (with_reducible rfl)))
    try simp only [Act.put, pa, pb, pc]
    first | refine tu 6 25 rfl hS ?_ | (refine tk (v := ?_) 6 25 rfl (fun w' hS' => ?_) hS ?_; rotate_left; · ((try dsimp only at hS'); obtain ⟨q0, q1, q2, q3, q4⟩ := hS'.c5 0 rfl; go_simp; all_goals (with_reducible rfl)))
    try simp only [Act.put, pa, pb, pc]
    first | refine tu 7 26 rfl hS ?_ | (refine tk (v := ?_) 7 26 rfl (fun w' hS' => ?_) hS ?_; rotate_left; · ((try dsimp only at hS'); obtain ⟨q0, q1, q2, q3, q4⟩ := hS'.c5 0 rfl; go_simp; all_goals (with_reducible rfl)))
    try simp only [Act.put, pa, pb, pc]
    refine r1 8 (some 27) rfl (fun K hK => ?_)
    go_simp
    refine (implHeadRev_w _ x _ (HM.out.arg HR.out)).mono ?_
    rintro e' W7 ⟨rfl, b'⟩
    replace HM := Lib.hid (HM.out.past b')
    clear b'
    clear hS
    refine hK.out _ _ (HM.out.pick (ks := [0]) (by decide) rfl) (fun hS => ?_)
    clear hK K
    try simp only [Act.put, pa, pb, pc]
    refine r1 9 (some 28) rfl (fun K hK => ?_)
    go_simp
    refine (implSeenOk_d _ x.seen (headRevT x) _ (HM.out.arg R4.out) hs.seen).mono ?_
    rw [hse]
    rintro e' W8 ⟨rfl, b'⟩
    replace HM := Lib.hid (HM.out.past b')
    clear b'
    clear hS
    refine hK.out _ _ (HM.out.pick (ks := [0]) (by decide) rfl) (fun hS => ?_)
    clear hK K
    try simp only [Act.put, pa, pb, pc]
    first | refine tu 10 29 rfl hS ?_ | (refine tk (v := ?_) 10 29 rfl (fun w' hS' => ?_) hS ?_; rotate_left; · (go_simp; all_goals (with_reducible rfl)))
    try simp only [Act.put, pa, pb, pc]
    refine tk (v := ?_) 11 30 rfl (fun w' hS' => ?_) hS ?_
    rotate_left
    · go_simp; all_goals (with_reducible rfl)
    try simp only [Act.put, pa, pb, pc]
    refine wpAnyH_done (by kernel_rfl) ?_ _
    clear hS
    go_wp2
    go_ret
    exact ⟨ret_b (by rw [HD.out, hn, HF.out, he, hse]; rfl), HM.out.bl⟩
  replace HM := Lib.hid (HM.out.drew)
  refine wp_region_held_drew (S := fun W => Ms w [.bx w.heap.size (.cells #[.string x.name, .int .i64 x.from_, .slice A2 x.text.length c2, .slice A3 x.list.length c3, .slice A4 x.seen.length c4] 36 (0, 0))] W) (by kernel_rfl) (HM.out.pick (ks := [0]) (by decide) rfl) (fun hS => ?_)
  generalize W2.drew = W9 at HM hS  ⊢
  refine tk (v := ?_) 0 19 rfl (fun w' hS' => ?_) hS ?_
  rotate_left
  · go_simp; all_goals (with_reducible rfl)
  try simp only [Act.put, pa, pb, pc]
  refine tk (v := ?_) 1 20 rfl (fun w' hS' => ?_) hS ?_
  rotate_left
  · (try dsimp only at hS'); obtain ⟨q0, q1, q2, q3, q4⟩ := hS'.c5 0 rfl; go_simp; all_goals (with_reducible rfl)
  try simp only [Act.put, pa, pb, pc]
  refine r1 2 (some 21) rfl (fun K hK => ?_)
  go_simp
  refine (implEntriesOk_d _ x.list _ (HM.out.arg R3.out) hs.list).mono ?_
  rw [he]
  rintro e' W10 ⟨rfl, b'⟩
  replace HM := Lib.hid (HM.out.past b')
  clear b'
  clear hS
  refine hK.out _ _ (HM.out.pick (ks := [0]) (by decide) rfl) (fun hS => ?_)
  clear hK K
  try simp only [Act.put, pa, pb, pc]
  refine tk (v := ?_) 3 22 rfl (fun w' hS' => ?_) hS ?_
  rotate_left
  · go_simp; all_goals (with_reducible rfl)
  try simp only [Act.put, pa, pb, pc]
  refine tk (v := ?_) 4 23 rfl (fun w' hS' => ?_) hS ?_
  rotate_left
  · go_simp; all_goals (with_reducible rfl)
  try simp only [Act.put, pa, pb, pc]
  first | refine tu 5 24 rfl hS ?_ | (refine tk (v := ?_) 5 24 rfl (fun w' hS' => ?_) hS ?_; rotate_left; · (go_simp; all_goals (with_reducible rfl)))
  try simp only [Act.put, pa, pb, pc]
  first | refine tu 6 25 rfl hS ?_ | (refine tk (v := ?_) 6 25 rfl (fun w' hS' => ?_) hS ?_; rotate_left; · ((try dsimp only at hS'); obtain ⟨q0, q1, q2, q3, q4⟩ := hS'.c5 0 rfl; go_simp; all_goals (with_reducible rfl)))
  try simp only [Act.put, pa, pb, pc]
  first | refine tu 7 26 rfl hS ?_ | (refine tk (v := ?_) 7 26 rfl (fun w' hS' => ?_) hS ?_; rotate_left; · ((try dsimp only at hS'); obtain ⟨q0, q1, q2, q3, q4⟩ := hS'.c5 0 rfl; go_simp; all_goals (with_reducible rfl)))
  try simp only [Act.put, pa, pb, pc]
  refine r1 8 (some 27) rfl (fun K hK => ?_)
  go_simp
  refine (implHeadRev_w _ x _ (HM.out.arg HR.out)).mono ?_
  rintro e' W11 ⟨rfl, b'⟩
  replace HM := Lib.hid (HM.out.past b')
  clear b'
  clear hS
  refine hK.out _ _ (HM.out.pick (ks := [0]) (by decide) rfl) (fun hS => ?_)
  clear hK K
  try simp only [Act.put, pa, pb, pc]
  refine r1 9 (some 28) rfl (fun K hK => ?_)
  go_simp
  refine (implSeenOk_d _ x.seen (headRevT x) _ (HM.out.arg R4.out) hs.seen).mono ?_
  rw [hse]
  rintro e' W12 ⟨rfl, b'⟩
  replace HM := Lib.hid (HM.out.past b')
  clear b'
  clear hS
  refine hK.out _ _ (HM.out.pick (ks := [0]) (by decide) rfl) (fun hS => ?_)
  clear hK K
  try simp only [Act.put, pa, pb, pc]
  first | refine tu 10 29 rfl hS ?_ | (refine tk (v := ?_) 10 29 rfl (fun w' hS' => ?_) hS ?_; rotate_left; · (go_simp; all_goals (with_reducible rfl)))
  try simp only [Act.put, pa, pb, pc]
  refine tk (v := ?_) 11 30 rfl (fun w' hS' => ?_) hS ?_
  rotate_left
  · go_simp; all_goals (with_reducible rfl)
  try simp only [Act.put, pa, pb, pc]
  refine wpAnyH_done (by kernel_rfl) ?_ _
  clear hS
  go_wp2
  replace HM := Lib.hid (HM.out.drew)
  refine wp_region_held_drew (S := fun W => Ms w [.bx w.heap.size (.cells #[.string x.name, .int .i64 x.from_, .slice A2 x.text.length c2, .slice A3 x.list.length c3, .slice A4 x.seen.length c4] 36 (0, 0))] W) (by kernel_rfl) (HM.out.pick (ks := [0]) (by decide) rfl) (fun hS => ?_)
  generalize W12.drew = W13 at HM hS  ⊢
  refine tk (v := ?_) 0 32 rfl (fun w' hS' => ?_) hS ?_
  rotate_left
  · go_simp; all_goals (with_reducible rfl)
  try simp only [Act.put, pa, pb, pc]
  refine tk (v := ?_) 1 33 rfl (fun w' hS' => ?_) hS ?_
  rotate_left
  · (try dsimp only at hS'); obtain ⟨q0, q1, q2, q3, q4⟩ := hS'.c5 0 rfl; go_simp; all_goals (with_reducible rfl)
  try simp only [Act.put, pa, pb, pc]
  refine tk (v := ?_) 3 35 rfl (fun w' hS' => ?_) hS ?_
  rotate_left
  · go_simp; all_goals (with_reducible rfl)
  try simp only [Act.put, pa, pb, pc]
  refine tk (v := ?_) 4 36 rfl (fun w' hS' => ?_) hS ?_
  rotate_left
  · (try dsimp only at hS'); obtain ⟨q0, q1, q2, q3, q4⟩ := hS'.c5 0 rfl; go_simp; all_goals (with_reducible rfl)
  try simp only [Act.put, pa, pb, pc]
  refine r1 2 (some 34) rfl (fun K hK => ?_)
  go_simp
  refine (implOpsOf_d _ x.list _ (HM.out.arg R3.out) hs.list).mono ?_
  rintro e' W14 ⟨v', rfl, o', b'⟩
  obtain ⟨Al, nl, cl, rfl⟩ := sliceV o'.read
  obtain ⟨bl, hm⟩ := HM.out.got o' b'
  clear o' b'
  replace HM := Lib.hid hm
  clear hm
  clear hS
  refine hK.out _ _ (HM.out.pick (ks := [1]) (by decide) rfl) (fun hS => ?_)
  clear hK K
  try simp only [Act.put, pa, pb, pc]
  refine r1 5 (some 37) rfl (fun K hK => ?_)
  go_simp
  refine (implApplyAll_d _ _ (x.list.map En.o) x.text _ (HM.out.read (i := 0) rfl) (HM.out.arg R2.out) (smEns_pp hs.list) hs.text).mono ?_
  rintro e' W15 ⟨v', rfl, o', b'⟩
  clear o'
  replace HM := Lib.hid (HM.out.past b')
  clear b'
  clear hS
  refine hK.out _ _ (HM.out.pick (ks := [1]) (by decide) rfl) (fun hS => ?_)
  clear hK K
  try simp only [Act.put, pa, pb, pc]
  refine tk (v := ?_) 6 31 rfl (fun w' hS' => ?_) hS ?_
  rotate_left
  · go_simp; all_goals (with_reducible rfl)
  try simp only [Act.put, pa, pb, pc]
  refine tk (v := ?_) 7 38 rfl (fun w' hS' => ?_) hS ?_
  rotate_left
  · go_simp; all_goals (with_reducible rfl)
  try simp only [Act.put, pa, pb, pc]
  refine tk (v := ?_) 8 39 rfl (fun w' hS' => ?_) hS ?_
  rotate_left
  · go_simp; all_goals (with_reducible rfl)
  try simp only [Act.put, pa, pb, pc]
  refine tk (v := ?_) 9 3 rfl (fun w' hS' => ?_) hS ?_
  rotate_left
  · go_simp; all_goals (with_reducible rfl)
  try simp only [Act.put, pa, pb, pc]
  refine tk (v := ?_) 10 4 rfl (fun w' hS' => ?_) hS ?_
  rotate_left
  · go_simp; all_goals (with_reducible rfl)
  try simp only [Act.put, pa, pb, pc]
  refine wpAnyH_done (by kernel_rfl) ?_ _
  clear hS
  go_wp2
  go_ret
  exact ⟨ret_b (by rw [HD.out, hn, HF.out, he, hse]; rfl), HM.out.bl⟩
theorem implDocOk_d (v : Value) (x : Do) (w : World) (h : RdC w w.heap.size (datDo x) v) (hs : SmDo x) : Calls Tryz.prog 81 #[v] w (Tells (docB x) w) := implDocOk_w v x w h hs.four
set_option maxRecDepth 100000 in
set_option maxHeartbeats 3200000 in
theorem implStores_d (v : Value) (x : Do) (r : Int) (w : World) (h : RdC w w.heap.size (datDo x) v) (hs : SmDo x) : Calls Tryz.prog 98 #[v, .int .i64 r] w (Tells (textAtB x r) w) := by
  have HR := Lib.hid h
  obtain ⟨A2, c2, A3, c3, A4, c4, rfl, -, -, -⟩ := aggDo h
  have HD := Lib.hid (show textAtB x r = (docB x && inB r x.from_ (headRevT x)) from rfl)
  clear h
  have HM := Lib.hid (Ms.start w)
  replace HM := Lib.hid (HM.out.new #[.string x.name, .int .i64 x.from_, .slice A2 x.text.length c2, .slice A3 x.list.length c3, .slice A4 x.seen.length c4] 36)
  go_enter Tryz.func98, Tryz.ntmps98
  go_wp2_with fail
  obtain ⟨W1, hW, hm⟩ := HM.out.name
  rw [← hW]
  replace HM := Lib.hid hm
  clear hm hW
  refine (implDocOk_d _ x _ (HM.out.arg HR.out) hs).mono ?_
  rintro e' W2 ⟨rfl, b'⟩
  replace HM := Lib.hid (HM.out.past b')
  clear b'
  cases hd : docB x
  · go_wp2
    go_ret
    exact ⟨ret_b (by rw [HD.out, hd]; rfl), HM.out.bl⟩
  obtain ⟨kx0, kx1, kx2, kx3, kx4⟩ := HM.out.c5 0 rfl
  by_cases h1 : x.from_ ≤ r
  rotate_left
  · have H9 := Lib.hid (show inB r x.from_ (headRevT x) = false from inB_f (by omega))
    have g1 : decide (x.from_ ≤ r) = false := decide_eq_false h1
    go_wp2
    go_ret
    exact ⟨ret_b (by rw [HD.out, hd, H9.out]; rfl), HM.out.bl⟩
  have g1 : decide (x.from_ ≤ r) = true := decide_eq_true h1
  go_wp2_with fail
  clear kx0 kx1 kx2 kx3 kx4
  refine (implHeadRev_w _ x _ (HM.out.arg HR.out)).mono ?_
  rintro e' W3 ⟨rfl, b'⟩
  replace HM := Lib.hid (HM.out.past b')
  clear b'
  by_cases h2 : r ≤ headRevT x
  · have H9 := Lib.hid (show inB r x.from_ (headRevT x) = true from inB_t ⟨h1, h2⟩)
    have g2 : decide (r ≤ headRevT x) = true := decide_eq_true h2
    go_wp2
    go_ret
    exact ⟨ret_b (by rw [HD.out, hd, H9.out]; rfl), HM.out.bl⟩
  · have H9 := Lib.hid (show inB r x.from_ (headRevT x) = false from inB_f (by omega))
    have g2 : decide (r ≤ headRevT x) = false := decide_eq_false h2
    go_wp2
    go_ret
    exact ⟨ret_b (by rw [HD.out, hd, H9.out]; rfl), HM.out.bl⟩
set_option maxRecDepth 100000 in
set_option maxHeartbeats 3200000 in
theorem implTextAt_d (v : Value) (x : Do) (r : Int) (w : World) (h : RdC w w.heap.size (datDo x) v) (hs : SmDo x) : Calls Tryz.prog 75 #[v, .int .i64 r] w (ResB (encInts (textAtT x r)) (textAtB x r) w) := by
  have HR := Lib.hid h
  obtain ⟨A2, c2, A3, c3, A4, c4, rfl, r2, r3, -⟩ := aggDo h
  have R2 := Lib.hid r2
  have R3 := Lib.hid r3
  have hl := hs.list.len
  have hcl : x.list.length ≤ c3 := RdC.cap_le r3
  clear h r2 r3
  have HM := Lib.hid (Ms.start w)
  replace HM := Lib.hid (HM.out.new #[.string x.name, .int .i64 x.from_, .slice A2 x.text.length c2, .slice A3 x.list.length c3, .slice A4 x.seen.length c4] 36)
  go_enter Tryz.func75, Tryz.ntmps75
  go_wp2_with fail
  obtain ⟨W1, hW, hm⟩ := HM.out.name
  rw [← hW]
  replace HM := Lib.hid hm
  clear hm hW
  refine (implStores_d _ x r _ (HM.out.arg HR.out) hs).mono ?_
  rintro e' W2 ⟨rfl, b'⟩
  replace HM := Lib.hid (HM.out.past b')
  clear b'
  cases hT : textAtB x r
  · have HN := Lib.hid (textAt_f hT)
    go_wp2
    go_ret2
    rw [HN.out.1, HN.out.2]
    exact (HM.out.nil 3 1).resB false
  have hT2 := hT
  unfold textAtB at hT2
  rw [Bool.and_eq_true] at hT2
  obtain ⟨hd, hi⟩ := hT2
  obtain ⟨f0, f1, f2, f3⟩ := docB_of hd
  unfold inB at hi
  have hi1 := of_decide_eq_true hi
  rw [f3] at hi1
  obtain ⟨m, hm⟩ : ∃ m : Nat, r = x.from_ + (m : Int) := ⟨(r - x.from_).toNat, by omega⟩
  subst hm
  have hm1 : m ≤ x.list.length := by omega
  have HDD := Lib.hid hd
  have HTT := Lib.hid hT
  clear f3 hi hi1 hd hT
  have g1 : IntKind.i64.wrap (m : Int) = (m : Int) := IntWalk.i64_in _ (by omega)
  have g3 : x.from_ + (m : Int) - x.from_ = (m : Int) := by omega
  obtain ⟨k1, k2⟩ := doc_text HDD.out m
  have K1 := Lib.hid k1
  have K2 := Lib.hid (show textAtT x (x.from_ + (m : Int)) = applyAllT ((x.list.take m).map En.o) x.text by rw [k2]; unfold textAtT; rw [if_pos HTT.out, g3]; rfl)
  clear k1 k2
  have hmc : m ≤ c3 := by omega
  have G1 := Lib.hid g1
  clear g1
  go_wp2
  have g1 := G1.out
  have g4 : ((m : Int)).toNat = m := Int.toNat_natCast m
  have g5 : (0 : Int) ≤ (m : Int) := by omega
  replace HM := Lib.hid (HM.out.drew)
  refine wp_region_held_drew (S := fun W => Ms w [.bx w.heap.size (.cells #[.string x.name, .int .i64 x.from_, .slice A2 x.text.length c2, .slice A3 x.list.length c3, .slice A4 x.seen.length c4] 36 (0, 0))] W) (by kernel_rfl) (HM.out.pick (ks := [0]) (by decide) rfl) (fun hS => ?_)
  generalize W2.drew = W3 at HM hS  ⊢
  refine tk (v := ?_) 0 10 rfl (fun w' hS' => ?_) hS ?_
  rotate_left
  · go_simp; all_goals (with_reducible rfl)
  try simp only [Act.put, pa, pb, pc]
  refine tk (v := ?_) 1 11 rfl (fun w' hS' => ?_) hS ?_
  rotate_left
  · (try dsimp only at hS'); obtain ⟨q0, q1, q2, q3, q4⟩ := hS'.c5 0 rfl; go_simp; all_goals (with_reducible rfl)
  try simp only [Act.put, pa, pb, pc]
  refine tk (v := ?_) 2 12 rfl (fun w' hS' => ?_) hS ?_
  rotate_left
  · go_simp; all_goals (with_reducible rfl)
  try simp only [Act.put, pa, pb, pc]
  refine tk (v := ?_) 3 13 rfl (fun w' hS' => ?_) hS ?_
  rotate_left
  · go_simp; all_goals (with_reducible rfl)
  try simp only [Act.put, pa, pb, pc]
  refine tk (v := ?_) 4 14 rfl (fun w' hS' => ?_) hS ?_
  rotate_left
  · (try dsimp only at hS'); obtain ⟨q0, q1, q2, q3, q4⟩ := hS'.c5 0 rfl; go_simp; all_goals (with_reducible rfl)
  try simp only [Act.put, pa, pb, pc]
  refine tk (v := ?_) 5 15 rfl (fun w' hS' => ?_) hS ?_
  rotate_left
  · go_simp; all_goals (with_reducible rfl)
  try simp only [Act.put, pa, pb, pc]
  refine tk (v := ?_) 6 16 rfl (fun w' hS' => ?_) hS ?_
  rotate_left
  · go_simp; all_goals (with_reducible rfl)
  try simp only [Act.put, pa, pb, pc]
  refine tk (v := ?_) 8 18 rfl (fun w' hS' => ?_) hS ?_
  rotate_left
  · go_simp; all_goals (with_reducible rfl)
  try simp only [Act.put, pa, pb, pc]
  refine tk (v := ?_) 9 19 rfl (fun w' hS' => ?_) hS ?_
  rotate_left
  · (try dsimp only at hS'); obtain ⟨q0, q1, q2, q3, q4⟩ := hS'.c5 0 rfl; go_simp; all_goals (with_reducible rfl)
  try simp only [Act.put, pa, pb, pc]
  refine r1 7 (some 17) rfl (fun K hK => ?_)
  go_simp
  refine (implOpsOf_d _ (x.list.take m) _ (HM.out.arg (by have h := RdC.take_ R3.out (m := m) (by simpa using hm1); rw [← List.map_take] at h; exact h)) (smEns_take hs.list m)).mono ?_
  rintro e' W4 ⟨v', rfl, o', b'⟩
  obtain ⟨Al, nl, cl, rfl⟩ := sliceV o'.read
  obtain ⟨bl, hm⟩ := HM.out.got o' b'
  clear o' b'
  replace HM := Lib.hid hm
  clear hm
  clear hS
  refine hK.out _ _ (HM.out.pick (ks := [1]) (by decide) rfl) (fun hS => ?_)
  clear hK K
  try simp only [Act.put, pa, pb, pc]
  refine r1 10 (some 20) rfl (fun K hK => ?_)
  go_simp
  refine (implApplyAll_d _ _ ((x.list.take m).map En.o) x.text _ (HM.out.read (i := 0) rfl) (HM.out.arg R2.out) (smEns_pp (smEns_take hs.list m)) hs.text).mono ?_
  rw [K1.out]
  rintro e' W5 ⟨v', rfl, o', b'⟩
  obtain ⟨At, nt, ct, rfl⟩ := sliceV o'.read
  obtain ⟨bt, hm⟩ := HM.out.got o' b'
  clear o' b'
  replace HM := Lib.hid hm
  clear hm
  clear hS
  refine hK.out _ _ (HM.out.pick (ks := [2]) (by decide) rfl) (fun hS => ?_)
  clear hK K
  try simp only [Act.put, pa, pb, pc]
  refine tk (v := ?_) 11 21 rfl (fun w' hS' => ?_) hS ?_
  rotate_left
  · go_simp; all_goals (with_reducible rfl)
  try simp only [Act.put, pa, pb, pc]
  refine tk (v := ?_) 12 22 rfl (fun w' hS' => ?_) hS ?_
  rotate_left
  · go_simp; all_goals (with_reducible rfl)
  try simp only [Act.put, pa, pb, pc]
  refine tk (v := ?_) 13 4 rfl (fun w' hS' => ?_) hS ?_
  rotate_left
  · go_simp; all_goals (with_reducible rfl)
  try simp only [Act.put, pa, pb, pc]
  refine tk (v := ?_) 14 5 rfl (fun w' hS' => ?_) hS ?_
  rotate_left
  · go_simp; all_goals (with_reducible rfl)
  try simp only [Act.put, pa, pb, pc]
  refine wpAnyH_done (by kernel_rfl) ?_ _
  clear hS
  go_wp2
  go_ret2
  rw [K2.out, HTT.out]
  exact HM.out.resB true
set_option maxRecDepth 100000 in
set_option maxHeartbeats 3200000 in
theorem implOpsSince_d (v : Value) (x : Do) (r : Int) (w : World) (h : RdC w w.heap.size (datDo x) v) (hs : SmDo x) : Calls Tryz.prog 77 #[v, .int .i64 r] w (ResB (encPss (opsSinceT x r)) (textAtB x r) w) := by
  have HR := Lib.hid h
  obtain ⟨A2, c2, A3, c3, A4, c4, rfl, r2, r3, -⟩ := aggDo h
  have R2 := Lib.hid r2
  have R3 := Lib.hid r3
  have hl := hs.list.len
  have hcl : x.list.length ≤ c3 := RdC.cap_le r3
  clear h r2 r3
  have HM := Lib.hid (Ms.start w)
  replace HM := Lib.hid (HM.out.new #[.string x.name, .int .i64 x.from_, .slice A2 x.text.length c2, .slice A3 x.list.length c3, .slice A4 x.seen.length c4] 36)
  go_enter Tryz.func77, Tryz.ntmps77
  go_wp2_with fail
  obtain ⟨W1, hW, hm⟩ := HM.out.name
  rw [← hW]
  replace HM := Lib.hid hm
  clear hm hW
  refine (implStores_d _ x r _ (HM.out.arg HR.out) hs).mono ?_
  rintro e' W2 ⟨rfl, b'⟩
  replace HM := Lib.hid (HM.out.past b')
  clear b'
  cases hT : textAtB x r
  · have HN := Lib.hid (opsSince_f hT)
    go_wp2
    go_ret2
    rw [HN.out.1, HN.out.2]
    exact (HM.out.nil 30 1).resB false
  have hT2 := hT
  unfold textAtB at hT2
  rw [Bool.and_eq_true] at hT2
  obtain ⟨hd, hi⟩ := hT2
  obtain ⟨f0, f1, f2, f3⟩ := docB_of hd
  unfold inB at hi
  have hi1 := of_decide_eq_true hi
  rw [f3] at hi1
  obtain ⟨m, hm⟩ : ∃ m : Nat, r = x.from_ + (m : Int) := ⟨(r - x.from_).toNat, by omega⟩
  subst hm
  have hm1 : m ≤ x.list.length := by omega
  have HDD := Lib.hid hd
  have HTT := Lib.hid hT
  clear f3 hi hi1 hd hT
  have g3 : x.from_ + (m : Int) - x.from_ = (m : Int) := by omega
  have HN := Lib.hid (show opsSinceT x (x.from_ + (m : Int)) = (x.list.drop m).map En.o by unfold opsSinceT; rw [if_pos HTT.out, g3]; rfl)
  by_cases hlast : m = x.list.length
  · have h0 : x.list.length - m = 0 := by omega
    have H0 := Lib.hid h0
    have HLA := Lib.hid hlast
    clear h0 hlast
    by_cases hcap : m = c3
    · have HC3 := Lib.hid hcap
      subst hcap
      have HC3 := Lib.hid (show x.list.length - m = 0 from H0.out)
      try rw [H0.out]
      obtain ⟨kx0, kx1, kx2, kx3, kx4⟩ := HM.out.c5 0 rfl
      go_wp2_with fail
      clear kx0 kx1 kx2 kx3 kx4
      refine (implOpsOf_d _ (x.list.drop m) _ (HM.out.arg (rdEns_drop0 H0.out)) (smEns_drop hs.list m)).mono ?_
      rintro e' W3 ⟨v', rfl, o', b'⟩
      obtain ⟨Al, nl, cl, rfl⟩ := sliceV o'.read
      obtain ⟨bl, hm⟩ := HM.out.got o' b'
      clear o' b'
      replace HM := Lib.hid hm
      clear hm
      go_wp2
      go_ret2
      rw [HN.out, HTT.out]
      exact HM.out.resB true
    · obtain ⟨kx0, kx1, kx2, kx3, kx4⟩ := HM.out.c5 0 rfl
      go_wp2_with fail
      clear kx0 kx1 kx2 kx3 kx4
      refine (implOpsOf_d _ (x.list.drop m) _ (HM.out.arg (rdEns_dropN H0.out)) (smEns_drop hs.list m)).mono ?_
      rintro e' W4 ⟨v', rfl, o', b'⟩
      obtain ⟨Al, nl, cl, rfl⟩ := sliceV o'.read
      obtain ⟨bl, hm⟩ := HM.out.got o' b'
      clear o' b'
      replace HM := Lib.hid hm
      clear hm
      go_wp2
      go_ret2
      rw [HN.out, HTT.out]
      exact HM.out.resB true
  have hlt : m < x.list.length := by omega
  have hcap : ¬ m = c3 := by omega
  obtain ⟨b0, off0, e0, A50, c50, rfl, -, -, -⟩ := atEns R3.out (i := 0) (by omega)
  obtain ⟨kx0, kx1, kx2, kx3, kx4⟩ := HM.out.c5 0 rfl
  go_wp2_with fail
  clear kx0 kx1 kx2 kx3 kx4
  refine (implOpsOf_d _ (x.list.drop m) _ (HM.out.arg (by have h := RdC.drop_ m R3.out; rw [← List.map_drop] at h; exact h)) (smEns_drop hs.list m)).mono ?_
  rintro e' W5 ⟨v', rfl, o', b'⟩
  obtain ⟨Al, nl, cl, rfl⟩ := sliceV o'.read
  obtain ⟨bl, hm⟩ := HM.out.got o' b'
  clear o' b'
  replace HM := Lib.hid hm
  clear hm
  go_wp2
  go_ret2
  rw [HN.out, HTT.out]
  exact HM.out.resB true
end Go.Proofs.YtgfbcpcfdlnbhabGreatDoor.low


/-
  Contracts of impl.copyEntries and clones of rows of clients. Written by mkimp8c.py.
-/
namespace Go.Proofs.YtgfbcpcfdlnbhabGreatDoor.low
open Go.RowKit
set_option linter.unusedVariables false

set_option maxRecDepth 100000 in
set_option maxHeartbeats 3200000 in
theorem cloneEns_d (v : Value) (l : List En) (w : World) (h : RdC w w.heap.size (encEns l) v) (hs : l.length ≤ 1048576) : Calls Tryz.prog 89 #[v] w (RawPost 92 (l.map encEn) w) := by
  obtain ⟨A, c, rfl⟩ := sliceEns h
  have hq : ∀ (w : World) (A : Option Addr) (n c n' c' : Nat), (binOp .eql 33 (.slice A n c) (.slice none n' c')).run Tryz.prog w = .ok (.bool A.isNone) w := fun w A n c n' c' => Lib.run_eql_slice_nil w _ _ A n c n' c' Tryz.underlying33
  cases A with
  | none =>
    obtain rfl : l = [] := by
      obtain ⟨A9, c9, hv, _, h9⟩ := h
      injection hv with e1 e2 e3
      by_cases h0 : 0 < l.length
      · obtain ⟨ad, e4, _⟩ := h9 (by simpa using h0)
        rw [← e1] at e4
        cases e4
      · exact List.eq_nil_of_length_eq_zero (by omega)
    clear h
    go_enter Tryz.func89, Tryz.ntmps89
    go_wp2
    go_ret
    exact .inl ⟨rfl, rfl, rfl⟩
  | some ad =>
    have HR := Lib.hid h
    clear h
    have e0 : (l.map encEn).length = l.length := List.length_map _
    have E0 := Lib.hid e0
    clear e0
    have HM := Lib.hid (Ms.start w)
    replace HM := Lib.hid (HM.out.empty 92 3)
    go_enter Tryz.func89, Tryz.ntmps89
    go_wp2_with (at_builtin; refine wpList_raw (rs := l.map encEn) rfl (.tmp 5) (.tmp 6) 33 rfl eltEn HM.out rfl (some ad) l.length c rfl HR.out (fun r hr => by obtain ⟨q, _, rfl⟩ := List.mem_map.1 hr; exact ⟨rfl, fun d hd => by simp only [encEn, List.mem_cons, List.not_mem_nil, or_false] at hd; rcases hd with rfl | rfl | rfl <;> rfl⟩) (by rw [E0.out]; omega) ?_; intro g cap w1 b1 ys hcap hm hraw hcells)
    have HM1 := Lib.hid hm
    have HX := Lib.hid (And.intro hraw (And.intro hcells hcap))
    clear hm HM hraw hcells hcap
    go_wp2
    go_ret
    exact .inr ⟨g, cap, ys, by rw [E0.out]; rfl, by rw [E0.out]; exact HX.out.2.2, HM1.out.own (i := 0) rfl, HX.out.1, HX.out.2.1, HM1.out.bl⟩
set_option maxRecDepth 100000 in
set_option maxHeartbeats 3200000 in
theorem implCopyEntries_d (v : Value) (l : List En) (w : World) (h : RdC w w.heap.size (encEns l) v) (hs : SmEns l) : Calls Tryz.prog 60 #[v] w (OwnPost (encEns l) w) := by
  obtain ⟨A, c, rfl⟩ := sliceEns h
  have hl : l.length ≤ 1048576 := by have := hs.len; omega
  have HR := Lib.hid h
  clear h
  have HM := Lib.hid (Ms.start w)
  go_enter Tryz.func60, Tryz.ntmps60
  go_wp2_with fail
  refine (cloneEns_d _ l _ HR.out hl).mono ?_
  rintro e' W1 (⟨h0, rfl, rfl⟩ | ⟨g, cap, ys, rfl, hcap, o', hraw, hcells, b'⟩)
  · obtain rfl : l = [] := List.map_eq_nil_iff.1 h0
    go_wp2
    refine wp_loop_rounds 1 ?_
    rw [rounds_succ]
    go_wp2
    go_ret
    exact (HM.out.nil 92 3).post
  · rw [show (l.map encEn).length = l.length from List.length_map _] at hcap ⊢
    have HW := Lib.hid hraw
    have HC := Lib.hid hcells
    clear hraw hcells
    obtain ⟨bp, hm⟩ := HM.out.got o' b'
    clear o' b'
    replace HM := Lib.hid hm
    clear hm
    go_wp2
    go_loopw [10] (fun i wr => ∃ (j : Nat) (bs : List Nat), j ≤ l.length ∧ i = .int .i64 (j : Int) ∧ Ms w [.dt (.rows 92 3 ((l.take j).map encEn)) (.slice (some ⟨g, 0, none⟩) j cap) bs] wr ∧ Raw wr g (j * 3) ys) (fun i _ => l.length - (intOf i).toNat)
    case atStart => exact ⟨0, _, Nat.zero_le _, rfl, HM.out, by simpa using HW.out⟩
    case round =>
      obtain ⟨j, bs, hj, rfl, hm, hw⟩ := hrel
      clear HM HW
      have HM := Lib.hid hm
      have HW := Lib.hid hw
      clear hm hw
      by_cases hlt : j < l.length
      · obtain ⟨p, hp⟩ : ∃ p, l[j]? = some p := ⟨_, List.getElem?_eq_getElem hlt⟩
        obtain ⟨y, hy, hyl, hyk⟩ := HC.out j (encEn p) (by rw [List.getElem?_map, hp]; rfl)
        obtain ⟨_, _, rfl, rfl, _, _, rfl, rfl, v2, _, rfl, hr2, rfl⟩ := hy
        obtain ⟨A5, c5, rfl⟩ := sliceP hr2
        have x0 : wr.cell? ⟨g, j * 3, none⟩ = some (.int .i64 p.client) := HW.out.cell (Nat.le_refl _) (hyk 0 _ rfl)
        have x1 : wr.cell? ⟨g, j * 3 + 1, none⟩ = some (.int .i64 p.seq) := HW.out.cell (by omega) (hyk 1 _ rfl)
        have x2 : wr.cell? ⟨g, j * 3 + 2, none⟩ = some (.slice A5 p.o.length c5) := HW.out.cell (by omega) (hyk 2 _ rfl)
        have HY := Lib.hid (show ys[j * 3]? = some (.int .i64 p.client) ∧ ys[j * 3 + 1]? = some (.int .i64 p.seq) from ⟨hyk 0 _ rfl, hyk 1 _ rfl⟩)
        have x3 : ys[j * 3 + 2]? = some (.slice A5 p.o.length c5) := hyk 2 _ rfl
        have X3 := Lib.hid x3
        have HR2 := Lib.hid hr2
        have HT := Lib.hid (show (l.take (j + 1)).map encEn = (l.take j).map encEn ++ [[.int p.client, .int p.seq, encPs p.o]] by rw [List.take_add_one, hp]; simp [encEn])
        have hsm := (hs.at_ (List.mem_of_getElem? hp)).o
        have hlj : j < cap := by omega
        have hlen : ((l.take j).map encEn).length = j := by simp; omega
        have HLN := Lib.hid hlen
        clear hyk hyl hr2 x3 hp hlen
        have HW := Lib.hid (HW.out.past (alloc_below wr (.cells #[.int .i64 p.client, .int .i64 p.seq, .slice A5 p.o.length c5] 92)))
        replace HM := Lib.hid (HM.out.new #[.int .i64 p.client, .int .i64 p.seq, .slice A5 p.o.length c5] 92)
        go_wp2_with fail
        generalize (wr.alloc (.cells #[.int .i64 p.client, .int .i64 p.seq, .slice A5 p.o.length c5] 92)) = W2 at HM HW ⊢
        refine (implCopyOp_d _ p.o _ (HM.out.arg HR2.out) hsm).mono ?_
        rintro e' W3 ⟨v', rfl, o', b'⟩
        obtain ⟨A6, c6, rfl⟩ := sliceP o'.read
        have HW := Lib.hid (HW.out.past b')
        obtain ⟨b6, hm⟩ := HM.out.got o' b'
        clear o' b'
        replace HM := Lib.hid hm
        clear hm
        have y2 : W3.cell? ⟨g, j * 3 + 2, none⟩ = some (.slice A5 p.o.length c5) := HW.out.cell (by omega) X3.out
        have f2 : W3.frozen? ⟨g, j * 3 + 2, none⟩ = false := HW.out.free
        clear x0 x1 x2
        have hm := HM.out.pk [2, 0, 1] (by decide) (by simp)
        simp only [low.pk, List.getElem?_cons_zero, List.getElem?_cons_succ] at hm
        replace HM := Lib.hid hm
        clear hm
        obtain ⟨b8, hm⟩ := HM.out.fill3 HLN.out.symm hlj HW.out HY.out.1 HY.out.2
        rw [← HT.out] at hm
        have HM8 := Lib.hid hm
        have HW8 := Lib.hid (HW.out.set (k' := (j + 1) * 3) (j * 3 + 2) (.slice A6 p.o.length c6) (by omega) (by omega))
        clear hm HM HW HY X3 HT HR2
        go_wp2
        go_roundw
        case rel => exact ⟨j + 1, b8, by omega, by go_num, HM8.out.pick (ks := [0]) (by decide) rfl, HW8.out⟩
        case measure => simp [intOf]; omega
      · obtain rfl : j = l.length := by omega
        have hm := HM.out
        rw [List.take_length] at hm
        have HM7 := Lib.hid hm
        clear hm HM
        go_wp2
        go_ret
        exact (show Ms w [.dt (encEns l) _ _] _ from HM7.out).post
end Go.Proofs.YtgfbcpcfdlnbhabGreatDoor.low


/-
  Contract of impl.Forget. Written by mkimp8f.py.
-/
namespace Go.Proofs.YtgfbcpcfdlnbhabGreatDoor.low
open Go.RowKit
set_option linter.unusedVariables false

end Go.Proofs.YtgfbcpcfdlnbhabGreatDoor.low


/-
  errors.As at a rejection's own type, and impl.codeOf: the code of a rejection, 0 for none.
-/
namespace Go.Proofs.YtgfbcpcfdlnbhabGreatDoor.low
open Go.RowKit Go.Extern.Stop Go.Stop Go.Extern
set_option linter.unusedVariables false

/-- the library's own variable that holds the type of errors -/
def ET (w : World) : Prop := w.cell? ⟨0, 0, none⟩ = some (.iface 163 (.agg #[.pointer (some ⟨1, 77, none⟩)]))
theorem ET.lt {w : World} (h : ET w) : 0 < w.heap.size := by
  unfold ET at h
  rcases Nat.lt_or_ge 0 w.heap.size with h1 | h1
  · exact h1
  · simp [World.cell?, Array.getElem?_eq_none h1] at h
theorem ET.past {w w' : World} (h : ET w) {B : Nat} (hB : B = w.heap.size) (hb : Below B w w') : ET w' := (hb.cell (p := ⟨0, 0, none⟩) (by rw [hB]; exact h.lt)).trans h
theorem asNil (t : Value) (w : World) : Calls Tryz.prog 79 #[.nilIface, t] w fun e w' => e = .returned (.bool false) ∧ w = w' := by
  go_enter Tryz.func79, Tryz.ntmps79
  go_wp2
  go_ret
  exact ⟨rfl, rfl⟩
/-- what the worked example says of the two entries that take their arguments apart -/
theorem rlMethod (z : Sem Value) (f : TypeId → Addr → Nat → Nat → Sem Value) (v : Value) :
    ReflectliteValue.method z f #[v] = (do match ← ReflectliteValue.parts v with | none => z | some (t, a, fl) => f t a fl (fl % 32)) := rfl
theorem rlSet (v x : Value) : ReflectliteValue.set #[v, x] = (do
    let (some (dst, a, fl), some (src, b, _)) := (← ReflectliteValue.parts v, ← ReflectliteValue.parts x)
      | unsupported (.noEntry "extern/(internal/reflectlite.Value).Set.zeroValue")
    if fl / ReflectliteValue.flagAddr % 2 == 0 then unsupported (.noEntry "extern/(internal/reflectlite.Value).Set.unaddressable")
    let val ← loadVar src b
    if ← Rtype.directlyAssignable dst src then storeVar dst a val
    else if ← Rtype.implements dst src then
      if (← Rtype.kind src) == 20 then
        match val with
        | .nilIface => unsupported (.noEntry "extern/reflectlite: a nil value of one interface type handed on as a value of another")
        | _ => storeVar dst a val
      else storeVar dst a (.iface src val)
    else panicString ("reflectlite.Set: value of type " ++ (← Rtype.spelt src) ++ " is not assignable to type " ++ (← Rtype.spelt dst))
    pure (.tuple #[])) := rfl
theorem rjValueOfP (t : Addr) (w : World) : (ReflectliteValue.unpack (.iface 115 (.pointer (some t)))).run Tryz.prog w
    = .ok (.agg #[.pointer (some ⟨1, 115, none⟩), .pointer (some ⟨w.heap.size, 0, none⟩), .int .u64 150]) (w.alloc (.cells #[.pointer (some t)] 115)) := by kernel_rfl
theorem rjTypeP (a : Addr) (w : World) : (ReflectliteValue.methodAny (ReflectliteValue.valueError "reflectlite.Value.Type" 0) (fun t _ _ _ => ReflectliteType.toType t) #[.agg #[.pointer (some ⟨1, 115, none⟩), .pointer (some a), .int .u64 150]]).run Tryz.prog w
    = .ok (.iface 163 (.agg #[.pointer (some ⟨1, 115, none⟩)])) w := by kernel_rfl
theorem rjMKind (h : Value) (w : World) : (Go.method 361 163 (.agg #[h]) "Kind").run Tryz.prog w = .ok (206, h) w := by kernel_rfl
theorem rjKindP (w : World) : ((ReflectliteType.abiMethod fun t => (fun a : Nat => Value.int IntKind.u8 (a : Int)) <$> Rtype.kind t) #[.pointer (some ⟨1, 115, none⟩)]).run Tryz.prog w = .ok (.int .u8 22) w := by kernel_rfl
theorem rjKind (w : World) : ((ReflectliteType.abiMethod fun t => (fun a : Nat => Value.int IntKind.u8 (a : Int)) <$> Rtype.kind t) #[.pointer (some ⟨1, 113, none⟩)]).run Tryz.prog w = .ok (.int .u8 2) w := by kernel_rfl
theorem rjPartsP (a : Addr) (w : World) : (ReflectliteValue.parts (.agg #[.pointer (some ⟨1, 115, none⟩), .pointer (some a), .int .u64 150])).run Tryz.prog w = .ok (some (115, a, 150)) w := by kernel_rfl
theorem rjIsNilP (a p : Addr) (W : World) (ha : W.cell? a = some (.pointer (some p))) :
    (ReflectliteValue.method (ReflectliteValue.valueError "reflectlite.Value.IsNil" 0) ReflectliteValue.isNil #[.agg #[.pointer (some ⟨1, 115, none⟩), .pointer (some a), .int .u64 150]]).run Tryz.prog W = .ok (.bool false) W := by
  rw [rlMethod]
  simp only [Sem.run_bind, rjPartsP, Result.andThen]
  simp [ReflectliteValue.isNil, loadVar, isAgg, underlying, Tryz.underlying115, ha, Result.andThen]
theorem rjMElem (h : Value) (w : World) : (Go.method 361 163 (.agg #[h]) "Elem").run Tryz.prog w = .ok (216, .agg #[h]) w := by kernel_rfl
theorem rjMImpl (h : Value) (w : World) : (Go.method 361 163 (.agg #[h]) "Implements").run Tryz.prog w = .ok (217, .agg #[h]) w := by kernel_rfl
theorem rjMAssign (h : Value) (w : World) : (Go.method 361 163 (.agg #[h]) "AssignableTo").run Tryz.prog w = .ok (214, .agg #[h]) w := by kernel_rfl
theorem rjElemT (w : World) : (ReflectliteType.method ReflectliteType.elem #[.agg #[.pointer (some ⟨1, 115, none⟩)]]).run Tryz.prog w = .ok (.iface 163 (.agg #[.pointer (some ⟨1, 113, none⟩)])) w := by kernel_rfl
theorem rjImpl (w : World) : (ReflectliteType.relation "Implements" ReflectliteType.implements_ #[.agg #[.pointer (some ⟨1, 113, none⟩)], .iface 163 (.agg #[.pointer (some ⟨1, 77, none⟩)])]).run Tryz.prog w = .ok (.bool true) w := by kernel_rfl
theorem rjTypeOf (v : Value) (w : World) : (ReflectliteType.typeOf #[.iface 113 v]).run Tryz.prog w = .ok (.iface 163 (.agg #[.pointer (some ⟨1, 113, none⟩)])) w := by kernel_rfl
theorem rjAssign (w : World) : (ReflectliteType.relation "AssignableTo" ReflectliteType.assignableTo #[.agg #[.pointer (some ⟨1, 113, none⟩)], .iface 163 (.agg #[.pointer (some ⟨1, 113, none⟩)])]).run Tryz.prog w = .ok (.bool true) w := by kernel_rfl
theorem rjValueOf (k : Int) (w : World) : (ReflectliteValue.unpack (.iface 113 (.int .i64 k))).run Tryz.prog w
    = .ok (.agg #[.pointer (some ⟨1, 113, none⟩), .pointer (some ⟨w.heap.size, 0, none⟩), .int .u64 130]) (w.alloc (.cells #[.int .i64 k] 113)) := by kernel_rfl
theorem rjElemOf (w : World) : (Rtype.elem? 115).run Tryz.prog w = .ok (some 113) w := by kernel_rfl
theorem rjMk (p : Addr) (w : World) : (ReflectliteValue.mk 113 p ReflectliteValue.flagAddr).run Tryz.prog w = .ok (.agg #[.pointer (some ⟨1, 113, none⟩), .pointer (some p), .int .u64 386]) w := by kernel_rfl
theorem rjElemV (a p : Addr) (W : World) (ha : W.cell? a = some (.pointer (some p))) :
    (ReflectliteValue.method (ReflectliteValue.valueError "reflectlite.Value.Elem" 0) ReflectliteValue.elem #[.agg #[.pointer (some ⟨1, 115, none⟩), .pointer (some a), .int .u64 150]]).run Tryz.prog W
      = .ok (.agg #[.pointer (some ⟨1, 113, none⟩), .pointer (some p), .int .u64 386]) W := by
  rw [rlMethod]
  simp only [Sem.run_bind, rjPartsP, Result.andThen]
  simp [ReflectliteValue.elem, loadVar, isAgg, underlying, Tryz.underlying115, ha, Result.andThen, rjElemOf, rjMk]
theorem rjPartsA (a : Addr) (w : World) : (ReflectliteValue.parts (.agg #[.pointer (some ⟨1, 113, none⟩), .pointer (some a), .int .u64 386])).run Tryz.prog w = .ok (some (113, a, 386)) w := by kernel_rfl
theorem rjParts (a : Addr) (w : World) : (ReflectliteValue.parts (.agg #[.pointer (some ⟨1, 113, none⟩), .pointer (some a), .int .u64 130])).run Tryz.prog w = .ok (some (113, a, 130)) w := by kernel_rfl
theorem rjDirect (w : World) : (Rtype.directlyAssignable 113 113).run Tryz.prog w = .ok true w := by kernel_rfl
theorem rjSet (ta b : Addr) (k : Int) (old : Value) (W : World) (hb : W.cell? b = some (.int .i64 k)) (ht : W.cell? ta = some old) (hf : W.frozen? ta = false) :
    (ReflectliteValue.set #[.agg #[.pointer (some ⟨1, 113, none⟩), .pointer (some ta), .int .u64 386], .agg #[.pointer (some ⟨1, 113, none⟩), .pointer (some b), .int .u64 130]]).run Tryz.prog W
      = .ok (.tuple #[]) (W.setCell ta (.int .i64 k)) := by
  rw [rlSet]
  simp only [Sem.run_bind, rjPartsA, rjParts, Result.andThen]
  simp [ReflectliteValue.flagAddr, loadVar, isAgg, underlying, Tryz.underlying113, hb, Result.andThen, rjDirect, storeVar, Value.cells, storeCells, Addr.add]
  rw [run_store Tryz.prog W ta _ _ (by rfl)]
  simp [ht, hf]
set_option maxRecDepth 100000 in
set_option maxHeartbeats 4000000 in
theorem asHit (k : Int) (t : Addr) (old : Value) (w : World) (hg : ET w) (ht0 : w.cell? t = some old) (hf0 : w.frozen? t = false) :
    Calls Tryz.prog 79 #[.iface 113 (.int .i64 k), .iface 115 (.pointer (some t))] w fun ev w' => ev = .returned (.bool true) ∧ w' = ((((w.alloc (.cells #[.pointer (some t)] 115)).alloc (.cells #[.pointer (some ⟨1, 115, none⟩), .pointer (some ⟨w.heap.size, 0, none⟩), .int .u64 150] 131)).alloc (.cells #[.pointer (some ⟨1, 115, none⟩), .pointer (some ⟨w.heap.size, 0, none⟩), .int .u64 150] 131)).alloc (.cells #[.int .i64 k] 113)).setCell t (.int .i64 k) := by
  have h0 := @run_callFunc_extern Tryz.prog 103 _ (fun args => ReflectliteValue.unpack (args.getD 0 (.tuple #[]))) Tryz.func103 (by kernel_rfl) (by kernel_rfl) (by kernel_rfl) (by kernel_rfl)
  have h1 := @run_callFunc_extern Tryz.prog 104 _ (ReflectliteValue.methodAny (ReflectliteValue.valueError "reflectlite.Value.Type" 0) (fun t _ _ _ => ReflectliteType.toType t)) Tryz.func104 (by kernel_rfl) (by kernel_rfl) (by kernel_rfl) (by kernel_rfl)
  have h2 := @run_callFunc_extern Tryz.prog 105 _ (ReflectliteValue.method (ReflectliteValue.valueError "reflectlite.Value.IsNil" 0) ReflectliteValue.isNil) Tryz.func105 (by kernel_rfl) (by kernel_rfl) (by kernel_rfl) (by kernel_rfl)
  have h3 := @run_callFunc_extern Tryz.prog 206 _ (ReflectliteType.abiMethod fun t => do pure (.int .u8 (← Rtype.kind t))) Tryz.func206 (by kernel_rfl) (by kernel_rfl) (by kernel_rfl) (by kernel_rfl)
  have h4 := @run_callFunc_extern Tryz.prog 216 _ (ReflectliteType.method ReflectliteType.elem) Tryz.func216 (by kernel_rfl) (by kernel_rfl) (by kernel_rfl) (by kernel_rfl)
  have h5 := @run_callFunc_extern Tryz.prog 217 _ (ReflectliteType.relation "Implements" ReflectliteType.implements_) Tryz.func217 (by kernel_rfl) (by kernel_rfl) (by kernel_rfl) (by kernel_rfl)
  have h6 := @run_callFunc_extern Tryz.prog 132 _ ReflectliteType.typeOf Tryz.func132 (by kernel_rfl) (by kernel_rfl) (by kernel_rfl) (by kernel_rfl)
  have h7 := @run_callFunc_extern Tryz.prog 214 _ (ReflectliteType.relation "AssignableTo" ReflectliteType.assignableTo) Tryz.func214 (by kernel_rfl) (by kernel_rfl) (by kernel_rfl) (by kernel_rfl)
  have h8 := @run_callFunc_extern Tryz.prog 133 _ (ReflectliteValue.method (ReflectliteValue.valueError "reflectlite.Value.Elem" 0) ReflectliteValue.elem) Tryz.func133 (by kernel_rfl) (by kernel_rfl) (by kernel_rfl) (by kernel_rfl)
  have h9 := @run_callFunc_extern Tryz.prog 134 _ ReflectliteValue.set Tryz.func134 (by kernel_rfl) (by kernel_rfl) (by kernel_rfl) (by kernel_rfl)
  have q0 := rjTypeOf
  have q1 := rjMAssign
  have q2 := rjAssign
  have q3 := rjValueOf
  have q4 := rjValueOfP
  have q5 := rjTypeP
  have q6 := rjMKind
  have q7 := rjMElem
  have q8 := rjMImpl
  have q9 := rjKindP
  have q10 := rjKind
  have q11 := rjElemT
  have q12 := rjImpl
  have n8 := rjIsNilP ⟨w.heap.size, 0, none⟩ t ((w.alloc (.cells #[.pointer (some t)] 115)).alloc (.cells #[.pointer (some ⟨1, 115, none⟩), .pointer (some ⟨w.heap.size, 0, none⟩), .int .u64 150] 131)) (by simp)
  have hlt := hg.lt
  unfold ET at hg
  have hg2 : ((w.alloc (.cells #[.pointer (some t)] 115)).alloc (.cells #[.pointer (some ⟨1, 115, none⟩), .pointer (some ⟨w.heap.size, 0, none⟩), .int .u64 150] 131)).cell? ⟨0, 0, none⟩ = some (.iface 163 (.agg #[.pointer (some ⟨1, 77, none⟩)])) := by
    rw [World.cell?_alloc_lt _ _ ⟨0, 0, none⟩ (by simp), World.cell?_alloc_lt _ _ ⟨0, 0, none⟩ hlt]; exact hg
  have htl : t.block < w.heap.size := by
    rcases Nat.lt_or_ge t.block w.heap.size with h | h
    · exact h
    · simp [World.cell?, Array.getElem?_eq_none h] at ht0
  have el := rjElemV ⟨w.heap.size, 0, none⟩ t (((w.alloc (.cells #[.pointer (some t)] 115)).alloc (.cells #[.pointer (some ⟨1, 115, none⟩), .pointer (some ⟨w.heap.size, 0, none⟩), .int .u64 150] 131)).alloc (.cells #[.pointer (some ⟨1, 115, none⟩), .pointer (some ⟨w.heap.size, 0, none⟩), .int .u64 150] 131)) (by rw [World.cell?_alloc_lt _ _ ⟨w.heap.size, 0, none⟩ (by simp; omega)]; simp)
  have st := rjSet t ⟨w.heap.size + 1 + 1 + 1, 0, none⟩ k old ((((w.alloc (.cells #[.pointer (some t)] 115)).alloc (.cells #[.pointer (some ⟨1, 115, none⟩), .pointer (some ⟨w.heap.size, 0, none⟩), .int .u64 150] 131)).alloc (.cells #[.pointer (some ⟨1, 115, none⟩), .pointer (some ⟨w.heap.size, 0, none⟩), .int .u64 150] 131)).alloc (.cells #[.int .i64 k] 113))
    (by rw [World.cell?_alloc_at _ _ _ _ (by simp)]; rfl)
    (by rw [World.cell?_alloc_lt _ _ t (by simp; omega), World.cell?_alloc_lt _ _ t (by simp; omega), World.cell?_alloc_lt _ _ t (by simp; omega), World.cell?_alloc_lt _ _ t htl]; exact ht0)
    (by rw [World.frozen?_alloc_old _ _ t (by simp; omega), World.frozen?_alloc_old _ _ t (by simp; omega), World.frozen?_alloc_old _ _ t (by simp; omega), World.frozen?_alloc_old _ _ t (Nat.ne_of_lt htl)]; exact hf0)
  go_enter Tryz.func79, Tryz.ntmps79
  go_wp2
  refine wp_loop_rounds 1 ?_
  rw [rounds_succ]
  go_wp2
  go_ret
  exact ⟨rfl, rfl⟩
theorem codeOf_nil (w : World) : Calls Tryz.prog 46 #[.nilIface] w (Nums1 0 w) := by
  go_enter Tryz.func46, Tryz.ntmps46
  go_wp2_with (go_at_call 79; refine (asNil _ _).mono ?_; rintro e w' ⟨rfl, rfl⟩)
  go_ret
  exact ⟨rfl, alloc_below _ _⟩
set_option maxRecDepth 100000 in
set_option maxHeartbeats 4000000 in
theorem codeOf_hit (k : Int) (w : World) (hg : ET w) : Calls Tryz.prog 46 #[.iface 113 (.int .i64 k)] w (Nums1 k w) := by
  have b0 := alloc_below w (.cells #[.int .i64 0] 113)
  have HG := Lib.hid (hg.past rfl b0)
  have HB := Lib.hid b0
  have hcon := Lib.hid (asHit k ⟨w.heap.size, 0, none⟩ (.int .i64 0) (w.alloc (.cells #[.int .i64 0] 113)) HG.out (by simp) (by simp))
  clear hg b0
  go_enter Tryz.func46, Tryz.ntmps46
  go_wp2_with fail
  refine (hcon.out).mono ?_
  rintro e w' ⟨rfl, hw⟩
  have hk : w'.cell? ⟨w.heap.size, 0, none⟩ = some (.int .i64 k) := by
    rw [hw]
    refine bxcell (bxset (j := 0) (cs := #[.int .i64 0]) (T := 113) ?_ (.int .i64 k)) rfl
    refine (Below.block (B := w.heap.size + 1) (w := w.alloc (.cells #[.int .i64 0] 113)) ((((Below.refl _ _).alloc (by simp) _).alloc (by simp) _).alloc (by simp) _ |>.alloc (by simp) _) w.heap.size (by omega)).trans (heap_alloc_new w _)
  have hbl : Below w.heap.size w w' := by
    rw [hw]
    exact ((((HB.out.alloc (by simp) _).alloc (by simp; omega) _).alloc (by simp; omega) _).alloc (by simp; omega) _).setCell (p := ⟨w.heap.size, 0, none⟩) (Nat.le_refl _) _
  have HBL := Lib.hid hbl
  clear hw hbl
  go_wp2
  go_ret
  exact ⟨rfl, HBL.out⟩
end Go.Proofs.YtgfbcpcfdlnbhabGreatDoor.low


/-
  The loop of spec.Transform: its body, taken out of the translation; the cases of a round, each a theorem over the frame; the round; the loop.
-/
namespace Go.Proofs.YtgfbcpcfdlnbhabGreatDoor.low
open Go.RowKit
set_option linter.unusedVariables false

noncomputable def trBody : Code := (((Tryz.f95.body.map loopsOf).getD []).headD .skip)
/-- the loop's invariant -/
def TrR (K : Fx) (g1 g2 : Nat) (w0 w' : World) : Prop := ∃ O P L M RX RY, TT K g1 g2 151 O P L M w' none none RX RY ∧ XInv K.a K.b RX RY L M ∧ Below K.lo w0 w'
theorem TrR.mk {K : Fx} {g1 g2 : Nat} {w0 w' : World} {O P : Nat → Prop} {L M : List Pt} {RX RY : List U} (h : TT K g1 g2 151 O P L M w' none none RX RY) (hi : XInv K.a K.b RX RY L M) (D : Below K.lo w0 w') : TrR K g1 g2 w0 w' := ⟨O, P, L, M, RX, RY, h, hi, D⟩
set_option maxRecDepth 1000000 in
def TrI (K : Fx) (g1 g2 : Nat) (w0 : World) (c0 c1 c2 c3 c4 c5 c6 c16 c17 c18 c19 c20 c21 c22 c23 c24 c25 c26 c27 c28 c29 c30 c31 c32 c33 c34 c35 c36 c37 c38 c39 c40 c41 c42 c127 c128 c129 c130 c131 c132 c133 c134 c135 c136 c137 c138 c139 c140 : Value) (a : Act) (w' : World) : Prop := ∃ u11 u12 u13 u14 u15 u43 u44 u45 u46 u47 u48 u49 u50 u51 u52 u53 u54 u55 u56 u57 u58 u59 u60 u61 u62 u63 u64 u65 u66 u67 u68 u69 u70 u71 u72 u73 u74 u75 u76 u77 u78 u79 u80 u81 u82 u83 u84 u85 u86 u87 u88 u89 u90 u91 u92 u93 u94 u95 u96 u97 u98 u99 u100 u101 u102 u103 u104 u105 u106 u107 u108 u109 u110 u111 u112 u113 u114 u115 u116 u117 u118 u119 u120 u121 u122 u123 u124 u125 u126 : Value, TrR K g1 g2 w0 w' ∧ a = ⟨#[c0, c1, c2, c3, c4, c5, c6, .pointer (some ⟨K.gx, 0, none⟩), .pointer (some ⟨K.gy, 0, none⟩), .pointer (some ⟨g1, 0, none⟩), .pointer (some ⟨g2, 0, none⟩), u11, u12, u13, u14, u15, c16, c17, c18, c19, c20, c21, c22, c23, c24, c25, c26, c27, c28, c29, c30, c31, c32, c33, c34, c35, c36, c37, c38, c39, c40, c41, c42, u43, u44, u45, u46, u47, u48, u49, u50, u51, u52, u53, u54, u55, u56, u57, u58, u59, u60, u61, u62, u63, u64, u65, u66, u67, u68, u69, u70, u71, u72, u73, u74, u75, u76, u77, u78, u79, u80, u81, u82, u83, u84, u85, u86, u87, u88, u89, u90, u91, u92, u93, u94, u95, u96, u97, u98, u99, u100, u101, u102, u103, u104, u105, u106, u107, u108, u109, u110, u111, u112, u113, u114, u115, u116, u117, u118, u119, u120, u121, u122, u123, u124, u125, u126, c127, c128, c129, c130, c131, c132, c133, c134, c135, c136, c137, c138, c139, c140], []⟩
/-- behind the loop -/
def TrX (K : Fx) (g1 g2 : Nat) (w0 w' : World) : Prop := ∃ O P L M, TT K g1 g2 151 O P L M w' none none [] [] ∧ XInv K.a K.b [] [] L M ∧ Below K.lo w0 w'
set_option maxRecDepth 1000000 in
def TrE (K : Fx) (g1 g2 : Nat) (w0 : World) (c0 c1 c2 c3 c4 c5 c6 c16 c17 c18 c19 c20 c21 c22 c23 c24 c25 c26 c27 c28 c29 c30 c31 c32 c33 c34 c35 c36 c37 c38 c39 c40 c41 c42 c127 c128 c129 c130 c131 c132 c133 c134 c135 c136 c137 c138 c139 c140 : Value) (a : Act) (w' : World) : Prop := ∃ u11 u12 u13 u14 u15 u43 u44 u45 u46 u47 u48 u49 u50 u51 u52 u53 u54 u55 u56 u57 u58 u59 u60 u61 u62 u63 u64 u65 u66 u67 u68 u69 u70 u71 u72 u73 u74 u75 u76 u77 u78 u79 u80 u81 u82 u83 u84 u85 u86 u87 u88 u89 u90 u91 u92 u93 u94 u95 u96 u97 u98 u99 u100 u101 u102 u103 u104 u105 u106 u107 u108 u109 u110 u111 u112 u113 u114 u115 u116 u117 u118 u119 u120 u121 u122 u123 u124 u125 u126 : Value, TrX K g1 g2 w0 w' ∧ a = ⟨#[c0, c1, c2, c3, c4, c5, c6, .pointer (some ⟨K.gx, 0, none⟩), .pointer (some ⟨K.gy, 0, none⟩), .pointer (some ⟨g1, 0, none⟩), .pointer (some ⟨g2, 0, none⟩), u11, u12, u13, u14, u15, c16, c17, c18, c19, c20, c21, c22, c23, c24, c25, c26, c27, c28, c29, c30, c31, c32, c33, c34, c35, c36, c37, c38, c39, c40, c41, c42, u43, u44, u45, u46, u47, u48, u49, u50, u51, u52, u53, u54, u55, u56, u57, u58, u59, u60, u61, u62, u63, u64, u65, u66, u67, u68, u69, u70, u71, u72, u73, u74, u75, u76, u77, u78, u79, u80, u81, u82, u83, u84, u85, u86, u87, u88, u89, u90, u91, u92, u93, u94, u95, u96, u97, u98, u99, u100, u101, u102, u103, u104, u105, u106, u107, u108, u109, u110, u111, u112, u113, u114, u115, u116, u117, u118, u119, u120, u121, u122, u123, u124, u125, u126, c127, c128, c129, c130, c131, c132, c133, c134, c135, c136, c137, c138, c139, c140], []⟩
set_option maxRecDepth 1000000 in
set_option maxHeartbeats 6400000 in
theorem trE (K : Fx) (hT : K.TC = 157) (g1 g2 : Nat) (w0 wr : World) (c0 c1 c2 c3 c4 c5 c6 c16 c17 c18 c19 c20 c21 c22 c23 c24 c25 c26 c27 c28 c29 c30 c31 c32 c33 c34 c35 c36 c37 c38 c39 c40 c41 c42 c127 c128 c129 c130 c131 c132 c133 c134 c135 c136 c137 c138 c139 c140 u11 u12 u13 u14 u15 u43 u44 u45 u46 u47 u48 u49 u50 u51 u52 u53 u54 u55 u56 u57 u58 u59 u60 u61 u62 u63 u64 u65 u66 u67 u68 u69 u70 u71 u72 u73 u74 u75 u76 u77 u78 u79 u80 u81 u82 u83 u84 u85 u86 u87 u88 u89 u90 u91 u92 u93 u94 u95 u96 u97 u98 u99 u100 u101 u102 u103 u104 u105 u106 u107 u108 u109 u110 u111 u112 u113 u114 u115 u116 u117 u118 u119 u120 u121 u122 u123 u124 u125 u126 : Value) (Q0 : Exit → Act → World → Prop) (O P : Nat → Prop) (L M : List Pt) (RX RY : List U) (hs : TT K g1 g2 151 O P L M wr none none RX RY) (hi : XInv K.a K.b RX RY L M) (D : Below K.lo w0 wr) (hx : RX = []) (hy : RY = []) (hexit : ∀ a w, TrE K g1 g2 w0 c0 c1 c2 c3 c4 c5 c6 c16 c17 c18 c19 c20 c21 c22 c23 c24 c25 c26 c27 c28 c29 c30 c31 c32 c33 c34 c35 c36 c37 c38 c39 c40 c41 c42 c127 c128 c129 c130 c131 c132 c133 c134 c135 c136 c137 c138 c139 c140 a w → Q0 (.exit 0) a w) :
    Code.wp Tryz.prog trBody (Exit.then (fun a' w'' => TrI K g1 g2 w0 c0 c1 c2 c3 c4 c5 c6 c16 c17 c18 c19 c20 c21 c22 c23 c24 c25 c26 c27 c28 c29 c30 c31 c32 c33 c34 c35 c36 c37 c38 c39 c40 c41 c42 c127 c128 c129 c130 c131 c132 c133 c134 c135 c136 c137 c138 c139 c140 a' w'' ∧ muC K w'' < muC K wr) Q0) ⟨#[c0, c1, c2, c3, c4, c5, c6, .pointer (some ⟨K.gx, 0, none⟩), .pointer (some ⟨K.gy, 0, none⟩), .pointer (some ⟨g1, 0, none⟩), .pointer (some ⟨g2, 0, none⟩), u11, u12, u13, u14, u15, c16, c17, c18, c19, c20, c21, c22, c23, c24, c25, c26, c27, c28, c29, c30, c31, c32, c33, c34, c35, c36, c37, c38, c39, c40, c41, c42, u43, u44, u45, u46, u47, u48, u49, u50, u51, u52, u53, u54, u55, u56, u57, u58, u59, u60, u61, u62, u63, u64, u65, u66, u67, u68, u69, u70, u71, u72, u73, u74, u75, u76, u77, u78, u79, u80, u81, u82, u83, u84, u85, u86, u87, u88, u89, u90, u91, u92, u93, u94, u95, u96, u97, u98, u99, u100, u101, u102, u103, u104, u105, u106, u107, u108, u109, u110, u111, u112, u113, u114, u115, u116, u117, u118, u119, u120, u121, u122, u123, u124, u125, u126, c127, c128, c129, c130, c131, c132, c133, c134, c135, c136, c137, c138, c139, c140], []⟩ wr := by
  have HMU := Lib.hid hs.cs.mu
  have hLb : L.length < 100000 := by have := hi.len; omega
  have hMb : M.length < 100000 := by have := hi.len; omega
  have HS := Lib.hid hs
  have HI := Lib.hid hi
  clear hs hi
  conv => arg 2; whnf
  subst hx
  subst hy
  have hk0 : kindOf [] = 0 := rfl
  go_wp2_with fail
  refine (HS.out.kindx hT).mono ?_
  rintro e w1 ⟨rfl, m1, q1, h1, b1⟩
  simp only at h1
  replace HS := Lib.hid h1
  replace D := D.trans b1
  clear h1 b1
  clear q1
  rw [hk0]
  have hmx := HS.out.cs.lead
  go_wp2_with fail
  refine (HS.out.kindy hT).mono ?_
  rintro e w2 ⟨rfl, m2, q2, h2, b2⟩
  simp only at h2
  replace HS := Lib.hid h2
  replace D := D.trans b2
  clear h2 b2
  clear q2
  rw [hk0]
  have hmy := HS.out.cs.swap.lead
  clear hmx hmy
  go_wp2
  have HR : TrX K g1 g2 w0 _ := ⟨_, _, _, _, HS.out.weak, HI.out, D⟩
  unfold TrE
  iterate 89 apply Exists.intro
  exact ⟨HR, rfl⟩

set_option maxRecDepth 1000000 in
set_option maxHeartbeats 6400000 in
theorem trA (K : Fx) (hT : K.TC = 157) (g1 g2 : Nat) (w0 wr : World) (c0 c1 c2 c3 c4 c5 c6 c16 c17 c18 c19 c20 c21 c22 c23 c24 c25 c26 c27 c28 c29 c30 c31 c32 c33 c34 c35 c36 c37 c38 c39 c40 c41 c42 c127 c128 c129 c130 c131 c132 c133 c134 c135 c136 c137 c138 c139 c140 u11 u12 u13 u14 u15 u43 u44 u45 u46 u47 u48 u49 u50 u51 u52 u53 u54 u55 u56 u57 u58 u59 u60 u61 u62 u63 u64 u65 u66 u67 u68 u69 u70 u71 u72 u73 u74 u75 u76 u77 u78 u79 u80 u81 u82 u83 u84 u85 u86 u87 u88 u89 u90 u91 u92 u93 u94 u95 u96 u97 u98 u99 u100 u101 u102 u103 u104 u105 u106 u107 u108 u109 u110 u111 u112 u113 u114 u115 u116 u117 u118 u119 u120 u121 u122 u123 u124 u125 u126 : Value) (Q0 : Exit → Act → World → Prop) (O P : Nat → Prop) (L M : List Pt) (RX RY : List U) (hs : TT K g1 g2 151 O P L M wr none none RX RY) (hi : XInv K.a K.b RX RY L M) (D : Below K.lo w0 wr) (hkx : kindOf RX = 2) :
    Code.wp Tryz.prog trBody (Exit.then (fun a' w'' => TrI K g1 g2 w0 c0 c1 c2 c3 c4 c5 c6 c16 c17 c18 c19 c20 c21 c22 c23 c24 c25 c26 c27 c28 c29 c30 c31 c32 c33 c34 c35 c36 c37 c38 c39 c40 c41 c42 c127 c128 c129 c130 c131 c132 c133 c134 c135 c136 c137 c138 c139 c140 a' w'' ∧ muC K w'' < muC K wr) Q0) ⟨#[c0, c1, c2, c3, c4, c5, c6, .pointer (some ⟨K.gx, 0, none⟩), .pointer (some ⟨K.gy, 0, none⟩), .pointer (some ⟨g1, 0, none⟩), .pointer (some ⟨g2, 0, none⟩), u11, u12, u13, u14, u15, c16, c17, c18, c19, c20, c21, c22, c23, c24, c25, c26, c27, c28, c29, c30, c31, c32, c33, c34, c35, c36, c37, c38, c39, c40, c41, c42, u43, u44, u45, u46, u47, u48, u49, u50, u51, u52, u53, u54, u55, u56, u57, u58, u59, u60, u61, u62, u63, u64, u65, u66, u67, u68, u69, u70, u71, u72, u73, u74, u75, u76, u77, u78, u79, u80, u81, u82, u83, u84, u85, u86, u87, u88, u89, u90, u91, u92, u93, u94, u95, u96, u97, u98, u99, u100, u101, u102, u103, u104, u105, u106, u107, u108, u109, u110, u111, u112, u113, u114, u115, u116, u117, u118, u119, u120, u121, u122, u123, u124, u125, u126, c127, c128, c129, c130, c131, c132, c133, c134, c135, c136, c137, c138, c139, c140], []⟩ wr := by
  have HMU := Lib.hid hs.cs.mu
  have hLb : L.length < 100000 := by have := hi.len; omega
  have hMb : M.length < 100000 := by have := hi.len; omega
  have HS := Lib.hid hs
  have HI := Lib.hid hi
  clear hs hi
  conv => arg 2; whnf
  go_wp2_with fail
  refine (HS.out.kindx hT).mono ?_
  rintro e w1 ⟨rfl, m1, q1, h1, b1⟩
  simp only at h1
  replace HS := Lib.hid h1
  replace D := D.trans b1
  clear h1 b1
  clear q1
  rw [hkx]
  have hmx := HS.out.cs.lead
  go_wp2_with fail
  refine (HS.out.kindx hT).mono ?_
  rintro e w2 ⟨rfl, m2, q2, h2, b2⟩
  rw [q2 _ rfl] at h2
  simp only at h2
  replace HS := Lib.hid h2
  replace D := D.trans b2
  clear h2 b2
  clear q2 m2
  rw [hkx]
  have hpx := hmx.pos (by rw [hkx]; decide)
  have HMx := Lib.hid hmx
  clear hmx
  go_wp2_with fail
  refine (HS.out.leftx hT (by rw [hkx]; decide)).mono ?_
  rintro e w3 ⟨rfl, h3, b3⟩
  replace HS := Lib.hid h3
  replace D := D.trans b3
  clear h3 b3
  go_wp2_with fail
  refine (HS.out.takex hT hkx (Nat.le_refl _ : m1 ≤ m1) hpx.1).mono ?_
  rintro e w4 ⟨A4, c4, z4, rfl, hl4, hz4, row4, h4, b4⟩
  have HZ4 := Lib.hid hz4
  have HL4 := Lib.hid hl4
  have HR4 := Lib.hid row4
  clear hz4 hl4 row4
  replace HS := Lib.hid h4
  replace D := D.trans b4
  clear h4 b4
  go_wp2_with fail
  refine (HS.out.put1 HR4.out HL4.out (by omega) hLb).mono ?_
  rintro e w5 ⟨rfl, O5, h5, b5⟩
  replace HS := Lib.hid h5
  replace D := D.trans b5
  clear h5 b5
  go_wp2_with fail
  refine (HS.out.keep2 (n := (m1 : Int)) (by omega) (by omega) hMb).mono ?_
  rintro e w6 ⟨rfl, O6, h6, b6⟩
  replace HS := Lib.hid h6
  replace D := D.trans b6
  clear h6 b6
  go_wp2
  have hz := HZ4.out
  have hl := HL4.out
  have HR := TrR.mk HS.out.weak (show XInv K.a K.b (RX.drop m1) RY _ (M ++ [⟨1, (m1 : Int), []⟩]) by rw [← hl] at hz ⊢; exact (by rw [← hz]; exact HI.out : XInv K.a K.b (z4.map .p ++ RX.drop z4.length) RY L M).px (by omega)) D
  refine ⟨?_, ?_⟩
  · unfold TrI
    iterate 89 apply Exists.intro
    exact ⟨HR, rfl⟩
  rw [HS.out.weak.cs.mu, HMU.out]
  rw [List.length_drop]
  omega

set_option maxRecDepth 1000000 in
set_option maxHeartbeats 6400000 in
theorem trB0 (K : Fx) (hT : K.TC = 157) (g1 g2 : Nat) (w0 wr : World) (c0 c1 c2 c3 c4 c5 c6 c16 c17 c18 c19 c20 c21 c22 c23 c24 c25 c26 c27 c28 c29 c30 c31 c32 c33 c34 c35 c36 c37 c38 c39 c40 c41 c42 c127 c128 c129 c130 c131 c132 c133 c134 c135 c136 c137 c138 c139 c140 u11 u12 u13 u14 u15 u43 u44 u45 u46 u47 u48 u49 u50 u51 u52 u53 u54 u55 u56 u57 u58 u59 u60 u61 u62 u63 u64 u65 u66 u67 u68 u69 u70 u71 u72 u73 u74 u75 u76 u77 u78 u79 u80 u81 u82 u83 u84 u85 u86 u87 u88 u89 u90 u91 u92 u93 u94 u95 u96 u97 u98 u99 u100 u101 u102 u103 u104 u105 u106 u107 u108 u109 u110 u111 u112 u113 u114 u115 u116 u117 u118 u119 u120 u121 u122 u123 u124 u125 u126 : Value) (Q0 : Exit → Act → World → Prop) (O P : Nat → Prop) (L M : List Pt) (RX RY : List U) (hs : TT K g1 g2 151 O P L M wr none none RX RY) (hi : XInv K.a K.b RX RY L M) (D : Below K.lo w0 wr) (hnp : noP RX) (hkx : kindOf RX = 0) (hky : kindOf RY = 2) :
    Code.wp Tryz.prog trBody (Exit.then (fun a' w'' => TrI K g1 g2 w0 c0 c1 c2 c3 c4 c5 c6 c16 c17 c18 c19 c20 c21 c22 c23 c24 c25 c26 c27 c28 c29 c30 c31 c32 c33 c34 c35 c36 c37 c38 c39 c40 c41 c42 c127 c128 c129 c130 c131 c132 c133 c134 c135 c136 c137 c138 c139 c140 a' w'' ∧ muC K w'' < muC K wr) Q0) ⟨#[c0, c1, c2, c3, c4, c5, c6, .pointer (some ⟨K.gx, 0, none⟩), .pointer (some ⟨K.gy, 0, none⟩), .pointer (some ⟨g1, 0, none⟩), .pointer (some ⟨g2, 0, none⟩), u11, u12, u13, u14, u15, c16, c17, c18, c19, c20, c21, c22, c23, c24, c25, c26, c27, c28, c29, c30, c31, c32, c33, c34, c35, c36, c37, c38, c39, c40, c41, c42, u43, u44, u45, u46, u47, u48, u49, u50, u51, u52, u53, u54, u55, u56, u57, u58, u59, u60, u61, u62, u63, u64, u65, u66, u67, u68, u69, u70, u71, u72, u73, u74, u75, u76, u77, u78, u79, u80, u81, u82, u83, u84, u85, u86, u87, u88, u89, u90, u91, u92, u93, u94, u95, u96, u97, u98, u99, u100, u101, u102, u103, u104, u105, u106, u107, u108, u109, u110, u111, u112, u113, u114, u115, u116, u117, u118, u119, u120, u121, u122, u123, u124, u125, u126, c127, c128, c129, c130, c131, c132, c133, c134, c135, c136, c137, c138, c139, c140], []⟩ wr := by
  have HMU := Lib.hid hs.cs.mu
  have hLb : L.length < 100000 := by have := hi.len; omega
  have hMb : M.length < 100000 := by have := hi.len; omega
  have HS := Lib.hid hs
  have HI := Lib.hid hi
  clear hs hi
  conv => arg 2; whnf
  go_wp2_with fail
  refine (HS.out.kindx hT).mono ?_
  rintro e w1 ⟨rfl, m1, q1, h1, b1⟩
  simp only at h1
  replace HS := Lib.hid h1
  replace D := D.trans b1
  clear h1 b1
  clear q1
  rw [hkx]
  have hmx := HS.out.cs.lead
  go_wp2_with fail
  refine (HS.out.kindy hT).mono ?_
  rintro e w2 ⟨rfl, m2, q2, h2, b2⟩
  simp only at h2
  replace HS := Lib.hid h2
  replace D := D.trans b2
  clear h2 b2
  clear q2
  rw [hky]
  have hmy := HS.out.cs.swap.lead
  go_wp2_with fail
  refine (HS.out.kindx hT).mono ?_
  rintro e w3 ⟨rfl, m3, q3, h3, b3⟩
  rw [q3 _ rfl] at h3
  simp only at h3
  replace HS := Lib.hid h3
  replace D := D.trans b3
  clear h3 b3
  clear q3 m3
  rw [hkx]
  go_wp2_with fail
  refine (HS.out.kindy hT).mono ?_
  rintro e w4 ⟨rfl, m4, q4, h4, b4⟩
  rw [q4 _ rfl] at h4
  simp only at h4
  replace HS := Lib.hid h4
  replace D := D.trans b4
  clear h4 b4
  clear q4 m4
  rw [hky]
  have hpy := hmy.pos (by rw [hky]; decide)
  have HMy := Lib.hid hmy
  clear hmy
  clear hmx
  go_wp2_with fail
  refine (HS.out.lefty hT (by rw [hky]; decide)).mono ?_
  rintro e w5 ⟨rfl, h5, b5⟩
  replace HS := Lib.hid h5
  replace D := D.trans b5
  clear h5 b5
  go_wp2_with fail
  refine (HS.out.takey hT hky (Nat.le_refl _ : m2 ≤ m2) hpy.1).mono ?_
  rintro e w6 ⟨A6, c6, z6, rfl, hl6, hz6, row6, h6, b6⟩
  have HZ6 := Lib.hid hz6
  have HL6 := Lib.hid hl6
  have HR6 := Lib.hid row6
  clear hz6 hl6 row6
  replace HS := Lib.hid h6
  replace D := D.trans b6
  clear h6 b6
  go_wp2_with fail
  refine (HS.out.put2 HR6.out HL6.out (by omega) hMb).mono ?_
  rintro e w7 ⟨rfl, O7, h7, b7⟩
  replace HS := Lib.hid h7
  replace D := D.trans b7
  clear h7 b7
  go_wp2_with fail
  refine (HS.out.keep1 (n := (m2 : Int)) (by omega) (by omega) hLb).mono ?_
  rintro e w8 ⟨rfl, O8, h8, b8⟩
  replace HS := Lib.hid h8
  replace D := D.trans b8
  clear h8 b8
  go_wp2
  have hz := HZ6.out
  have hl := HL6.out
  have HR := TrR.mk HS.out.weak (show XInv K.a K.b RX (RY.drop m2) (L ++ [⟨1, (m2 : Int), []⟩]) _ by rw [← hl] at hz ⊢; exact (by rw [← hz]; exact HI.out : XInv K.a K.b RX (z6.map .p ++ RY.drop z6.length) L M).py hnp (by omega)) D
  refine ⟨?_, ?_⟩
  · unfold TrI
    iterate 89 apply Exists.intro
    exact ⟨HR, rfl⟩
  rw [HS.out.weak.cs.mu, HMU.out]
  rw [List.length_drop]
  omega

set_option maxRecDepth 1000000 in
set_option maxHeartbeats 6400000 in
theorem trB1 (K : Fx) (hT : K.TC = 157) (g1 g2 : Nat) (w0 wr : World) (c0 c1 c2 c3 c4 c5 c6 c16 c17 c18 c19 c20 c21 c22 c23 c24 c25 c26 c27 c28 c29 c30 c31 c32 c33 c34 c35 c36 c37 c38 c39 c40 c41 c42 c127 c128 c129 c130 c131 c132 c133 c134 c135 c136 c137 c138 c139 c140 u11 u12 u13 u14 u15 u43 u44 u45 u46 u47 u48 u49 u50 u51 u52 u53 u54 u55 u56 u57 u58 u59 u60 u61 u62 u63 u64 u65 u66 u67 u68 u69 u70 u71 u72 u73 u74 u75 u76 u77 u78 u79 u80 u81 u82 u83 u84 u85 u86 u87 u88 u89 u90 u91 u92 u93 u94 u95 u96 u97 u98 u99 u100 u101 u102 u103 u104 u105 u106 u107 u108 u109 u110 u111 u112 u113 u114 u115 u116 u117 u118 u119 u120 u121 u122 u123 u124 u125 u126 : Value) (Q0 : Exit → Act → World → Prop) (O P : Nat → Prop) (L M : List Pt) (RX RY : List U) (hs : TT K g1 g2 151 O P L M wr none none RX RY) (hi : XInv K.a K.b RX RY L M) (D : Below K.lo w0 wr) (hnp : noP RX) (hkx : kindOf RX = 1) (hky : kindOf RY = 2) :
    Code.wp Tryz.prog trBody (Exit.then (fun a' w'' => TrI K g1 g2 w0 c0 c1 c2 c3 c4 c5 c6 c16 c17 c18 c19 c20 c21 c22 c23 c24 c25 c26 c27 c28 c29 c30 c31 c32 c33 c34 c35 c36 c37 c38 c39 c40 c41 c42 c127 c128 c129 c130 c131 c132 c133 c134 c135 c136 c137 c138 c139 c140 a' w'' ∧ muC K w'' < muC K wr) Q0) ⟨#[c0, c1, c2, c3, c4, c5, c6, .pointer (some ⟨K.gx, 0, none⟩), .pointer (some ⟨K.gy, 0, none⟩), .pointer (some ⟨g1, 0, none⟩), .pointer (some ⟨g2, 0, none⟩), u11, u12, u13, u14, u15, c16, c17, c18, c19, c20, c21, c22, c23, c24, c25, c26, c27, c28, c29, c30, c31, c32, c33, c34, c35, c36, c37, c38, c39, c40, c41, c42, u43, u44, u45, u46, u47, u48, u49, u50, u51, u52, u53, u54, u55, u56, u57, u58, u59, u60, u61, u62, u63, u64, u65, u66, u67, u68, u69, u70, u71, u72, u73, u74, u75, u76, u77, u78, u79, u80, u81, u82, u83, u84, u85, u86, u87, u88, u89, u90, u91, u92, u93, u94, u95, u96, u97, u98, u99, u100, u101, u102, u103, u104, u105, u106, u107, u108, u109, u110, u111, u112, u113, u114, u115, u116, u117, u118, u119, u120, u121, u122, u123, u124, u125, u126, c127, c128, c129, c130, c131, c132, c133, c134, c135, c136, c137, c138, c139, c140], []⟩ wr := by
  have HMU := Lib.hid hs.cs.mu
  have hLb : L.length < 100000 := by have := hi.len; omega
  have hMb : M.length < 100000 := by have := hi.len; omega
  have HS := Lib.hid hs
  have HI := Lib.hid hi
  clear hs hi
  conv => arg 2; whnf
  go_wp2_with fail
  refine (HS.out.kindx hT).mono ?_
  rintro e w1 ⟨rfl, m1, q1, h1, b1⟩
  simp only at h1
  replace HS := Lib.hid h1
  replace D := D.trans b1
  clear h1 b1
  clear q1
  rw [hkx]
  have hmx := HS.out.cs.lead
  go_wp2_with fail
  refine (HS.out.kindx hT).mono ?_
  rintro e w2 ⟨rfl, m2, q2, h2, b2⟩
  rw [q2 _ rfl] at h2
  simp only at h2
  replace HS := Lib.hid h2
  replace D := D.trans b2
  clear h2 b2
  clear q2 m2
  rw [hkx]
  go_wp2_with fail
  refine (HS.out.kindy hT).mono ?_
  rintro e w3 ⟨rfl, m3, q3, h3, b3⟩
  simp only at h3
  replace HS := Lib.hid h3
  replace D := D.trans b3
  clear h3 b3
  clear q3
  rw [hky]
  have hmy := HS.out.cs.swap.lead
  have hpy := hmy.pos (by rw [hky]; decide)
  have HMy := Lib.hid hmy
  clear hmy
  clear hmx
  go_wp2_with fail
  refine (HS.out.lefty hT (by rw [hky]; decide)).mono ?_
  rintro e w4 ⟨rfl, h4, b4⟩
  replace HS := Lib.hid h4
  replace D := D.trans b4
  clear h4 b4
  go_wp2_with fail
  refine (HS.out.takey hT hky (Nat.le_refl _ : m3 ≤ m3) hpy.1).mono ?_
  rintro e w5 ⟨A5, c5, z5, rfl, hl5, hz5, row5, h5, b5⟩
  have HZ5 := Lib.hid hz5
  have HL5 := Lib.hid hl5
  have HR5 := Lib.hid row5
  clear hz5 hl5 row5
  replace HS := Lib.hid h5
  replace D := D.trans b5
  clear h5 b5
  go_wp2_with fail
  refine (HS.out.put2 HR5.out HL5.out (by omega) hMb).mono ?_
  rintro e w6 ⟨rfl, O6, h6, b6⟩
  replace HS := Lib.hid h6
  replace D := D.trans b6
  clear h6 b6
  go_wp2_with fail
  refine (HS.out.keep1 (n := (m3 : Int)) (by omega) (by omega) hLb).mono ?_
  rintro e w7 ⟨rfl, O7, h7, b7⟩
  replace HS := Lib.hid h7
  replace D := D.trans b7
  clear h7 b7
  go_wp2
  have hz := HZ5.out
  have hl := HL5.out
  have HR := TrR.mk HS.out.weak (show XInv K.a K.b RX (RY.drop m3) (L ++ [⟨1, (m3 : Int), []⟩]) _ by rw [← hl] at hz ⊢; exact (by rw [← hz]; exact HI.out : XInv K.a K.b RX (z5.map .p ++ RY.drop z5.length) L M).py hnp (by omega)) D
  refine ⟨?_, ?_⟩
  · unfold TrI
    iterate 89 apply Exists.intro
    exact ⟨HR, rfl⟩
  rw [HS.out.weak.cs.mu, HMU.out]
  rw [List.length_drop]
  omega

set_option maxRecDepth 1000000 in
set_option maxHeartbeats 6400000 in
theorem trB3 (K : Fx) (hT : K.TC = 157) (g1 g2 : Nat) (w0 wr : World) (c0 c1 c2 c3 c4 c5 c6 c16 c17 c18 c19 c20 c21 c22 c23 c24 c25 c26 c27 c28 c29 c30 c31 c32 c33 c34 c35 c36 c37 c38 c39 c40 c41 c42 c127 c128 c129 c130 c131 c132 c133 c134 c135 c136 c137 c138 c139 c140 u11 u12 u13 u14 u15 u43 u44 u45 u46 u47 u48 u49 u50 u51 u52 u53 u54 u55 u56 u57 u58 u59 u60 u61 u62 u63 u64 u65 u66 u67 u68 u69 u70 u71 u72 u73 u74 u75 u76 u77 u78 u79 u80 u81 u82 u83 u84 u85 u86 u87 u88 u89 u90 u91 u92 u93 u94 u95 u96 u97 u98 u99 u100 u101 u102 u103 u104 u105 u106 u107 u108 u109 u110 u111 u112 u113 u114 u115 u116 u117 u118 u119 u120 u121 u122 u123 u124 u125 u126 : Value) (Q0 : Exit → Act → World → Prop) (O P : Nat → Prop) (L M : List Pt) (RX RY : List U) (hs : TT K g1 g2 151 O P L M wr none none RX RY) (hi : XInv K.a K.b RX RY L M) (D : Below K.lo w0 wr) (hnp : noP RX) (hkx : kindOf RX = 3) (hky : kindOf RY = 2) :
    Code.wp Tryz.prog trBody (Exit.then (fun a' w'' => TrI K g1 g2 w0 c0 c1 c2 c3 c4 c5 c6 c16 c17 c18 c19 c20 c21 c22 c23 c24 c25 c26 c27 c28 c29 c30 c31 c32 c33 c34 c35 c36 c37 c38 c39 c40 c41 c42 c127 c128 c129 c130 c131 c132 c133 c134 c135 c136 c137 c138 c139 c140 a' w'' ∧ muC K w'' < muC K wr) Q0) ⟨#[c0, c1, c2, c3, c4, c5, c6, .pointer (some ⟨K.gx, 0, none⟩), .pointer (some ⟨K.gy, 0, none⟩), .pointer (some ⟨g1, 0, none⟩), .pointer (some ⟨g2, 0, none⟩), u11, u12, u13, u14, u15, c16, c17, c18, c19, c20, c21, c22, c23, c24, c25, c26, c27, c28, c29, c30, c31, c32, c33, c34, c35, c36, c37, c38, c39, c40, c41, c42, u43, u44, u45, u46, u47, u48, u49, u50, u51, u52, u53, u54, u55, u56, u57, u58, u59, u60, u61, u62, u63, u64, u65, u66, u67, u68, u69, u70, u71, u72, u73, u74, u75, u76, u77, u78, u79, u80, u81, u82, u83, u84, u85, u86, u87, u88, u89, u90, u91, u92, u93, u94, u95, u96, u97, u98, u99, u100, u101, u102, u103, u104, u105, u106, u107, u108, u109, u110, u111, u112, u113, u114, u115, u116, u117, u118, u119, u120, u121, u122, u123, u124, u125, u126, c127, c128, c129, c130, c131, c132, c133, c134, c135, c136, c137, c138, c139, c140], []⟩ wr := by
  have HMU := Lib.hid hs.cs.mu
  have hLb : L.length < 100000 := by have := hi.len; omega
  have hMb : M.length < 100000 := by have := hi.len; omega
  have HS := Lib.hid hs
  have HI := Lib.hid hi
  clear hs hi
  conv => arg 2; whnf
  go_wp2_with fail
  refine (HS.out.kindx hT).mono ?_
  rintro e w1 ⟨rfl, m1, q1, h1, b1⟩
  simp only at h1
  replace HS := Lib.hid h1
  replace D := D.trans b1
  clear h1 b1
  clear q1
  rw [hkx]
  have hmx := HS.out.cs.lead
  go_wp2_with fail
  refine (HS.out.kindx hT).mono ?_
  rintro e w2 ⟨rfl, m2, q2, h2, b2⟩
  rw [q2 _ rfl] at h2
  simp only at h2
  replace HS := Lib.hid h2
  replace D := D.trans b2
  clear h2 b2
  clear q2 m2
  rw [hkx]
  go_wp2_with fail
  refine (HS.out.kindy hT).mono ?_
  rintro e w3 ⟨rfl, m3, q3, h3, b3⟩
  simp only at h3
  replace HS := Lib.hid h3
  replace D := D.trans b3
  clear h3 b3
  clear q3
  rw [hky]
  have hmy := HS.out.cs.swap.lead
  have hpy := hmy.pos (by rw [hky]; decide)
  have HMy := Lib.hid hmy
  clear hmy
  clear hmx
  go_wp2_with fail
  refine (HS.out.lefty hT (by rw [hky]; decide)).mono ?_
  rintro e w4 ⟨rfl, h4, b4⟩
  replace HS := Lib.hid h4
  replace D := D.trans b4
  clear h4 b4
  go_wp2_with fail
  refine (HS.out.takey hT hky (Nat.le_refl _ : m3 ≤ m3) hpy.1).mono ?_
  rintro e w5 ⟨A5, c5, z5, rfl, hl5, hz5, row5, h5, b5⟩
  have HZ5 := Lib.hid hz5
  have HL5 := Lib.hid hl5
  have HR5 := Lib.hid row5
  clear hz5 hl5 row5
  replace HS := Lib.hid h5
  replace D := D.trans b5
  clear h5 b5
  go_wp2_with fail
  refine (HS.out.put2 HR5.out HL5.out (by omega) hMb).mono ?_
  rintro e w6 ⟨rfl, O6, h6, b6⟩
  replace HS := Lib.hid h6
  replace D := D.trans b6
  clear h6 b6
  go_wp2_with fail
  refine (HS.out.keep1 (n := (m3 : Int)) (by omega) (by omega) hLb).mono ?_
  rintro e w7 ⟨rfl, O7, h7, b7⟩
  replace HS := Lib.hid h7
  replace D := D.trans b7
  clear h7 b7
  go_wp2
  have hz := HZ5.out
  have hl := HL5.out
  have HR := TrR.mk HS.out.weak (show XInv K.a K.b RX (RY.drop m3) (L ++ [⟨1, (m3 : Int), []⟩]) _ by rw [← hl] at hz ⊢; exact (by rw [← hz]; exact HI.out : XInv K.a K.b RX (z5.map .p ++ RY.drop z5.length) L M).py hnp (by omega)) D
  refine ⟨?_, ?_⟩
  · unfold TrI
    iterate 89 apply Exists.intro
    exact ⟨HR, rfl⟩
  rw [HS.out.weak.cs.mu, HMU.out]
  rw [List.length_drop]
  omega

set_option maxRecDepth 1000000 in
set_option maxHeartbeats 6400000 in
theorem trM11 (K : Fx) (hT : K.TC = 157) (g1 g2 : Nat) (w0 wr : World) (c0 c1 c2 c3 c4 c5 c6 c16 c17 c18 c19 c20 c21 c22 c23 c24 c25 c26 c27 c28 c29 c30 c31 c32 c33 c34 c35 c36 c37 c38 c39 c40 c41 c42 c127 c128 c129 c130 c131 c132 c133 c134 c135 c136 c137 c138 c139 c140 u11 u12 u13 u14 u15 u43 u44 u45 u46 u47 u48 u49 u50 u51 u52 u53 u54 u55 u56 u57 u58 u59 u60 u61 u62 u63 u64 u65 u66 u67 u68 u69 u70 u71 u72 u73 u74 u75 u76 u77 u78 u79 u80 u81 u82 u83 u84 u85 u86 u87 u88 u89 u90 u91 u92 u93 u94 u95 u96 u97 u98 u99 u100 u101 u102 u103 u104 u105 u106 u107 u108 u109 u110 u111 u112 u113 u114 u115 u116 u117 u118 u119 u120 u121 u122 u123 u124 u125 u126 : Value) (Q0 : Exit → Act → World → Prop) (O P : Nat → Prop) (L M : List Pt) (RX RY : List U) (hs : TT K g1 g2 151 O P L M wr none none RX RY) (hi : XInv K.a K.b RX RY L M) (D : Below K.lo w0 wr) (hkx : kindOf RX = 1) (hky : kindOf RY = 1) :
    Code.wp Tryz.prog trBody (Exit.then (fun a' w'' => TrI K g1 g2 w0 c0 c1 c2 c3 c4 c5 c6 c16 c17 c18 c19 c20 c21 c22 c23 c24 c25 c26 c27 c28 c29 c30 c31 c32 c33 c34 c35 c36 c37 c38 c39 c40 c41 c42 c127 c128 c129 c130 c131 c132 c133 c134 c135 c136 c137 c138 c139 c140 a' w'' ∧ muC K w'' < muC K wr) Q0) ⟨#[c0, c1, c2, c3, c4, c5, c6, .pointer (some ⟨K.gx, 0, none⟩), .pointer (some ⟨K.gy, 0, none⟩), .pointer (some ⟨g1, 0, none⟩), .pointer (some ⟨g2, 0, none⟩), u11, u12, u13, u14, u15, c16, c17, c18, c19, c20, c21, c22, c23, c24, c25, c26, c27, c28, c29, c30, c31, c32, c33, c34, c35, c36, c37, c38, c39, c40, c41, c42, u43, u44, u45, u46, u47, u48, u49, u50, u51, u52, u53, u54, u55, u56, u57, u58, u59, u60, u61, u62, u63, u64, u65, u66, u67, u68, u69, u70, u71, u72, u73, u74, u75, u76, u77, u78, u79, u80, u81, u82, u83, u84, u85, u86, u87, u88, u89, u90, u91, u92, u93, u94, u95, u96, u97, u98, u99, u100, u101, u102, u103, u104, u105, u106, u107, u108, u109, u110, u111, u112, u113, u114, u115, u116, u117, u118, u119, u120, u121, u122, u123, u124, u125, u126, c127, c128, c129, c130, c131, c132, c133, c134, c135, c136, c137, c138, c139, c140], []⟩ wr := by
  have HMU := Lib.hid hs.cs.mu
  have hLb : L.length < 100000 := by have := hi.len; omega
  have hMb : M.length < 100000 := by have := hi.len; omega
  have HS := Lib.hid hs
  have HI := Lib.hid hi
  clear hs hi
  conv => arg 2; whnf
  go_wp2_with fail
  refine (HS.out.kindx hT).mono ?_
  rintro e w1 ⟨rfl, m1, q1, h1, b1⟩
  simp only at h1
  replace HS := Lib.hid h1
  replace D := D.trans b1
  clear h1 b1
  clear q1
  rw [hkx]
  have hmx := HS.out.cs.lead
  go_wp2_with fail
  refine (HS.out.kindx hT).mono ?_
  rintro e w2 ⟨rfl, m2, q2, h2, b2⟩
  rw [q2 _ rfl] at h2
  simp only at h2
  replace HS := Lib.hid h2
  replace D := D.trans b2
  clear h2 b2
  clear q2 m2
  rw [hkx]
  go_wp2_with fail
  refine (HS.out.kindy hT).mono ?_
  rintro e w3 ⟨rfl, m3, q3, h3, b3⟩
  simp only at h3
  replace HS := Lib.hid h3
  replace D := D.trans b3
  clear h3 b3
  clear q3
  rw [hky]
  have hmy := HS.out.cs.swap.lead
  have hpx := hmx.pos (by rw [hkx]; decide)
  have HMx := Lib.hid hmx
  clear hmx
  have hpy := hmy.pos (by rw [hky]; decide)
  have HMy := Lib.hid hmy
  clear hmy
  go_wp2_with fail
  refine (HS.out.leftx hT (by rw [hkx]; decide)).mono ?_
  rintro e w4 ⟨rfl, h4, b4⟩
  replace HS := Lib.hid h4
  replace D := D.trans b4
  clear h4 b4
  go_wp2_with fail
  refine (HS.out.lefty hT (by rw [hky]; decide)).mono ?_
  rintro e w5 ⟨rfl, h5, b5⟩
  replace HS := Lib.hid h5
  replace D := D.trans b5
  clear h5 b5
  go_wp2_with fail
  refine (specMin_d _ _ _).mono ?_
  rintro e w'_ ⟨rfl, rfl⟩
  rw [show (if (m1 : Int) < (m3 : Int) then (m1 : Int) else (m3 : Int)) = ((min m1 m3 : Nat) : Int) by split <;> omega]
  have hn1 : min m1 m3 ≤ m1 := Nat.min_le_left _ _
  have hn2 : min m1 m3 ≤ m3 := Nat.min_le_right _ _
  have hn3 : 0 < min m1 m3 := by omega
  generalize min m1 m3 = n at *
  go_wp2_with fail
  refine (HS.out.kindx hT).mono ?_
  rintro e w6 ⟨rfl, m6, q6, h6, b6⟩
  rw [q6 _ rfl] at h6
  simp only at h6
  replace HS := Lib.hid h6
  replace D := D.trans b6
  clear h6 b6
  clear q6 m6
  rw [hkx]
  go_wp2_with fail
  refine (HS.out.kindy hT).mono ?_
  rintro e w7 ⟨rfl, m7, q7, h7, b7⟩
  rw [q7 _ rfl] at h7
  simp only at h7
  replace HS := Lib.hid h7
  replace D := D.trans b7
  clear h7 b7
  clear q7 m7
  rw [hky]
  have hne := HS.out.cs.ne
  have hne2 : ¬ K.gy = K.gx := fun h => hne h.symm
  go_wp2_with fail
  refine (HS.out.keep1 (n := (n : Int)) (by omega) (by omega) hLb).mono ?_
  rintro e w8 ⟨rfl, O8, h8, b8⟩
  replace HS := Lib.hid h8
  replace D := D.trans b8
  clear h8 b8
  go_wp2_with fail
  refine (HS.out.keep2 (n := (n : Int)) (by omega) (by omega) hMb).mono ?_
  rintro e w9 ⟨rfl, O9, h9, b9⟩
  replace HS := Lib.hid h9
  replace D := D.trans b9
  clear h9 b9
  obtain ⟨d10, f10, hd10, hf10, hc10, hg10, hu10, hv10, ha10⟩ := HS.out.adv2 (by rw [hkx]; decide) (by rw [hky]; decide)
  have HA10 := Lib.hid (ha10 n hn1 hn2)
  clear ha10
  go_wp2
  have ex := HMx.out.k hkx hn1
  have ey := HMy.out.k hky hn2
  have HR := TrR.mk HA10.out.weak ((by rw [← ex, ← ey]; exact HI.out : XInv K.a K.b (List.replicate n .k ++ RX.drop n) (List.replicate n .k ++ RY.drop n) L M).kk hn3) ((D.setCell HS.out.cs.lx _).setCell HS.out.cs.ly _)
  refine ⟨?_, ?_⟩
  · unfold TrI
    iterate 89 apply Exists.intro
    exact ⟨HR, rfl⟩
  rw [HA10.out.weak.cs.mu, HMU.out]
  rw [List.length_drop, List.length_drop]
  omega

set_option maxRecDepth 1000000 in
set_option maxHeartbeats 6400000 in
theorem trM13 (K : Fx) (hT : K.TC = 157) (g1 g2 : Nat) (w0 wr : World) (c0 c1 c2 c3 c4 c5 c6 c16 c17 c18 c19 c20 c21 c22 c23 c24 c25 c26 c27 c28 c29 c30 c31 c32 c33 c34 c35 c36 c37 c38 c39 c40 c41 c42 c127 c128 c129 c130 c131 c132 c133 c134 c135 c136 c137 c138 c139 c140 u11 u12 u13 u14 u15 u43 u44 u45 u46 u47 u48 u49 u50 u51 u52 u53 u54 u55 u56 u57 u58 u59 u60 u61 u62 u63 u64 u65 u66 u67 u68 u69 u70 u71 u72 u73 u74 u75 u76 u77 u78 u79 u80 u81 u82 u83 u84 u85 u86 u87 u88 u89 u90 u91 u92 u93 u94 u95 u96 u97 u98 u99 u100 u101 u102 u103 u104 u105 u106 u107 u108 u109 u110 u111 u112 u113 u114 u115 u116 u117 u118 u119 u120 u121 u122 u123 u124 u125 u126 : Value) (Q0 : Exit → Act → World → Prop) (O P : Nat → Prop) (L M : List Pt) (RX RY : List U) (hs : TT K g1 g2 151 O P L M wr none none RX RY) (hi : XInv K.a K.b RX RY L M) (D : Below K.lo w0 wr) (hkx : kindOf RX = 1) (hky : kindOf RY = 3) :
    Code.wp Tryz.prog trBody (Exit.then (fun a' w'' => TrI K g1 g2 w0 c0 c1 c2 c3 c4 c5 c6 c16 c17 c18 c19 c20 c21 c22 c23 c24 c25 c26 c27 c28 c29 c30 c31 c32 c33 c34 c35 c36 c37 c38 c39 c40 c41 c42 c127 c128 c129 c130 c131 c132 c133 c134 c135 c136 c137 c138 c139 c140 a' w'' ∧ muC K w'' < muC K wr) Q0) ⟨#[c0, c1, c2, c3, c4, c5, c6, .pointer (some ⟨K.gx, 0, none⟩), .pointer (some ⟨K.gy, 0, none⟩), .pointer (some ⟨g1, 0, none⟩), .pointer (some ⟨g2, 0, none⟩), u11, u12, u13, u14, u15, c16, c17, c18, c19, c20, c21, c22, c23, c24, c25, c26, c27, c28, c29, c30, c31, c32, c33, c34, c35, c36, c37, c38, c39, c40, c41, c42, u43, u44, u45, u46, u47, u48, u49, u50, u51, u52, u53, u54, u55, u56, u57, u58, u59, u60, u61, u62, u63, u64, u65, u66, u67, u68, u69, u70, u71, u72, u73, u74, u75, u76, u77, u78, u79, u80, u81, u82, u83, u84, u85, u86, u87, u88, u89, u90, u91, u92, u93, u94, u95, u96, u97, u98, u99, u100, u101, u102, u103, u104, u105, u106, u107, u108, u109, u110, u111, u112, u113, u114, u115, u116, u117, u118, u119, u120, u121, u122, u123, u124, u125, u126, c127, c128, c129, c130, c131, c132, c133, c134, c135, c136, c137, c138, c139, c140], []⟩ wr := by
  have HMU := Lib.hid hs.cs.mu
  have hLb : L.length < 100000 := by have := hi.len; omega
  have hMb : M.length < 100000 := by have := hi.len; omega
  have HS := Lib.hid hs
  have HI := Lib.hid hi
  clear hs hi
  conv => arg 2; whnf
  go_wp2_with fail
  refine (HS.out.kindx hT).mono ?_
  rintro e w1 ⟨rfl, m1, q1, h1, b1⟩
  simp only at h1
  replace HS := Lib.hid h1
  replace D := D.trans b1
  clear h1 b1
  clear q1
  rw [hkx]
  have hmx := HS.out.cs.lead
  go_wp2_with fail
  refine (HS.out.kindx hT).mono ?_
  rintro e w2 ⟨rfl, m2, q2, h2, b2⟩
  rw [q2 _ rfl] at h2
  simp only at h2
  replace HS := Lib.hid h2
  replace D := D.trans b2
  clear h2 b2
  clear q2 m2
  rw [hkx]
  go_wp2_with fail
  refine (HS.out.kindy hT).mono ?_
  rintro e w3 ⟨rfl, m3, q3, h3, b3⟩
  simp only at h3
  replace HS := Lib.hid h3
  replace D := D.trans b3
  clear h3 b3
  clear q3
  rw [hky]
  have hmy := HS.out.cs.swap.lead
  have hpx := hmx.pos (by rw [hkx]; decide)
  have HMx := Lib.hid hmx
  clear hmx
  have hpy := hmy.pos (by rw [hky]; decide)
  have HMy := Lib.hid hmy
  clear hmy
  go_wp2_with fail
  refine (HS.out.leftx hT (by rw [hkx]; decide)).mono ?_
  rintro e w4 ⟨rfl, h4, b4⟩
  replace HS := Lib.hid h4
  replace D := D.trans b4
  clear h4 b4
  go_wp2_with fail
  refine (HS.out.lefty hT (by rw [hky]; decide)).mono ?_
  rintro e w5 ⟨rfl, h5, b5⟩
  replace HS := Lib.hid h5
  replace D := D.trans b5
  clear h5 b5
  go_wp2_with fail
  refine (specMin_d _ _ _).mono ?_
  rintro e w'_ ⟨rfl, rfl⟩
  rw [show (if (m1 : Int) < (m3 : Int) then (m1 : Int) else (m3 : Int)) = ((min m1 m3 : Nat) : Int) by split <;> omega]
  have hn1 : min m1 m3 ≤ m1 := Nat.min_le_left _ _
  have hn2 : min m1 m3 ≤ m3 := Nat.min_le_right _ _
  have hn3 : 0 < min m1 m3 := by omega
  generalize min m1 m3 = n at *
  go_wp2_with fail
  refine (HS.out.kindx hT).mono ?_
  rintro e w6 ⟨rfl, m6, q6, h6, b6⟩
  rw [q6 _ rfl] at h6
  simp only at h6
  replace HS := Lib.hid h6
  replace D := D.trans b6
  clear h6 b6
  clear q6 m6
  rw [hkx]
  go_wp2_with fail
  refine (HS.out.kindy hT).mono ?_
  rintro e w7 ⟨rfl, m7, q7, h7, b7⟩
  rw [q7 _ rfl] at h7
  simp only at h7
  replace HS := Lib.hid h7
  replace D := D.trans b7
  clear h7 b7
  clear q7 m7
  rw [hky]
  have hne := HS.out.cs.ne
  have hne2 : ¬ K.gy = K.gx := fun h => hne h.symm
  go_wp2_with fail
  refine (HS.out.drop2 (n := (n : Int)) (by omega) (by omega) hMb).mono ?_
  rintro e w8 ⟨rfl, O8, h8, b8⟩
  replace HS := Lib.hid h8
  replace D := D.trans b8
  clear h8 b8
  obtain ⟨d9, f9, hd9, hf9, hc9, hg9, hu9, hv9, ha9⟩ := HS.out.adv2 (by rw [hkx]; decide) (by rw [hky]; decide)
  have HA9 := Lib.hid (ha9 n hn1 hn2)
  clear ha9
  go_wp2
  have ex := HMx.out.k hkx hn1
  have ey := HMy.out.d hky hn2
  have HR := TrR.mk HA9.out.weak ((by rw [← ex, ← ey]; exact HI.out : XInv K.a K.b (List.replicate n .k ++ RX.drop n) (List.replicate n .d ++ RY.drop n) L M).kd hn3) ((D.setCell HS.out.cs.lx _).setCell HS.out.cs.ly _)
  refine ⟨?_, ?_⟩
  · unfold TrI
    iterate 89 apply Exists.intro
    exact ⟨HR, rfl⟩
  rw [HA9.out.weak.cs.mu, HMU.out]
  rw [List.length_drop, List.length_drop]
  omega

set_option maxRecDepth 1000000 in
set_option maxHeartbeats 6400000 in
theorem trM31 (K : Fx) (hT : K.TC = 157) (g1 g2 : Nat) (w0 wr : World) (c0 c1 c2 c3 c4 c5 c6 c16 c17 c18 c19 c20 c21 c22 c23 c24 c25 c26 c27 c28 c29 c30 c31 c32 c33 c34 c35 c36 c37 c38 c39 c40 c41 c42 c127 c128 c129 c130 c131 c132 c133 c134 c135 c136 c137 c138 c139 c140 u11 u12 u13 u14 u15 u43 u44 u45 u46 u47 u48 u49 u50 u51 u52 u53 u54 u55 u56 u57 u58 u59 u60 u61 u62 u63 u64 u65 u66 u67 u68 u69 u70 u71 u72 u73 u74 u75 u76 u77 u78 u79 u80 u81 u82 u83 u84 u85 u86 u87 u88 u89 u90 u91 u92 u93 u94 u95 u96 u97 u98 u99 u100 u101 u102 u103 u104 u105 u106 u107 u108 u109 u110 u111 u112 u113 u114 u115 u116 u117 u118 u119 u120 u121 u122 u123 u124 u125 u126 : Value) (Q0 : Exit → Act → World → Prop) (O P : Nat → Prop) (L M : List Pt) (RX RY : List U) (hs : TT K g1 g2 151 O P L M wr none none RX RY) (hi : XInv K.a K.b RX RY L M) (D : Below K.lo w0 wr) (hkx : kindOf RX = 3) (hky : kindOf RY = 1) :
    Code.wp Tryz.prog trBody (Exit.then (fun a' w'' => TrI K g1 g2 w0 c0 c1 c2 c3 c4 c5 c6 c16 c17 c18 c19 c20 c21 c22 c23 c24 c25 c26 c27 c28 c29 c30 c31 c32 c33 c34 c35 c36 c37 c38 c39 c40 c41 c42 c127 c128 c129 c130 c131 c132 c133 c134 c135 c136 c137 c138 c139 c140 a' w'' ∧ muC K w'' < muC K wr) Q0) ⟨#[c0, c1, c2, c3, c4, c5, c6, .pointer (some ⟨K.gx, 0, none⟩), .pointer (some ⟨K.gy, 0, none⟩), .pointer (some ⟨g1, 0, none⟩), .pointer (some ⟨g2, 0, none⟩), u11, u12, u13, u14, u15, c16, c17, c18, c19, c20, c21, c22, c23, c24, c25, c26, c27, c28, c29, c30, c31, c32, c33, c34, c35, c36, c37, c38, c39, c40, c41, c42, u43, u44, u45, u46, u47, u48, u49, u50, u51, u52, u53, u54, u55, u56, u57, u58, u59, u60, u61, u62, u63, u64, u65, u66, u67, u68, u69, u70, u71, u72, u73, u74, u75, u76, u77, u78, u79, u80, u81, u82, u83, u84, u85, u86, u87, u88, u89, u90, u91, u92, u93, u94, u95, u96, u97, u98, u99, u100, u101, u102, u103, u104, u105, u106, u107, u108, u109, u110, u111, u112, u113, u114, u115, u116, u117, u118, u119, u120, u121, u122, u123, u124, u125, u126, c127, c128, c129, c130, c131, c132, c133, c134, c135, c136, c137, c138, c139, c140], []⟩ wr := by
  have HMU := Lib.hid hs.cs.mu
  have hLb : L.length < 100000 := by have := hi.len; omega
  have hMb : M.length < 100000 := by have := hi.len; omega
  have HS := Lib.hid hs
  have HI := Lib.hid hi
  clear hs hi
  conv => arg 2; whnf
  go_wp2_with fail
  refine (HS.out.kindx hT).mono ?_
  rintro e w1 ⟨rfl, m1, q1, h1, b1⟩
  simp only at h1
  replace HS := Lib.hid h1
  replace D := D.trans b1
  clear h1 b1
  clear q1
  rw [hkx]
  have hmx := HS.out.cs.lead
  go_wp2_with fail
  refine (HS.out.kindx hT).mono ?_
  rintro e w2 ⟨rfl, m2, q2, h2, b2⟩
  rw [q2 _ rfl] at h2
  simp only at h2
  replace HS := Lib.hid h2
  replace D := D.trans b2
  clear h2 b2
  clear q2 m2
  rw [hkx]
  go_wp2_with fail
  refine (HS.out.kindy hT).mono ?_
  rintro e w3 ⟨rfl, m3, q3, h3, b3⟩
  simp only at h3
  replace HS := Lib.hid h3
  replace D := D.trans b3
  clear h3 b3
  clear q3
  rw [hky]
  have hmy := HS.out.cs.swap.lead
  have hpx := hmx.pos (by rw [hkx]; decide)
  have HMx := Lib.hid hmx
  clear hmx
  have hpy := hmy.pos (by rw [hky]; decide)
  have HMy := Lib.hid hmy
  clear hmy
  go_wp2_with fail
  refine (HS.out.leftx hT (by rw [hkx]; decide)).mono ?_
  rintro e w4 ⟨rfl, h4, b4⟩
  replace HS := Lib.hid h4
  replace D := D.trans b4
  clear h4 b4
  go_wp2_with fail
  refine (HS.out.lefty hT (by rw [hky]; decide)).mono ?_
  rintro e w5 ⟨rfl, h5, b5⟩
  replace HS := Lib.hid h5
  replace D := D.trans b5
  clear h5 b5
  go_wp2_with fail
  refine (specMin_d _ _ _).mono ?_
  rintro e w'_ ⟨rfl, rfl⟩
  rw [show (if (m1 : Int) < (m3 : Int) then (m1 : Int) else (m3 : Int)) = ((min m1 m3 : Nat) : Int) by split <;> omega]
  have hn1 : min m1 m3 ≤ m1 := Nat.min_le_left _ _
  have hn2 : min m1 m3 ≤ m3 := Nat.min_le_right _ _
  have hn3 : 0 < min m1 m3 := by omega
  generalize min m1 m3 = n at *
  go_wp2_with fail
  refine (HS.out.kindx hT).mono ?_
  rintro e w6 ⟨rfl, m6, q6, h6, b6⟩
  rw [q6 _ rfl] at h6
  simp only at h6
  replace HS := Lib.hid h6
  replace D := D.trans b6
  clear h6 b6
  clear q6 m6
  rw [hkx]
  go_wp2_with fail
  refine (HS.out.kindy hT).mono ?_
  rintro e w7 ⟨rfl, m7, q7, h7, b7⟩
  rw [q7 _ rfl] at h7
  simp only at h7
  replace HS := Lib.hid h7
  replace D := D.trans b7
  clear h7 b7
  clear q7 m7
  rw [hky]
  have hne := HS.out.cs.ne
  have hne2 : ¬ K.gy = K.gx := fun h => hne h.symm
  go_wp2_with fail
  refine (HS.out.drop1 (n := (n : Int)) (by omega) (by omega) hLb).mono ?_
  rintro e w8 ⟨rfl, O8, h8, b8⟩
  replace HS := Lib.hid h8
  replace D := D.trans b8
  clear h8 b8
  obtain ⟨d9, f9, hd9, hf9, hc9, hg9, hu9, hv9, ha9⟩ := HS.out.adv2 (by rw [hkx]; decide) (by rw [hky]; decide)
  have HA9 := Lib.hid (ha9 n hn1 hn2)
  clear ha9
  go_wp2
  have ex := HMx.out.d hkx hn1
  have ey := HMy.out.k hky hn2
  have HR := TrR.mk HA9.out.weak ((by rw [← ex, ← ey]; exact HI.out : XInv K.a K.b (List.replicate n .d ++ RX.drop n) (List.replicate n .k ++ RY.drop n) L M).dk hn3) ((D.setCell HS.out.cs.lx _).setCell HS.out.cs.ly _)
  refine ⟨?_, ?_⟩
  · unfold TrI
    iterate 89 apply Exists.intro
    exact ⟨HR, rfl⟩
  rw [HA9.out.weak.cs.mu, HMU.out]
  rw [List.length_drop, List.length_drop]
  omega

set_option maxRecDepth 1000000 in
set_option maxHeartbeats 6400000 in
theorem trM33 (K : Fx) (hT : K.TC = 157) (g1 g2 : Nat) (w0 wr : World) (c0 c1 c2 c3 c4 c5 c6 c16 c17 c18 c19 c20 c21 c22 c23 c24 c25 c26 c27 c28 c29 c30 c31 c32 c33 c34 c35 c36 c37 c38 c39 c40 c41 c42 c127 c128 c129 c130 c131 c132 c133 c134 c135 c136 c137 c138 c139 c140 u11 u12 u13 u14 u15 u43 u44 u45 u46 u47 u48 u49 u50 u51 u52 u53 u54 u55 u56 u57 u58 u59 u60 u61 u62 u63 u64 u65 u66 u67 u68 u69 u70 u71 u72 u73 u74 u75 u76 u77 u78 u79 u80 u81 u82 u83 u84 u85 u86 u87 u88 u89 u90 u91 u92 u93 u94 u95 u96 u97 u98 u99 u100 u101 u102 u103 u104 u105 u106 u107 u108 u109 u110 u111 u112 u113 u114 u115 u116 u117 u118 u119 u120 u121 u122 u123 u124 u125 u126 : Value) (Q0 : Exit → Act → World → Prop) (O P : Nat → Prop) (L M : List Pt) (RX RY : List U) (hs : TT K g1 g2 151 O P L M wr none none RX RY) (hi : XInv K.a K.b RX RY L M) (D : Below K.lo w0 wr) (hkx : kindOf RX = 3) (hky : kindOf RY = 3) :
    Code.wp Tryz.prog trBody (Exit.then (fun a' w'' => TrI K g1 g2 w0 c0 c1 c2 c3 c4 c5 c6 c16 c17 c18 c19 c20 c21 c22 c23 c24 c25 c26 c27 c28 c29 c30 c31 c32 c33 c34 c35 c36 c37 c38 c39 c40 c41 c42 c127 c128 c129 c130 c131 c132 c133 c134 c135 c136 c137 c138 c139 c140 a' w'' ∧ muC K w'' < muC K wr) Q0) ⟨#[c0, c1, c2, c3, c4, c5, c6, .pointer (some ⟨K.gx, 0, none⟩), .pointer (some ⟨K.gy, 0, none⟩), .pointer (some ⟨g1, 0, none⟩), .pointer (some ⟨g2, 0, none⟩), u11, u12, u13, u14, u15, c16, c17, c18, c19, c20, c21, c22, c23, c24, c25, c26, c27, c28, c29, c30, c31, c32, c33, c34, c35, c36, c37, c38, c39, c40, c41, c42, u43, u44, u45, u46, u47, u48, u49, u50, u51, u52, u53, u54, u55, u56, u57, u58, u59, u60, u61, u62, u63, u64, u65, u66, u67, u68, u69, u70, u71, u72, u73, u74, u75, u76, u77, u78, u79, u80, u81, u82, u83, u84, u85, u86, u87, u88, u89, u90, u91, u92, u93, u94, u95, u96, u97, u98, u99, u100, u101, u102, u103, u104, u105, u106, u107, u108, u109, u110, u111, u112, u113, u114, u115, u116, u117, u118, u119, u120, u121, u122, u123, u124, u125, u126, c127, c128, c129, c130, c131, c132, c133, c134, c135, c136, c137, c138, c139, c140], []⟩ wr := by
  have HMU := Lib.hid hs.cs.mu
  have hLb : L.length < 100000 := by have := hi.len; omega
  have hMb : M.length < 100000 := by have := hi.len; omega
  have HS := Lib.hid hs
  have HI := Lib.hid hi
  clear hs hi
  conv => arg 2; whnf
  go_wp2_with fail
  refine (HS.out.kindx hT).mono ?_
  rintro e w1 ⟨rfl, m1, q1, h1, b1⟩
  simp only at h1
  replace HS := Lib.hid h1
  replace D := D.trans b1
  clear h1 b1
  clear q1
  rw [hkx]
  have hmx := HS.out.cs.lead
  go_wp2_with fail
  refine (HS.out.kindx hT).mono ?_
  rintro e w2 ⟨rfl, m2, q2, h2, b2⟩
  rw [q2 _ rfl] at h2
  simp only at h2
  replace HS := Lib.hid h2
  replace D := D.trans b2
  clear h2 b2
  clear q2 m2
  rw [hkx]
  go_wp2_with fail
  refine (HS.out.kindy hT).mono ?_
  rintro e w3 ⟨rfl, m3, q3, h3, b3⟩
  simp only at h3
  replace HS := Lib.hid h3
  replace D := D.trans b3
  clear h3 b3
  clear q3
  rw [hky]
  have hmy := HS.out.cs.swap.lead
  have hpx := hmx.pos (by rw [hkx]; decide)
  have HMx := Lib.hid hmx
  clear hmx
  have hpy := hmy.pos (by rw [hky]; decide)
  have HMy := Lib.hid hmy
  clear hmy
  go_wp2_with fail
  refine (HS.out.leftx hT (by rw [hkx]; decide)).mono ?_
  rintro e w4 ⟨rfl, h4, b4⟩
  replace HS := Lib.hid h4
  replace D := D.trans b4
  clear h4 b4
  go_wp2_with fail
  refine (HS.out.lefty hT (by rw [hky]; decide)).mono ?_
  rintro e w5 ⟨rfl, h5, b5⟩
  replace HS := Lib.hid h5
  replace D := D.trans b5
  clear h5 b5
  go_wp2_with fail
  refine (specMin_d _ _ _).mono ?_
  rintro e w'_ ⟨rfl, rfl⟩
  rw [show (if (m1 : Int) < (m3 : Int) then (m1 : Int) else (m3 : Int)) = ((min m1 m3 : Nat) : Int) by split <;> omega]
  have hn1 : min m1 m3 ≤ m1 := Nat.min_le_left _ _
  have hn2 : min m1 m3 ≤ m3 := Nat.min_le_right _ _
  have hn3 : 0 < min m1 m3 := by omega
  generalize min m1 m3 = n at *
  go_wp2_with fail
  refine (HS.out.kindx hT).mono ?_
  rintro e w6 ⟨rfl, m6, q6, h6, b6⟩
  rw [q6 _ rfl] at h6
  simp only at h6
  replace HS := Lib.hid h6
  replace D := D.trans b6
  clear h6 b6
  clear q6 m6
  rw [hkx]
  go_wp2_with fail
  refine (HS.out.kindy hT).mono ?_
  rintro e w7 ⟨rfl, m7, q7, h7, b7⟩
  rw [q7 _ rfl] at h7
  simp only at h7
  replace HS := Lib.hid h7
  replace D := D.trans b7
  clear h7 b7
  clear q7 m7
  rw [hky]
  have hne := HS.out.cs.ne
  have hne2 : ¬ K.gy = K.gx := fun h => hne h.symm
  obtain ⟨d8, f8, hd8, hf8, hc8, hg8, hu8, hv8, ha8⟩ := HS.out.adv2 (by rw [hkx]; decide) (by rw [hky]; decide)
  have HA8 := Lib.hid (ha8 n hn1 hn2)
  clear ha8
  go_wp2
  have ex := HMx.out.d hkx hn1
  have ey := HMy.out.d hky hn2
  have HR := TrR.mk HA8.out.weak ((by rw [← ex, ← ey]; exact HI.out : XInv K.a K.b (List.replicate n .d ++ RX.drop n) (List.replicate n .d ++ RY.drop n) L M).dd) ((D.setCell HS.out.cs.lx _).setCell HS.out.cs.ly _)
  refine ⟨?_, ?_⟩
  · unfold TrI
    iterate 89 apply Exists.intro
    exact ⟨HR, rfl⟩
  rw [HA8.out.weak.cs.mu, HMU.out]
  rw [List.length_drop, List.length_drop]
  omega

set_option maxRecDepth 1000000 in
set_option maxHeartbeats 1600000 in
theorem trRound (K : Fx) (hT : K.TC = 157) (g1 g2 : Nat) (w0 : World) (c0 c1 c2 c3 c4 c5 c6 c16 c17 c18 c19 c20 c21 c22 c23 c24 c25 c26 c27 c28 c29 c30 c31 c32 c33 c34 c35 c36 c37 c38 c39 c40 c41 c42 c127 c128 c129 c130 c131 c132 c133 c134 c135 c136 c137 c138 c139 c140 : Value) (Q0 : Exit → Act → World → Prop) (hexit : ∀ a w, TrE K g1 g2 w0 c0 c1 c2 c3 c4 c5 c6 c16 c17 c18 c19 c20 c21 c22 c23 c24 c25 c26 c27 c28 c29 c30 c31 c32 c33 c34 c35 c36 c37 c38 c39 c40 c41 c42 c127 c128 c129 c130 c131 c132 c133 c134 c135 c136 c137 c138 c139 c140 a w → Q0 (.exit 0) a w) (a : Act) (w' : World) (hI : TrI K g1 g2 w0 c0 c1 c2 c3 c4 c5 c6 c16 c17 c18 c19 c20 c21 c22 c23 c24 c25 c26 c27 c28 c29 c30 c31 c32 c33 c34 c35 c36 c37 c38 c39 c40 c41 c42 c127 c128 c129 c130 c131 c132 c133 c134 c135 c136 c137 c138 c139 c140 a w') :
    Code.wp Tryz.prog trBody (Exit.then (fun a' w'' => TrI K g1 g2 w0 c0 c1 c2 c3 c4 c5 c6 c16 c17 c18 c19 c20 c21 c22 c23 c24 c25 c26 c27 c28 c29 c30 c31 c32 c33 c34 c35 c36 c37 c38 c39 c40 c41 c42 c127 c128 c129 c130 c131 c132 c133 c134 c135 c136 c137 c138 c139 c140 a' w'' ∧ muC K w'' < muC K w') Q0) a w' := by
  unfold TrI at hI
  obtain ⟨u11, hI⟩ := hI
  obtain ⟨u12, hI⟩ := hI
  obtain ⟨u13, hI⟩ := hI
  obtain ⟨u14, hI⟩ := hI
  obtain ⟨u15, hI⟩ := hI
  obtain ⟨u43, hI⟩ := hI
  obtain ⟨u44, hI⟩ := hI
  obtain ⟨u45, hI⟩ := hI
  obtain ⟨u46, hI⟩ := hI
  obtain ⟨u47, hI⟩ := hI
  obtain ⟨u48, hI⟩ := hI
  obtain ⟨u49, hI⟩ := hI
  obtain ⟨u50, hI⟩ := hI
  obtain ⟨u51, hI⟩ := hI
  obtain ⟨u52, hI⟩ := hI
  obtain ⟨u53, hI⟩ := hI
  obtain ⟨u54, hI⟩ := hI
  obtain ⟨u55, hI⟩ := hI
  obtain ⟨u56, hI⟩ := hI
  obtain ⟨u57, hI⟩ := hI
  obtain ⟨u58, hI⟩ := hI
  obtain ⟨u59, hI⟩ := hI
  obtain ⟨u60, hI⟩ := hI
  obtain ⟨u61, hI⟩ := hI
  obtain ⟨u62, hI⟩ := hI
  obtain ⟨u63, hI⟩ := hI
  obtain ⟨u64, hI⟩ := hI
  obtain ⟨u65, hI⟩ := hI
  obtain ⟨u66, hI⟩ := hI
  obtain ⟨u67, hI⟩ := hI
  obtain ⟨u68, hI⟩ := hI
  obtain ⟨u69, hI⟩ := hI
  obtain ⟨u70, hI⟩ := hI
  obtain ⟨u71, hI⟩ := hI
  obtain ⟨u72, hI⟩ := hI
  obtain ⟨u73, hI⟩ := hI
  obtain ⟨u74, hI⟩ := hI
  obtain ⟨u75, hI⟩ := hI
  obtain ⟨u76, hI⟩ := hI
  obtain ⟨u77, hI⟩ := hI
  obtain ⟨u78, hI⟩ := hI
  obtain ⟨u79, hI⟩ := hI
  obtain ⟨u80, hI⟩ := hI
  obtain ⟨u81, hI⟩ := hI
  obtain ⟨u82, hI⟩ := hI
  obtain ⟨u83, hI⟩ := hI
  obtain ⟨u84, hI⟩ := hI
  obtain ⟨u85, hI⟩ := hI
  obtain ⟨u86, hI⟩ := hI
  obtain ⟨u87, hI⟩ := hI
  obtain ⟨u88, hI⟩ := hI
  obtain ⟨u89, hI⟩ := hI
  obtain ⟨u90, hI⟩ := hI
  obtain ⟨u91, hI⟩ := hI
  obtain ⟨u92, hI⟩ := hI
  obtain ⟨u93, hI⟩ := hI
  obtain ⟨u94, hI⟩ := hI
  obtain ⟨u95, hI⟩ := hI
  obtain ⟨u96, hI⟩ := hI
  obtain ⟨u97, hI⟩ := hI
  obtain ⟨u98, hI⟩ := hI
  obtain ⟨u99, hI⟩ := hI
  obtain ⟨u100, hI⟩ := hI
  obtain ⟨u101, hI⟩ := hI
  obtain ⟨u102, hI⟩ := hI
  obtain ⟨u103, hI⟩ := hI
  obtain ⟨u104, hI⟩ := hI
  obtain ⟨u105, hI⟩ := hI
  obtain ⟨u106, hI⟩ := hI
  obtain ⟨u107, hI⟩ := hI
  obtain ⟨u108, hI⟩ := hI
  obtain ⟨u109, hI⟩ := hI
  obtain ⟨u110, hI⟩ := hI
  obtain ⟨u111, hI⟩ := hI
  obtain ⟨u112, hI⟩ := hI
  obtain ⟨u113, hI⟩ := hI
  obtain ⟨u114, hI⟩ := hI
  obtain ⟨u115, hI⟩ := hI
  obtain ⟨u116, hI⟩ := hI
  obtain ⟨u117, hI⟩ := hI
  obtain ⟨u118, hI⟩ := hI
  obtain ⟨u119, hI⟩ := hI
  obtain ⟨u120, hI⟩ := hI
  obtain ⟨u121, hI⟩ := hI
  obtain ⟨u122, hI⟩ := hI
  obtain ⟨u123, hI⟩ := hI
  obtain ⟨u124, hI⟩ := hI
  obtain ⟨u125, hI⟩ := hI
  obtain ⟨u126, hI⟩ := hI
  obtain ⟨⟨O, P, L, M, RX, RY, hs, hi, D⟩, rfl⟩ := hI
  rcases xf_cases hi.bal with ⟨hx, hy⟩ | hkx | ⟨hnp, hkx | hkx | hkx, hky⟩ | ⟨hkx | hkx, hky | hky⟩
  · exact trE K hT g1 g2 w0 w' c0 c1 c2 c3 c4 c5 c6 c16 c17 c18 c19 c20 c21 c22 c23 c24 c25 c26 c27 c28 c29 c30 c31 c32 c33 c34 c35 c36 c37 c38 c39 c40 c41 c42 c127 c128 c129 c130 c131 c132 c133 c134 c135 c136 c137 c138 c139 c140 u11 u12 u13 u14 u15 u43 u44 u45 u46 u47 u48 u49 u50 u51 u52 u53 u54 u55 u56 u57 u58 u59 u60 u61 u62 u63 u64 u65 u66 u67 u68 u69 u70 u71 u72 u73 u74 u75 u76 u77 u78 u79 u80 u81 u82 u83 u84 u85 u86 u87 u88 u89 u90 u91 u92 u93 u94 u95 u96 u97 u98 u99 u100 u101 u102 u103 u104 u105 u106 u107 u108 u109 u110 u111 u112 u113 u114 u115 u116 u117 u118 u119 u120 u121 u122 u123 u124 u125 u126 Q0 O P L M RX RY hs hi D hx hy hexit
  · exact trA K hT g1 g2 w0 w' c0 c1 c2 c3 c4 c5 c6 c16 c17 c18 c19 c20 c21 c22 c23 c24 c25 c26 c27 c28 c29 c30 c31 c32 c33 c34 c35 c36 c37 c38 c39 c40 c41 c42 c127 c128 c129 c130 c131 c132 c133 c134 c135 c136 c137 c138 c139 c140 u11 u12 u13 u14 u15 u43 u44 u45 u46 u47 u48 u49 u50 u51 u52 u53 u54 u55 u56 u57 u58 u59 u60 u61 u62 u63 u64 u65 u66 u67 u68 u69 u70 u71 u72 u73 u74 u75 u76 u77 u78 u79 u80 u81 u82 u83 u84 u85 u86 u87 u88 u89 u90 u91 u92 u93 u94 u95 u96 u97 u98 u99 u100 u101 u102 u103 u104 u105 u106 u107 u108 u109 u110 u111 u112 u113 u114 u115 u116 u117 u118 u119 u120 u121 u122 u123 u124 u125 u126 Q0 O P L M RX RY hs hi D hkx
  · exact trB0 K hT g1 g2 w0 w' c0 c1 c2 c3 c4 c5 c6 c16 c17 c18 c19 c20 c21 c22 c23 c24 c25 c26 c27 c28 c29 c30 c31 c32 c33 c34 c35 c36 c37 c38 c39 c40 c41 c42 c127 c128 c129 c130 c131 c132 c133 c134 c135 c136 c137 c138 c139 c140 u11 u12 u13 u14 u15 u43 u44 u45 u46 u47 u48 u49 u50 u51 u52 u53 u54 u55 u56 u57 u58 u59 u60 u61 u62 u63 u64 u65 u66 u67 u68 u69 u70 u71 u72 u73 u74 u75 u76 u77 u78 u79 u80 u81 u82 u83 u84 u85 u86 u87 u88 u89 u90 u91 u92 u93 u94 u95 u96 u97 u98 u99 u100 u101 u102 u103 u104 u105 u106 u107 u108 u109 u110 u111 u112 u113 u114 u115 u116 u117 u118 u119 u120 u121 u122 u123 u124 u125 u126 Q0 O P L M RX RY hs hi D hnp hkx hky
  · exact trB1 K hT g1 g2 w0 w' c0 c1 c2 c3 c4 c5 c6 c16 c17 c18 c19 c20 c21 c22 c23 c24 c25 c26 c27 c28 c29 c30 c31 c32 c33 c34 c35 c36 c37 c38 c39 c40 c41 c42 c127 c128 c129 c130 c131 c132 c133 c134 c135 c136 c137 c138 c139 c140 u11 u12 u13 u14 u15 u43 u44 u45 u46 u47 u48 u49 u50 u51 u52 u53 u54 u55 u56 u57 u58 u59 u60 u61 u62 u63 u64 u65 u66 u67 u68 u69 u70 u71 u72 u73 u74 u75 u76 u77 u78 u79 u80 u81 u82 u83 u84 u85 u86 u87 u88 u89 u90 u91 u92 u93 u94 u95 u96 u97 u98 u99 u100 u101 u102 u103 u104 u105 u106 u107 u108 u109 u110 u111 u112 u113 u114 u115 u116 u117 u118 u119 u120 u121 u122 u123 u124 u125 u126 Q0 O P L M RX RY hs hi D hnp hkx hky
  · exact trB3 K hT g1 g2 w0 w' c0 c1 c2 c3 c4 c5 c6 c16 c17 c18 c19 c20 c21 c22 c23 c24 c25 c26 c27 c28 c29 c30 c31 c32 c33 c34 c35 c36 c37 c38 c39 c40 c41 c42 c127 c128 c129 c130 c131 c132 c133 c134 c135 c136 c137 c138 c139 c140 u11 u12 u13 u14 u15 u43 u44 u45 u46 u47 u48 u49 u50 u51 u52 u53 u54 u55 u56 u57 u58 u59 u60 u61 u62 u63 u64 u65 u66 u67 u68 u69 u70 u71 u72 u73 u74 u75 u76 u77 u78 u79 u80 u81 u82 u83 u84 u85 u86 u87 u88 u89 u90 u91 u92 u93 u94 u95 u96 u97 u98 u99 u100 u101 u102 u103 u104 u105 u106 u107 u108 u109 u110 u111 u112 u113 u114 u115 u116 u117 u118 u119 u120 u121 u122 u123 u124 u125 u126 Q0 O P L M RX RY hs hi D hnp hkx hky
  · exact trM11 K hT g1 g2 w0 w' c0 c1 c2 c3 c4 c5 c6 c16 c17 c18 c19 c20 c21 c22 c23 c24 c25 c26 c27 c28 c29 c30 c31 c32 c33 c34 c35 c36 c37 c38 c39 c40 c41 c42 c127 c128 c129 c130 c131 c132 c133 c134 c135 c136 c137 c138 c139 c140 u11 u12 u13 u14 u15 u43 u44 u45 u46 u47 u48 u49 u50 u51 u52 u53 u54 u55 u56 u57 u58 u59 u60 u61 u62 u63 u64 u65 u66 u67 u68 u69 u70 u71 u72 u73 u74 u75 u76 u77 u78 u79 u80 u81 u82 u83 u84 u85 u86 u87 u88 u89 u90 u91 u92 u93 u94 u95 u96 u97 u98 u99 u100 u101 u102 u103 u104 u105 u106 u107 u108 u109 u110 u111 u112 u113 u114 u115 u116 u117 u118 u119 u120 u121 u122 u123 u124 u125 u126 Q0 O P L M RX RY hs hi D hkx hky
  · exact trM13 K hT g1 g2 w0 w' c0 c1 c2 c3 c4 c5 c6 c16 c17 c18 c19 c20 c21 c22 c23 c24 c25 c26 c27 c28 c29 c30 c31 c32 c33 c34 c35 c36 c37 c38 c39 c40 c41 c42 c127 c128 c129 c130 c131 c132 c133 c134 c135 c136 c137 c138 c139 c140 u11 u12 u13 u14 u15 u43 u44 u45 u46 u47 u48 u49 u50 u51 u52 u53 u54 u55 u56 u57 u58 u59 u60 u61 u62 u63 u64 u65 u66 u67 u68 u69 u70 u71 u72 u73 u74 u75 u76 u77 u78 u79 u80 u81 u82 u83 u84 u85 u86 u87 u88 u89 u90 u91 u92 u93 u94 u95 u96 u97 u98 u99 u100 u101 u102 u103 u104 u105 u106 u107 u108 u109 u110 u111 u112 u113 u114 u115 u116 u117 u118 u119 u120 u121 u122 u123 u124 u125 u126 Q0 O P L M RX RY hs hi D hkx hky
  · exact trM31 K hT g1 g2 w0 w' c0 c1 c2 c3 c4 c5 c6 c16 c17 c18 c19 c20 c21 c22 c23 c24 c25 c26 c27 c28 c29 c30 c31 c32 c33 c34 c35 c36 c37 c38 c39 c40 c41 c42 c127 c128 c129 c130 c131 c132 c133 c134 c135 c136 c137 c138 c139 c140 u11 u12 u13 u14 u15 u43 u44 u45 u46 u47 u48 u49 u50 u51 u52 u53 u54 u55 u56 u57 u58 u59 u60 u61 u62 u63 u64 u65 u66 u67 u68 u69 u70 u71 u72 u73 u74 u75 u76 u77 u78 u79 u80 u81 u82 u83 u84 u85 u86 u87 u88 u89 u90 u91 u92 u93 u94 u95 u96 u97 u98 u99 u100 u101 u102 u103 u104 u105 u106 u107 u108 u109 u110 u111 u112 u113 u114 u115 u116 u117 u118 u119 u120 u121 u122 u123 u124 u125 u126 Q0 O P L M RX RY hs hi D hkx hky
  · exact trM33 K hT g1 g2 w0 w' c0 c1 c2 c3 c4 c5 c6 c16 c17 c18 c19 c20 c21 c22 c23 c24 c25 c26 c27 c28 c29 c30 c31 c32 c33 c34 c35 c36 c37 c38 c39 c40 c41 c42 c127 c128 c129 c130 c131 c132 c133 c134 c135 c136 c137 c138 c139 c140 u11 u12 u13 u14 u15 u43 u44 u45 u46 u47 u48 u49 u50 u51 u52 u53 u54 u55 u56 u57 u58 u59 u60 u61 u62 u63 u64 u65 u66 u67 u68 u69 u70 u71 u72 u73 u74 u75 u76 u77 u78 u79 u80 u81 u82 u83 u84 u85 u86 u87 u88 u89 u90 u91 u92 u93 u94 u95 u96 u97 u98 u99 u100 u101 u102 u103 u104 u105 u106 u107 u108 u109 u110 u111 u112 u113 u114 u115 u116 u117 u118 u119 u120 u121 u122 u123 u124 u125 u126 Q0 O P L M RX RY hs hi D hkx hky
set_option maxRecDepth 1000000 in
set_option maxHeartbeats 1600000 in
theorem trLoop (K : Fx) (hT : K.TC = 157) (g1 g2 : Nat) (w0 : World) (c0 c1 c2 c3 c4 c5 c6 c16 c17 c18 c19 c20 c21 c22 c23 c24 c25 c26 c27 c28 c29 c30 c31 c32 c33 c34 c35 c36 c37 c38 c39 c40 c41 c42 c127 c128 c129 c130 c131 c132 c133 c134 c135 c136 c137 c138 c139 c140 u11 u12 u13 u14 u15 u43 u44 u45 u46 u47 u48 u49 u50 u51 u52 u53 u54 u55 u56 u57 u58 u59 u60 u61 u62 u63 u64 u65 u66 u67 u68 u69 u70 u71 u72 u73 u74 u75 u76 u77 u78 u79 u80 u81 u82 u83 u84 u85 u86 u87 u88 u89 u90 u91 u92 u93 u94 u95 u96 u97 u98 u99 u100 u101 u102 u103 u104 u105 u106 u107 u108 u109 u110 u111 u112 u113 u114 u115 u116 u117 u118 u119 u120 u121 u122 u123 u124 u125 u126 : Value) (Q0 : Exit → Act → World → Prop) (w' : World) (hR : TrR K g1 g2 w0 w') (hexit : ∀ a w, TrE K g1 g2 w0 c0 c1 c2 c3 c4 c5 c6 c16 c17 c18 c19 c20 c21 c22 c23 c24 c25 c26 c27 c28 c29 c30 c31 c32 c33 c34 c35 c36 c37 c38 c39 c40 c41 c42 c127 c128 c129 c130 c131 c132 c133 c134 c135 c136 c137 c138 c139 c140 a w → Q0 (.exit 0) a w) :
    Code.wp Tryz.prog (Code.loop trBody) Q0 ⟨#[c0, c1, c2, c3, c4, c5, c6, .pointer (some ⟨K.gx, 0, none⟩), .pointer (some ⟨K.gy, 0, none⟩), .pointer (some ⟨g1, 0, none⟩), .pointer (some ⟨g2, 0, none⟩), u11, u12, u13, u14, u15, c16, c17, c18, c19, c20, c21, c22, c23, c24, c25, c26, c27, c28, c29, c30, c31, c32, c33, c34, c35, c36, c37, c38, c39, c40, c41, c42, u43, u44, u45, u46, u47, u48, u49, u50, u51, u52, u53, u54, u55, u56, u57, u58, u59, u60, u61, u62, u63, u64, u65, u66, u67, u68, u69, u70, u71, u72, u73, u74, u75, u76, u77, u78, u79, u80, u81, u82, u83, u84, u85, u86, u87, u88, u89, u90, u91, u92, u93, u94, u95, u96, u97, u98, u99, u100, u101, u102, u103, u104, u105, u106, u107, u108, u109, u110, u111, u112, u113, u114, u115, u116, u117, u118, u119, u120, u121, u122, u123, u124, u125, u126, c127, c128, c129, c130, c131, c132, c133, c134, c135, c136, c137, c138, c139, c140], []⟩ w' := by
  refine wp_loop (TrI K g1 g2 w0 c0 c1 c2 c3 c4 c5 c6 c16 c17 c18 c19 c20 c21 c22 c23 c24 c25 c26 c27 c28 c29 c30 c31 c32 c33 c34 c35 c36 c37 c38 c39 c40 c41 c42 c127 c128 c129 c130 c131 c132 c133 c134 c135 c136 c137 c138 c139 c140) (fun _ w => muC K w) ?_ (fun a w'' hI => trRound K hT g1 g2 w0 c0 c1 c2 c3 c4 c5 c6 c16 c17 c18 c19 c20 c21 c22 c23 c24 c25 c26 c27 c28 c29 c30 c31 c32 c33 c34 c35 c36 c37 c38 c39 c40 c41 c42 c127 c128 c129 c130 c131 c132 c133 c134 c135 c136 c137 c138 c139 c140 Q0 hexit a w'' hI)
  unfold TrI
  iterate 89 apply Exists.intro
  exact ⟨hR, rfl⟩
end Go.Proofs.YtgfbcpcfdlnbhabGreatDoor.low


/-
  Contract of spec.Transform.
-/
namespace Go.Proofs.YtgfbcpcfdlnbhabGreatDoor.low
open Go.RowKit
set_option linter.unusedVariables false

theorem nil2 {w w' : World} (hb : Below w.heap.size w w') : Res2B (encPs []) (encPs []) false w (.returned (.tuple #[.slice none 0 0, .slice none 0 0, .bool false])) w' := by
  obtain ⟨b1, o1⟩ := (nilOwn (encPs []) w' rfl hb.size).blocks
  have e : b1 = [] := by obtain ⟨_, _, ho, hr, he⟩ := o1.ow; obtain ⟨_, hc⟩ := hr; rw [he, hc]; rfl
  subst e
  exact ⟨_, _, [], [], rfl, o1, o1, by simp, hb⟩
theorem xform_f {a b : List Pt} (h : xformOk a b = false) : xformOk a b = false ∧ xformA a b = [] ∧ xformB a b = [] := ⟨h, by unfold xformA; rw [h]; rfl, by unfold xformB; rw [h]; rfl⟩
theorem TT.new {w : World} {A B : Option Addr} {ca cb lo : Nat} {a b : List Pt} {TC TB : TypeId} (hlo : lo ≤ w.heap.size) (ra : RdC w lo (encPs a) (.slice A a.length ca)) (rb : RdC w lo (encPs b) (.slice B b.length cb)) (sa : ∀ p ∈ a, szP_ p) (sb : ∀ p ∈ b, szP_ p) (na : a.length ≤ 1048576) (nb : b.length ≤ 1048576) :
    TT ⟨lo, w.heap.size, w.heap.size + 1, TC, A, ca, a, B, cb, b⟩ (w.heap.size + 1 + 1) (w.heap.size + 1 + 1 + 1) TB (fun q => q = w.heap.size + 1 + 1) (fun q => q = w.heap.size + 1 + 1 + 1) [] [] ((((w.alloc (.cells #[.slice A a.length ca, .int .i64 0, .int .i64 0] TC)).alloc (.cells #[.slice B b.length cb, .int .i64 0, .int .i64 0] TC)).alloc (.cells #[.slice none 0 0, .slice none 0 0, .int .i64 0] TB)).alloc (.cells #[.slice none 0 0, .slice none 0 0, .int .i64 0] TB)) none none (units a) (units b) ∧
    Below lo w ((((w.alloc (.cells #[.slice A a.length ca, .int .i64 0, .int .i64 0] TC)).alloc (.cells #[.slice B b.length cb, .int .i64 0, .int .i64 0] TC)).alloc (.cells #[.slice none 0 0, .slice none 0 0, .int .i64 0] TB)).alloc (.cells #[.slice none 0 0, .slice none 0 0, .int .i64 0] TB)) := by
  obtain ⟨h1, b1⟩ := CB.new (TC := TC) (TB := TB) hlo ra rb sa sb na nb
  have s3 : (((w.alloc (.cells #[.slice A a.length ca, .int .i64 0, .int .i64 0] TC)).alloc (.cells #[.slice B b.length cb, .int .i64 0, .int .i64 0] TC)).alloc (.cells #[.slice none 0 0, .slice none 0 0, .int .i64 0] TB)).heap.size = w.heap.size + 1 + 1 + 1 := by simp
  generalize (((w.alloc (.cells #[.slice A a.length ca, .int .i64 0, .int .i64 0] TC)).alloc (.cells #[.slice B b.length cb, .int .i64 0, .int .i64 0] TC)).alloc (.cells #[.slice none 0 0, .slice none 0 0, .int .i64 0] TB)) = w3 at *
  have hb := Bld.new lo TB w3 (by omega)
  have ba := alloc_below w3 (.cells #[.slice none 0 0, .slice none 0 0, .int .i64 0] TB)
  rw [s3] at hb
  have h2 := h1.past ba
  exact ⟨⟨h2.cs, h2.bd, hb, h2.ox, h2.oy, by show ¬ w.heap.size = _; omega, by show ¬ w.heap.size + 1 = _; omega, fun q e1 e2 => by have e1' : q = w.heap.size + 1 + 1 := e1; have e2' : q = w.heap.size + 1 + 1 + 1 := e2; omega⟩, b1.trans (ba.mono (by omega))⟩

set_option maxRecDepth 1000000 in
set_option maxHeartbeats 6400000 in
theorem specTransform_t (A B : Option Addr) (ca cb : Nat) (a b : List Pt) (w : World) (h : RdC w w.heap.size (encPs a) (.slice A a.length ca)) (h' : RdC w w.heap.size (encPs b) (.slice B b.length cb)) (hs : SmP a) (hs' : SmP b) (hoa : okOp a = true) (hob : okOp b = true) (hbal : sumK a + sumD a = sumK b + sumD b) :
    Calls Tryz.prog 95 #[.slice A a.length ca, .slice B b.length cb] w (Res2B (encPs (xformA a b)) (encPs (xformB a b)) (xformOk a b) w) := by
  obtain ⟨A_, ca_, eA, hra, _⟩ := parts_rd h
  obtain ⟨rfl, rfl⟩ : A = A_ ∧ ca = ca_ := by injection eA with e1 _ e3; exact ⟨e1, e3⟩
  obtain ⟨B_, cb_, eB, hrb, _⟩ := parts_rd h'
  obtain ⟨rfl, rfl⟩ : B = B_ ∧ cb = cb_ := by injection eB with e1 _ e3; exact ⟨e1, e3⟩
  clear eA eB
  have hlA := hs.1
  have hlB := hs'.1
  have hne : ((sumK a + sumD a) != (sumK b + sumD b)) = false := by simp [hbal]
  have HI := Lib.hid (xinv0 hoa hob hbal)
  have HOA := Lib.hid hoa
  have HOB := Lib.hid hob
  have HBAL := Lib.hid hbal
  clear hbal
  go_enter Tryz.func95, Tryz.ntmps95
  go_wp2_with fail
  refine (specOpOk_any A ca a _ hra (by omega) hs.all4).mono ?_
  rintro e w1 ⟨rfl, b1⟩
  rw [hoa]
  go_wp2_with fail
  refine (specOpOk_any B cb b _ (hrb.past b1) (by omega) hs'.all4).mono ?_
  rintro e w2 ⟨rfl, b2⟩
  rw [hob]
  have d2 := b1.trans (b2.mono b1.size)
  go_wp2_with fail
  refine (specOpFrom_any A ca a _ (hra.past d2) (by omega) hs.all4).mono ?_
  rintro e w3 ⟨rfl, b3⟩
  have d3 := d2.trans (b3.mono d2.size)
  go_wp2_with fail
  refine (specOpFrom_any B cb b _ (hrb.past d3) (by omega) hs'.all4).mono ?_
  rintro e w4 ⟨rfl, b4⟩
  have d4 := d3.trans (b4.mono d3.size)
  clear hoa hob b1 b2 d2 b3 d3 b4
  go_wp2
  obtain ⟨htt, bN⟩ := TT.new (TC := 157) (TB := 151) d4.size (h.below d4) (h'.below d4) (okOp_units HOA.out).2.1 (okOp_units HOB.out).2.1 hlA hlB
  have D := d4.trans bN
  have HTT := Lib.hid htt
  clear htt bN hne
  refine trLoop ⟨w.heap.size, w4.heap.size, w4.heap.size + 1, 157, A, ca, a, B, cb, b⟩ rfl (w4.heap.size + 1 + 1) (w4.heap.size + 1 + 1 + 1) w _ _ _ _ _ _ _ _ _ _ _ _ _ _ _ _ _ _ _ _ _ _ _ _ _ _ _ _ _ _ _ _ _ _ _ _ _ _ _ _ _ _ _ _ _ _ _ _ _ _ _ _ _ _ _ _ _ _ _ _ _ _ _ _ _ _ _ _ _ _ _ _ _ _ _ _ _ _ _ _ _ _ _ _ _ _ _ _ _ _ _ _ _ _ _ _ _ _ _ _ _ _ _ _ _ _ _ _ _ _ _ _ _ _ _ _ _ _ _ _ _ _ _ _ _ _ _ _ _ _ _ _ _ _ _ _ _ _ _ ⟨_, _, _, _, _, _, HTT.out, HI.out, D⟩ ?_
  intro act w8 hE
  clear HTT D HI
  unfold TrE at hE
  obtain ⟨u11, hE⟩ := hE
  obtain ⟨u12, hE⟩ := hE
  obtain ⟨u13, hE⟩ := hE
  obtain ⟨u14, hE⟩ := hE
  obtain ⟨u15, hE⟩ := hE
  obtain ⟨u43, hE⟩ := hE
  obtain ⟨u44, hE⟩ := hE
  obtain ⟨u45, hE⟩ := hE
  obtain ⟨u46, hE⟩ := hE
  obtain ⟨u47, hE⟩ := hE
  obtain ⟨u48, hE⟩ := hE
  obtain ⟨u49, hE⟩ := hE
  obtain ⟨u50, hE⟩ := hE
  obtain ⟨u51, hE⟩ := hE
  obtain ⟨u52, hE⟩ := hE
  obtain ⟨u53, hE⟩ := hE
  obtain ⟨u54, hE⟩ := hE
  obtain ⟨u55, hE⟩ := hE
  obtain ⟨u56, hE⟩ := hE
  obtain ⟨u57, hE⟩ := hE
  obtain ⟨u58, hE⟩ := hE
  obtain ⟨u59, hE⟩ := hE
  obtain ⟨u60, hE⟩ := hE
  obtain ⟨u61, hE⟩ := hE
  obtain ⟨u62, hE⟩ := hE
  obtain ⟨u63, hE⟩ := hE
  obtain ⟨u64, hE⟩ := hE
  obtain ⟨u65, hE⟩ := hE
  obtain ⟨u66, hE⟩ := hE
  obtain ⟨u67, hE⟩ := hE
  obtain ⟨u68, hE⟩ := hE
  obtain ⟨u69, hE⟩ := hE
  obtain ⟨u70, hE⟩ := hE
  obtain ⟨u71, hE⟩ := hE
  obtain ⟨u72, hE⟩ := hE
  obtain ⟨u73, hE⟩ := hE
  obtain ⟨u74, hE⟩ := hE
  obtain ⟨u75, hE⟩ := hE
  obtain ⟨u76, hE⟩ := hE
  obtain ⟨u77, hE⟩ := hE
  obtain ⟨u78, hE⟩ := hE
  obtain ⟨u79, hE⟩ := hE
  obtain ⟨u80, hE⟩ := hE
  obtain ⟨u81, hE⟩ := hE
  obtain ⟨u82, hE⟩ := hE
  obtain ⟨u83, hE⟩ := hE
  obtain ⟨u84, hE⟩ := hE
  obtain ⟨u85, hE⟩ := hE
  obtain ⟨u86, hE⟩ := hE
  obtain ⟨u87, hE⟩ := hE
  obtain ⟨u88, hE⟩ := hE
  obtain ⟨u89, hE⟩ := hE
  obtain ⟨u90, hE⟩ := hE
  obtain ⟨u91, hE⟩ := hE
  obtain ⟨u92, hE⟩ := hE
  obtain ⟨u93, hE⟩ := hE
  obtain ⟨u94, hE⟩ := hE
  obtain ⟨u95, hE⟩ := hE
  obtain ⟨u96, hE⟩ := hE
  obtain ⟨u97, hE⟩ := hE
  obtain ⟨u98, hE⟩ := hE
  obtain ⟨u99, hE⟩ := hE
  obtain ⟨u100, hE⟩ := hE
  obtain ⟨u101, hE⟩ := hE
  obtain ⟨u102, hE⟩ := hE
  obtain ⟨u103, hE⟩ := hE
  obtain ⟨u104, hE⟩ := hE
  obtain ⟨u105, hE⟩ := hE
  obtain ⟨u106, hE⟩ := hE
  obtain ⟨u107, hE⟩ := hE
  obtain ⟨u108, hE⟩ := hE
  obtain ⟨u109, hE⟩ := hE
  obtain ⟨u110, hE⟩ := hE
  obtain ⟨u111, hE⟩ := hE
  obtain ⟨u112, hE⟩ := hE
  obtain ⟨u113, hE⟩ := hE
  obtain ⟨u114, hE⟩ := hE
  obtain ⟨u115, hE⟩ := hE
  obtain ⟨u116, hE⟩ := hE
  obtain ⟨u117, hE⟩ := hE
  obtain ⟨u118, hE⟩ := hE
  obtain ⟨u119, hE⟩ := hE
  obtain ⟨u120, hE⟩ := hE
  obtain ⟨u121, hE⟩ := hE
  obtain ⟨u122, hE⟩ := hE
  obtain ⟨u123, hE⟩ := hE
  obtain ⟨u124, hE⟩ := hE
  obtain ⟨u125, hE⟩ := hE
  obtain ⟨u126, hE⟩ := hE
  obtain ⟨⟨O, P, L, M, ht, hi, D⟩, rfl⟩ := hE
  have HT := Lib.hid ht
  have e1 : doneN (foldN L) = xfA a b := by
    have h1 := hi.eq1
    rw [xf_nil, List.append_nil] at h1
    unfold xfA
    rw [foldN_units ht.b1.sz, h1]
  have e2 : doneN (foldN M) = xfB a b := by
    have h1 := hi.eq2
    rw [xf_nil, List.append_nil] at h1
    unfold xfB
    rw [foldN_units ht.b2.sz, h1]
  have hs1 : SmP (xfA a b) := by rw [← e1]; exact built_small ht.b1.sz (by have := hi.len; omega)
  have hs2 : SmP (xfB a b) := by rw [← e2]; exact built_small ht.b2.sz (by have := hi.len; omega)
  have HE1 := Lib.hid e1
  have HE2 := Lib.hid e2
  have HB2 := Lib.hid (show xformOk a b = (okOp (xfA a b) && okOp (xfB a b)) by unfold xformOk; rw [HOA.out, HOB.out, HBAL.out]; simp)
  clear ht hi e1 e2
  go_wp2_with fail
  refine (specDoneB O _ _ L _ HT.out.b1).mono ?_
  rintro e w9 ⟨v9, k9, rfl, o9, _, bl9, gr9⟩
  obtain ⟨b2', ap⟩ := HT.out.b2.apart gr9 (fun q hq ho => HT.out.dis q ho hq)
  rw [HE1.out] at o9
  replace D := D.trans bl9
  have HB9 := Lib.hid b2'
  have HAP := Lib.hid ap
  obtain ⟨A9, c9, rfl⟩ := sliceP o9.read
  have H9 := Lib.hid o9
  clear o9 bl9 gr9 b2' ap HE1
  have l1 := hs1.1
  have l2 := hs2.1
  generalize hUA : xfA a b = UA at *
  generalize hUB : xfB a b = UB at *
  have HUA := Lib.hid hUA
  have HUB := Lib.hid hUB
  clear hUA hUB
  go_wp2_with fail
  refine (specDoneB P _ _ M _ HB9.out).mono ?_
  rintro e w10 ⟨v10, k10, rfl, o10, in10, bl10, gr10⟩
  rw [HE2.out] at o10
  replace D := D.trans bl10
  have H9' := Lib.hid (H9.out.grew2 gr10 (fun x hx hp => HAP.out x hp hx))
  have HDS := Lib.hid (show ∀ x ∈ k9, x ∉ k10 from fun x hx hx' => by
    rcases in10 x hx' with h1 | h1
    · exact HAP.out x h1 hx
    · have := OwC.lt _ _ _ H9.out.ow x hx; omega)
  obtain ⟨A10, c10, rfl, r10, _⟩ := parts_rd o10.read
  have H10 := Lib.hid o10
  have hz10 := gr10.size
  obtain ⟨A9_, c9_, e9, r9, _⟩ := parts_rd H9'.out.read
  obtain ⟨rfl, rfl⟩ : A9 = A9_ ∧ c9 = c9_ := by injection e9 with q1 _ q3; exact ⟨q1, q3⟩
  clear o10 bl10 gr10 in10 H9 HAP HB9 HE2 e9 HT
  go_wp2_with fail
  refine (specOpOk_any A9 c9 UA _ r9 (by omega) hs1.all4).mono ?_
  rintro e w11 ⟨rfl, b11⟩
  replace D := D.trans (b11.mono D.size)
  cases ho1 : okOp UA
  · have HN := Lib.hid (xform_f (a := a) (b := b) (by rw [HB2.out, ho1]; rfl))
    clear HB2
    go_wp2
    go_ret3
    rw [HN.out.1, HN.out.2.1, HN.out.2.2]
    exact nil2 D
  · go_wp2_with fail
    refine (specOpOk_any A10 c10 UB _ (r10.past b11) (by omega) hs2.all4).mono ?_
    rintro e w12 ⟨rfl, b12⟩
    replace D := D.trans (b12.mono D.size)
    have HP9 := Lib.hid ((H9'.out.past b11).past b12)
    have HP10 := Lib.hid ((H10.out.past b11).past b12)
    have hzz := Nat.le_trans b11.size b12.size
    clear H9' H10 r9 r10 b11 b12
    cases ho2 : okOp UB
    · have HN := Lib.hid (xform_f (a := a) (b := b) (by rw [HB2.out, ho1, ho2]; rfl))
      clear HB2
      go_wp2
      go_ret3
      rw [HN.out.1, HN.out.2.1, HN.out.2.2]
      exact nil2 D
    · have HN := Lib.hid (show xformOk a b = true ∧ xformA a b = UA ∧ xformB a b = UB by
        have e : xformOk a b = true := by rw [HB2.out, ho1, ho2]; rfl
        exact ⟨e, by unfold xformA; rw [if_pos e, HUA.out], by unfold xformB; rw [if_pos e, HUB.out]⟩)
      clear HB2
      go_wp2
      go_ret3
      rw [HN.out.1, HN.out.2.1, HN.out.2.2]
      exact ⟨_, _, k9, k10, rfl, HP9.out.upto (Nat.le_trans hz10 hzz) (Nat.le_refl _), HP10.out.upto hzz (Nat.le_refl _), HDS.out, D⟩

set_option maxHeartbeats 1600000 in
theorem specTransform_d (v v' : Value) (a b : List Pt) (w : World) (h : RdC w w.heap.size (encPs a) v) (h' : RdC w w.heap.size (encPs b) v') (hs : SmP a) (hs' : SmP b) : Calls Tryz.prog 95 #[v, v'] w (Res2B (encPs (xformA a b)) (encPs (xformB a b)) (xformOk a b) w) := by
  obtain ⟨A, ca, rfl, hra, _⟩ := parts_rd h
  obtain ⟨B, cb, rfl, hrb, _⟩ := parts_rd h'
  have hlA := hs.1
  have hlB := hs'.1
  cases hoa : okOp a
  · have HN := Lib.hid (xform_f (a := a) (b := b) (by unfold xformOk; rw [hoa]; rfl))
    go_enter Tryz.func95, Tryz.ntmps95
    go_wp2_with fail
    refine (specOpOk_any A ca a _ hra (by omega) hs.all4).mono ?_
    rintro e w1 ⟨rfl, b1⟩
    rw [hoa]
    go_wp2
    go_ret3
    rw [HN.out.1, HN.out.2.1, HN.out.2.2]
    exact nil2 b1
  cases hob : okOp b
  · have HN := Lib.hid (xform_f (a := a) (b := b) (by unfold xformOk; rw [hoa, hob]; rfl))
    go_enter Tryz.func95, Tryz.ntmps95
    go_wp2_with fail
    refine (specOpOk_any A ca a _ hra (by omega) hs.all4).mono ?_
    rintro e w1 ⟨rfl, b1⟩
    rw [hoa]
    go_wp2_with fail
    refine (specOpOk_any B cb b _ (hrb.past b1) (by omega) hs'.all4).mono ?_
    rintro e w2 ⟨rfl, b2⟩
    rw [hob]
    have d2 := b1.trans (b2.mono b1.size)
    go_wp2
    go_ret3
    rw [HN.out.1, HN.out.2.1, HN.out.2.2]
    exact nil2 d2
  by_cases hbal : sumK a + sumD a = sumK b + sumD b
  · exact specTransform_t A B ca cb a b w h h' hs hs' hoa hob hbal
  · have hne : ((sumK a + sumD a) != (sumK b + sumD b)) = true := by simp [hbal]
    have HN := Lib.hid (xform_f (a := a) (b := b) (by unfold xformOk; rw [hoa, hob]; simp [hbal]))
    clear hbal
    go_enter Tryz.func95, Tryz.ntmps95
    go_wp2_with fail
    refine (specOpOk_any A ca a _ hra (by omega) hs.all4).mono ?_
    rintro e w1 ⟨rfl, b1⟩
    rw [hoa]
    go_wp2_with fail
    refine (specOpOk_any B cb b _ (hrb.past b1) (by omega) hs'.all4).mono ?_
    rintro e w2 ⟨rfl, b2⟩
    rw [hob]
    have d2 := b1.trans (b2.mono b1.size)
    go_wp2_with fail
    refine (specOpFrom_any A ca a _ (hra.past d2) (by omega) hs.all4).mono ?_
    rintro e w3 ⟨rfl, b3⟩
    have d3 := d2.trans (b3.mono d2.size)
    go_wp2_with fail
    refine (specOpFrom_any B cb b _ (hrb.past d3) (by omega) hs'.all4).mono ?_
    rintro e w4 ⟨rfl, b4⟩
    have d4 := d3.trans (b4.mono d3.size)
    go_wp2
    go_ret3
    rw [HN.out.1, HN.out.2.1, HN.out.2.2]
    exact nil2 d4
end Go.Proofs.YtgfbcpcfdlnbhabGreatDoor.low


/-
  Leading an operation past several: the functions on lists, and the contracts of spec.l05Past, spec.Past and spec.PastAll.
-/
namespace Go.Proofs.YtgfbcpcfdlnbhabGreatDoor.low
open Go.RowKit
set_option linter.unusedVariables false

def stepPast (s : Option (List (List Pt) × List Pt)) (o : List Pt) : Option (List (List Pt) × List Pt) := match s with
  | none => none
  | some (xs, q) => if xformOk o q = true then some (xs ++ [xformA o q], xformB o q) else none
def foldPast (l : List (List Pt)) (b : List Pt) : Option (List (List Pt) × List Pt) := l.foldl stepPast (some ([], normL b))
def pastS (l : List (List Pt)) (b : List Pt) : Option (List (List Pt) × List Pt) := if okOp b = true then foldPast l b else none
def pastB (l : List (List Pt)) (b : List Pt) : Bool := (pastS l b).isSome
def pastAllT (l : List (List Pt)) (b : List Pt) : List (List Pt) := ((pastS l b).map (·.1)).getD []
def pastT (l : List (List Pt)) (b : List Pt) : List Pt := ((pastS l b).map (·.2)).getD []
theorem foldPast_snoc {l : List (List Pt)} {b : List Pt} {k : Nat} {ps : List Pt} (h : l[k]? = some ps) : foldPast (l.take (k + 1)) b = stepPast (foldPast (l.take k) b) ps := by
  unfold foldPast
  rw [List.take_add_one, h]
  simp
theorem foldlPast_none (l : List (List Pt)) : l.foldl stepPast none = none := by
  induction l with
  | nil => rfl
  | cons p l ih => exact ih
theorem foldPast_none {l : List (List Pt)} {b : List Pt} {k : Nat} (h : foldPast (l.take k) b = none) : foldPast l b = none := by
  have e : foldPast l b = (l.drop k).foldl stepPast (foldPast (l.take k) b) := by
    unfold foldPast
    rw [← List.foldl_append, List.take_append_drop]
  rw [e, h, foldlPast_none]
theorem normL_small {ps : List Pt} (h : okOp ps = true) : SmP (normL ps) := by
  obtain ⟨n1, _, _⟩ := norm_ok h
  obtain ⟨_, h1, h2⟩ := okOp_units n1
  have := signsIn_le h1
  exact ⟨by omega, by omega⟩
/-- what stands behind k operations is small -/
theorem foldPast_small {l : List (List Pt)} {b : List Pt} (hb : okOp b = true) : ∀ {k : Nat} {xs : List (List Pt)} {q : List Pt}, k ≤ l.length → foldPast (l.take k) b = some (xs, q) → SmP q ∧ xs.length = k ∧ ∀ x ∈ xs, x.length ≤ 600 ∧ signsIn x ≤ 120000
  | 0, xs, q, _, h => by
    have : xs = [] ∧ q = normL b := by simpa [foldPast, and_comm, eq_comm] using h
    obtain ⟨rfl, rfl⟩ := this
    exact ⟨normL_small hb, rfl, by simp⟩
  | k + 1, xs, q, hk, h => by
    obtain ⟨ps, hp⟩ := idx_some (l := l) (i := k) (by omega)
    rw [foldPast_snoc hp] at h
    cases hq : foldPast (l.take k) b with
    | none => rw [hq] at h; cases h
    | some u =>
      obtain ⟨ys, r⟩ := u
      obtain ⟨i1, i2, i3⟩ := foldPast_small hb (by omega) hq
      rw [hq] at h
      unfold stepPast at h
      simp only at h
      split at h
      · rename_i hx
        injection h with h
        injection h with h1 h2
        subst h1
        subst h2
        refine ⟨xformB_sm _ _, by simp [i2], fun x hx' => ?_⟩
        rcases List.mem_append.1 hx' with hx' | hx'
        · exact i3 x hx'
        · simp at hx'
          subst hx'
          unfold xformA
          rw [if_pos hx]
          unfold xformOk at hx
          rw [Bool.and_eq_true, Bool.and_eq_true] at hx
          obtain ⟨_, h1, h2⟩ := okOp_units hx.1.2
          have := signsIn_le h1
          exact ⟨by omega, by omega⟩
      · cases h
theorem past_f {l : List (List Pt)} {b : List Pt} (h : pastS l b = none) : pastB l b = false ∧ pastAllT l b = [] ∧ pastT l b = [] := by
  unfold pastB pastAllT pastT
  rw [h]
  exact ⟨rfl, rfl, rfl⟩
theorem past_t {l : List (List Pt)} {b : List Pt} {xs : List (List Pt)} {q : List Pt} (h : pastS l b = some (xs, q)) : pastB l b = true ∧ pastAllT l b = xs ∧ pastT l b = q := by
  unfold pastB pastAllT pastT
  rw [h]
  exact ⟨rfl, rfl, rfl⟩
theorem pastT_sm (l : List (List Pt)) (b : List Pt) : SmP (pastT l b) := by
  cases h : pastS l b with
  | none => rw [(past_f h).2.2]; exact smP_nil
  | some u =>
    obtain ⟨xs, q⟩ := u
    rw [(past_t h).2.2]
    unfold pastS at h
    split at h
    · rename_i hb
      exact (foldPast_small hb (Nat.le_refl l.length) (by rw [List.take_length]; exact h)).1
    · cases h
theorem nilPP {w w' : World} (hb : Below w.heap.size w w') : Res2B (encPss []) (encPs []) false w (.returned (.tuple #[.slice none 0 0, .slice none 0 0, .bool false])) w' := by
  obtain ⟨b1, o1⟩ := (nilOwn (encPss []) w' rfl hb.size).blocks
  obtain ⟨b2, o2⟩ := (nilOwn (encPs []) w' rfl hb.size).blocks
  have e : b1 = [] := by obtain ⟨_, _, ho, hr, he⟩ := o1.ow; obtain ⟨_, hc⟩ := hr; rw [he, hc]; rfl
  subst e
  exact ⟨_, _, [], b2, rfl, o1, o2, by simp, hb⟩
/-- the state of the loop: the list, and the operation so far -/
def PastR (lo : Nat) (w : World) (o q : Value) (xs : List (List Pt)) (cur : List Pt) : Prop := ∃ b1 b2, OwB lo w.heap.size w (encPss xs) o b1 ∧ OwB lo w.heap.size w (encPs cur) q b2 ∧ ∀ x ∈ b1, x ∉ b2

set_option maxRecDepth 100000 in
set_option maxHeartbeats 3200000 in
theorem specPast5_d (v v' : Value) (l : List (List Pt)) (b : List Pt) (w : World) (h : RdC w w.heap.size (encPss l) v) (h' : RdC w w.heap.size (encPs b) v') (hs : SmPP l) (hs' : SmP b) : Calls Tryz.prog 70 #[v, v'] w (Res2B (encPss (pastAllT l b)) (encPs (pastT l b)) (pastB l b) w) := by
  obtain ⟨A, c, rfl⟩ := pss_len h
  obtain ⟨B, cb, rfl, hrb, _⟩ := parts_rd h'
  obtain ⟨i0, hi0, hz0, hz1, hz2⟩ := info_parts pss_info
  have hl := hs.1
  have hlb := hs'.1
  cases hob : okOp b
  · have HN := Lib.hid (past_f (l := l) (b := b) (by unfold pastS; rw [hob]; rfl))
    go_enter Tryz.func70, Tryz.ntmps70
    go_wp2_with fail
    refine (specOpOk_any B cb b _ hrb (by omega) hs'.all4).mono ?_
    rintro e w1 ⟨rfl, b1⟩
    rw [hob]
    go_wp2
    go_ret3
    rw [HN.out.1, HN.out.2.1, HN.out.2.2]
    exact nilPP b1
  · have HOB := Lib.hid hob
    go_enter Tryz.func70, Tryz.ntmps70
    go_wp2_with fail
    refine (specOpOk_any B cb b _ hrb (by omega) hs'.all4).mono ?_
    rintro e w1 ⟨rfl, b1⟩
    rw [hob]
    clear hob
    go_wp2_with fail
    have hbn := b1.trans ((alloc_below w1 (.cells #[] 30)).mono b1.size)
    have hib : OwB w.heap.size (w1.alloc (.cells #[] 30)).heap.size (w1.alloc (.cells #[] 30)) (encPss []) (.slice (some ⟨w1.heap.size, 0, none⟩) 0 0) [w1.heap.size] :=
      ⟨⟨[], [], ⟨rfl, .inr ⟨w1.heap.size, 0, #[], rfl, Nat.zero_le _, heap_alloc_new w1 _, Nat.le_refl _, by unfold maxLen; omega, rfl, rfl⟩⟩, ⟨rfl, rfl⟩, rfl⟩, by simp, fun x hx => by obtain rfl : x = w1.heap.size := (by simpa using hx); exact ⟨b1.size, lt_of_some (heap_alloc_new w1 _)⟩, Nat.le_refl _, hbn.size⟩
    generalize w1.alloc (.cells #[] 30) = w2 at *
    generalize (Value.slice (some ⟨w1.heap.size, 0, none⟩) 0 0) = v0 at *
    refine (specOpNorm_d _ b w2 (h'.past hbn) hs').mono ?_
    rintro e w3 ⟨v3, rfl, o3, b3⟩
    obtain ⟨k3, o3⟩ := o3.blocks
    have HR0 := Lib.hid (show PastR w.heap.size w3 v0 v3 [] (normL b) from ⟨_, _, (hib.past b3).upto b3.size (Nat.le_refl _), ⟨o3.ow, o3.nd, fun x hx => ⟨Nat.le_trans hbn.size (o3.rng x hx).1, (o3.rng x hx).2⟩, o3.top, Nat.le_trans hbn.size o3.le⟩, fun x hx hx' => by have q1 := (hib.rng x hx).2; have q2 := (o3.rng x hx').1; omega⟩)
    have D := hbn.trans (b3.mono hbn.size)
    clear o3 b3 hib hbn b1
    obtain ⟨A0, c0, rfl⟩ : ∃ A0 c0, v0 = .slice A0 0 c0 := by obtain ⟨_, _, h1, _⟩ := HR0.out; exact pss_len h1.read
    obtain ⟨A3, c3, rfl⟩ : ∃ A3 c3, v3 = .slice A3 (normL b).length c3 := by obtain ⟨_, _, _, h1, _⟩ := HR0.out; exact sliceP h1.read
    go_wp2
    go_loopw [7, 8, 22] (fun o q i wr => ∃ (k : Nat) (xs : List (List Pt)) (cur : List Pt), k ≤ l.length ∧ i = .int .i64 k ∧ foldPast (l.take k) b = some (xs, cur) ∧ PastR w.heap.size wr o q xs cur ∧ Below w.heap.size w wr) (fun _ _ i _ => l.length - (intOf i).toNat)
    case atStart => exact ⟨0, [], normL b, Nat.zero_le _, rfl, rfl, HR0.out, D⟩
    case round =>
      obtain ⟨k, xs, cur, hk, rfl, hf, hpr, hbel⟩ := hrel
      clear HR0 D
      have HF := Lib.hid hf
      obtain ⟨hsc, hxl, hxs⟩ := foldPast_small HOB.out hk hf
      have HXL := Lib.hid hxl
      clear hf hxs hxl
      obtain ⟨b1, b2, o1, o2, dis⟩ := hpr
      obtain ⟨A1, c1, rfl⟩ := pss_len o1.read
      obtain ⟨A2, c2, rfl⟩ := sliceP o2.read
      have HO1 := Lib.hid o1
      have HO2 := Lib.hid o2
      have HDS := Lib.hid dis
      clear o1 o2 dis
      by_cases hlt : k < l.length
      · obtain ⟨ad, ps, A4, c4, rfl, hb, hp, hc, hprd⟩ := pss_at (h.below hbel) hlt
        have K1 := Lib.hid (foldPast_snoc (b := b) hp)
        rw [HF.out] at K1
        have hsp := hs.all ps (List.mem_of_getElem? hp)
        clear hp
        have HPR := Lib.hid (RdC.more hbel.size _ _ hprd)
        clear hprd
        have hxl2 : xs.length ≤ 1048576 := by rw [HXL.out]; omega
        go_wp2_with fail
        refine (specTransform_d _ _ ps cur _ HPR.out HO2.out.read hsp hsc).mono ?_
        rintro e w4 ⟨x4, y4, kx, ky, rfl, ox, oy, ds4, b4⟩
        obtain ⟨A5, c5, rfl⟩ := sliceP ox.read
        obtain ⟨A6, c6, rfl⟩ := sliceP oy.read
        have hz4 := b4.size
        have HX := Lib.hid ox
        have HY := Lib.hid oy
        have HDS4 := Lib.hid ds4
        have D4 := hbel.trans (b4.mono hbel.size)
        clear ox oy ds4
        cases hfit : xformOk ps cur
        · have HN := Lib.hid (past_f (l := l) (b := b) (by
            have : foldPast l b = none := foldPast_none (k := k + 1) (by rw [K1.out]; simp [stepPast, hfit])
            unfold pastS; rw [this]; simp))
          go_wp2
          go_ret3
          rw [HN.out.1, HN.out.2.1, HN.out.2.2]
          exact nilPP D4
        · have K2 := Lib.hid (show foldPast (l.take (k + 1)) b = some (xs ++ [xformA ps cur], xformB ps cur) by rw [K1.out]; simp [stepPast, hfit])
          have bA := alloc_below w4 (.cells #[.slice A5 (xformA ps cur).length c5] 30)
          have HO1' := Lib.hid ((HO1.out.past b4).past bA)
          have HX' := Lib.hid (HX.out.past bA)
          have HY' := Lib.hid (HY.out.past bA)
          have hnews : ∀ (j : Nat) (u : Value), [Value.slice A5 (xformA ps cur).length c5][j]? = some u → (w4.alloc (.cells #[.slice A5 (xformA ps cur).length c5] 30)).cell? ((⟨w4.heap.size, 0, none⟩ : Addr).add j) = some u := fun j u hu => by
            cases j with
            | zero =>
              simp at hu
              subst hu
              exact cell_of_row _ _ 0 _ _ _ (heap_alloc_new w4 _)
            | succ j => simp at hu
          have HNW := Lib.hid hnews
          have hlx : (xs.map fun ps => [encPs ps]).length ≤ 2000000 := by rw [List.length_map]; omega
          have DA := D4.trans (bA.mono D4.size)
          have hlo := hbel.size
          clear hnews bA
          go_wp2_with (at_builtin; refine wpList_append_row rfl (.tmp 35) (.tmp 37) 64 rfl 30 i0 (.slice none 0 0) 1 24 Tryz.underlying64 hi0 hz0 hz1 hz2 rfl (by decide) (by decide) w.heap.size _ (.slice A1 xs.length c1) (xs.map fun ps => [encPs ps]) b1 HO1'.out rfl hlx ⟨w4.heap.size, 0, none⟩ _ [.slice A5 (xformA ps cur).length c5] rfl rfl HNW.out (by simp [Value.oneCell']) [encPs (xformA ps cur)] kx HX'.out.ow.row1 HX.out.nd (fun q hq hq' => by have q1 := (HO1.out.rng q hq).2; have q2 := (HX.out.rng q hq').1; omega) (fun q hq => by have q2 := (HX.out.rng q hq).1; omega) ?_; intro A7 c7 w7 b7 o7 in7 g7 bl7)
          have o7' : OwB w.heap.size w7.heap.size w7 (encPss (xs ++ [xformA ps cur])) (.slice A7 (xs.length + 1) c7) b7 := by
            have e : encPss (xs ++ [xformA ps cur]) = .rows 30 1 ((xs.map fun ps => [encPs ps]) ++ [[encPs (xformA ps cur)]]) := by unfold encPss; rw [List.map_append]; rfl
            rw [e]
            simpa using o7
          have HPR7 := Lib.hid (show PastR w.heap.size w7 (.slice A7 (xs.length + 1) c7) (.slice A6 (xformB ps cur).length c6) (xs ++ [xformA ps cur]) (xformB ps cur) from by
            have oy7 := HY'.out.grew2 g7 (fun q hq hq' => by have q1 := (HO1.out.rng q hq').2; have q2 := (HY.out.rng q hq).1; omega)
            refine ⟨b7, ky, o7', ⟨oy7.ow, oy7.nd, fun q hq => ⟨by have q2 := (HY.out.rng q hq).1; omega, ?_⟩, Nat.le_refl _, (DA.trans bl7).size⟩, fun q hq hq' => ?_⟩
            · exact OwC.lt _ _ _ oy7.ow q hq
            · rcases in7 q hq with h1 | h1 | h1
              · have q1 := (HO1.out.rng q h1).2; have q2 := (HY.out.rng q hq').1; omega
              · exact HDS4.out q h1 hq'
              · have q1 := (HY.out.rng q hq').2
                have q3 : w4.heap.size ≤ q := by simp at h1; omega
                omega)
          have D7 := DA.trans bl7
          clear o7 o7' in7 g7 bl7 HO1' HX' HY' HNW
          go_wp2
          go_roundw
          case rel => exact ⟨k + 1, _, _, by omega, by go_num, K2.out, by simpa using HPR7.out, D7⟩
          case measure => simp [intOf]; omega
      · have hke : l.take k = l := List.take_of_length_le (by omega)
        have HN := Lib.hid (past_t (l := l) (b := b) (xs := xs) (q := cur) (by unfold pastS; rw [if_pos HOB.out, ← HF.out, hke]))
        go_wp2
        go_ret3
        rw [HN.out.1, HN.out.2.1, HN.out.2.2]
        exact ⟨_, _, b1, b2, rfl, HO1.out, HO2.out, HDS.out, hbel⟩

set_option maxHeartbeats 800000 in
theorem specPast_d (v v' : Value) (l : List (List Pt)) (b : List Pt) (w : World) (h : RdC w w.heap.size (encPss l) v) (h' : RdC w w.heap.size (encPs b) v') (hs : SmPP l) (hs' : SmP b) : Calls Tryz.prog 38 #[v, v'] w (ResB (encPs (pastT l b)) (pastB l b) w) := by
  obtain ⟨A, c, rfl⟩ := pss_len h
  obtain ⟨B, cb, rfl⟩ := sliceP h'
  go_enter Tryz.func38, Tryz.ntmps38
  go_wp2_with fail
  refine (specPast5_d _ _ l b _ h h' hs hs').mono ?_
  rintro e w1 ⟨x, y, kx, ky, rfl, ox, oy, ds, b1⟩
  obtain ⟨A1, c1, rfl⟩ := pss_len ox.read
  obtain ⟨A2, c2, rfl⟩ := sliceP oy.read
  have HY := Lib.hid oy
  clear ox oy ds
  generalize pastB l b = q at *
  go_wp2
  go_ret2
  exact ⟨_, rfl, ⟨ky, HY.out.ow, HY.out.nd, HY.out.rng, HY.out.top, HY.out.le⟩, b1⟩
end Go.Proofs.YtgfbcpcfdlnbhabGreatDoor.low


/-
  Contract of spec.Rebase, in the words of Ms. Written by mksub.py.
-/
namespace Go.Proofs.YtgfbcpcfdlnbhabGreatDoor.low
open Go.RowKit
set_option linter.unusedVariables false

theorem specOpOk_r (v : Value) (ps : List Pt) (w : World) (h : RdC w w.heap.size (encPs ps) v) (hs : SmP ps) : Calls Tryz.prog 33 #[v] w (Tells (okOp ps) w) := by
  obtain ⟨A, c, rfl, hr, _⟩ := parts_rd h
  exact specOpOk_any A c ps w hr (by have := hs.1; omega) (fun p hp => by have := hs.all p hp; omega)
theorem specOpFrom_r (v : Value) (ps : List Pt) (w : World) (h : RdC w w.heap.size (encPs ps) v) (hs : SmP ps) : Calls Tryz.prog 36 #[v] w (Nums1 (sumK ps + sumD ps) w) := by
  obtain ⟨A, c, rfl, hr, _⟩ := parts_rd h
  exact specOpFrom_any A c ps w hr (by have := hs.1; omega) (fun p hp => by have := hs.all p hp; omega)
/-- the code of a rebase, and its operation -/
def rebCode (x : Do) (base : Int) (o : List Pt) : Int :=
  if docB x = false then 1 else if okOp o = false then 1 else if headRevT x < base then 2 else if base < x.from_ then 3 else if ¬ sumK o + sumD o = ((textAtT x base).length : Int) then 1 else if pastB (opsSinceT x base) o = false then 5 else if fitsB (pastT (opsSinceT x base) o) (headTextT x) = false then 5 else 0
def rebOp (x : Do) (base : Int) (o : List Pt) : List Pt := if rebCode x base o = 0 then pastT (opsSinceT x base) o else []
theorem reb_no {x : Do} {base : Int} {o : List Pt} {k : Int} (hk : ¬ k = 0) (h : rebCode x base o = k) : rebCode x base o = k ∧ rebOp x base o = [] := ⟨h, by unfold rebOp; rw [h, if_neg hk]⟩
theorem reb_yes {x : Do} {base : Int} {o : List Pt} (h : rebCode x base o = 0) : rebCode x base o = 0 ∧ rebOp x base o = pastT (opsSinceT x base) o := ⟨h, by unfold rebOp; rw [h, if_pos rfl]⟩
theorem bulk_map : ∀ l : List En, bulk (l.map En.o) = sumN totEn l
  | [] => rfl
  | e :: l => by
    have ih := bulk_map l
    rw [sumN_cons, ← ih]
    simp [bulk, totEn, totP]
theorem opsSince_pp {x : Do} {r : Int} (hd : docB x = true) : SmPP (opsSinceT x r) := by
  have hi := docB_in hd
  have h1 := sumN_drop totEn x.list (r - x.from_).toNat
  have h2 := hi.ops
  have h3 := hi.list
  unfold opsSinceT
  split
  · refine ⟨by simp; omega, ?_⟩
    rw [bulk_map]
    omega
  · exact ⟨by simp, by simp [bulk]⟩
theorem reb_small {x : Do} {base : Int} {o : List Pt} : SmP (rebOp x base o) := by
  unfold rebOp
  split
  · exact pastT_sm _ _
  · exact smP_nil

set_option maxRecDepth 100000 in
set_option maxHeartbeats 3200000 in
theorem specRebase_d (v v2 : Value) (x : Do) (base : Int) (o : List Pt) (w : World) (h : RdC w w.heap.size (datDo x) v) (h2 : RdC w w.heap.size (encPs o) v2) (hs : SmDo x) (hs2 : SmP o) : Calls Tryz.prog 9 #[v, .int .i64 base, v2] w (ResN (encPs (rebOp x base o)) (rebCode x base o) w) := by
  have HR := Lib.hid h
  have HO := Lib.hid h2
  obtain ⟨A2, c2, A3, c3, A4, c4, rfl, -, -, -⟩ := aggDo h
  obtain ⟨Ao, co, rfl⟩ := sliceP h2
  clear h h2
  have hl := hs.list.len
  have HM := Lib.hid (Ms.start w)
  replace HM := Lib.hid (HM.out.new #[.string x.name, .int .i64 x.from_, .slice A2 x.text.length c2, .slice A3 x.list.length c3, .slice A4 x.seen.length c4] 36)
  go_enter Tryz.func9, Tryz.ntmps9
  go_wp2_with fail
  obtain ⟨W1, hW, hm⟩ := HM.out.name
  rw [← hW]
  replace HM := Lib.hid hm
  clear hm hW
  refine (specDocOk_d _ x _ (HM.out.arg HR.out) hs).mono ?_
  rintro e' W2 ⟨rfl, b'⟩
  replace HM := Lib.hid (HM.out.past b')
  clear b'
  cases hd : docB x
  · have HN := Lib.hid (reb_no (k := 1) (by decide) (show rebCode x base o = 1 by unfold rebCode; simp [hd]))
    go_wp2
    go_ret2
    rw [HN.out.1, HN.out.2]
    exact (HM.out.nil 74 3).resN 1
  go_wp2_with fail
  refine (specOpOk_r _ o _ (HM.out.arg HO.out) hs2).mono ?_
  rintro e' W3 ⟨rfl, b'⟩
  replace HM := Lib.hid (HM.out.past b')
  clear b'
  cases ho : okOp o
  · have HN := Lib.hid (reb_no (k := 1) (by decide) (show rebCode x base o = 1 by unfold rebCode; simp [hd, ho]))
    go_wp2
    go_ret2
    rw [HN.out.1, HN.out.2]
    exact (HM.out.nil 74 3).resN 1
  obtain ⟨kx0, kx1, kx2, kx3, kx4⟩ := HM.out.c5 0 rfl
  go_wp2_with fail
  clear kx0 kx1 kx2 kx3 kx4
  refine (specHeadRev_d _ x _ (HM.out.arg HR.out) hs).mono ?_
  rintro e' W4 ⟨rfl, b'⟩
  replace HM := Lib.hid (HM.out.past b')
  clear b'
  by_cases h3 : headRevT x < base
  · have HN := Lib.hid (reb_no (k := 2) (by decide) (show rebCode x base o = 2 by unfold rebCode; simp [hd, ho, h3]))
    have g3 : decide (headRevT x < base) = true := decide_eq_true h3
    go_wp2
    go_ret2
    rw [HN.out.1, HN.out.2]
    exact (HM.out.nil 74 3).resN 2
  have g3 : decide (headRevT x < base) = false := decide_eq_false h3
  by_cases h4 : base < x.from_
  · have HN := Lib.hid (reb_no (k := 3) (by decide) (show rebCode x base o = 3 by have e3 : ¬ headRevT x < base := (by omega); unfold rebCode; simp [hd, ho, e3, h4]))
    have g4 : decide (base < x.from_) = true := decide_eq_true h4
    obtain ⟨kx0, kx1, kx2, kx3, kx4⟩ := HM.out.c5 0 rfl
    go_wp2
    go_ret2
    rw [HN.out.1, HN.out.2]
    exact (HM.out.nil 74 3).resN 3
  have g4 : decide (base < x.from_) = false := decide_eq_false h4
  obtain ⟨kx0, kx1, kx2, kx3, kx4⟩ := HM.out.c5 0 rfl
  go_wp2_with fail
  clear kx0 kx1 kx2 kx3 kx4
  refine (specTextAt_d _ x _ _ (HM.out.arg HR.out) hs).mono ?_
  rintro e' W5 ⟨v', rfl, o', b'⟩
  obtain ⟨At, ct, rfl⟩ := sliceI o'.read
  obtain ⟨bt, hm⟩ := HM.out.got o' b'
  clear o' b' g3 g4
  replace HM := Lib.hid hm
  clear hm
  go_wp2_with fail
  refine (specOpFrom_r _ o _ (HM.out.arg HO.out) hs2).mono ?_
  rintro e' W6 ⟨rfl, b'⟩
  replace HM := Lib.hid (HM.out.past b')
  clear b'
  by_cases h5 : sumK o + sumD o = ((textAtT x base).length : Int)
  rotate_left
  · have HN := Lib.hid (reb_no (k := 1) (by decide) (show rebCode x base o = 1 by have e3 : ¬ headRevT x < base := (by omega); have e4 : ¬ base < x.from_ := (by omega); unfold rebCode; simp [hd, ho, e3, e4, h5]))
    have g5 : ((sumK o + sumD o) != ((textAtT x base).length : Int)) = true := by simpa using h5
    go_wp2
    go_ret2
    rw [HN.out.1, HN.out.2]
    exact (HM.out.nil 74 3).resN 1
  have g5 : ((sumK o + sumD o) != ((textAtT x base).length : Int)) = false := by simpa using h5
  obtain ⟨kx0, kx1, kx2, kx3, kx4⟩ := HM.out.c5 1 rfl
  go_wp2_with fail
  clear kx0 kx1 kx2 kx3 kx4
  refine (specOpsSince_d _ x _ _ (HM.out.arg HR.out) hs).mono ?_
  rintro e' W7 ⟨v', rfl, o', b'⟩
  obtain ⟨Al, nl, cl, rfl⟩ := sliceV o'.read
  obtain ⟨bl, hm⟩ := HM.out.got o' b'
  clear o' b' g5
  replace HM := Lib.hid hm
  clear hm
  go_wp2_with fail
  refine (specPast_d _ _ (opsSinceT x base) o _ (HM.out.read (i := 0) rfl) (HM.out.arg HO.out) (opsSince_pp hd) hs2).mono ?_
  rintro e' W8 ⟨v', rfl, o', b'⟩
  obtain ⟨Aq, nq, cq, rfl⟩ := sliceV o'.read
  obtain ⟨bq, hm⟩ := HM.out.got o' b'
  clear o' b'
  replace HM := Lib.hid hm
  clear hm
  cases hp : pastB (opsSinceT x base) o
  · have HN := Lib.hid (reb_no (k := 5) (by decide) (show rebCode x base o = 5 by have e3 : ¬ headRevT x < base := (by omega); have e4 : ¬ base < x.from_ := (by omega); unfold rebCode; simp [hd, ho, e3, e4, h5, hp]))
    go_wp2
    go_ret2
    rw [HN.out.1, HN.out.2]
    exact (HM.out.nil 74 3).resN 5
  obtain ⟨kx0, kx1, kx2, kx3, kx4⟩ := HM.out.c5 3 rfl
  go_wp2_with fail
  clear kx0 kx1 kx2 kx3 kx4
  refine (specHeadText_d _ x _ (HM.out.arg HR.out) hs).mono ?_
  rintro e' W9 ⟨v', rfl, o', b'⟩
  obtain ⟨Ah, nh, ch, rfl⟩ := sliceV o'.read
  obtain ⟨bh, hm⟩ := HM.out.got o' b'
  clear o' b'
  replace HM := Lib.hid hm
  clear hm
  go_wp2_with fail
  refine (specApply_d _ _ (pastT (opsSinceT x base) o) (headTextT x) _ (HM.out.read (i := 1) rfl) (HM.out.read (i := 0) rfl) (pastT_sm _ _) (headText_small hs)).mono ?_
  rintro e' W10 ⟨v', rfl, o', b'⟩
  obtain ⟨Ay, ny, cy, rfl⟩ := sliceV o'.read
  clear o'
  replace HM := Lib.hid (HM.out.past b')
  clear b'
  cases hf : fitsB (pastT (opsSinceT x base) o) (headTextT x)
  · have HN := Lib.hid (reb_no (k := 5) (by decide) (show rebCode x base o = 5 by have e3 : ¬ headRevT x < base := (by omega); have e4 : ¬ base < x.from_ := (by omega); unfold rebCode; simp [hd, ho, e3, e4, h5, hp, hf]))
    go_wp2
    go_ret2
    rw [HN.out.1, HN.out.2]
    exact (HM.out.nil 74 3).resN 5
  have HN := Lib.hid (reb_yes (show rebCode x base o = 0 by have e3 : ¬ headRevT x < base := (by omega); have e4 : ¬ base < x.from_ := (by omega); unfold rebCode; simp [hd, ho, e3, e4, h5, hp, hf]))
  go_wp2
  go_ret2
  have hm := HM.out.pk [1, 0, 2, 3, 4] (by decide) (by simp)
  simp only [low.pk, List.getElem?_cons_zero, List.getElem?_cons_succ] at hm
  replace HM := Lib.hid hm
  clear hm
  rw [HN.out.1, HN.out.2]
  exact HM.out.resN 0
end Go.Proofs.YtgfbcpcfdlnbhabGreatDoor.low


/-
  What is moved past the operations behind it fits the newest text.
-/
namespace Go.Proofs.YtgfbcpcfdlnbhabGreatDoor.low
open Go.RowKit
set_option linter.unusedVariables false

theorem xform_len {a b : List Pt} (h : xformOk a b = true) : okOp (xformB a b) = true ∧ sumK (xformB a b) + sumD (xformB a b) = sumK a + sumP a := by
  have e : xformB a b = xfB a b := by unfold xformB; rw [if_pos h]
  have h2 := h
  unfold xformOk at h2
  simp only [Bool.and_eq_true, beq_iff_eq] at h2
  obtain ⟨⟨⟨⟨ha, hb⟩, hl⟩, hA⟩, hB⟩ := h2
  obtain ⟨u1, u2, u3, u4, u5⟩ := op_units ha
  obtain ⟨v1, v2, v3, v4, v5⟩ := op_units hb
  rw [e]
  refine ⟨hB, ?_⟩
  obtain ⟨q1, q2, _⟩ := op_units hB
  have hm : xfB a b = made (xf (units a) (units b)).2 := rfl
  have hs : src (units (xfB a b)) = tgt (units a) := by
    rw [hm, units_made, (nf_ends _).1]
    exact (xf_meet (units a) (units b) (List.replicate (src (units a)) 0) (by simp) (by simp; omega)).2.2.1
  rw [hs] at q1
  omega
theorem norm_len {b : List Pt} (h : okOp b = true) : okOp (normL b) = true ∧ sumK (normL b) + sumD (normL b) = sumK b + sumD b := by
  obtain ⟨v1, v2, v3, v4, v5⟩ := op_units h
  obtain ⟨p1, p2, p3, p4⟩ := made_ok v3 v4 v5
  have e : made (units b) = normL b := (norm_made h).symm
  rw [e] at p1 p3
  exact ⟨p1, by omega⟩
theorem past_go : ∀ {l : List En} {t : List Int} {xs xs' : List (List Pt)} {q q' : List Pt}, chainGo l t = true → okText t = true → okOp q = true → sumK q + sumD q = (t.length : Int) → (l.map En.o).foldl stepPast (some (xs, q)) = some (xs', q') →
    okOp q' = true ∧ sumK q' + sumD q' = ((endT l t).length : Int) ∧ okText (endT l t) = true
  | [], t, xs, xs', q, q', _, ht, hq, hl, hf => by
    simp at hf
    obtain ⟨_, rfl⟩ := hf
    exact ⟨hq, hl, ht⟩
  | e :: l, t, xs, xs', q, q', hc, ht, hq, hl, hf => by
    unfold chainGo at hc
    simp only [Bool.and_eq_true] at hc
    obtain ⟨⟨⟨h1, h2⟩, h3⟩, h4⟩ := hc
    obtain ⟨f1, f2, f3⟩ := fits_len h1
    rw [List.map_cons, List.foldl_cons] at hf
    by_cases hx : xformOk e.o q = true
    · have e1 : stepPast (some (xs, q)) e.o = some (xs ++ [xformA e.o q], xformB e.o q) := by unfold stepPast; exact if_pos hx
      rw [e1] at hf
      obtain ⟨x1, x2⟩ := xform_len hx
      have a5 := (apply_ok f1 f2 f3).2.2.2.1
      have r := past_go h4 h3 x1 (by rw [x2, a5]) hf
      exact r
    · have e1 : stepPast (some (xs, q)) e.o = none := by unfold stepPast; exact if_neg hx
      rw [e1, foldlPast_none] at hf
      cases hf
theorem chainGo_drop : ∀ {l : List En} {t : List Int} (m : Nat), chainGo l t = true → chainGo (l.drop m) (endT (l.take m) t) = true ∧ endT (l.drop m) (endT (l.take m) t) = endT l t
  | l, t, 0, h => ⟨h, rfl⟩
  | [], t, m + 1, h => ⟨by simpa [endT] using h, by simp [endT]⟩
  | e :: l, t, m + 1, h => by
    unfold chainGo at h
    simp only [Bool.and_eq_true] at h
    exact chainGo_drop (l := l) m h.2
theorem text_end {l : List En} {t : List Int} (m : Nat) (h : chainGo l t = true) (ht : okText t = true) : okText (endT (l.take m) t) = true := by
  induction l generalizing t m with
  | nil => simpa [endT] using ht
  | cons e l ih =>
    cases m with
    | zero => exact ht
    | succ m =>
      unfold chainGo at h
      simp only [Bool.and_eq_true] at h
      exact ih m h.2 h.1.2
/-- the last test of a rebase never fails -/
theorem past_fits {x : Do} {base : Int} {o : List Pt} (hd : docB x = true) (hb : textAtB x base = true) (ho : okOp o = true) (hl : sumK o + sumD o = ((textAtT x base).length : Int)) (hp : pastB (opsSinceT x base) o = true) : fitsB (pastT (opsSinceT x base) o) (headTextT x) = true := by
  have hc := docB_chain hd
  obtain ⟨f0, f1, f2, f3⟩ := docB_of hd
  have hok : okText x.text = true := by
    have := hd
    unfold docB at this
    simp only [Bool.and_eq_true] at this
    exact this.1.1.1.2
  obtain ⟨m, hm⟩ : ∃ m : Nat, m = (base - x.from_).toNat := ⟨_, rfl⟩
  have e1 : textAtT x base = endT (x.list.take m) x.text := by unfold textAtT; rw [if_pos hb, hm]
  have e2 : opsSinceT x base = (x.list.drop m).map En.o := by unfold opsSinceT; rw [if_pos hb, hm]
  have e3 : headTextT x = endT x.list x.text := by
    have hh : textAtB x (headRevT x) = true := by
      unfold textAtB
      rw [hd, inB_t (by omega)]
      rfl
    unfold headTextT textAtT
    rw [if_pos hh, f3, show (x.from_ + (x.list.length : Int) - x.from_).toNat = x.list.length by omega, List.take_length]
  rw [e1] at hl
  rw [e2] at hp ⊢
  rw [e3]
  unfold pastB pastS at hp
  rw [if_pos ho] at hp
  obtain ⟨⟨xs', q'⟩, hq⟩ := Option.isSome_iff_exists.1 hp
  obtain ⟨n1, n2⟩ := norm_len ho
  obtain ⟨c1, c2⟩ := chainGo_drop m hc
  obtain ⟨g1, g2, g3⟩ := past_go c1 (text_end m hc hok) n1 (by rw [n2]; exact hl) hq
  have e4 : pastT ((x.list.drop m).map En.o) o = q' := by unfold pastT pastS; rw [if_pos ho, hq]; rfl
  rw [e4]
  rw [c2] at g2 g3
  unfold fitsB
  rw [g1, g3, decide_eq_true g2]
  rfl
theorem rebase_small {x : Do} {base : Int} {o : List Pt} (_ : SmDo x) (_ : SmP o) : SmP (rebOp x base o) := reb_small
end Go.Proofs.YtgfbcpcfdlnbhabGreatDoor.low

