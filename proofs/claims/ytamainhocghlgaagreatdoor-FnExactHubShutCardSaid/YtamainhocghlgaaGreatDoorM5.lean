/-
  Texts that the proofs over this seat rest on, one behind the other (5 of 6).
-/
import Derived.Test.YtamainhocghlgaaGreatDoorM1
import Derived.Test.YtamainhocghlgaaGreatDoorM2
import Derived.Test.YtamainhocghlgaaGreatDoorM4
import Derived.Test.YtamainhocghlgaaGreatDoorM3
import Derived.Maps.RangeWalk
import Derived.Shelf.SlSortCmp.WholeK
import Derived.Shelf.SlLaysF0
import Derived.Shelf.Small.Bits
import Derived.Shelf.Small.Wraps
import Derived.Shelf.Strconv.Itoa0
import Derived.Shelf.LaysM
import Derived.Shelf.Strconv.Clone
import Derived.Test.YtamainhocghlgaaGreatDoorProg
import Derived.Lib.SliceRun
import Derived.Laws.CopyOwn
import Derived.IntWalk

/-
  Contracts of the program's functions on operations that only read: impl.PartOk, partsOk, size, sizeOf, OpFrom, OpTo, OpOk, Puts, Drops.
-/
namespace Go.Proofs.YtamainhocghlgaaGreatDoor.low
open Go.RowKit
set_option linter.unusedVariables false

set_option maxHeartbeats 1600000 in
theorem implPartOk_any (p : Pt) (A : Option Addr) (c : Nat) (w : World) (hr : Row (Value.int .i64) w w.heap.size A p.signs) (hl : p.signs.length ≤ 4294967296) :
    Calls Tryz.prog 176 #[.agg #[.int .i64 p.kind, .int .i64 p.n, .slice A p.signs.length c]] w (Tells (okPt p) w) := by
  obtain ⟨k, n, zs⟩ := p
  have hr' : Row (Value.int .i64) w w.heap.size A zs := hr
  have hl' : zs.length ≤ 4294967296 := hl
  clear hr hl
  by_cases hk : k = 1 ∨ k = 3
  · by_cases h0 : 0 ≤ n
    · by_cases h1 : n ≤ 200
      · by_cases hz : zs.length = 0
        all_goals
          have HS := Lib.hid (show okPt ⟨k, n, zs⟩ = decide (zs.length = 0) by
            first
              | (rw [okPt_t (.inl ⟨hk, ⟨h0, h1⟩, hz⟩), decide_eq_true hz])
              | (rw [okPt_f (by simp only; omega), decide_eq_false hz]))
          have hzb : ((zs.length : Int) == 0) = decide (zs.length = 0) := by
            first
              | (rw [decide_eq_true hz, beq_iff_eq]; omega)
              | (rw [decide_eq_false hz, beq_eq_false_iff_ne]; omega)
          generalize decide (zs.length = 0) = bb at HS hzb
          clear hz
          rcases hk with rfl | rfl
          all_goals
            go_enter Tryz.func176, Tryz.ntmps176
            go_wp2
            go_ret
            exact ⟨ret_bool (by rw [HS.out]), alloc_below _ _⟩
      · have HS := Lib.hid (show okPt ⟨k, n, zs⟩ = false by rw [okPt_f (by simp only; omega)])
        rcases hk with rfl | rfl
        all_goals
          go_enter Tryz.func176, Tryz.ntmps176
          go_wp2
          go_ret
          exact ⟨ret_bool (by rw [HS.out]), alloc_below _ _⟩
    · have HS := Lib.hid (show okPt ⟨k, n, zs⟩ = false by rw [okPt_f (by simp only; omega)])
      rcases hk with rfl | rfl
      all_goals
        go_enter Tryz.func176, Tryz.ntmps176
        go_wp2
        go_ret
        exact ⟨ret_bool (by rw [HS.out]), alloc_below _ _⟩
  · have hk1 : (k == 1) = false := by rw [beq_eq_false_iff_ne]; omega
    have hk3 : (k == 3) = false := by rw [beq_eq_false_iff_ne]; omega
    by_cases hk2 : k = 2
    · have hk2' : (k == 2) = true := by rw [beq_iff_eq]; exact hk2
      by_cases hn : n = 0
      · have hn' : (n == 0) = true := by rw [beq_iff_eq]; exact hn
        have HS := Lib.hid (show okPt ⟨k, n, zs⟩ = (allB zs && decide (zs.length ≤ 200)) by
          unfold okPt
          simp [hk2, hn])
        clear hk hk2 hn
        by_cases hlen : zs.length ≤ 200
        · have HL := Lib.hid (decide_eq_true hlen)
          go_enter Tryz.func176, Tryz.ntmps176
          go_wp2_with (go_at_call 148; refine (implSignsOk_any A c zs _ (hr'.past_alloc _) hl').mono ?_; rintro e w' ⟨rfl, rfl⟩)
          go_ret
          refine ⟨ret_bool ?_, alloc_below _ _⟩
          rw [HS.out, HL.out, Bool.and_true]
        · have HL := Lib.hid (decide_eq_false hlen)
          go_enter Tryz.func176, Tryz.ntmps176
          go_wp2
          go_ret
          refine ⟨ret_bool ?_, alloc_below _ _⟩
          rw [HS.out, HL.out, Bool.and_false]
      · have hn' : (n == 0) = false := by rw [beq_eq_false_iff_ne]; exact hn
        have HS := Lib.hid (show okPt ⟨k, n, zs⟩ = false by rw [okPt_f (by simp only; omega)])
        clear hk hk2 hn
        go_enter Tryz.func176, Tryz.ntmps176
        go_wp2
        go_ret
        exact ⟨ret_bool (by rw [HS.out]), alloc_below _ _⟩
    · have hk2' : (k == 2) = false := by rw [beq_eq_false_iff_ne]; exact hk2
      have HS := Lib.hid (show okPt ⟨k, n, zs⟩ = false by rw [okPt_f (by simp only; omega)])
      clear hk hk2
      go_enter Tryz.func176, Tryz.ntmps176
      go_wp2
      go_ret
      exact ⟨ret_bool (by rw [HS.out]), alloc_below _ _⟩

set_option maxHeartbeats 1600000 in
theorem implParts_any (A : Option Addr) (c : Nat) (ps : List Pt) (w : World) (hr : PRow w w.heap.size A ps) (hl : ps.length ≤ 4294967296) (hls : ∀ p ∈ ps, p.signs.length ≤ 4294967296) :
    Calls Tryz.prog 160 #[.slice A ps.length c] w (Tells (partsB ps) w) := by
  by_cases h6 : ps.length ≤ 600
  · go_enter Tryz.func160, Tryz.ntmps160
    go_wp2
    go_loopw [10] (fun i wr => ∃ k : Nat, k ≤ ps.length ∧ i = .int .i64 k ∧ okPs (ps.take k) = true ∧ Below w.heap.size w wr) (fun i _ => ps.length - (intOf i).toNat)
    case atStart => exact ⟨0, Nat.zero_le _, rfl, rfl, Below.refl _ _⟩
    case round =>
      obtain ⟨k, hk, rfl, ha, hbel⟩ := hrel
      have HA := Lib.hid ha
      clear ha
      by_cases hlt : k < ps.length
      · obtain ⟨b, off, p, rfl, hb, hp, hc⟩ := hr.at_ hlt
        obtain ⟨x0, x1, A1, e1, x2, r1⟩ := hc.keep (w' := wr) hb (fun _ hq => hbel.cell hq)
        have hsp := hls p (List.mem_of_getElem? hp)
        have HP := Lib.hid hp
        clear hp hc
        cases hs : okPt p
        · go_wp2_with fail
          refine (implPartOk_any p A1 e1 _ ((r1.more hbel.size).past_alloc _) hsp).mono ?_
          rintro e w2 ⟨rfl, b2⟩
          go_wp2
          go_ret
          exact ⟨ret_bool (by unfold partsB; rw [okPs_f HP.out hs]; rfl), (hbel.trans ((alloc_below wr _).mono hbel.size)).trans (b2.mono (Nat.le_trans hbel.size (alloc_below wr _).size))⟩
        · go_wp2_with fail
          refine (implPartOk_any p A1 e1 _ ((r1.more hbel.size).past_alloc _) hsp).mono ?_
          rintro e w2 ⟨rfl, b2⟩
          go_wp2
          go_roundw
          case rel => exact ⟨k + 1, by omega, by go_num, okPs_snoc HP.out HA.out hs, (hbel.trans ((alloc_below wr _).mono hbel.size)).trans (b2.mono (Nat.le_trans hbel.size (alloc_below wr _).size))⟩
          case measure => simp [intOf]; omega
      · have HE := Lib.hid (show partsB ps = true by
          have h1 := HA.out
          rw [List.take_of_length_le (by omega)] at h1
          unfold partsB
          rw [h1, Bool.true_and]
          exact decide_eq_true h6)
        go_wp2
        go_ret
        refine ⟨ret_bool ?_, hbel⟩
        rw [HE.out]
  · have HE := Lib.hid (show partsB ps = false by unfold partsB; rw [decide_eq_false h6, Bool.and_false])
    go_enter Tryz.func160, Tryz.ntmps160
    go_wp2
    go_ret
    exact ⟨ret_bool (by rw [HE.out]), Below.refl _ _⟩

/-- the size of a part of the kind -/
def sizeK (kind : Int) (p : Pt) : Int := if p.kind = kind then p.n + (p.signs.length : Int) else 0
theorem sumOf_congr {f g : Pt → Int} : ∀ {ps : List Pt}, (∀ p ∈ ps, f p = g p) → sumOf f ps = sumOf g ps
  | [], _ => rfl
  | p :: ps, h => by
    have h1 := h p (List.mem_cons_self ..)
    have h2 := sumOf_congr (f := f) (g := g) (ps := ps) fun q hq => h q (List.mem_cons_of_mem _ hq)
    have e : ∀ f : Pt → Int, sumOf f (p :: ps) = f p + sumOf f ps := fun f => by simp [sumOf]
    rw [e, e, h1, h2]
theorem okPs_mem {ps : List Pt} (h : okPs ps = true) {p : Pt} (hp : p ∈ ps) : okPt p = true := by unfold okPs at h; exact List.all_eq_true.1 h p hp
theorem sizeK_keep {ps : List Pt} (h : okPs ps = true) : sumOf (sizeK 1) ps = sumOf keepOf ps := sumOf_congr fun p hp => by
  have := of_okPt (okPs_mem h hp)
  unfold sizeK keepOf
  split <;> omega
theorem sizeK_put {ps : List Pt} (h : okPs ps = true) : sumOf (sizeK 2) ps = sumOf putOf ps := sumOf_congr fun p hp => by
  have := of_okPt (okPs_mem h hp)
  unfold sizeK putOf
  split <;> omega
theorem sizeK_drop {ps : List Pt} (h : okPs ps = true) : sumOf (sizeK 3) ps = sumOf dropOf ps := sumOf_congr fun p hp => by
  have := of_okPt (okPs_mem h hp)
  unfold sizeK dropOf
  split <;> omega
theorem sizeK_bd {kind : Int} {ps : List Pt} (h : okPs ps = true) (hl : ps.length ≤ 600) : 0 ≤ sumOf (sizeK kind) ps ∧ sumOf (sizeK kind) ps ≤ 120000 := by
  have := sumOf_bd (f := sizeK kind) ps fun p hq => by
    have := of_okPt (okPs_mem h hq)
    unfold sizeK
    split <;> omega
  omega

set_option maxHeartbeats 400000 in
theorem implSize_any (k n : Int) (A : Option Addr) (len c : Nat) (w : World) (h0 : 0 ≤ n) (h1 : n ≤ 200) (h2 : len ≤ 200) :
    Calls Tryz.prog 177 #[.agg #[.int .i64 k, .int .i64 n, .slice A len c]] w (Nums1 (n + (len : Int)) w) := by
  go_enter Tryz.func177, Tryz.ntmps177
  go_wp2
  go_ret
  exact ⟨rfl, alloc_below _ _⟩

set_option maxRecDepth 100000 in
set_option maxHeartbeats 1600000 in
theorem implSizeOf_any (kind : Int) (A : Option Addr) (c : Nat) (ps : List Pt) (w : World) (hr : PRow w w.heap.size A ps) (hl : ps.length ≤ 600) (hok : okPs ps = true) :
    Calls Tryz.prog 161 #[.slice A ps.length c, .int .i64 kind] w (Nums1 (sumOf (sizeK kind) ps) w) := by
  have HOK := Lib.hid hok
  clear hok
  go_enter Tryz.func161, Tryz.ntmps161
  go_wp2
  go_loopw [5, 10] (fun a i wr => ∃ k : Nat, k ≤ ps.length ∧ i = .int .i64 k ∧ a = .int .i64 (sumOf (sizeK kind) (ps.take k)) ∧ Below w.heap.size w wr) (fun _ i _ => ps.length - (intOf i).toNat)
  case atStart => exact ⟨0, Nat.zero_le _, rfl, rfl, Below.refl _ _⟩
  case round =>
    obtain ⟨k, hk, rfl, rfl, hbel⟩ := hrel
    obtain ⟨s1, s2⟩ := sizeK_bd (kind := kind) (okPs_take HOK.out k) (by rw [List.length_take]; omega)
    by_cases hlt : k < ps.length
    · obtain ⟨b, off, p, rfl, hb, hp, hc⟩ := hr.at_ hlt
      obtain ⟨x0, x1, A1, e1, x2, r1⟩ := hc.keep (w' := wr) hb (fun _ hq => hbel.cell hq)
      have hok := of_okPt (okPs_at hp HOK.out)
      have K1 := Lib.hid (sumOf_snoc (f := sizeK kind) hp)
      clear hp hc
      generalize sumOf (sizeK kind) (ps.take k) = q1 at *
      obtain ⟨pk, pn, pz⟩ := p
      simp only at x0 x1 x2 hok
      have hn1 : 0 ≤ pn := by omega
      have hn2 : pn ≤ 200 := by omega
      have hn3 : pz.length ≤ 200 := by omega
      clear hok
      by_cases hkk : pk = kind
      · have hkb : (pk == kind) = true := by rw [beq_iff_eq]; exact hkk
        have HK := Lib.hid (show sizeK kind ⟨pk, pn, pz⟩ = pn + (pz.length : Int) by unfold sizeK; exact if_pos hkk)
        clear hkk
        go_wp2_with fail
        refine (implSize_any pk pn A1 pz.length e1 _ hn1 hn2 hn3).mono ?_
        rintro e w2 ⟨rfl, b2⟩
        go_wp2
        go_roundw
        case rel => exact ⟨k + 1, by omega, by go_num, by rw [K1.out, HK.out], (hbel.trans ((alloc_below wr _).mono hbel.size)).trans (b2.mono (Nat.le_trans hbel.size (alloc_below wr _).size))⟩
        case measure => simp [intOf]; omega
      · have hkb : (pk == kind) = false := by rw [beq_eq_false_iff_ne]; exact hkk
        have HK := Lib.hid (show sizeK kind ⟨pk, pn, pz⟩ = 0 by unfold sizeK; exact if_neg hkk)
        clear hkk
        go_wp2
        go_roundw
        case rel => exact ⟨k + 1, by omega, by go_num, by rw [K1.out, HK.out, Int.add_zero], hbel.trans ((alloc_below wr _).mono hbel.size)⟩
        case measure => simp [intOf]; omega
    · have hke : ps.take k = ps := List.take_of_length_le (by omega)
      rw [hke] at s1 s2 ⊢
      go_wp2
      go_ret
      exact ⟨rfl, hbel⟩

set_option maxHeartbeats 800000 in
theorem implOpFrom_any (A : Option Addr) (c : Nat) (ps : List Pt) (w : World) (hr : PRow w w.heap.size A ps) (hl : ps.length ≤ 4294967296) (hls : ∀ p ∈ ps, p.signs.length ≤ 4294967296) :
    Calls Tryz.prog 159 #[.slice A ps.length c] w (Nums1 (sumK ps + sumD ps) w) := by
  cases hpb : partsB ps
  · have HS := Lib.hid (sum_f hpb)
    go_enter Tryz.func159, Tryz.ntmps159
    go_wp2_with fail
    refine (implParts_any A c ps _ hr hl hls).mono ?_
    rintro e w1 ⟨rfl, b1⟩
    go_wp2
    go_ret
    rw [HS.out.1, HS.out.2.2]
    exact ⟨rfl, b1⟩
  · obtain ⟨t1, t2, t3⟩ := sum_t hpb
    obtain ⟨p1, p2⟩ := partsB_of hpb
    have HS := Lib.hid (show sumK ps + sumD ps = sumOf (sizeK 1) ps + sumOf (sizeK 3) ps by rw [t1, t3, sizeK_keep p1, sizeK_drop p1])
    obtain ⟨s1, s2⟩ := sizeK_bd (kind := 1) p1 p2
    obtain ⟨s3, s4⟩ := sizeK_bd (kind := 3) p1 p2
    clear t1 t2 t3
    go_enter Tryz.func159, Tryz.ntmps159
    go_wp2_with fail
    refine (implParts_any A c ps _ hr hl hls).mono ?_
    rintro e w1 ⟨rfl, b1⟩
    go_wp2_with fail
    refine (implSizeOf_any 1 A c ps _ (hr.past b1) p2 p1).mono ?_
    rintro e w2 ⟨rfl, b2⟩
    have d2 := b1.trans (b2.mono b1.size)
    go_wp2_with fail
    refine (implSizeOf_any 3 A c ps _ (hr.past d2) p2 p1).mono ?_
    rintro e w3 ⟨rfl, b3⟩
    have d3 := d2.trans (b3.mono d2.size)
    generalize sumOf (sizeK 1) ps = q1 at *
    generalize sumOf (sizeK 3) ps = q3 at *
    go_wp2
    go_ret
    rw [HS.out]
    exact ⟨rfl, d3⟩

set_option maxHeartbeats 800000 in
theorem implOpTo_any (A : Option Addr) (c : Nat) (ps : List Pt) (w : World) (hr : PRow w w.heap.size A ps) (hl : ps.length ≤ 4294967296) (hls : ∀ p ∈ ps, p.signs.length ≤ 4294967296) :
    Calls Tryz.prog 150 #[.slice A ps.length c] w (Nums1 (sumK ps + sumP ps) w) := by
  cases hpb : partsB ps
  · have HS := Lib.hid (sum_f hpb)
    go_enter Tryz.func150, Tryz.ntmps150
    go_wp2_with fail
    refine (implParts_any A c ps _ hr hl hls).mono ?_
    rintro e w1 ⟨rfl, b1⟩
    go_wp2
    go_ret
    rw [HS.out.1, HS.out.2.1]
    exact ⟨rfl, b1⟩
  · obtain ⟨t1, t2, t3⟩ := sum_t hpb
    obtain ⟨p1, p2⟩ := partsB_of hpb
    have HS := Lib.hid (show sumK ps + sumP ps = sumOf (sizeK 1) ps + sumOf (sizeK 2) ps by rw [t1, t2, sizeK_keep p1, sizeK_put p1])
    obtain ⟨s1, s2⟩ := sizeK_bd (kind := 1) p1 p2
    obtain ⟨s3, s4⟩ := sizeK_bd (kind := 2) p1 p2
    clear t1 t2 t3
    go_enter Tryz.func150, Tryz.ntmps150
    go_wp2_with fail
    refine (implParts_any A c ps _ hr hl hls).mono ?_
    rintro e w1 ⟨rfl, b1⟩
    go_wp2_with fail
    refine (implSizeOf_any 1 A c ps _ (hr.past b1) p2 p1).mono ?_
    rintro e w2 ⟨rfl, b2⟩
    have d2 := b1.trans (b2.mono b1.size)
    go_wp2_with fail
    refine (implSizeOf_any 2 A c ps _ (hr.past d2) p2 p1).mono ?_
    rintro e w3 ⟨rfl, b3⟩
    have d3 := d2.trans (b3.mono d2.size)
    generalize sumOf (sizeK 1) ps = q1 at *
    generalize sumOf (sizeK 2) ps = q3 at *
    go_wp2
    go_ret
    rw [HS.out]
    exact ⟨rfl, d3⟩

set_option maxHeartbeats 1600000 in
theorem implOpOk_any (A : Option Addr) (c : Nat) (ps : List Pt) (w : World) (hr : PRow w w.heap.size A ps) (hl : ps.length ≤ 4294967296) (hls : ∀ p ∈ ps, p.signs.length ≤ 4294967296) :
    Calls Tryz.prog 152 #[.slice A ps.length c] w (Tells (okOp ps) w) := by
  cases hpb : partsB ps
  · have HS := Lib.hid (show okOp ps = false by unfold okOp; rw [hpb]; rfl)
    go_enter Tryz.func152, Tryz.ntmps152
    go_wp2_with fail
    refine (implParts_any A c ps _ hr hl hls).mono ?_
    rintro e w1 ⟨rfl, b1⟩
    go_wp2
    go_ret
    exact ⟨ret_bool (by rw [HS.out]), b1⟩
  · by_cases hf : sumK ps + sumD ps ≤ 200
    · by_cases ht : sumK ps + sumP ps ≤ 200
      all_goals
        have HS := Lib.hid (show okOp ps = decide (sumK ps + sumP ps ≤ 200) by unfold okOp; rw [hpb, decide_eq_true hf]; rfl)
        go_enter Tryz.func152, Tryz.ntmps152
        go_wp2_with fail
        refine (implParts_any A c ps _ hr hl hls).mono ?_
        rintro e w1 ⟨rfl, b1⟩
        go_wp2_with fail
        refine (implOpFrom_any A c ps _ (hr.past b1) hl hls).mono ?_
        rintro e w2 ⟨rfl, b2⟩
        have d2 := b1.trans (b2.mono b1.size)
        go_wp2_with fail
        refine (implOpTo_any A c ps _ (hr.past d2) hl hls).mono ?_
        rintro e w3 ⟨rfl, b3⟩
        go_wp2
        go_ret
        refine ⟨ret_bool ?_, d2.trans (b3.mono d2.size)⟩
        rw [HS.out]
        first | done | (rw [decide_eq_true ht]) | (rw [decide_eq_false ht])
    · have HS := Lib.hid (show okOp ps = false by unfold okOp; rw [hpb, decide_eq_false hf]; rfl)
      go_enter Tryz.func152, Tryz.ntmps152
      go_wp2_with fail
      refine (implParts_any A c ps _ hr hl hls).mono ?_
      rintro e w1 ⟨rfl, b1⟩
      go_wp2_with fail
      refine (implOpFrom_any A c ps _ (hr.past b1) hl hls).mono ?_
      rintro e w2 ⟨rfl, b2⟩
      go_wp2
      go_ret
      exact ⟨ret_bool (by rw [HS.out]), b1.trans (b2.mono b1.size)⟩

theorem okOp_parts {ps : List Pt} (h : okOp ps = true) : partsB ps = true := by
  unfold okOp at h
  cases hp : partsB ps
  · rw [hp] at h; simp at h
  · rfl

end Go.Proofs.YtamainhocghlgaaGreatDoor.low


/-
  Contracts of impl.partSame, of the library's slices.EqualFunc at parts with impl.partSame, and of impl.OpSame.
-/
namespace Go.Proofs.YtamainhocghlgaaGreatDoor.low
open Go.RowKit
set_option linter.unusedVariables false

set_option maxHeartbeats 800000 in
theorem implPartSame_any (p q : Pt) (A A' : Option Addr) (c c' : Nat) (w : World) (hp : Row (Value.int .i64) w w.heap.size A p.signs) (hq : Row (Value.int .i64) w w.heap.size A' q.signs) (h1 : p.signs.length ≤ 4294967296) (h2 : q.signs.length ≤ 4294967296) :
    Calls Tryz.prog 163 #[.agg #[.int .i64 p.kind, .int .i64 p.n, .slice A p.signs.length c], .agg #[.int .i64 q.kind, .int .i64 q.n, .slice A' q.signs.length c']] w (Tells (samePt p q) w) := by
  obtain ⟨k, n, zs⟩ := p
  obtain ⟨k', n', zs'⟩ := q
  have hbb : ∀ o o' : Obj, Below w.heap.size w ((w.alloc o).alloc o') := fun o o' => ((Below.refl _ _).alloc (Nat.le_refl _) _).alloc (by simp) _
  by_cases hk : k = k'
  · by_cases hn : n = n'
    · have HS := Lib.hid (show samePt ⟨k, n, zs⟩ ⟨k', n', zs'⟩ = sameB zs zs' by unfold samePt; simp [hk, hn])
      have hk1 : (k == k') = true := by simp [hk]
      have hn1 : (n == n') = true := by simp [hn]
      clear hk hn
      go_enter Tryz.func163, Tryz.ntmps163
      go_wp2_with fail
      refine (implSignsSame_any A A' c c' zs zs' _ ((hp.past_alloc _).past_alloc _) ((hq.past_alloc _).past_alloc _) h1 h2).mono ?_
      intro e w1 hsay
      obtain ⟨rfl, b1⟩ := says_tells hsay
      go_wp2
      go_ret
      refine ⟨ret_bool (by rw [HS.out]), (hbb _ _).trans (b1.mono (by simp; omega))⟩
    · have HS := Lib.hid (show samePt ⟨k, n, zs⟩ ⟨k', n', zs'⟩ = false by unfold samePt; simp [hn])
      have hk1 : (k == k') = true := by simp [hk]
      have hn1 : (n == n') = false := by simp [hn]
      clear hk hn
      go_enter Tryz.func163, Tryz.ntmps163
      go_wp2
      go_ret
      exact ⟨ret_bool (by rw [HS.out]), hbb _ _⟩
  · have HS := Lib.hid (show samePt ⟨k, n, zs⟩ ⟨k', n', zs'⟩ = false by unfold samePt; simp [hk])
    have hk1 : (k == k') = false := by simp [hk]
    clear hk
    go_enter Tryz.func163, Tryz.ntmps163
    go_wp2
    go_ret
    exact ⟨ret_bool (by rw [HS.out]), hbb _ _⟩

set_option maxRecDepth 100000 in
set_option maxHeartbeats 1600000 in
theorem equalFunc_any (A B : Option Addr) (c d : Nat) (ps qs : List Pt) (w : World) (hx : PRow w w.heap.size A ps) (hy : PRow w w.heap.size B qs)
    (hl : ps.length ≤ 4294967296) (hl2 : qs.length ≤ 4294967296) (hs : ∀ p ∈ ps, p.signs.length ≤ 4294967296) (hs2 : ∀ p ∈ qs, p.signs.length ≤ 4294967296) :
    Calls Tryz.prog 162 #[.slice A ps.length c, .slice B qs.length d, .func (.func 163) #[] #[]] w (Tells (samePs ps qs) w) := by
  by_cases hlen : ps.length = qs.length
  · have HL := Lib.hid hlen
    have hb : ((ps.length : Int) != (qs.length : Int)) = false := by simp [hlen]
    clear hlen
    go_enter Tryz.func162, Tryz.ntmps162
    go_wp2
    go_loopw [17] (fun i wr => ∃ k : Nat, k ≤ ps.length ∧ i = .int .i64 k ∧ samePs (ps.take k) (qs.take k) = true ∧ Below w.heap.size w wr) (fun i _ => ps.length - (intOf i).toNat)
    case atStart => exact ⟨0, Nat.zero_le _, rfl, rfl, Below.refl _ _⟩
    case round =>
      obtain ⟨k, hk, rfl, ht, hbel⟩ := hrel
      have HT := Lib.hid ht
      clear ht
      by_cases hlt : k < ps.length
      · have hlt2 : k < qs.length := by have := HL.out; omega
        obtain ⟨b1, o1, p, rfl, hb1, hp, hc1⟩ := hx.at_ hlt
        obtain ⟨b2, o2, q, rfl, hb2, hq, hc2⟩ := hy.at_ (k := k) hlt2
        obtain ⟨x0, x1, A1, e1, x2, r1⟩ := hc1.keep (w' := wr) hb1 (fun _ hq => hbel.cell hq)
        have hsp := hs p (List.mem_of_getElem? hp)
        have hsq := hs2 q (List.mem_of_getElem? hq)
        have HP := Lib.hid hp
        have HQ := Lib.hid hq
        clear hp hq hc1
        have bW := alloc_below wr (.cells #[.int .i64 p.kind, .int .i64 p.n, .slice A1 p.signs.length e1] 145)
        have dW := hbel.trans (bW.mono hbel.size)
        obtain ⟨y0, y1, A2, e2, y2, r2⟩ := hc2.keep (w' := wr.alloc (.cells #[.int .i64 p.kind, .int .i64 p.n, .slice A1 p.signs.length e1] 145)) hb2 (fun _ hq => dW.cell hq)
        have dV := dW.trans ((alloc_below (wr.alloc (.cells #[.int .i64 p.kind, .int .i64 p.n, .slice A1 p.signs.length e1] 145)) (.cells #[.int .i64 q.kind, .int .i64 q.n, .slice A2 q.signs.length e2] 145)).mono dW.size)
        have R1 := Lib.hid (Row.past_alloc ((r1.more hbel.size).past bW) (.cells #[.int .i64 q.kind, .int .i64 q.n, .slice A2 q.signs.length e2] 145))
        have R2 := Lib.hid (Row.past_alloc (r2.more dW.size) (.cells #[.int .i64 q.kind, .int .i64 q.n, .slice A2 q.signs.length e2] 145))
        clear hc2 r1 r2
        cases hsame : samePt p q
        · go_wp2_with fail
          refine (implPartSame_any p q A1 A2 e1 e2 _ R1.out R2.out hsp hsq).mono ?_
          rintro e w2 ⟨rfl, b2⟩
          go_wp2
          go_ret
          exact ⟨ret_bool (by rw [samePs_at ps qs k p q HP.out HQ.out hsame]), dV.trans (b2.mono dV.size)⟩
        · go_wp2_with fail
          refine (implPartSame_any p q A1 A2 e1 e2 _ R1.out R2.out hsp hsq).mono ?_
          rintro e w2 ⟨rfl, b2⟩
          go_wp2
          go_roundw
          case rel => exact ⟨k + 1, by omega, by go_num, samePs_snoc ps qs k p q HP.out HQ.out hsame HT.out, dV.trans (b2.mono dV.size)⟩
          case measure => simp [intOf]; omega
      · have H := Lib.hid (show samePs ps qs = true by have := HT.out; rwa [List.take_of_length_le (by omega), List.take_of_length_le (by have := HL.out; omega)] at this)
        go_wp2
        go_ret
        exact ⟨ret_bool (by rw [H.out]), hbel⟩
  · have hb : ((ps.length : Int) != (qs.length : Int)) = true := by simp; omega
    have H := Lib.hid (show samePs ps qs = false by cases h : samePs ps qs; rfl; exact absurd (samePs_len ps qs h) hlen)
    clear hlen
    go_enter Tryz.func162, Tryz.ntmps162
    go_wp2
    go_ret
    exact ⟨ret_bool (by rw [H.out]), Below.refl _ _⟩

set_option maxHeartbeats 400000 in
theorem implOpSame_any (A B : Option Addr) (c d : Nat) (ps qs : List Pt) (w : World) (hx : PRow w w.heap.size A ps) (hy : PRow w w.heap.size B qs)
    (hl : ps.length ≤ 4294967296) (hl2 : qs.length ≤ 4294967296) (hs : ∀ p ∈ ps, p.signs.length ≤ 4294967296) (hs2 : ∀ p ∈ qs, p.signs.length ≤ 4294967296) :
    Calls Tryz.prog 153 #[.slice A ps.length c, .slice B qs.length d] w (Tells (samePs ps qs) w) := by
  go_enter Tryz.func153, Tryz.ntmps153
  go_wp2_with fail
  refine (equalFunc_any A B c d ps qs _ hx hy hl hl2 hs hs2).mono ?_
  rintro e w1 ⟨rfl, b1⟩
  go_wp2
  go_ret
  exact ⟨rfl, b1⟩
end Go.Proofs.YtamainhocghlgaaGreatDoor.low


/-
  Contracts of the program's add, of impl.OpNorm, impl.IsNorm and impl.Keeping.
-/
namespace Go.Proofs.YtamainhocghlgaaGreatDoor.low
open Go.RowKit
set_option linter.unusedVariables false

theorem sameB_comm (a b : List Int) : sameB a b = sameB b a := by
  by_cases h : a = b
  · subst h; rfl
  · have h' : ¬ b = a := fun e => h e.symm
    unfold sameB
    simp [h, h']
theorem samePt_comm (p q : Pt) : samePt p q = samePt q p := by
  unfold samePt
  rw [sameB_comm p.signs q.signs, Bool.beq_comm (a := p.kind), Bool.beq_comm (a := p.n)]
theorem samePs_comm : ∀ ps qs : List Pt, samePs ps qs = samePs qs ps
  | [], [] => rfl
  | [], _ :: _ => rfl
  | _ :: _, [] => rfl
  | p :: ps, q :: qs => by
    show (samePt p q && samePs ps qs) = (samePt q p && samePs qs ps)
    rw [samePt_comm p q, samePs_comm ps qs]

set_option maxHeartbeats 1600000 in
theorem implAdd_any (lo g : Nat) (qs : List Pt) (put : List Int) (d : Int) (p : Pt) (A : Option Addr) (c : Nat) (w : World) (hb : BAt lo g 215 w qs put d) (hr : Row (Value.int .i64) w w.heap.size A p.signs) (hok : okPt p = true)
    (hl : qs.length ≤ 4294967296) (hp : put.length ≤ 4294967296) (h0 : 0 ≤ d) (h1 : d ≤ 4611686018427387904)
    (hq : ∀ p ∈ qs ++ putL put ++ dropL d, 0 ≤ p.n ∧ p.n ≤ 4611686018427387904) (hql : (qs ++ putL put ++ dropL d).length ≤ 4294967298) :
    Calls Tryz.prog 164 #[.pointer (some ⟨g, 0, none⟩), .agg #[.int .i64 p.kind, .int .i64 p.n, .slice A p.signs.length c]] w (Built lo g 215 w (stepN (qs, put, d) p).1 (stepN (qs, put, d) p).2.1 (stepN (qs, put, d) p).2.2) := by
  have hlo : lo ≤ w.heap.size := by obtain ⟨v, u, us, hx, _⟩ := hb; exact Nat.le_trans hx.low (Nat.le_of_lt hx.lt)
  have hk := of_okPt hok
  clear hok
  obtain ⟨pk, pn, pz⟩ := p
  simp only at hk hr ⊢
  have hat := hb.past (alloc_below w (.cells #[.int .i64 pk, .int .i64 pn, .slice A pz.length c] 145))
  have bel : Below lo w (w.alloc (.cells #[.int .i64 pk, .int .i64 pn, .slice A pz.length c] 145)) := (alloc_below w _).mono hlo
  rcases (show pk = 1 ∨ pk = 2 ∨ pk = 3 by omega) with rfl | rfl | rfl
  · have hn1 : 0 ≤ pn := by omega
    have hn2 : pn ≤ 200 := by omega
    clear hk
    by_cases hz : pn = 0
    · subst hz
      go_enter Tryz.func164, Tryz.ntmps164
      go_wp2_with fail
      refine (implKeep_zero g _).mono ?_
      rintro e w' ⟨rfl, rfl⟩
      go_wp2
      go_end0
      exact ⟨rfl, hat, bel⟩
    · go_enter Tryz.func164, Tryz.ntmps164
      go_wp2_with fail
      refine (implKeep_any lo g qs put d pn _ hat hl hp hz hn1 (by omega) hq hql).mono ?_
      rintro e w3 ⟨rfl, hn3, b3⟩
      go_wp2
      go_end0
      refine ⟨rfl, ?_, bel.trans b3⟩
      simp only [stepN, if_neg hz]
      exact hn3.at_
  · have hl2 : pz.length ≤ 200 := by omega
    clear hk
    go_enter Tryz.func164, Tryz.ntmps164
    go_wp2_with fail
    refine (implPut_any lo g qs put d A c pz _ hat (hr.past_alloc _) hp (by omega)).mono ?_
    rintro e w3 ⟨rfl, hn3, b3⟩
    go_wp2
    go_end0
    exact ⟨rfl, hn3, bel.trans b3⟩
  · have hn1 : 0 ≤ pn := by omega
    have hn2 : pn ≤ 200 := by omega
    clear hk
    go_enter Tryz.func164, Tryz.ntmps164
    go_wp2_with fail
    refine (implDrop_any lo g qs put d pn _ hat h0 h1 hn1 (by omega)).mono ?_
    rintro e w3 ⟨rfl, hn3, b3⟩
    go_wp2
    go_end0
    exact ⟨rfl, hn3, bel.trans b3⟩

set_option maxRecDepth 100000 in
set_option maxHeartbeats 3200000 in
theorem implOpNorm_any (A : Option Addr) (c : Nat) (ps : List Pt) (w : World) (hr : PRow w w.heap.size A ps) (hl : ps.length ≤ 4294967296) (hls : ∀ p ∈ ps, p.signs.length ≤ 4294967296) (hss : signsIn ps ≤ 1048576) :
    Calls Tryz.prog 154 #[.slice A ps.length c] w (PsPost (normL ps) w) := by
  cases hok : okOp ps
  · have e1 : normL ps = [] := by simp [normL, hok]
    rw [e1]
    go_enter Tryz.func154, Tryz.ntmps154
    go_wp2_with fail
    refine (implOpOk_any A c ps _ hr hl hls).mono ?_
    rintro e w1 ⟨rfl, b1⟩
    rw [hok] at *
    go_wp2
    go_ret
    refine ⟨_, rfl, ⟨[], World.ownsRow_nil _ _ _ _, ⟨rfl, fun i p u hp _ => by simp at hp, fun i j k u v hu _ _ _ => by simp at hu⟩, fun k hk => by simp [Value.ownBlock] at hk, Nat.le_refl _, b1.size⟩, b1⟩
  · have e1 : normL ps = doneN (foldN ps) := by simp [normL, hok]
    rw [e1]
    have HPB := Lib.hid (partsB_of (okOp_parts hok))
    go_enter Tryz.func154, Tryz.ntmps154
    go_wp2_with fail
    refine (implOpOk_any A c ps _ hr hl hls).mono ?_
    rintro e w1 ⟨rfl, b1⟩
    rw [hok] at *
    clear hok
    go_wp2
    have hnew := BAt.new w.heap.size 215 w1 b1.size
    have hbn := b1.trans ((alloc_below w1 (.cells #[.slice none 0 0, .slice none 0 0, .int .i64 0] 215)).mono b1.size)
    have hgl : w.heap.size ≤ w1.heap.size := b1.size
    generalize w1.alloc (.cells #[.slice none 0 0, .slice none 0 0, .int .i64 0] 215) = w2 at *
    generalize w1.heap.size = g at *
    clear b1
    go_loopw [13] (fun i wr => ∃ k : Nat, k ≤ ps.length ∧ i = .int .i64 k ∧ BAt w.heap.size g 215 wr (foldN (ps.take k)).1 (foldN (ps.take k)).2.1 (foldN (ps.take k)).2.2 ∧ Below w.heap.size w wr) (fun i _ => ps.length - (intOf i).toNat)
    case atStart => exact ⟨0, Nat.zero_le _, rfl, hnew, hbn⟩
    case round =>
      obtain ⟨k, hk, rfl, hat, hbel⟩ := hrel
      clear hnew hbn
      have hfit := foldN_fit HPB.out.1 k hk
      have hpl := HPB.out.2
      by_cases hlt : k < ps.length
      · obtain ⟨b, off, p, rfl, hb, hp, hc⟩ := hr.at_ hlt
        obtain ⟨x0, x1, A1, e1, x2, r1⟩ := hc.keep (w' := wr) hb (fun _ hq => hbel.cell hq)
        have hokp := okPs_at hp HPB.out.1
        have K1 := Lib.hid (foldN_snoc hp)
        have hsg : signsIn (ps.take k) ≤ signsIn ps := signsIn_take ps k
        clear hp hc
        generalize foldN (ps.take k) = st at *
        obtain ⟨qs, put, d⟩ := st
        have hf1 := hfit.len
        have hf2 := hfit.signs
        have hf3 := hfit.d0
        have hf4 := hfit.d1
        have hdn := Lib.hid hfit.done
        simp only at hf1 hf2 hf3 hf4 hat
        go_wp2_with fail
        refine (implAdd_any w.heap.size g qs put d p A1 e1 _ (hat.past (alloc_below wr _)) (Row.past_alloc (r1.more hbel.size) _) hokp (by omega) (by omega) hf3 (by omega) (fun p hp => by have := hdn.out.2.2 p hp; omega) (by have := hdn.out.1; exact Nat.le_trans this (by omega))).mono ?_
        rintro e w3 ⟨rfl, hn3, b3⟩
        go_wp2
        go_roundw
        case rel => exact ⟨k + 1, by omega, by go_num, by rw [K1.out]; exact hn3, hbel.trans (((alloc_below wr _).mono hbel.size).trans b3)⟩
        case measure => simp [intOf]; omega
      · have hke : ps.take k = ps := List.take_of_length_le (by omega)
        rw [hke] at hat hfit
        have hf1 := hfit.len
        have hf2 := hfit.signs
        go_wp2_with fail
        refine (implDone_any w.heap.size g _ _ _ _ hat (by omega) (by omega)).mono ?_
        rintro e w3 ⟨v, rfl, p3, b3⟩
        change PBuf _ _ _ _ (doneN (foldN ps)) at p3
        generalize doneN (foldN ps) = L at *
        obtain ⟨B3, d3, rfl, q3⟩ := p3.slice
        have HP3 := Lib.hid p3
        clear p3
        go_wp2
        go_ret
        exact ⟨_, rfl, HP3.out, hbel.trans b3⟩

set_option maxHeartbeats 1600000 in
theorem implIsNorm_any (A : Option Addr) (c : Nat) (ps : List Pt) (w : World) (hr : PRow w w.heap.size A ps) (hl : ps.length ≤ 4294967296) (hls : ∀ p ∈ ps, p.signs.length ≤ 4294967296) (hss : signsIn ps ≤ 1048576) :
    Calls Tryz.prog 144 #[.slice A ps.length c] w (Tells (isNormL ps) w) := by
  obtain ⟨n1, n2⟩ := normL_fit hss
  have hls' : ∀ p ∈ normL ps, p.signs.length ≤ 4294967296 := fun p hp => by
    obtain ⟨i, hi⟩ := List.getElem?_of_mem hp
    have := signsIn_at hi
    omega
  cases hok : okOp ps
  · have HS := Lib.hid (show isNormL ps = false by unfold isNormL; rw [hok]; rfl)
    go_enter Tryz.func144, Tryz.ntmps144
    go_wp2_with fail
    refine (implOpOk_any A c ps _ hr hl hls).mono ?_
    rintro e w1 ⟨rfl, b1⟩
    rw [hok] at *
    go_wp2
    go_ret
    exact ⟨ret_bool (by rw [HS.out]), b1⟩
  · have HS := Lib.hid (show isNormL ps = samePs ps (normL ps) by unfold isNormL; rw [hok, samePs_comm]; rfl)
    go_enter Tryz.func144, Tryz.ntmps144
    go_wp2_with fail
    refine (implOpOk_any A c ps _ hr hl hls).mono ?_
    rintro e w1 ⟨rfl, b1⟩
    rw [hok] at *
    clear hok
    go_wp2_with fail
    refine (implOpNorm_any A c ps _ (hr.past b1) hl hls hss).mono ?_
    rintro e w2 ⟨v2, rfl, p2, b2⟩
    obtain ⟨B2, d2, rfl, q2⟩ := p2.slice
    have d2' := b1.trans (b2.mono b1.size)
    generalize normL ps = L at *
    go_wp2_with fail
    refine (implOpSame_any A B2 c d2 ps L _ (hr.past d2') q2 hl (by omega) hls hls').mono ?_
    rintro e w3 ⟨rfl, b3⟩
    go_wp2
    go_ret
    exact ⟨ret_bool (by rw [HS.out]), d2'.trans (b3.mono d2'.size)⟩

end Go.Proofs.YtamainhocghlgaaGreatDoor.low


/-
  Contracts of impl.NameOk, EntryOk, EntrySame, HeadRev, entriesOk.
-/
namespace Go.Proofs.YtamainhocghlgaaGreatDoor.low
open Go.RowKit
set_option linter.unusedVariables false

theorem clientOk_any (n : Int) (w : World) : Calls Tryz.prog 133 #[.int .i64 n] w fun e w' => e = .returned (.bool (inB n 1 8)) ∧ w = w' := by
  by_cases h1 : 1 ≤ n
  · by_cases h2 : n ≤ 8
    · have HE := Lib.hid (show inB n 1 8 = true from inB_t ⟨h1, h2⟩)
      go_enter Tryz.func133, Tryz.ntmps133
      go_wp2
      go_ret
      exact ⟨ret_b HE.out.symm, rfl⟩
    · have HE := Lib.hid (show inB n 1 8 = false from inB_f (by omega))
      go_enter Tryz.func133, Tryz.ntmps133
      go_wp2
      go_ret
      exact ⟨ret_b HE.out.symm, rfl⟩
  · have HE := Lib.hid (show inB n 1 8 = false from inB_f (by omega))
    go_enter Tryz.func133, Tryz.ntmps133
    go_wp2
    go_ret
    exact ⟨ret_b HE.out.symm, rfl⟩
theorem seqOk_any (n : Int) (w : World) : Calls Tryz.prog 134 #[.int .i64 n] w fun e w' => e = .returned (.bool (inB n 1 1000000000)) ∧ w = w' := by
  by_cases h1 : 1 ≤ n
  · by_cases h2 : n ≤ 1000000000
    · have HE := Lib.hid (show inB n 1 1000000000 = true from inB_t ⟨h1, h2⟩)
      go_enter Tryz.func134, Tryz.ntmps134
      go_wp2
      go_ret
      exact ⟨ret_b HE.out.symm, rfl⟩
    · have HE := Lib.hid (show inB n 1 1000000000 = false from inB_f (by omega))
      go_enter Tryz.func134, Tryz.ntmps134
      go_wp2
      go_ret
      exact ⟨ret_b HE.out.symm, rfl⟩
  · have HE := Lib.hid (show inB n 1 1000000000 = false from inB_f (by omega))
    go_enter Tryz.func134, Tryz.ntmps134
    go_wp2
    go_ret
    exact ⟨ret_b HE.out.symm, rfl⟩
set_option maxRecDepth 100000 in
set_option maxHeartbeats 1600000 in
theorem implNameOk_d (s : ByteArray) (w : World) (hs : s.size ≤ 1048576) : Calls Tryz.prog 113 #[.string s] w (Tells (nameB s) w) := by
  by_cases h1 : s.size < 1
  · have HN := Lib.hid (show nameB s = false by unfold nameB; rw [inB_f (by omega), Bool.and_false])
    have g1 : decide ((s.size : Int) < 1) = true := decide_eq_true (by omega)
    go_enter Tryz.func113, Tryz.ntmps113
    go_wp2
    go_ret
    exact ⟨ret_b HN.out.symm, Below.refl _ _⟩
  by_cases h2 : 8 < s.size
  · have HN := Lib.hid (show nameB s = false by unfold nameB; rw [inB_f (by omega), Bool.and_false])
    have g1 : decide ((s.size : Int) < 1) = false := decide_eq_false (by omega)
    have g2 : decide (8 < (s.size : Int)) = true := decide_eq_true (by omega)
    go_enter Tryz.func113, Tryz.ntmps113
    go_wp2
    go_ret
    exact ⟨ret_b HN.out.symm, Below.refl _ _⟩
  have HN := Lib.hid (show nameB s = lowersTo s s.size by unfold nameB; rw [inB_t (by omega), Bool.and_true])
  have g1 : decide ((s.size : Int) < 1) = false := decide_eq_false (by omega)
  have g2 : decide (8 < (s.size : Int)) = false := decide_eq_false (by omega)
  go_enter Tryz.func113, Tryz.ntmps113
  go_wp2
  go_loopw [14] (fun i wr => ∃ j : Nat, j ≤ s.size ∧ i = .int .i64 (j : Int) ∧ lowersTo s j = true ∧ Below w.heap.size w wr) (fun i _ => s.size - (intOf i).toNat)
  case atStart => exact ⟨0, Nat.zero_le _, rfl, rfl, Below.refl _ _⟩
  case round =>
    obtain ⟨j, hj, rfl, hi, hbel⟩ := hrel
    have HI := Lib.hid hi
    clear hi
    by_cases hlt : j < s.size
    · obtain ⟨c, hc⟩ : ∃ c : Nat, c = (s[j]'hlt).toNat := ⟨_, rfl⟩
      have HLO := Lib.hid (show lowerAt s j = decide (97 ≤ c ∧ c ≤ 122) by unfold lowerAt; rw [dif_pos hlt, ← hc])
      by_cases h1 : c < 97
      · have HF := Lib.hid (lowersTo_f (s := s) (k := j) (by rw [HLO.out]; simp; omega) s.size hlt)
        go_wp2
        go_ret
        exact ⟨ret_b (by rw [HN.out, HF.out]), hbel⟩
      by_cases h2 : 122 < c
      · have HF := Lib.hid (lowersTo_f (s := s) (k := j) (by rw [HLO.out]; simp; omega) s.size hlt)
        go_wp2
        go_ret
        exact ⟨ret_b (by rw [HN.out, HF.out]), hbel⟩
      · have HT := Lib.hid (show lowersTo s (j + 1) = true by rw [lowersTo, HI.out, HLO.out]; simp; omega)
        go_wp2
        go_roundw
        case rel => exact ⟨j + 1, by omega, by go_num, HT.out, hbel⟩
        case measure => simp [intOf]; omega
    · obtain rfl : j = s.size := by omega
      go_wp2
      go_ret
      exact ⟨ret_b (by rw [HN.out, HI.out]), hbel⟩
set_option maxRecDepth 100000 in
set_option maxHeartbeats 1600000 in
theorem implEntryOk_d (v : Value) (x : En) (w : World) (h : RdC w w.heap.size (datEn x) v) (hs : SmEn x) : Calls Tryz.prog 132 #[v] w (Tells (entryB x) w) := by
  obtain ⟨A2, c2, rfl, r2⟩ := aggEn h
  have b0 := alloc_below w (.cells #[.int .i64 x.client, .int .i64 x.seq, .slice A2 x.o.length c2] 106)
  have HE := Lib.hid (show entryB x = (inB x.client 1 8 && inB x.seq 1 1000000000 && isNormL x.o) from rfl)
  cases h1 : inB x.client 1 8
  · go_enter Tryz.func132, Tryz.ntmps132
    go_wp2_with fail
    refine (clientOk_any _ _).mono ?_
    rintro e w1 ⟨rfl, rfl⟩
    rw [h1]
    go_wp2
    go_ret
    exact ⟨ret_b (by rw [HE.out, h1]; rfl), b0⟩
  cases h2 : inB x.seq 1 1000000000
  · go_enter Tryz.func132, Tryz.ntmps132
    go_wp2_with fail
    refine (clientOk_any _ _).mono ?_
    rintro e w1 ⟨rfl, rfl⟩
    rw [h1]
    go_wp2_with fail
    refine (seqOk_any _ _).mono ?_
    rintro e w1 ⟨rfl, rfl⟩
    rw [h2]
    go_wp2
    go_ret
    exact ⟨ret_b (by rw [HE.out, h1, h2]; rfl), b0⟩
  obtain ⟨A, c, e2, hr, _⟩ := parts_rd r2
  injection e2 with e2 _ e3
  subst e2 e3
  have hso := hs.o
  have hs1 := hso.1
  have hs2 := hso.2
  go_enter Tryz.func132, Tryz.ntmps132
  go_wp2_with fail
  refine (clientOk_any _ _).mono ?_
  rintro e w1 ⟨rfl, rfl⟩
  rw [h1]
  go_wp2_with fail
  refine (seqOk_any _ _).mono ?_
  rintro e w1 ⟨rfl, rfl⟩
  rw [h2]
  go_wp2_with fail
  refine (implIsNorm_any A2 c2 x.o _ (hr.past b0) (by omega) hso.all4 hs2).mono ?_
  rintro e w1 ⟨rfl, b1⟩
  go_wp2
  go_ret
  exact ⟨ret_b (by rw [HE.out, h1, h2]; rfl), b0.trans (b1.mono b0.size)⟩
set_option maxRecDepth 100000 in
set_option maxHeartbeats 1600000 in
theorem implHeadRev_w (v : Value) (x : Do) (w : World) (h : RdC w w.heap.size (datDo x) v) : Calls Tryz.prog 96 #[v] w (Nums1 (headRevT x) w) := by
  obtain ⟨A2, c2, A3, c3, A4, c4, rfl, _⟩ := aggDo h
  have b0 := alloc_below w (.cells #[.string x.name, .int .i64 x.from_, .slice A2 x.text.length c2, .slice A3 x.list.length c3, .slice A4 x.seen.length c4] 75)
  go_enter Tryz.func96, Tryz.ntmps96
  go_wp2
  go_ret
  exact ⟨rfl, b0⟩
end Go.Proofs.YtamainhocghlgaaGreatDoor.low


/-
  Lists of rows of clients: the first row of each client, a row put in, rows in order.
-/
namespace Go.Proofs.YtamainhocghlgaaGreatDoor.low
open Go.RowKit
set_option linter.unusedVariables false

def putSe : List Se → Se → List Se
  | [], s => [s]
  | t :: l, s => if t.client = s.client then s :: l else t :: putSe l s
def OneSe (l : List Se) : Prop := (l.map (·.client)).Nodup
theorem seenGo_none {k : Int} : ∀ {l : List Se}, seenGo k l = none ↔ ∀ s ∈ l, ¬ s.client = k
  | [] => by simp [seenGo]
  | t :: l => by
    unfold seenGo
    by_cases h : t.client = k
    · simp [h]
    · rw [if_neg h, seenGo_none (l := l)]
      simp [h]
theorem seenGo_at {k : Int} {s : Se} : ∀ {l : List Se} {j : Nat}, OneSe l → l[j]? = some s → s.client = k → seenGo k l = some s ∧ ∀ s', s'.client = k → putSe l s' = l.set j s'
  | [], j, _, h, _ => by simp at h
  | t :: l, 0, hn, h, e => by
    obtain rfl : t = s := by simpa using h
    refine ⟨by unfold seenGo; rw [if_pos e], fun s' h' => ?_⟩
    unfold putSe
    rw [if_pos (by rw [e, h'])]
    rfl
  | t :: l, j + 1, hn, h, e => by
    unfold OneSe at hn
    rw [List.map_cons, List.nodup_cons] at hn
    have h1 : l[j]? = some s := by simpa using h
    have hne : ¬ t.client = k := fun h2 => hn.1 (by rw [h2, ← e]; exact List.mem_map.2 ⟨s, List.mem_of_getElem? h1, rfl⟩)
    have ih := seenGo_at (l := l) hn.2 h1 e
    refine ⟨by unfold seenGo; rw [if_neg hne]; exact ih.1, fun s' h' => ?_⟩
    unfold putSe
    rw [if_neg (by rw [h']; exact hne), ih.2 s' h']
    rfl
theorem putSe_new {s : Se} : ∀ {l : List Se}, (∀ t ∈ l, ¬ t.client = s.client) → putSe l s = l ++ [s]
  | [], _ => rfl
  | t :: l, h => by
    unfold putSe
    rw [if_neg (h t (by simp)), putSe_new (fun u hu => h u (by simp [hu]))]
    rfl
theorem putSe_clients {s : Se} : ∀ {l : List Se}, (putSe l s).map (·.client) = if s.client ∈ l.map (·.client) then l.map (·.client) else l.map (·.client) ++ [s.client]
  | [] => by simp [putSe]
  | u :: l => by
    unfold putSe
    by_cases e : u.client = s.client
    · rw [if_pos e]
      simp [e]
    · rw [if_neg e, List.map_cons, putSe_clients (l := l), List.map_cons]
      have e' : ¬ s.client = u.client := fun h => e h.symm
      by_cases h : s.client ∈ l.map (·.client)
      · rw [if_pos h, if_pos (List.mem_cons_of_mem _ h)]
      · rw [if_neg h, if_neg (by simp only [List.mem_cons, not_or]; exact ⟨e', h⟩)]
        rfl
theorem OneSe.put {l : List Se} (h : OneSe l) (s : Se) : OneSe (putSe l s) := by
  unfold OneSe at *
  rw [putSe_clients]
  split
  · exact h
  · rename_i hn
    rw [List.nodup_append]
    refine ⟨h, by simp, fun a ha b hb e => ?_⟩
    obtain rfl : b = s.client := by simpa using hb
    exact hn (e ▸ ha)
theorem putSe_len {l : List Se} {s : Se} : (putSe l s).length ≤ l.length + 1 := by
  have h := congrArg List.length (putSe_clients (l := l) (s := s))
  rw [List.length_map] at h
  rw [h]
  split <;> simp
/-- the first row of each client -/
def firstSe (m : List Se) (s : Se) : List Se := if (seenGo s.client m).isSome then m else putSe m s
def dedSe (l : List Se) : List Se := l.foldl firstSe []
theorem OneSe.nil : OneSe [] := by simp [OneSe]
theorem OneSe.first {l : List Se} (h : OneSe l) (s : Se) : OneSe (firstSe l s) := by
  unfold firstSe
  split
  · exact h
  · exact h.put s
theorem ded_snoc {l : List Se} {j : Nat} {s : Se} (h : l[j]? = some s) : dedSe (l.take (j + 1)) = firstSe (dedSe (l.take j)) s := by
  obtain ⟨hlt, e⟩ := List.getElem?_eq_some_iff.1 h
  rw [List.take_succ_eq_append_getElem hlt, e, dedSe, List.foldl_append]
  rfl
theorem foldFirst_one : ∀ {l m : List Se}, OneSe m → OneSe (l.foldl firstSe m)
  | [], m, h => h
  | s :: l, m, h => foldFirst_one (l := l) (h.first s)
theorem one_ded (l : List Se) : OneSe (dedSe l) := foldFirst_one OneSe.nil
theorem ded_len : ∀ {l m : List Se}, (l.foldl firstSe m).length ≤ m.length + l.length
  | [], m => by simp
  | s :: l, m => by
    have := ded_len (l := l) (m := firstSe m s)
    have h2 : (firstSe m s).length ≤ m.length + 1 := by
      unfold firstSe
      split
      · omega
      · exact putSe_len
    rw [List.foldl_cons, List.length_cons]
    omega
/-- rows in the order of their clients -/
def AscSe (l : List Se) : Prop := l.Pairwise (fun a b => a.client < b.client)
def insSe (s : Se) : List Se → List Se
  | [] => [s]
  | t :: l => if s.client < t.client then s :: t :: l else t :: insSe s l
def ordSe : List Se → List Se
  | [] => []
  | s :: l => insSe s (ordSe l)
theorem insSe_perm {s : Se} : ∀ {l : List Se}, (insSe s l).Perm (s :: l)
  | [] => List.Perm.refl _
  | t :: l => by
    unfold insSe
    split
    · exact List.Perm.refl _
    · exact ((insSe_perm (l := l)).cons t).trans (List.Perm.swap s t l)
theorem ordSe_perm : ∀ {l : List Se}, (ordSe l).Perm l
  | [] => List.Perm.refl _
  | s :: l => insSe_perm.trans ((ordSe_perm (l := l)).cons s)
theorem insSe_asc {s : Se} : ∀ {l : List Se}, AscSe l → (∀ t ∈ l, ¬ t.client = s.client) → AscSe (insSe s l)
  | [], _, _ => by simp [insSe, AscSe]
  | t :: l, h, hn => by
    unfold insSe
    have ht := hn t (by simp)
    unfold AscSe at h
    rw [List.pairwise_cons] at h
    split
    · rename_i hlt
      refine List.pairwise_cons.2 ⟨fun u hu => ?_, List.pairwise_cons.2 h⟩
      rcases List.mem_cons.1 hu with rfl | hu
      · exact hlt
      · have := h.1 u hu; omega
    · rename_i hlt
      refine List.pairwise_cons.2 ⟨fun u hu => ?_, insSe_asc h.2 (fun u hu => hn u (by simp [hu]))⟩
      rcases List.mem_cons.1 (insSe_perm.mem_iff.1 hu) with rfl | hu
      · omega
      · exact h.1 u hu
theorem ordSe_asc : ∀ {l : List Se}, OneSe l → AscSe (ordSe l)
  | [], _ => List.Pairwise.nil
  | s :: l, h => by
    unfold OneSe at h
    rw [List.map_cons, List.nodup_cons] at h
    refine insSe_asc (ordSe_asc (l := l) h.2) (fun t ht e => h.1 ?_)
    rw [← e]
    exact List.mem_map.2 ⟨t, ordSe_perm.mem_iff.1 ht, rfl⟩
theorem asc_eq : ∀ {l m : List Se}, AscSe l → AscSe m → l.Perm m → l = m
  | [], m, _, _, h => (List.Perm.nil_eq h)
  | s :: l, m, h1, h2, h => by
    cases m with
    | nil => exact absurd h.symm.nil_eq (by simp)
    | cons t m =>
      have hs : s ∈ t :: m := h.mem_iff.1 (by simp)
      have ht : t ∈ s :: l := h.mem_iff.2 (by simp)
      unfold AscSe at h1 h2
      rw [List.pairwise_cons] at h1 h2
      obtain rfl : s = t := by
        rcases List.mem_cons.1 hs with e | hs
        · exact e
        · rcases List.mem_cons.1 ht with e | ht
          · exact e.symm
          · have := h1.1 t ht
            have := h2.1 s hs
            omega
      rw [asc_eq h1.2 h2.2 ((List.perm_cons s).1 h)]
theorem AscSe.one {l : List Se} (h : AscSe l) : OneSe l := by
  unfold OneSe List.Nodup
  rw [List.pairwise_map]
  exact List.Pairwise.imp (fun h => by omega) h
theorem one_ordered {l c : List Se} (h : OneSe l) (hp : c.Perm l) (ha : AscSe c) : c = ordSe l := asc_eq ha (ordSe_asc h) (hp.trans ordSe_perm.symm)
theorem foldFirst_new : ∀ {l m : List Se}, OneSe (m ++ l) → l.foldl firstSe m = m ++ l
  | [], m, _ => by simp
  | s :: l, m, h => by
    have h1 : firstSe m s = m ++ [s] := by
      have hn : ∀ t ∈ m, ¬ t.client = s.client := fun t ht e => by
        unfold OneSe at h
        rw [List.map_append, List.nodup_append] at h
        exact h.2.2 t.client (List.mem_map.2 ⟨t, ht, rfl⟩) s.client (by simp) e
      unfold firstSe
      rw [seenGo_none.2 hn, if_neg (by simp), putSe_new hn]
    rw [List.foldl_cons, h1, foldFirst_new (l := l) (m := m ++ [s]) (by rw [List.append_assoc]; exact h), List.append_assoc]
    rfl
theorem ded_one {l : List Se} (h : OneSe l) : dedSe l = l := foldFirst_new (m := []) h
/-- a list is what its rows in order are just when it ascends -/
theorem ord_ded {l : List Se} : l = ordSe (dedSe l) ↔ AscSe l :=
  ⟨fun h => by rw [h]; exact ordSe_asc (one_ded l), fun h => by rw [ded_one h.one]; exact one_ordered h.one (List.Perm.refl _) h⟩
end Go.Proofs.YtamainhocghlgaaGreatDoor.low


/-
  What the program asks of a document is what the specification asks.
-/
namespace Go.Proofs.YtamainhocghlgaaGreatDoor.low
open Go.RowKit
set_option linter.unusedVariables false

def okSe (h : Int) (s : Se) : Bool := inB s.client 1 8 && inB s.seq 1 1000000000 && inB s.rev 1 h
def seenIB (h : Int) (l : List Se) : Bool := l.all (okSe h) && seensB l (ordSe (dedSe l))
def entriesIB (l : List En) : Bool := decide (l.length ≤ 8) && l.all entryB
theorem seSame_eq {a b : Se} : seSameB a b = true ↔ a = b := by
  obtain ⟨a1, a2, a3⟩ := a
  obtain ⟨b1, b2, b3⟩ := b
  simp [seSameB, and_assoc]
theorem seens_eq : ∀ {l m : List Se}, seensB l m = true ↔ l = m
  | [], [] => by simp [seensB]
  | [], _ :: _ => by simp [seensB]
  | _ :: _, [] => by simp [seensB]
  | a :: l, b :: m => by simp [seensB, seSame_eq, seens_eq (l := l) (m := m)]
theorem seenAll_some {h : Int} : ∀ {l : List Se} {p : Int}, seenAllB h (some p) l = true ↔ (l.all (okSe h) = true ∧ (∀ s ∈ l, p < s.client) ∧ AscSe l)
  | [], p => by simp [seenAllB, AscSe]
  | s :: l, p => by
    have ih := seenAll_some (h := h) (l := l) (p := s.client)
    rw [seenAllB, Bool.and_eq_true, ih, List.all_cons, Bool.and_eq_true]
    have e : seenOneB h (some p) s = (okSe h s && decide (p < s.client)) := rfl
    rw [e, Bool.and_eq_true, decide_eq_true_eq]
    unfold AscSe
    rw [List.pairwise_cons]
    constructor
    · rintro ⟨⟨h1, h2⟩, h3, h4, h5⟩
      refine ⟨⟨h1, h3⟩, fun t ht => ?_, h4, h5⟩
      rcases List.mem_cons.1 ht with rfl | ht
      · exact h2
      · have := h4 t ht; omega
    · rintro ⟨⟨h1, h3⟩, h4, h5, h6⟩
      exact ⟨⟨h1, h4 s (by simp)⟩, h3, h5, h6⟩
theorem seenAll_none {h : Int} {l : List Se} : seenAllB h none l = true ↔ (l.all (okSe h) = true ∧ AscSe l) := by
  cases l with
  | nil => simp [seenAllB, AscSe]
  | cons s l =>
    rw [seenAllB, Bool.and_eq_true, seenAll_some, List.all_cons, Bool.and_eq_true]
    have e : seenOneB h none s = okSe h s := by simp [seenOneB, okSe]
    rw [e]
    unfold AscSe
    rw [List.pairwise_cons]
    constructor
    · rintro ⟨h1, h3, h4, h5⟩
      exact ⟨⟨h1, h3⟩, h4, h5⟩
    · rintro ⟨⟨h1, h3⟩, h5, h6⟩
      exact ⟨h1, h3, h5, h6⟩
theorem seen_eq (h : Int) (l : List Se) : seenAllB h none l = seenIB h l := by
  rw [Bool.eq_iff_iff, seenAll_none]
  unfold seenIB
  rw [Bool.and_eq_true, seens_eq, ord_ded]
theorem foldAll_cons (o : List Pt) (l : List (List Pt)) (t : List Int) : foldAll (o :: l) t = if fitsB o t = true then foldAll l (applyT o t) else none := by
  show l.foldl stepAll (if fitsB o t = true then some (applyT o t) else none) = _
  by_cases h : fitsB o t = true
  · rw [if_pos h, if_pos h]
    rfl
  · rw [if_neg h, if_neg h]
    exact fold_none l
theorem fits_len {o : List Pt} {t : List Int} (h : fitsB o t = true) : okOp o = true ∧ okText t = true ∧ sumK o + sumD o = (t.length : Int) := by
  unfold fitsB at h
  rw [Bool.and_eq_true, Bool.and_eq_true, decide_eq_true_eq] at h
  exact ⟨h.1.1, h.1.2, h.2⟩
theorem fits_next {o : List Pt} {t : List Int} (h : fitsB o t = true) : okText (applyT o t) = true := by
  obtain ⟨h1, h2, h3⟩ := fits_len h
  exact (apply_ok h1 h2 h3).2.2.1
theorem chain_eq : ∀ {l : List En} {t : List Int}, chainGo l t = (l.all entryB && (foldAll (l.map En.o) t).isSome)
  | [], t => by simp [chainGo, foldAll]
  | e :: l, t => by
    rw [chainGo, chain_eq (l := l), List.map_cons, foldAll_cons, List.all_cons]
    cases h1 : fitsB e.o t
    · simp
    · rw [fits_next h1]
      cases entryB e <;> simp
theorem doc_eq (x : Do) : docB x = (nameB x.name && inB x.from_ 0 999999000 && entriesIB x.list && seenIB (headRevT x) x.seen && applyAllB (x.list.map En.o) x.text) := by
  unfold docB entriesIB applyAllB
  rw [seen_eq, chain_eq]
  cases nameB x.name <;> cases inB x.from_ 0 999999000 <;> cases okText x.text <;> cases decide (x.list.length ≤ 8) <;> cases x.list.all entryB <;> cases seenIB (headRevT x) x.seen <;> cases (foldAll (x.list.map En.o) x.text).isSome <;> rfl
end Go.Proofs.YtamainhocghlgaaGreatDoor.low


/-
  Contracts of impl.entriesOk and of two lists of entries compared. Cut out of what mkimp8b.py and mkimp8e.py write.
-/
namespace Go.Proofs.YtamainhocghlgaaGreatDoor.low
open Go.RowKit
set_option linter.unusedVariables false

set_option maxRecDepth 100000 in
set_option maxHeartbeats 3200000 in
theorem implEntriesOk_d (v : Value) (l : List En) (w : World) (h : RdC w w.heap.size (encEns l) v) (hs : SmEns l) : Calls Tryz.prog 114 #[v] w (Tells (l.all entryB) w) := by
  obtain ⟨A, c, rfl⟩ := sliceEns h
  have hl := hs.len
  have HR := Lib.hid h
  clear h
  have HM := Lib.hid (Ms.start w)
  go_enter Tryz.func114, Tryz.ntmps114
  go_wp2
  go_loopw [7] (fun i wr => ∃ j : Nat, j ≤ l.length ∧ i = .int .i64 (j : Int) ∧ (l.take j).all entryB = true ∧ Ms w [] wr) (fun i _ => l.length - (intOf i).toNat)
  case atStart => exact ⟨0, Nat.zero_le _, rfl, by simp, HM.out⟩
  case round =>
    obtain ⟨j, hj, rfl, hi, hm⟩ := hrel
    clear HM
    have HM := Lib.hid hm
    have HI := Lib.hid hi
    clear hm hi
    by_cases hlt : j < l.length
    · obtain ⟨b, off, e, A5, c5, rfl, hbb, hp, y0, y1, y2, q2⟩ := atEns HR.out hlt
      have x0 := (HM.out.bl.cell (p := ⟨b, off + j * 3, none⟩) hbb).trans y0
      have x1 := (HM.out.bl.cell (p := ⟨b, off + j * 3 + 1, none⟩) hbb).trans y1
      have x2 := (HM.out.bl.cell (p := ⟨b, off + j * 3 + 2, none⟩) hbb).trans y2
      clear y0 y1 y2
      have hse := hs.at_ (List.mem_of_getElem? hp)
      have HT := Lib.hid (show (l.take (j + 1)).all entryB = entryB e by rw [List.take_add_one, hp, List.all_append, HI.out]; simp)
      have HF := Lib.hid (show entryB e = false → l.all entryB = false from fun e1 => Bool.eq_false_iff.2 (fun e2 => by rw [List.all_eq_true.1 e2 e (List.mem_of_getElem? hp)] at e1; cases e1))
      clear hp
      replace HM := Lib.hid (HM.out.new #[.int .i64 e.client, .int .i64 e.seq, .slice A5 e.o.length c5] 106)
      go_wp2_with fail
      obtain ⟨W1, hW, hm⟩ := HM.out.name
      rw [← hW]
      replace HM := Lib.hid hm
      clear hm hW
      refine (implEntryOk_d _ e _ (rdEn e (HM.out.arg q2)) hse).mono ?_
      rintro e' W2 ⟨rfl, b'⟩
      replace HM := Lib.hid (HM.out.past b')
      clear b'
      clear x0 x1 x2 hse
      cases h1 : entryB e
      · go_wp2
        go_ret
        exact ⟨ret_b (by rw [HF.out h1]), HM.out.bl⟩
      go_wp2
      go_roundw
      case rel => exact ⟨j + 1, by omega, by go_num, by rw [HT.out, h1], HM.out.pick (ks := []) (by decide) rfl⟩
      case measure => simp [intOf]; omega
    · obtain rfl : j = l.length := by omega
      have HI2 := Lib.hid (show l.all entryB = true by have := HI.out; rwa [List.take_length] at this)
      clear HI
      go_wp2
      go_ret
      exact ⟨ret_b (by rw [HI2.out]), HM.out.bl⟩
theorem implEntriesOk8_d (v : Value) (l : List En) (w : World) (h : RdC w w.heap.size (encEns l) v) (hs : SmEns l) (h8 : l.length ≤ 8) : Calls Tryz.prog 114 #[v] w (Tells (entriesIB l) w) := by
  rw [show entriesIB l = l.all entryB by unfold entriesIB; rw [decide_eq_true h8, Bool.true_and]]
  exact implEntriesOk_d v l w h hs
end Go.Proofs.YtamainhocghlgaaGreatDoor.low


/-
  Contract of impl.RingSame. Written by mkring3.py.
-/
namespace Go.Proofs.YtamainhocghlgaaGreatDoor.low
open Go.RowKit
set_option linter.unusedVariables false

end Go.Proofs.YtamainhocghlgaaGreatDoor.low


/-
  Maps from a client to its row: the map's block as a list in the order of its entries, and its operations.
-/
namespace Go.Proofs.YtamainhocghlgaaGreatDoor.low
open Go.RowKit
open Go.ChangeMaps (setBlock)
set_option linter.unusedVariables false

def valSe (s : Se) : Value := .agg #[.int .i64 s.client, .int .i64 s.seq, .int .i64 s.rev]
def entSe (s : Se) : Value × Value := (.int .i64 s.client, valSe s)
def decSe : Value × Value → Se
  | (_, .agg ⟨[.int _ a, .int _ b, .int _ c]⟩) => ⟨a, b, c⟩
  | _ => ⟨0, 0, 0⟩
theorem dec_ent (s : Se) : decSe (entSe s) = s := rfl
structure MapO (l : List Se) (es : Array MapEntry) (clock : Nat) : Prop where
  ents : es.toList.map (fun e => (e.key, e.val)) = l.map entSe
  old : ∀ x ∈ es.toList, x.born < clock
  nd : (es.toList.map (·.born)).Nodup
  one : OneSe l
theorem MapO.new : MapO [] #[] 0 := ⟨rfl, by simp, by simp, OneSe.nil⟩
section
variable {P : Program} {T K E : TypeId} {w : World} {b c0 : Nat} {es : Array MapEntry} {l : List Se}
theorem MapO.at_ (h : MapO l es c0) {j : Nat} {e : MapEntry} (he : es.toList[j]? = some e) : ∃ s, l[j]? = some s ∧ e.key = .int .i64 s.client ∧ e.val = valSe s := by
  have h1 := congrArg (fun x => x[j]?) h.ents
  simp only [List.getElem?_map, he, Option.map_some] at h1
  cases hl : l[j]? with
  | none => rw [hl] at h1; cases h1
  | some s =>
    rw [hl] at h1
    simp only [Option.map_some, Option.some.injEq, entSe, Prod.mk.injEq] at h1
    exact ⟨s, rfl, h1.1, h1.2⟩
theorem MapO.find (h : MapO l es c0) (hk : P.underlying K = some (.int .i64)) (k : Int) :
    ((Instr.findKey K (.int .i64 k) es.toList).run P w = .ok none w ∧ seenGo k l = none ∧ ∀ s', s'.client = k → putSe l s' = l ++ [s']) ∨
    ∃ j s, (Instr.findKey K (.int .i64 k) es.toList).run P w = .ok (some (j, valSe s)) w ∧ l[j]? = some s ∧ s.client = k ∧ seenGo k l = some s ∧ ∀ s', s'.client = k → putSe l s' = l.set j s' := by
  have hkeys : ∀ x ∈ es.toList, MapKept.IsKey (.int .i64) x.key := fun x hx => by
    obtain ⟨j, hj⟩ := List.getElem?_of_mem hx
    obtain ⟨s, _, e, _⟩ := h.at_ hj
    rw [e]
    rfl
  rcases MapKept.findNow_spec (d := .int .i64) (k := .int .i64 k) rfl es.toList 0 hkeys with ⟨h1, h2⟩ | ⟨j, e, h1, h2, h3⟩
  · have hn : ∀ s ∈ l, ¬ s.client = k := fun s hs e => by
      obtain ⟨j, hj⟩ := List.getElem?_of_mem hs
      have h4 := congrArg (fun x => x[j]?) h.ents
      simp only [List.getElem?_map, hj, Option.map_some] at h4
      cases he : es.toList[j]? with
      | none => rw [he] at h4; cases h4
      | some x =>
        rw [he] at h4
        simp only [Option.map_some, Option.some.injEq, entSe, Prod.mk.injEq] at h4
        exact h2 x (List.mem_of_getElem? he) (by rw [h4.1, e])
    refine .inl ⟨by simp [Instr.findKey, run_underlying hk, h1], seenGo_none.2 hn, fun s' h' => putSe_new (fun t ht e => hn t ht (by rw [e, h']))⟩
  · obtain ⟨s, hs, e1, e2⟩ := h.at_ h2
    have hc : s.client = k := by
      rw [e1] at h3
      injection h3
    obtain ⟨h5, h6⟩ := seenGo_at h.one hs hc
    refine .inr ⟨j, s, ?_, hs, hc, h5, h6⟩
    rw [Nat.zero_add] at h1
    simp [Instr.findKey, run_underlying hk, h1, e2]
theorem run_lookup_se (hT : P.underlying T = some (.map K E)) (hk : P.underlying K = some (.int .i64)) (hz : ∀ w, (zeroValue E).run P w = .ok (valSe ⟨0, 0, 0⟩) w) (hb : w.heap[b]? = some (.map es c0)) (h : MapO l es c0) (k : Int) :
    (Instr.lookup T (.map (some b)) (.int .i64 k) true).run P w = .ok (.tuple #[valSe ((seenGo k l).getD ⟨0, 0, 0⟩), .bool (seenGo k l).isSome]) w := by
  have hck := MapKept.run_checkKey (w := w) hk (k := .int .i64 k) rfl es.isEmpty 9999
  rcases h.find (w := w) hk k with ⟨h1, h2, _⟩ | ⟨j, s, h1, _, _, h2, _⟩
  · simp [Instr.lookup, run_underlying hT, MapKept.run_getObj_map hb, hck, h1, h2, hz, Result.andThen]
  · simp [Instr.lookup, run_underlying hT, MapKept.run_getObj_map hb, hck, h1, h2, Result.andThen]
theorem map_modify (f : MapEntry → MapEntry) {j : Nat} {e' : Value × Value} (hf : ∀ e : MapEntry, ((f e).key, (f e).val) = e') (l : List MapEntry) : (l.modify j f).map (fun e => (e.key, e.val)) = (l.map (fun e => (e.key, e.val))).set j e' := by
  induction l generalizing j with
  | nil => simp
  | cons a l ih =>
    cases j with
    | zero => simp [hf]
    | succ j => simp [ih]
theorem born_modify (f : MapEntry → MapEntry) {j : Nat} (hf : ∀ e : MapEntry, (f e).born = e.born) (l : List MapEntry) : (l.modify j f).map (·.born) = l.map (·.born) := by
  induction l generalizing j with
  | nil => simp
  | cons a l ih =>
    cases j with
    | zero => simp [hf]
    | succ j => simp [ih]
theorem run_update_se (hT : P.underlying T = some (.map K E)) (hk : P.underlying K = some (.int .i64)) (hb : w.heap[b]? = some (.map es c0)) (h : MapO l es c0) (s : Se) :
    ∃ es' c', (Instr.mapUpdate T (.map (some b)) (.int .i64 s.client) (valSe s)).run P w = .ok () (setBlock w b (.map es' c')) ∧ MapO (putSe l s) es' c' := by
  have hck := MapKept.run_checkKey (w := w) hk (k := .int .i64 s.client) rfl false 9999
  rcases h.find (w := w) hk s.client with ⟨h1, h2, h3⟩ | ⟨j, t, h1, h4, h5, h2, h3⟩
  · refine ⟨es.push ⟨.int .i64 s.client, valSe s, c0⟩, c0 + 1, ?_, ?_, ?_, ?_, h.one.put s⟩
    · simp [Instr.mapUpdate, run_underlying hT, MapKept.run_getObj_map hb, hck, h1, MapKept.run_setObj_map _ hb, Result.andThen, setBlock]
    · rw [Array.toList_push, List.map_append, h.ents, h3 s rfl, List.map_append]
      rfl
    · intro x hx
      rw [Array.toList_push] at hx
      rcases List.mem_append.1 hx with hx | hx
      · have := h.old x hx; omega
      · obtain rfl := List.mem_singleton.1 hx
        exact Nat.lt_succ_self _
    · rw [Array.toList_push, List.map_append, List.nodup_append]
      refine ⟨h.nd, by simp, fun a ha b hb e => ?_⟩
      obtain ⟨x, hx, rfl⟩ := List.mem_map.1 ha
      have := h.old x hx
      simp at hb
      omega
  · have hlt : j < es.size := by
      have h6 : j < l.length := (List.getElem?_eq_some_iff.1 h4).1
      have h7 := congrArg List.length h.ents
      simp at h7
      omega
    obtain ⟨u, hu, e1, e2⟩ := h.at_ (j := j) (e := es[j]) (by simp [hlt])
    obtain rfl : t = u := by rw [h4] at hu; injection hu
    have hst : (Instr.keyThatStays (.int .i64 t.client) (.int .i64 s.client)).run P w = .ok (.int .i64 s.client) w := by
      rw [h5]
      simp [Instr.keyThatStays, Instr.sameBits]
    refine ⟨es.modify j (fun e => { e with key := .int .i64 s.client, val := valSe s }), c0, ?_, ?_, ?_, ?_, h.one.put s⟩
    · have e3 : ((es[j]?).map (·.key)).getD (.int .i64 s.client) = .int .i64 t.client := by
        rw [Array.getElem?_eq_getElem hlt]
        exact e1
      simp [Instr.mapUpdate, run_underlying hT, MapKept.run_getObj_map hb, hck, h1, MapKept.run_setObj_map _ hb, Result.andThen, setBlock, e1, hlt, hst]
    · rw [Array.toList_modify, map_modify (e' := entSe s) _ (fun e => rfl), h.ents, h3 s rfl, List.map_set]
    · intro x hx
      have h8 : x.born ∈ (es.modify j (fun e => { e with key := .int .i64 s.client, val := valSe s })).toList.map (·.born) := List.mem_map.2 ⟨x, hx, rfl⟩
      rw [Array.toList_modify, born_modify (fun e => { e with key := .int .i64 s.client, val := valSe s }) (fun e => rfl)] at h8
      obtain ⟨y, hy, e⟩ := List.mem_map.1 h8
      rw [← e]
      exact h.old y hy
    · rw [Array.toList_modify, born_modify (fun e => { e with key := .int .i64 s.client, val := valSe s }) (fun e => rfl)]
      exact h.nd
variable {ops : Array Oper} {rest : List Oper} {o : Oper} {a : Act} {Q : Exit → Act → World → Prop}
theorem wpList_lookup_se (hg : o.guard = none) (m x : Operand) (T : TypeId) (hop : o.op = Op.lookup T m x true) (K E : TypeId) (hT : P.underlying T = some (.map K E)) (hk : P.underlying K = some (.int .i64)) (hz : ∀ w, (zeroValue E).run P w = .ok (valSe ⟨0, 0, 0⟩) w)
    (b : Nat) (hm : a.eval m = .map (some b)) (k : Int) (hx : a.eval x = .int .i64 k) (hb : w.heap[b]? = some (.map es c0)) (h : MapO l es c0)
    (hK : wpList P ops Q rest (a.put o.dst (.tuple #[valSe ((seenGo k l).getD ⟨0, 0, 0⟩), .bool (seenGo k l).isSome])) w) : wpList P ops Q (o :: rest) a w := by
  refine wpList_plain hg fun K' hK' => ?_
  have hrun := run_lookup_se hT hk hz hb h k
  unfold Oper.wp
  simp [execOp, hop, hm, hx, hrun, Result.andThen]
  exact hK' _ _ hK
theorem wpList_update_se (hg : o.guard = none) (m x v : Operand) (T : TypeId) (hop : o.op = Op.mapUpdate T m x v) (K E : TypeId) (hT : P.underlying T = some (.map K E)) (hk : P.underlying K = some (.int .i64))
    (b : Nat) (hm : a.eval m = .map (some b)) (s : Se) (hx : a.eval x = .int .i64 s.client) (hv : a.eval v = .agg #[.int .i64 s.client, .int .i64 s.seq, .int .i64 s.rev]) (hb : w.heap[b]? = some (.map es c0)) (h : MapO l es c0)
    (hK : ∀ es' c', MapO (putSe l s) es' c' → wpList P ops Q rest (a.put o.dst undef) (setBlock w b (.map es' c'))) : wpList P ops Q (o :: rest) a w := by
  refine wpList_plain hg fun K' hK' => ?_
  obtain ⟨es', c', hrun, h'⟩ := run_update_se hT hk hb h s
  unfold valSe at hrun
  unfold Oper.wp
  simp [execOp, hop, hm, hx, hv, hrun, Result.andThen]
  exact hK' _ _ (hK es' c' h')
theorem wpList_lookup_none (hg : o.guard = none) (m x : Operand) (T : TypeId) (hop : o.op = Op.lookup T m x true) (K E : TypeId) (hT : P.underlying T = some (.map K E)) (hk : P.underlying K = some (.int .i64)) (hz : ∀ w, (zeroValue E).run P w = .ok (valSe ⟨0, 0, 0⟩) w)
    (b : Nat) (hm : a.eval m = .map (some b)) (k : Int) (hx : a.eval x = .int .i64 k) (hb : w.heap[b]? = some (.map es c0)) (h : MapO l es c0) (hn : seenGo k l = none)
    (hK : wpList P ops Q rest (a.put o.dst (.tuple #[.agg #[.int .i64 0, .int .i64 0, .int .i64 0], .bool false])) w) : wpList P ops Q (o :: rest) a w :=
  wpList_lookup_se hg m x T hop K E hT hk hz b hm k hx hb h (by rw [hn]; exact hK)
theorem wpList_lookup_hit {s : Se} (hg : o.guard = none) (m x : Operand) (T : TypeId) (hop : o.op = Op.lookup T m x true) (K E : TypeId) (hT : P.underlying T = some (.map K E)) (hk : P.underlying K = some (.int .i64)) (hz : ∀ w, (zeroValue E).run P w = .ok (valSe ⟨0, 0, 0⟩) w)
    (b : Nat) (hm : a.eval m = .map (some b)) (k : Int) (hx : a.eval x = .int .i64 k) (hb : w.heap[b]? = some (.map es c0)) (h : MapO l es c0) (hn : seenGo k l = some s)
    (hK : wpList P ops Q rest (a.put o.dst (.tuple #[.agg #[.int .i64 s.client, .int .i64 s.seq, .int .i64 s.rev], .bool true])) w) : wpList P ops Q (o :: rest) a w :=
  wpList_lookup_se hg m x T hop K E hT hk hz b hm k hx hb h (by rw [hn]; exact hK)
/-- what a range over the map has given so far -/
def Seen_ (es : Array MapEntry) (seen : Array Nat) (c : List Se) : Prop := ∃ ds : List MapEntry, seen.toList = ds.map (·.born) ∧ (∀ e ∈ ds, e ∈ es.toList) ∧ ds.Nodup ∧ ds.map (fun e => (e.key, e.val)) = c.map entSe
theorem Seen_.nil (es : Array MapEntry) : Seen_ es #[] [] := ⟨[], rfl, by simp, by simp, rfl⟩
theorem MapO.mem (h : MapO l es c0) {e : MapEntry} (he : e ∈ es.toList) : ∃ s, s ∈ l ∧ e.key = .int .i64 s.client ∧ e.val = valSe s := by
  obtain ⟨j, hj⟩ := List.getElem?_of_mem he
  obtain ⟨s, h1, h2, h3⟩ := h.at_ hj
  exact ⟨s, List.mem_of_getElem? h1, h2, h3⟩
theorem Seen_.step {seen : Array Nat} {c : List Se} (h : Seen_ es seen c) {e : MapEntry} {s : Se} (he : e ∈ es.toList) (hn : seen.contains e.born = false) (h1 : e.key = .int .i64 s.client) (h2 : e.val = valSe s) : Seen_ es (seen.push e.born) (c ++ [s]) := by
  obtain ⟨ds, d1, d2, d3, d4⟩ := h
  have hn' : e.born ∉ seen.toList := by simpa using hn
  refine ⟨ds ++ [e], by simp [d1], fun x hx => ?_, ?_, by simp [d4, h1, h2, entSe]⟩
  · rcases List.mem_append.1 hx with hx | hx
    · exact d2 x hx
    · obtain rfl := List.mem_singleton.1 hx
      exact he
  · rw [List.nodup_append]
    refine ⟨d3, by simp, fun x hx y hy e1 => ?_⟩
    obtain rfl := List.mem_singleton.1 hy
    subst e1
    exact hn' (by rw [d1]; exact List.mem_map.2 ⟨_, hx, rfl⟩)
theorem born_one : ∀ {l : List MapEntry}, (l.map (·.born)).Nodup → ∀ {x y : MapEntry}, x ∈ l → y ∈ l → x.born = y.born → x = y
  | [], _, x, y, hx, _, _ => by simp at hx
  | a :: l, h, x, y, hx, hy, e => by
    rw [List.map_cons, List.nodup_cons] at h
    rcases List.mem_cons.1 hx with e1 | hx
    · rcases List.mem_cons.1 hy with e2 | hy
      · rw [e1, e2]
      · exact absurd (by rw [← e1, e]; exact List.mem_map.2 ⟨y, hy, rfl⟩) h.1
    · rcases List.mem_cons.1 hy with e2 | hy
      · exact absurd (by rw [← e2, ← e]; exact List.mem_map.2 ⟨x, hx, rfl⟩) h.1
      · exact born_one h.2 hx hy e
theorem Seen_.all {seen : Array Nat} {c : List Se} (h : Seen_ es seen c) (hm : MapO l es c0) (h0 : (leftOf es seen).size = 0) : c.Perm l := by
  obtain ⟨ds, d1, d2, d3, d4⟩ := h
  have hn : es.toList.Nodup := (List.pairwise_map.1 hm.nd).imp (fun h e => h (by rw [e]))
  have hp : ds.Perm es.toList := by
    rw [List.perm_ext_iff_of_nodup d3 hn]
    refine fun e => ⟨d2 e, fun he => ?_⟩
    have h1 := all_seen es seen h0 e he
    have h2 : e.born ∈ seen.toList := by simpa using h1
    rw [d1] at h2
    obtain ⟨d, hd, e1⟩ := List.mem_map.1 h2
    rw [← born_one hm.nd (d2 d hd) he e1]
    exact hd
  have h3 := (hp.map (fun e => (e.key, e.val))).map decSe
  rw [d4, hm.ents, List.map_map, List.map_map] at h3
  have h4 : (decSe ∘ entSe) = id := by funext s; exact dec_ent s
  rwa [h4, List.map_id, List.map_id] at h3
theorem wpList_range_se (hg : o.guard = none) (m : Operand) (T : TypeId) (hop : o.op = Op.range T m) (K E : TypeId) (hT : P.underlying T = some (.map K E)) (b : Nat) (hm : a.eval m = .map (some b)) (hb : w.heap[b]? = some (.map es c0))
    (hK : wpList P ops Q rest (a.put o.dst (.pointer (some ⟨w.heap.size, 0, none⟩))) (w.alloc (.mapIter (some b) c0 #[] c0))) : wpList P ops Q (o :: rest) a w := by
  refine wpList_plain hg fun K' hK' => ?_
  have hrun := run_range_map (P := P) w T K E b es c0 hT hb
  unfold Oper.wp
  simp [execOp, hop, hm, hrun, Result.andThen]
  exact hK' _ _ hK
theorem wpList_next_se (hg : o.guard = none) (it : Operand) (hop : o.op = Op.next it false) (r b : Nat) (seen : Array Nat) (c : List Se) (hit : a.eval it = .pointer (some ⟨r, 0, none⟩)) (hr : w.heap[r]? = some (.mapIter (some b) c0 seen c0)) (hb : w.heap[b]? = some (.map es c0)) (h : MapO l es c0) (hs : Seen_ es seen c)
    (hDone : c.Perm l → wpList P ops Q rest (a.put o.dst (.tuple #[.bool false])) w)
    (hMore : ∀ (s : Se) (seen' : Array Nat) (w1 : World), s ∈ l → Seen_ es seen' (c ++ [s]) → (leftOf es seen').size < (leftOf es seen).size → (w1 = w ∨ w1 = w.drew) →
      (Instr.entry (.pointer (some ⟨r, 0, none⟩))).run P (setBlock w1 r (.mapIter (some b) c0 seen' c0)) = .ok (.tuple #[.int .i64 s.client, .agg #[.int .i64 s.client, .int .i64 s.seq, .int .i64 s.rev]]) (setBlock w1 r (.mapIter (some b) c0 seen' c0)) →
      wpList P ops Q rest (a.put o.dst (.tuple #[.bool true, .int .i64 s.client, .agg #[.int .i64 s.client, .int .i64 s.seq, .int .i64 s.rev]])) (setBlock w1 r (.mapIter (some b) c0 seen' c0))) : wpList P ops Q (o :: rest) a w := by
  refine wpList_plain hg fun K' hK' => ?_
  unfold Oper.wp
  rcases run_next_at (P := P) w o.type r b c0 c0 seen es c0 hr hb h.old (Nat.le_refl _) with ⟨h0, hrun⟩ | ⟨e, he, w1, hw, hrun⟩
  · simp [execOp, hop, hit, hrun, Result.andThen]
    exact hK' _ _ (hDone (hs.all h h0))
  · obtain ⟨h1, h2⟩ := mem_left he
    obtain ⟨s, h3, h4, h5⟩ := h.mem h1
    have hne : ¬ b = r := fun e => by rw [e, hr] at hb; cases hb
    have hr1 : w1.heap[r]? = some (.mapIter (some b) c0 seen c0) := by rcases hw with rfl | rfl <;> exact hr
    have hb1 : w1.heap[b]? = some (.map es c0) := by rcases hw with rfl | rfl <;> exact hb
    have hset := MapKept.heap_set (o' := .mapIter (some b) c0 (seen.push e.born) c0) hr1
    have hen := run_entry_at (P := P) (setBlock w1 r (.mapIter (some b) c0 (seen.push e.born) c0)) r b c0 seen es c0 e hset.1 ((hset.2 b hne).trans hb1) h1 h.nd
    rw [h4, h5] at hrun hen
    unfold valSe at hrun hen
    simp [execOp, hop, hit, hrun, Result.andThen]
    exact hK' _ _ (hMore s _ w1 h3 (hs.step h1 h2 h4 h5) (left_shrinks es seen e he) hw hen)
end
section
variable {w0 W : World} {L : List It}
theorem Ms.obj {g : Nat} {o o' : Obj} (h : Ms w0 (.bx g o :: L) W) : Ms w0 (.bx g o' :: L) (setBlock W g o') := by
  have hg := h.glt (i := 0) rfl
  have hset := MapKept.heap_set (o' := o') (show W.heap[g]? = some o from h.at_ (i := 0) rfl)
  refine h.turn (by simp [setBlock]) (fun q hq hn => hset.2 q (fun e => hn (by simp [It.bs]; exact e))) ⟨h.bl.os, h.bl.tape, h.bl.output, by simp [setBlock]; exact h.bl.size, fun q hq => (hset.2 q (by omega)).trans (h.bl.block q hq)⟩ hset.1 (by simp [It.bs]) (fun q hq => .inl hq)
theorem Ms.newO (h : Ms w0 L W) (o : Obj) : Ms w0 (.bx W.heap.size o :: L) (W.alloc o) :=
  h.cons (alloc_below W _) (heap_alloc_new W _) (by simp [It.bs]) (fun q hq => by simp [It.bs] at hq; omega)
theorem Ms.either (h : Ms w0 L W) {W1 : World} (hw : W1 = W ∨ W1 = W.drew) : Ms w0 L W1 := by
  rcases hw with rfl | rfl
  · exact h
  · exact h.drew
end
end Go.Proofs.YtamainhocghlgaaGreatDoor.low


/-
  Rows of clients sorted: the library's words of a sorted row in the words of Ms.
-/
namespace Go.Proofs.YtamainhocghlgaaGreatDoor.low
open Go.RowKit Go.Sort
set_option linter.unusedVariables false

instance : Inhabited Se := ⟨⟨0, 0, 0⟩⟩
def encV (s : Se) : List Value := [.int .i64 s.client, .int .i64 s.seq, .int .i64 s.rev]
theorem flatV_get : ∀ (c : List Se) (t : Nat), (c.flatMap encV)[t]? = (c[t / 3]?).bind (fun s => (encV s)[t % 3]?)
  | [], t => by simp
  | s :: c, t => by
    rw [List.flatMap_cons]
    by_cases h : t < 3
    · rw [List.getElem?_append_left (by simp [encV]; omega), Nat.div_eq_of_lt h, Nat.mod_eq_of_lt h]
      rfl
    · rw [List.getElem?_append_right (by simp [encV]; omega), flatV_get c]
      have e1 : (encV s).length = 3 := rfl
      obtain ⟨k, rfl⟩ : ∃ k, t = k + 3 := ⟨t - 3, by omega⟩
      rw [e1, Nat.add_sub_cancel, Nat.add_mod_right, Nat.add_div_right _ (by omega)]
      rfl
theorem flatV_len : ∀ c : List Se, (c.flatMap encV).length = c.length * 3
  | [] => rfl
  | s :: c => by
    rw [List.flatMap_cons, List.length_append, flatV_len c, List.length_cons]
    show 3 + _ = _
    omega
theorem flatK_at {c : List Se} {t : Nat} (h : t < c.length * 3) : (c.flatMap encV)[t]? = some (flatK encV 3 c.toArray)[t]! := by
  rw [get_flatK encV 3 c.toArray t (by simpa using h), flatV_get]
  have h3 : t / 3 < c.length := by omega
  have e : (c.toArray)[t / 3]! = c[t / 3] := by rw [getElem!_pos c.toArray (t / 3) (by simpa using h3)]; simp
  rw [List.getElem?_eq_getElem h3, e]
  show (encV c[t / 3])[t % 3]? = _
  have h4 : t % 3 < (encV c[t / 3]).length := by show t % 3 < 3; omega
  rw [List.getElem?_eq_getElem h4, getElem!_pos (encV c[t / 3]) (t % 3) h4]
theorem owl_se {w : World} {s : Se} {y : List Value} {b : List Nat} (h : OwL w (encSe s) y b) : y = encV s ∧ b = [] := by
  obtain ⟨x1, y1, b1, b1', rfl, rfl, h1, x2, y2, b2, b2', rfl, rfl, h2, x3, y3, b3, b3', rfl, rfl, h3, rfl, rfl⟩ := h
  obtain ⟨rfl, rfl⟩ := h1
  obtain ⟨rfl, rfl⟩ := h2
  obtain ⟨rfl, rfl⟩ := h3
  exact ⟨rfl, rfl⟩
theorem owl_of (w : World) (s : Se) : OwL w (encSe s) (encV s) [] := ⟨_, _, [], [], rfl, rfl, ⟨rfl, rfl⟩, _, _, [], [], rfl, rfl, ⟨rfl, rfl⟩, _, _, [], [], rfl, rfl, ⟨rfl, rfl⟩, rfl, rfl⟩
theorem owr_se {w : World} : ∀ {c : List Se} {xs : List Value} {cs : List Nat}, OwR w 3 (c.map encSe) xs cs → xs = c.flatMap encV ∧ cs = []
  | [], xs, cs, h => h
  | s :: c, xs, cs, h => by
    obtain ⟨y, ys, b, b', rfl, _, rfl, h1, h2⟩ := h
    obtain ⟨rfl, rfl⟩ := owl_se h1
    obtain ⟨rfl, rfl⟩ := owr_se h2
    exact ⟨rfl, rfl⟩
theorem owr_of (w : World) : ∀ c : List Se, OwR w 3 (c.map encSe) (c.flatMap encV) []
  | [] => ⟨rfl, rfl⟩
  | s :: c => ⟨encV s, c.flatMap encV, [], [], rfl, rfl, rfl, owl_of w s, owr_of w c⟩
theorem holds_se {W : World} {c : List Se} {g n cap : Nat} {b : List Nat} (h : OwC W (encSes c) (.slice (some ⟨g, 0, none⟩) n cap) b) : n = c.length ∧ b = [g] ∧ HoldsK encV 3 W g 0 c.toArray := by
  obtain ⟨hn, xs, cs, ho, hr, hb⟩ := OwC.open_ h
  obtain ⟨rfl, rfl⟩ := owr_se hr
  refine ⟨by simpa using hn, hb, fun j hj => ?_⟩
  have hj' : j < c.length * 3 := by simpa using hj
  rw [Nat.zero_add]
  exact ⟨own_cells ho j _ (flatK_at hj'), ho.frozenAt j⟩
section
variable {w0 W : World} {L : List It}
theorem Ms.sorted {c d : List Se} {g n cap : Nat} {b : List Nat} (h : Ms w0 (.dt (encSes c) (.slice (some ⟨g, 0, none⟩) n cap) b :: L) W) (hd : d.length = c.length) (q : Nat) (os : Array Obj) :
    Ms w0 (.dt (encSes d) (.slice (some ⟨g, 0, none⟩) n cap) b :: L) (sortWorldK encV 3 W g 0 q d.toArray os) := by
  have hx : OwC W (encSes c) (.slice (some ⟨g, 0, none⟩) n cap) b := h.at_ (i := 0) rfl
  obtain ⟨hn, hb, _⟩ := holds_se hx
  obtain ⟨_, xs, cs, ho, hr, _⟩ := OwC.open_ hx
  obtain ⟨rfl, rfl⟩ := owr_se hr
  subst hb
  have hg := h.bsAt (i := 0) rfl g (by simp [It.bs])
  rcases ho.2 with ⟨e0, _⟩ | ⟨g', cap', cur, e0, _, hh, hnc, hm, hs, ht⟩
  · cases e0
  injection e0 with e1 _ e3
  injection e1 with e1
  injection e1 with e1
  subst e1 e3
  have hsz : (sortWorldK encV 3 W g 0 q d.toArray os).heap.size = W.heap.size + os.size := by simp [sortWorldK, putRowK, Sort.putRow, mapBlock, Sort.ahead]
  have hold : ∀ k, k < W.heap.size → k ≠ g → (sortWorldK encV 3 W g 0 q d.toArray os).heap[k]? = W.heap[k]? := fun k hk hne => by
    unfold sortWorldK
    rw [heap_grow_old _ _ (by simpa [putRowK, Sort.putRow, mapBlock, Sort.ahead] using hk)]
    simp [putRowK, Sort.putRow, mapBlock, Sort.ahead, Array.getElem?_modify, Ne.symm hne]
  refine h.turn (by omega) (fun k hk hne => hold k hk (fun e => hne (by simp [It.bs, e]))) ⟨h.bl.os, h.bl.tape, h.bl.output, by have := h.bl.size; omega, fun k hk => (hold k (by have := h.bl.size; omega) (by omega)).trans (h.bl.block k hk)⟩ ?_ (by simp [It.bs]) (fun k hk => .inl hk)
  have hgk : (sortWorldK encV 3 W g 0 q d.toArray os).heap[g]? = some (.cells (putCells id 0 (flatK encV 3 d.toArray) cur) 111 (0, 0)) := by
    unfold sortWorldK
    rw [heap_grow_old _ _ (by simpa [putRowK, Sort.putRow, mapBlock, Sort.ahead] using hg.2)]
    simp [putRowK, Sort.putRow, mapBlock, Sort.ahead, Array.getElem?_modify, hh, onCells]
  have hl1 : (c.map encSe).length = (d.map encSe).length := by simp [hd]
  refine ⟨d.flatMap encV, [], ?_, owr_of _ d, rfl⟩
  rw [hn]
  refine ⟨by rw [flatV_len]; simp, .inr ⟨g, cap, _, by simp [hd], Nat.zero_le _, hgk, by rw [← hl1]; exact hnc, hm, by simpa [putCells] using hs, ?_⟩⟩
  apply List.ext_getElem?
  intro t
  rw [List.getElem?_take, List.length_map]
  by_cases ht' : t < d.length * 3
  · have hcs : t < cur.size := by
      rw [hs]
      have : d.length * 3 ≤ cap * 3 := Nat.mul_le_mul_right 3 (by rw [hd]; simpa using hnc)
      omega
    rw [if_pos ht', flatK_at ht', Array.getElem?_toList]
    simp only [putCells, Array.getElem?_mapIdx, Array.getElem?_eq_getElem hcs, Option.map_some]
    rw [if_pos (by simp; omega)]
    rfl
  · rw [if_neg ht', List.getElem?_eq_none (by rw [flatV_len]; omega)]
end
/-- a sorted permutation of rows of different clients -/
theorem sorted_ord {c d : List Se} (h1 : OneSe c) (hp : PermIn 0 c.toArray.size c.toArray d.toArray) (hs : SortedIn (ltOf fun x y : Se => Lib.compareInt x.client y.client) 0 c.toArray.size d.toArray) : d.length = c.length ∧ d = ordSe c := by
  obtain ⟨p1, _, p3⟩ := hp
  have hl : d.length = c.length := by simpa using p1
  have hperm : d.Perm c := by
    have : (d.toArray.extract 0 c.toArray.size).toList = d := by simp [← hl]
    rw [this] at p3
    simpa using p3
  refine ⟨hl, one_ordered h1 hperm ?_⟩
  have hd1 : OneSe d := (hperm.map Se.client).nodup_iff.2 h1
  unfold AscSe
  rw [List.pairwise_iff_getElem]
  intro i j hi hj hij
  have h2 := hs i j (Nat.zero_le _) hij (by simp; omega)
  rw [getElem!_pos d.toArray i (by simpa using hi), getElem!_pos d.toArray j (by simpa using hj)] at h2
  have hne : ¬ d[i].client = d[j].client := fun e => by
    unfold OneSe List.Nodup at hd1
    rw [List.pairwise_map, List.pairwise_iff_getElem] at hd1
    exact hd1 i j hi hj hij e
  simp only [List.getElem_toArray, ltOf, Lib.compareInt] at h2
  by_cases h3 : d[j].client < d[i].client
  · rw [if_pos h3] at h2
    simp at h2
  · omega
theorem ltSe (x y : Se) : ltOf (fun x y : Se => Lib.compareInt x.client y.client) x y = decide (x.client < y.client) := by
  unfold ltOf Lib.compareInt
  by_cases h1 : x.client < y.client
  · simp [h1]
  · by_cases h2 : y.client < x.client <;> simp [h1, h2]
theorem swoSe : SWO (ltOf fun x y : Se => Lib.compareInt x.client y.client) where
  irrefl x := by rw [ltSe]; simp
  trans x y z h1 h2 := by rw [ltSe] at *; simp at *; omega
  ntrans x y z h1 h2 := by rw [ltSe] at *; simp at *; omega
end Go.Proofs.YtamainhocghlgaaGreatDoor.low

/-
  The library's contracts that this seat's proofs use, laid at this seat's translation by the guide's own tool in plain words; no conditions but those in each statement.
-/
namespace Go.Proofs
open Go.Shelf
def Tryz.lays125_ren : Go.Shelf.Ren := ⟨fun | 125 => 156 | 128 => 174 | 129 => 175 | n => n, fun | 46 => 211 | 3 => 3 | 51 => 227 | 53 => 229 | 4 => 4 | 5 => 5 | 9 => 9 | n => n, fun | n => n⟩
theorem Tryz.lays125 : Go.Proofs.Lays.n125 Tryz.prog Tryz.lays125_ren := {
  mixed := by kernel_rfl
  f125 := Tryz.func156.trans (congrArg some (by kernel_rfl))
  f128 := Tryz.func174.trans (congrArg some (by kernel_rfl))
  f129 := Tryz.func175.trans (congrArg some (by kernel_rfl))
  t3 := Tryz.underlying3
  a3 := Tryz.isAgg3
  z3 := Tryz.sizeOf3
  v3 := Tryz.zeroValue3
  t4 := Tryz.underlying4
  a4 := Tryz.isAgg4
  z4 := Tryz.sizeOf4
  v4 := Tryz.zeroValue4
  t5 := Tryz.underlying5
  a5 := Tryz.isAgg5
  z5 := Tryz.sizeOf5
  v5 := Tryz.zeroValue5
  t9 := Tryz.underlying9
  a9 := Tryz.isAgg9
  z9 := Tryz.sizeOf9
  v9 := Tryz.zeroValue9
  t46 := Tryz.underlying211
  a46 := Tryz.isAgg211
  z46 := Tryz.sizeOf211
  v46 := Tryz.zeroValue211
  t51 := Tryz.underlying227
  a51 := Tryz.isAgg227
  z51 := Tryz.sizeOf227
  v51 := Tryz.zeroValue227
  t53 := Tryz.underlying229
  a53 := Tryz.isAgg229
  z53 := Tryz.sizeOf229
  v53 := Tryz.zeroValue229 }
/-- bits.Len: "Len returns the minimum number of bits required to represent x; the result is 0 for x == 0.": IT RETURNS 'Lib.bitLen x'; the world is as it was. (A uint has 64 bits in the model.) ITS CALLEE bits.Len64 IS MET BY ITS OWN CONTRACT OFF THE SHELF (lay that first). (LAID: no walk: one application.) -/
theorem Tryz.bits_Len (x : Int) (w : World) (h0 : 0 ≤ x) (h1 : x ≤ 18446744073709551615) :
    Calls Tryz.prog 156 #[.int .u64 x] w fun e w' => e = .returned (.int .i64 (Lib.bitLen x.toNat)) ∧ w' = w := Any.bits_Len Tryz.lays125 x w h0 h1
def Tryz.laysM316_ren : Go.Shelf.Ren := ⟨fun | 316 => 100 | n => n, fun | 9 => 9 | 3 => 3 | 4 => 4 | 37 => 137 | 0 => 0 | 127 => 182 | 5 => 5 | n => n, fun | n => n⟩
theorem Tryz.laysM316 : Go.Proofs.LaysM.n316 Tryz.prog Tryz.laysM316_ren := {
  mixed := by kernel_rfl
  f316 := Tryz.func100.trans (congrArg some (by kernel_rfl))
  t0 := Tryz.underlying0
  a0 := Tryz.isAgg0
  z0 := Tryz.sizeOf0
  v0 := Tryz.zeroValue0
  t3 := Tryz.underlying3
  a3 := Tryz.isAgg3
  z3 := Tryz.sizeOf3
  v3 := Tryz.zeroValue3
  t4 := Tryz.underlying4
  a4 := Tryz.isAgg4
  z4 := Tryz.sizeOf4
  v4 := Tryz.zeroValue4
  t9 := Tryz.underlying9
  a9 := Tryz.isAgg9
  z9 := Tryz.sizeOf9
  v9 := Tryz.zeroValue9
  t37 := Tryz.underlying137
  a37 := Tryz.isAgg137
  z37 := Tryz.sizeOf137
  v37 := Tryz.zeroValue137
  t127 := Tryz.underlying182
  a127 := Tryz.isAgg182
  z127 := Tryz.sizeOf182
  v127 := Tryz.zeroValue182
  t5 := Tryz.underlying5
  a5 := Tryz.isAgg5
  z5 := Tryz.sizeOf5
  v5 := Tryz.zeroValue5
  i0 := by kernel_rfl
  i3 := by kernel_rfl
  i4 := by kernel_rfl
  i5 := by kernel_rfl
  i9 := by kernel_rfl
  i37 := by kernel_rfl
  i127 := by kernel_rfl }
open Go.RowKit in
/-- internal/stringslite.Clone (what strings.Clone calls): "Clone returns a fresh copy of s.": THE SAME BYTES. Of what was there nothing has turned (a new row is laid, and frozen, where s is not empty). (LAID: no walk: one application.) -/
theorem Tryz.stringslite_Clone (s : ByteArray) (w : World) (hlim : s.size ≤ 281474976710656) :
    Calls Tryz.prog 100 #[.string s] w fun e w' => e = .returned (.string s) ∧ Below w.heap.size w w' := Any.stringslite_Clone Tryz.laysM316 s w hlim
def Tryz.sortSe_ren : Go.Shelf.Ren := ⟨fun | 6 => 145 | 15 => 156 | 14 => 155 | 28 => 174 | 29 => 175 | 20 => 166 | 21 => 167 | 22 => 168 | 23 => 169 | 24 => 170 | 25 => 171 | 26 => 172 | 27 => 173 | 46 => 183 | 47 => 184 | 48 => 185 | 49 => 186 | 50 => 187 | 57 => 189 | n => n, fun | 22 => 73 | 24 => 111 | 25 => 204 | 3 => 3 | 39 => 211 | 0 => 0 | 53 => 227 | 55 => 229 | 4 => 4 | 46 => 220 | 45 => 219 | 50 => 224 | 5 => 5 | 9 => 9 | 66 => 233 | 70 => 237 | 76 => 239 | 77 => 240 | n => n, fun | n => n⟩
theorem Tryz.sortSe : Go.Proofs.SlLaysF0.n6 Tryz.prog Tryz.sortSe_ren := {
  mixed := by kernel_rfl
  f6 := ⟨Tryz.f145.name, by decide, Tryz.func145.trans (congrArg some (by kernel_rfl))⟩
  f14 := ⟨Tryz.f155.name, by decide, Tryz.func155.trans (congrArg some (by kernel_rfl))⟩
  f15 := Tryz.func156.trans (congrArg some (by kernel_rfl))
  f20 := ⟨Tryz.f166.name, by decide, Tryz.func166.trans (congrArg some (by kernel_rfl))⟩
  f21 := ⟨Tryz.f167.name, by decide, Tryz.func167.trans (congrArg some (by kernel_rfl))⟩
  f22 := ⟨Tryz.f168.name, by decide, Tryz.func168.trans (congrArg some (by kernel_rfl))⟩
  f23 := ⟨Tryz.f169.name, by decide, Tryz.func169.trans (congrArg some (by kernel_rfl))⟩
  f24 := ⟨Tryz.f170.name, by decide, Tryz.func170.trans (congrArg some (by kernel_rfl))⟩
  f25 := ⟨Tryz.f171.name, by decide, Tryz.func171.trans (congrArg some (by kernel_rfl))⟩
  f26 := ⟨Tryz.f172.name, by decide, Tryz.func172.trans (congrArg some (by kernel_rfl))⟩
  f27 := ⟨Tryz.f173.name, by decide, Tryz.func173.trans (congrArg some (by kernel_rfl))⟩
  f28 := Tryz.func174.trans (congrArg some (by kernel_rfl))
  f29 := Tryz.func175.trans (congrArg some (by kernel_rfl))
  f46 := ⟨Tryz.f183.name, by decide, Tryz.func183.trans (congrArg some (by kernel_rfl))⟩
  f47 := Tryz.func184.trans (congrArg some (by kernel_rfl))
  f48 := Tryz.func185.trans (congrArg some (by kernel_rfl))
  f49 := ⟨Tryz.f186.name, by decide, Tryz.func186.trans (congrArg some (by kernel_rfl))⟩
  f50 := ⟨Tryz.f187.name, by decide, Tryz.func187.trans (congrArg some (by kernel_rfl))⟩
  f57 := ⟨Tryz.f189.name, by decide, Tryz.func189.trans (congrArg some (by kernel_rfl))⟩
  t0 := Tryz.underlying0
  a0 := Tryz.isAgg0
  z0 := Tryz.sizeOf0
  v0 := Tryz.zeroValue0
  t3 := Tryz.underlying3
  a3 := Tryz.isAgg3
  z3 := Tryz.sizeOf3
  v3 := Tryz.zeroValue3
  t4 := Tryz.underlying4
  a4 := Tryz.isAgg4
  z4 := Tryz.sizeOf4
  v4 := Tryz.zeroValue4
  t5 := Tryz.underlying5
  a5 := Tryz.isAgg5
  z5 := Tryz.sizeOf5
  v5 := Tryz.zeroValue5
  t9 := Tryz.underlying9
  a9 := Tryz.isAgg9
  z9 := Tryz.sizeOf9
  v9 := Tryz.zeroValue9
  t22 := Tryz.underlying73
  a22 := Tryz.isAgg73
  z22 := Tryz.sizeOf73
  v22 := Tryz.zeroValue73
  t25 := Tryz.underlying204
  a25 := Tryz.isAgg204
  z25 := Tryz.sizeOf204
  v25 := Tryz.zeroValue204
  t39 := Tryz.underlying211
  a39 := Tryz.isAgg211
  z39 := Tryz.sizeOf211
  v39 := Tryz.zeroValue211
  t45 := Tryz.underlying219
  a45 := Tryz.isAgg219
  z45 := Tryz.sizeOf219
  v45 := Tryz.zeroValue219
  t46 := Tryz.underlying220
  a46 := Tryz.isAgg220
  z46 := Tryz.sizeOf220
  v46 := Tryz.zeroValue220
  t50 := Tryz.underlying224
  a50 := Tryz.isAgg224
  z50 := Tryz.sizeOf224
  v50 := Tryz.zeroValue224
  t53 := Tryz.underlying227
  a53 := Tryz.isAgg227
  z53 := Tryz.sizeOf227
  v53 := Tryz.zeroValue227
  t55 := Tryz.underlying229
  a55 := Tryz.isAgg229
  z55 := Tryz.sizeOf229
  v55 := Tryz.zeroValue229
  t66 := Tryz.underlying233
  a66 := Tryz.isAgg233
  z66 := Tryz.sizeOf233
  v66 := Tryz.zeroValue233
  t70 := Tryz.underlying237
  a70 := Tryz.isAgg237
  z70 := Tryz.sizeOf237
  v70 := Tryz.zeroValue237
  t76 := Tryz.underlying239
  a76 := Tryz.isAgg239
  z76 := Tryz.sizeOf239
  v76 := Tryz.zeroValue239
  t77 := Tryz.underlying240
  a77 := Tryz.isAgg240
  z77 := Tryz.sizeOf240
  v77 := Tryz.zeroValue240 }
end Go.Proofs


/-
  Contracts of impl.requestsOf and of a map's rows in order. Written by mkimp8.py.
-/
namespace Go.Proofs.YtamainhocghlgaaGreatDoor.low
open Go.RowKit Go.Sort
set_option linter.unusedVariables false

theorem rqT : Tryz.prog.underlying 195 = some (.map 3 111) := by kernel_rfl
theorem rqK : Tryz.prog.underlying 3 = some (.int .i64) := by kernel_rfl
theorem rqZ (w : World) : (zeroValue 111).run Tryz.prog w = .ok (valSe ⟨0, 0, 0⟩) w := by kernel_rfl
/-- a map of one's own -/
def MapPost (l : List Se) (w : World) (e : Ending) (w' : World) : Prop := ∃ (g : Nat) (es : Array MapEntry) (c0 : Nat), e = .returned (.map (some g)) ∧ MapO l es c0 ∧ w'.heap[g]? = some (.map es c0) ∧ w.heap.size ≤ g ∧ Below w.heap.size w w'
set_option maxRecDepth 100000 in
set_option maxHeartbeats 3200000 in
theorem implRequestsOf_d (v : Value) (l : List Se) (w : World) (h : RdC w w.heap.size (encSes l) v) (hs : SmSes l) : Calls Tryz.prog 136 #[v] w (MapPost (dedSe l) w) := by
  obtain ⟨A, c, rfl⟩ := sliceSes h
  have hl := hs.len
  have HR := Lib.hid h
  clear h
  have HM := Lib.hid (Ms.start w)
  replace HM := Lib.hid (show Ms w [.bx w.heap.size (.map #[] 0)] (w.alloc (.map #[] 0)) from HM.out.newO _)
  have hmm := @run_makeMap Tryz.prog
  go_enter Tryz.func136, Tryz.ntmps136
  go_wp2
  clear hmm
  go_loopw [11] (fun i wr => ∃ (j : Nat) (es : Array MapEntry) (c0 : Nat), j ≤ l.length ∧ i = .int .i64 (j : Int) ∧ MapO (dedSe (l.take j)) es c0 ∧ Ms w [.bx w.heap.size (.map es c0)] wr) (fun i _ => l.length - (intOf i).toNat)
  case atStart => exact ⟨0, _, _, Nat.zero_le _, rfl, MapO.new, HM.out⟩
  case round =>
    obtain ⟨j, es, c0, hj, rfl, hm0, hm⟩ := hrel
    clear HM
    have HM := Lib.hid hm
    have HO := Lib.hid hm0
    clear hm hm0
    by_cases hlt : j < l.length
    · obtain ⟨b, off, s, rfl, hbb, hp, y0, y1, y2⟩ := atSes HR.out hlt
      have x0 := (HM.out.bl.cell (p := ⟨b, off + j * 3, none⟩) hbb).trans y0
      have x1 := (HM.out.bl.cell (p := ⟨b, off + j * 3 + 1, none⟩) hbb).trans y1
      have x2 := (HM.out.bl.cell (p := ⟨b, off + j * 3 + 2, none⟩) hbb).trans y2
      clear y0 y1 y2
      have HD := Lib.hid (ded_snoc hp)
      clear hp
      replace HM := Lib.hid (HM.out.new #[.int .i64 s.client, .int .i64 s.seq, .int .i64 s.rev] 111)
      cases hg : seenGo s.client (dedSe (l.take j)) with
      | none =>
        have HG := Lib.hid hg
        clear hg
        have HM1 := HM
        have hm := HM.out.new #[.int .i64 0, .int .i64 0, .int .i64 0] 111
        simp only [World.size_alloc] at hm
        replace HM := Lib.hid hm
        clear hm
        have HD2 := Lib.hid (show dedSe (l.take (j + 1)) = putSe (dedSe (l.take j)) s by rw [HD.out]; unfold firstSe; rw [HG.out]; rfl)
        go_wp2_with (first | (at_lookup; refine wpList_lookup_none rfl (.tmp 16) (.tmp 18) 195 rfl 3 111 rqT rqK rqZ w.heap.size rfl s.client rfl (HM1.out.at_ (i := 1) rfl) HO.out HG.out ?_) | (at_mapUpdate; refine wpList_update_se rfl (.tmp 24) (.tmp 26) (.tmp 27) 195 rfl 3 111 rqT rqK w.heap.size rfl s rfl rfl (HM.out.at_ (i := 2) rfl) HO.out ?_; intro es' c' hm1))
        clear HM1
        have hm := HM.out.pk [2, 0, 1] (by decide) (by simp)
        simp only [low.pk, List.getElem?_cons_zero, List.getElem?_cons_succ] at hm
        replace HM := Lib.hid hm
        clear hm
        have hm := HM.out.obj (o' := .map es' c')
        go_roundw
        case rel => exact ⟨j + 1, es', c', by omega, by go_num, by rw [HD2.out]; exact hm1, hm.pick (ks := [0]) (by decide) rfl⟩
        case measure => simp [intOf]; omega
      | some u =>
        have HG := Lib.hid hg
        clear hg
        have HM1 := HM
        have hm := HM.out.new #[.int .i64 u.client, .int .i64 u.seq, .int .i64 u.rev] 111
        simp only [World.size_alloc] at hm
        replace HM := Lib.hid hm
        clear hm
        have HD2 := Lib.hid (show dedSe (l.take (j + 1)) = dedSe (l.take j) by rw [HD.out]; unfold firstSe; rw [HG.out]; rfl)
        go_wp2_with (at_lookup; refine wpList_lookup_hit rfl (.tmp 16) (.tmp 18) 195 rfl 3 111 rqT rqK rqZ w.heap.size rfl s.client rfl (HM1.out.at_ (i := 1) rfl) HO.out HG.out ?_)
        clear HM1
        go_roundw
        case rel => exact ⟨j + 1, es, c0, by omega, by go_num, by rw [HD2.out]; exact HO.out, HM.out.pick (ks := [2]) (by decide) rfl⟩
        case measure => simp [intOf]; omega
    · obtain rfl : j = l.length := by omega
      have hm0 := HO.out
      rw [List.take_length] at hm0
      have HO2 := Lib.hid hm0
      clear hm0 HO
      go_wp2
      go_ret
      exact ⟨_, es, c0, rfl, HO2.out, HM.out.at_ (i := 0) rfl, Nat.le_refl _, HM.out.bl⟩
theorem isNaN_any (a : Int) (w : World) : Calls Tryz.prog 157 #[.int .i64 a] w fun e w' => e = .returned (.bool false) ∧ w = w' := by
  go_enter Tryz.func157, Tryz.ntmps157
  go_wp2
  go_ret
  exact ⟨by simp, rfl⟩
set_option maxHeartbeats 1600000 in
theorem compare_any (a b : Int) (w : World) : Calls Tryz.prog 147 #[.int .i64 a, .int .i64 b] w fun e w' => e = .returned (.int .i64 (Lib.compareInt a b)) ∧ w = w' := by
  by_cases h1 : a < b
  · have HC := Lib.hid (show Lib.compareInt a b = -1 by unfold Lib.compareInt; rw [if_pos h1])
    go_enter Tryz.func147, Tryz.ntmps147
    go_wp2_with (go_at_call 157; refine (isNaN_any _ _).mono ?_; rintro e w' ⟨rfl, rfl⟩)
    go_ret
    exact ⟨by rw [HC.out]; rfl, rfl⟩
  by_cases h2 : b < a
  · have HC := Lib.hid (show Lib.compareInt a b = 1 by unfold Lib.compareInt; rw [if_neg h1, if_pos h2])
    go_enter Tryz.func147, Tryz.ntmps147
    go_wp2_with (go_at_call 157; refine (isNaN_any _ _).mono ?_; rintro e w' ⟨rfl, rfl⟩)
    go_ret
    exact ⟨by rw [HC.out]; rfl, rfl⟩
  · have HC := Lib.hid (show Lib.compareInt a b = 0 by unfold Lib.compareInt; rw [if_neg h1, if_neg h2])
    go_enter Tryz.func147, Tryz.ntmps147
    go_wp2_with (go_at_call 157; refine (isNaN_any _ _).mono ?_; rintro e w' ⟨rfl, rfl⟩)
    go_ret
    exact ⟨by rw [HC.out]; rfl, rfl⟩
set_option maxHeartbeats 1600000 in
theorem byClient_any (x y : Se) (w : World) : Calls Tryz.prog 146 #[.agg #[.int .i64 x.client, .int .i64 x.seq, .int .i64 x.rev], .agg #[.int .i64 y.client, .int .i64 y.seq, .int .i64 y.rev]] w fun e w' => e = .returned (.int .i64 (Lib.compareInt x.client y.client)) ∧ ∃ q os', w' = grow (w.drewN q) os' := by
  have hcon := fun W' => compare_any x.client y.client W'
  generalize Lib.compareInt x.client y.client = r at hcon ⊢
  go_enter Tryz.func146, Tryz.ntmps146
  go_wp2_with (go_at_call 147; refine (hcon _).mono ?_; rintro e w' ⟨rfl, rfl⟩)
  go_ret
  exact ⟨rfl, 0, _, by rw [alloc_eq_grow, alloc_eq_grow, grow_grow]; rfl⟩
theorem byClient_lays (blk off size : Nat) (w : World) : CmpLays Tryz.prog 146 #[] encV 3 (fun x y => Lib.compareInt x.client y.client) blk off size w := fun _ _ _ _ x y => byClient_any x y _
set_option maxHeartbeats 1600000 in
theorem ins_none (p : Option Addr) (cap : Nat) (fv : Value) (w : World) : Calls Tryz.prog 166 #[.slice p 0 cap, .int .i64 0, .int .i64 0, fv] w fun e w' => e = .returned (.tuple #[]) ∧ w = w' := by
  go_enter Tryz.func166, Tryz.ntmps166
  go_wp2
  refine wp_loop_rounds 1 ?_
  rw [rounds_succ]
  go_wp2
  go_end0
  exact ⟨rfl, rfl⟩
set_option maxHeartbeats 1600000 in
theorem pdq_none (p : Option Addr) (cap : Nat) (lim : Int) (fv : Value) (w : World) : Calls Tryz.prog 155 #[.slice p 0 cap, .int .i64 0, .int .i64 0, .int .i64 lim, fv] w fun e w' => e = .returned (.tuple #[]) ∧ w = w' := by
  go_enter Tryz.func155, Tryz.ntmps155
  go_wp2
  refine wp_loop_rounds 1 ?_
  rw [rounds_succ]
  go_wp2_with (go_at_call 166; refine (ins_none p cap fv _).mono ?_; rintro e w' ⟨rfl, rfl⟩)
  (try simp only [Exit.inBlock, Exit.then]); refine bodyPost_ret (results_none rfl _ _ _) rfl ?_
  exact ⟨rfl, rfl⟩
set_option maxHeartbeats 1600000 in
theorem sort_none (p : Option Addr) (cap : Nat) (fv : Value) (w : World) : Calls Tryz.prog 145 #[.slice p 0 cap, fv] w fun e w' => e = .returned (.tuple #[]) ∧ w = w' := by
  have hl : ∀ W, Calls Tryz.prog 156 #[.int .u64 0] W fun e w' => e = .returned (.int .i64 (Lib.bitLen 0 : Nat)) ∧ w' = W := fun W => Tryz.bits_Len 0 W (by omega) (by omega)
  go_enter Tryz.func145, Tryz.ntmps145
  go_wp2_with (first | (go_at_call 156; refine (hl _).mono ?_; rintro e w' ⟨rfl, rfl⟩) | (go_at_call 155; refine (pdq_none p cap _ fv _).mono ?_; rintro e w' ⟨rfl, rfl⟩))
  go_end0
  exact ⟨rfl, rfl⟩
theorem sort_rows (g cap : Nat) (c : List Se) (w : World) (hH : HoldsK encV 3 w g 0 c.toArray) (hg : g < w.heap.size) (hl : c.length ≤ 2000000) (h1 : OneSe c) :
    Calls Tryz.prog 145 #[.slice (some ⟨g, 0, none⟩) c.length cap, .func (.func 146) #[] #[]] w fun e w' => e = .returned (.tuple #[]) ∧ ∃ n os, w' = sortWorldK encV 3 w g 0 n (ordSe c).toArray os ∧ (ordSe c).length = c.length := by
  have eg : ∀ args w, (callFunc 146 args).run Tryz.prog w = .ok (.enter 146 args) w := enters_of Tryz.func146 (by kernel_rfl) rfl
  have hcon := AnyQ.slices_SortFunc Tryz.sortSe 3 (fun w => by kernel_rfl) (fun w => by kernel_rfl) encV (fun _ => rfl) (fun x v hv => by simp [encV] at hv; rcases hv with rfl | rfl | rfl <;> rfl) (fun x y => Lib.compareInt x.client y.client) swoSe 146 #[] g 0 cap c.toArray w eg (byClient_lays g 0 _ w) hH hg (by simp; omega)
  rw [List.size_toArray] at hcon
  refine Calls.mono hcon fun e w' ⟨he, d', n, os, hp, hs, hw⟩ => ?_
  obtain ⟨d, rfl⟩ : ∃ d : List Se, d' = d.toArray := ⟨d'.toList, by simp⟩
  obtain ⟨k1, rfl⟩ := sorted_ord h1 (by simpa using hp) (by simpa using hs)
  exact ⟨he, n, os, hw, k1⟩
theorem ord_perm {l c : List Se} (h : OneSe l) (hp : c.Perm l) : ordSe c = ordSe l := one_ordered h (ordSe_perm.trans hp) (ordSe_asc ((hp.map Se.client).nodup_iff.2 h))
theorem left_all {es : Array MapEntry} : (leftOf es #[]).size = es.size := by unfold leftOf; simp
set_option maxRecDepth 100000 in
set_option maxHeartbeats 3200000 in
theorem implInOrder_d (g : Nat) (l : List Se) (es : Array MapEntry) (c0 : Nat) (w : World) (hb : w.heap[g]? = some (.map es c0)) (h : MapO l es c0) (hl : l.length ≤ 1048576) : Calls Tryz.prog 137 #[.map (some g)] w (OwnPost (encSes (ordSe l)) w) := by
  have hg : g < w.heap.size := lt_of_some hb
  have HB := Lib.hid hb
  have HO := Lib.hid h
  have hes : es.size ≤ 1048576 := by have := congrArg List.length h.ents; simp at this; omega
  clear hb h
  have HM := Lib.hid (Ms.start w)
  replace HM := Lib.hid (show Ms w [.dt (.rows 111 3 (([] : List Se).map encSe)) (.slice none 0 0) []] w from HM.out.nil 111 3)
  replace HM := Lib.hid (show Ms w [.bx w.heap.size (.mapIter (some g) c0 #[] c0), .dt (.rows 111 3 (([] : List Se).map encSe)) (.slice none 0 0) []] (w.alloc (.mapIter (some g) c0 #[] c0)) from HM.out.newO _)
  go_enter Tryz.func137, Tryz.ntmps137
  go_wp2_with (at_range; refine wpList_range_se rfl (.tmp 6) 195 rfl 3 111 rqT g rfl HB.out ?_)
  go_frame
  go_loopw [3] (fun lv wr => ∃ (c : List Se) (seen : Array Nat) (A1 : Option Addr) (c1 : Nat) (bs : List Nat), Seen_ es seen c ∧ c.length + (leftOf es seen).size ≤ 1048576 ∧ lv = .slice A1 c.length c1 ∧ Ms w [.bx w.heap.size (.mapIter (some g) c0 seen c0), .dt (.rows 111 3 (c.map encSe)) (.slice A1 c.length c1) bs] wr) (fun _ wr => wr.rangeLeft g w.heap.size)
  case atStart => exact ⟨[], #[], none, 0, [], Seen_.nil es, by rw [left_all]; simpa using hes, rfl, HM.out⟩
  case round =>
    obtain ⟨c, seen, A1, c1, bs, hs, hlen, rfl, hm⟩ := hrel
    clear HM
    have HM := Lib.hid hm
    have HS := Lib.hid hs
    clear hm hs
    have hb1 : wr.heap[g]? = some (.map es c0) := (HM.out.bl.block g hg).trans HB.out
    have HB1 := Lib.hid hb1
    clear hb1
    have HRL := Lib.hid (show wr.rangeLeft g w.heap.size = (leftOf es seen).size by unfold World.rangeLeft; rw [HB1.out, show wr.heap[w.heap.size]? = some (.mapIter (some g) c0 seen c0) from HM.out.at_ (i := 0) rfl])
    go_wp2_with (at_next; refine wpList_next_se rfl (.tmp 7) rfl w.heap.size g seen c rfl (HM.out.at_ (i := 0) rfl) HB1.out HO.out HS.out ?_ ?_)
    · intro hp
      have HP := Lib.hid hp
      clear hp
      have HC := Lib.hid (show OneSe c from (HP.out.map Se.client).nodup_iff.2 HO.out.one)
      obtain ⟨b9, hm9⟩ : ∃ b9, Ms w [.dt (encSes c) (.slice A1 c.length c1) b9] wr := ⟨bs, HM.out.pick (ks := [1]) (by decide) rfl⟩
      have HM9 := Lib.hid hm9
      clear hm9 HM
      go_wp2_with fail
      rcases OwC.cases (show OwC wr (encSes c) (.slice A1 c.length c1) b9 from HM9.out.at_ (i := 0) rfl) with ⟨hv, h0, _⟩ | ⟨gc, cap, hv⟩
      · injection hv with e1 e2 e3
        subst e1 e3
        clear e2
        obtain rfl : c = [] := by cases c with | nil => rfl | cons s c => cases h0
        clear h0
        refine (sort_none none 0 _ _).mono ?_
        rintro e' w' ⟨rfl, rfl⟩
        go_wp2
        go_ret
        have e9 : ordSe l = [] := by rw [← ord_perm HO.out.one HP.out]; rfl
        rw [e9]
        exact HM9.out.post
      · injection hv with e1 e2 e3
        subst e1 e3
        clear e2
        obtain ⟨-, -, hH⟩ := holds_se (show OwC wr (encSes c) _ b9 from HM9.out.at_ (i := 0) rfl)
        have hgc : gc < wr.heap.size := (HM9.out.bsAt (i := 0) rfl gc (OwC.head (HM9.out.at_ (i := 0) rfl))).2
        refine (sort_rows gc c1 c _ hH hgc (by omega) HC.out).mono ?_
        rintro e' w' ⟨rfl, n9, os9, rfl, hl9⟩
        have hm := HM9.out.sorted hl9 n9 os9
        clear hH hgc
        generalize sortWorldK encV 3 wr gc 0 n9 (ordSe c).toArray os9 = W9 at hm ⊢
        have HM8 := Lib.hid hm
        clear hm HM9 hl9 hlen hes
        go_wp2
        go_ret
        rw [← ord_perm HO.out.one HP.out]
        exact HM8.out.post
    · intro s seen' w1 hsl hs' hlt hw hen
      have HS2 := Lib.hid hs'
      clear hs' hsl
      have hm := (HM.out.either hw).obj (o' := .mapIter (some g) c0 seen' c0)
      clear HM hw
      generalize Go.ChangeMaps.setBlock w1 w.heap.size (.mapIter (some g) c0 seen' c0) = W1 at hm hen ⊢
      have HM := Lib.hid hm
      clear hm
      replace HM := Lib.hid (HM.out.new #[.int .i64 s.client, .int .i64 s.seq, .int .i64 s.rev] 111)
      have hm := HM.out.new #[.int .i64 s.client, .int .i64 s.seq, .int .i64 s.rev] 111
      simp only [World.size_alloc] at hm
      replace HM := Lib.hid hm
      clear hm
      replace HM := Lib.hid (show Ms w [.dt (.agg (encSe s)) (.agg ([.int .i64 s.client, .int .i64 s.seq, .int .i64 s.rev] : List Value).toArray) [], .bx (W1.heap.size + 1) (.cells #[.int .i64 s.client, .int .i64 s.seq, .int .i64 s.rev] 111 (0, 0)), .bx W1.heap.size (.cells #[.int .i64 s.client, .int .i64 s.seq, .int .i64 s.rev] 111 (0, 0)), .bx w.heap.size (.mapIter (some g) c0 seen' c0), .dt (.rows 111 3 (c.map encSe)) (.slice A1 c.length c1) bs] ((W1.alloc (.cells #[.int .i64 s.client, .int .i64 s.seq, .int .i64 s.rev] 111)).alloc (.cells #[.int .i64 s.client, .int .i64 s.seq, .int .i64 s.rev] 111)) from ((HM.out.pk0.pkF rfl).pkF rfl).pkF rfl)
      have hm := HM.out.pk [4, 0, 1, 2, 3] (by decide) (by simp)
      simp only [low.pk, List.getElem?_cons_zero, List.getElem?_cons_succ] at hm
      replace HM := Lib.hid hm
      clear hm
      go_wp2_with (at_builtin; refine wpList_ms1 rfl (.tmp 12) (.tmp 14) 73 rfl eltSe HM.out rfl (by simp; omega) (W1.heap.size + 1) _ rfl (HM.out.at_ (i := 2) rfl) rfl (by simp [Value.oneCell']) ?_; intro A7 c7 w7 b7 hm)
      have e1 : (c.map encSe).length = c.length := by simp
      rw [e1] at hm
      try rw [e1]
      have HM7 := Lib.hid (show Ms w [.bx w.heap.size (.mapIter (some g) c0 seen' c0), .dt (.rows 111 3 (c.map encSe ++ [encSe s])) (.slice A7 (c.length + 1) c7) b7] w7 from hm.pick (ks := [3, 0]) (by decide) rfl)
      clear hm e1 HM hen
      go_wp2
      go_roundw
      case rel => exact ⟨c ++ [s], seen', A7, c7, b7, HS2.out, by simp; omega, by simp, by simpa using HM7.out⟩
      case measure => rw [HRL.out]; have e9 : w7.rangeLeft g w.heap.size = (leftOf es seen').size := (by unfold World.rangeLeft; rw [(HM7.out.bl.block g hg).trans HB.out, show w7.heap[w.heap.size]? = some (.mapIter (some g) c0 seen' c0) from HM7.out.at_ (i := 0) rfl]); rw [e9]; exact hlt
end Go.Proofs.YtamainhocghlgaaGreatDoor.low


/-
  Contracts of impl.seenOk. Written by mkimp8b.py.
-/
namespace Go.Proofs.YtamainhocghlgaaGreatDoor.low
open Go.RowKit
set_option linter.unusedVariables false

theorem seens_len : ∀ {l m : List Se}, ¬ l.length = m.length → seensB l m = false
  | [], [], h => absurd rfl h
  | [], _ :: _, _ => rfl
  | _ :: _, [], _ => rfl
  | a :: l, b :: m, h => by
    rw [seensB, seens_len (l := l) (m := m) (by simpa using h), Bool.and_false]
set_option maxRecDepth 100000 in
set_option maxHeartbeats 3200000 in
theorem equalSe_d (v v' : Value) (l m : List Se) (w : World) (h : RdC w w.heap.size (encSes l) v) (h' : RdC w w.heap.size (encSes m) v') (hl : l.length ≤ 1048576) (hm : m.length ≤ 1048577) : Calls Tryz.prog 135 #[v, v'] w (Tells (seensB l m) w) := by
  obtain ⟨A, c, rfl⟩ := sliceSes h
  obtain ⟨A', c', rfl⟩ := sliceSes h'
  have HR := Lib.hid h
  have HR' := Lib.hid h'
  clear h h'
  by_cases hlen : l.length = m.length
  · have gl : (((l.length : Int)) != (m.length : Int)) = false := by simp [hlen]
    have HL := Lib.hid hlen
    clear hlen
    go_enter Tryz.func135, Tryz.ntmps135
    go_wp2
    go_loopw [13] (fun i wr => ∃ j : Nat, j ≤ l.length ∧ i = .int .i64 (j : Int) ∧ seensB l m = seensB (l.drop j) (m.drop j) ∧ Below w.heap.size w wr) (fun i _ => l.length - (intOf i).toNat)
    case atStart => exact ⟨0, Nat.zero_le _, rfl, by simp, Below.refl _ _⟩
    case round =>
      obtain ⟨j, hj, rfl, hi, hbel⟩ := hrel
      have HI := Lib.hid hi
      clear hi
      by_cases hlt : j < l.length
      · have hlt2 : j < m.length := by have := HL.out; omega
        obtain ⟨b, off, s, rfl, hbb, hp, x0, x1, x2⟩ := atSes (HR.out.below hbel) hlt
        obtain ⟨b', off', u, rfl, hbb', hp', y0, y1, y2⟩ := atSes (HR'.out.below hbel) hlt2
        have HS := Lib.hid (seensB_step hp hp')
        clear hp hp'
        by_cases h1 : s = u
        · subst h1
          have HS2 := Lib.hid (show seensB l m = seensB (l.drop (j + 1)) (m.drop (j + 1)) by rw [HI.out, HS.out, seSame_eq.2 rfl, Bool.true_and])
          go_wp2
          go_quiet (fail)
          go_wp2
          go_roundw
          case rel => exact ⟨j + 1, by omega, by go_num, HS2.out, hbel.trans ⟨rfl, rfl, rfl, Nat.le_refl _, fun _ _ => rfl⟩⟩
          case measure => simp [intOf]; omega
        · have HS2 := Lib.hid (show seensB l m = false by rw [HI.out, HS.out, Bool.eq_false_iff.2 (fun e => h1 (seSame_eq.1 e)), Bool.false_and])
          have h2 : ((s.client == u.client) && ((s.seq == u.seq) && (s.rev == u.rev))) = false := by rw [Bool.eq_false_iff]; intro e; simp at e; obtain ⟨s1, s2, s3⟩ := s; obtain ⟨u1, u2, u3⟩ := u; simp at e; obtain ⟨rfl, rfl, rfl⟩ := e; exact h1 rfl
          clear h1
          cases q1 : s.client == u.client
          · clear h2
            go_wp2
            go_quiet (fail)
            go_wp2
            go_ret
            exact ⟨ret_b HS2.out.symm, hbel.trans ⟨rfl, rfl, rfl, Nat.le_refl _, fun _ _ => rfl⟩⟩
          cases q2 : s.seq == u.seq
          · clear h2
            go_wp2
            go_quiet (fail)
            go_wp2
            go_ret
            exact ⟨ret_b HS2.out.symm, hbel.trans ⟨rfl, rfl, rfl, Nat.le_refl _, fun _ _ => rfl⟩⟩
          have q3 : (s.rev == u.rev) = false := by simpa [q1, q2] using h2
          clear h2
          go_wp2
          go_quiet (fail)
          go_wp2
          go_ret
          exact ⟨ret_b HS2.out.symm, hbel.trans ⟨rfl, rfl, rfl, Nat.le_refl _, fun _ _ => rfl⟩⟩
      · have h9 : l.drop j = [] := List.drop_eq_nil_of_le (by omega)
        have h8 : m.drop j = [] := List.drop_eq_nil_of_le (by have := HL.out; omega)
        have HS2 := Lib.hid (show seensB l m = true by rw [HI.out, h9, h8]; rfl)
        clear h9 h8
        go_wp2
        go_ret
        exact ⟨ret_b HS2.out.symm, hbel⟩
  · have gl : (((l.length : Int)) != (m.length : Int)) = true := by simp; omega
    have HS2 := Lib.hid (seens_len hlen)
    clear hlen
    go_enter Tryz.func135, Tryz.ntmps135
    go_wp2
    go_ret
    exact ⟨ret_b HS2.out.symm, Below.refl _ _⟩
set_option maxRecDepth 100000 in
set_option maxHeartbeats 3200000 in
theorem implSeenOk_d (v : Value) (l : List Se) (head : Int) (w : World) (h : RdC w w.heap.size (encSes l) v) (hs : SmSes l) : Calls Tryz.prog 115 #[v, .int .i64 head] w (Tells (seenIB head l) w) := by
  obtain ⟨A, c, rfl⟩ := sliceSes h
  have hl := hs.len
  have HR := Lib.hid h
  clear h
  have HM := Lib.hid (Ms.start w)
  go_enter Tryz.func115, Tryz.ntmps115
  go_wp2
  go_loopw [9] (fun i wr => ∃ j : Nat, j ≤ l.length ∧ i = .int .i64 (j : Int) ∧ (l.take j).all (okSe head) = true ∧ Ms w [] wr) (fun i _ => l.length - (intOf i).toNat)
  case atStart => exact ⟨0, Nat.zero_le _, rfl, by simp, HM.out⟩
  case round =>
    obtain ⟨j, hj, rfl, hi, hm⟩ := hrel
    clear HM
    have HM := Lib.hid hm
    have HI := Lib.hid hi
    clear hm hi
    by_cases hlt : j < l.length
    · obtain ⟨b, off, s, rfl, hbb, hp, y0, y1, y2⟩ := atSes HR.out hlt
      have x0 := (HM.out.bl.cell (p := ⟨b, off + j * 3, none⟩) hbb).trans y0
      have x1 := (HM.out.bl.cell (p := ⟨b, off + j * 3 + 1, none⟩) hbb).trans y1
      have x2 := (HM.out.bl.cell (p := ⟨b, off + j * 3 + 2, none⟩) hbb).trans y2
      clear y0 y1 y2
      have HT := Lib.hid (show (l.take (j + 1)).all (okSe head) = okSe head s by rw [List.take_add_one, hp, List.all_append, HI.out]; simp)
      have HF := Lib.hid (show okSe head s = false → seenIB head l = false from fun e => by unfold seenIB; rw [show l.all (okSe head) = false from Bool.eq_false_iff.2 (fun e2 => by rw [List.all_eq_true.1 e2 s (List.mem_of_getElem? hp)] at e; cases e), Bool.false_and])
      clear hp
      replace HM := Lib.hid (HM.out.new #[.int .i64 s.client, .int .i64 s.seq, .int .i64 s.rev] 111)
      have HE := Lib.hid (show okSe head s = (inB s.client 1 8 && inB s.seq 1 1000000000 && inB s.rev 1 head) from rfl)
      go_wp2_with fail
      refine (clientOk_any _ _).mono ?_
      rintro e' w' ⟨rfl, rfl⟩
      cases h1 : inB s.client 1 8
      · go_wp2
        go_ret
        exact ⟨ret_b (HF.out (by rw [HE.out, h1]; simp)).symm, HM.out.bl⟩
      go_wp2_with fail
      refine (seqOk_any _ _).mono ?_
      rintro e' w' ⟨rfl, rfl⟩
      cases h2 : inB s.seq 1 1000000000
      · go_wp2
        go_ret
        exact ⟨ret_b (HF.out (by rw [HE.out, h1, h2]; simp)).symm, HM.out.bl⟩
      by_cases h3 : s.rev < 1
      · have h9 : inB s.rev 1 head = false := inB_f (by omega)
        have H9 := Lib.hid h9
        clear h9
        have g3 : decide (s.rev < 1) = true := decide_eq_true h3
        go_wp2
        go_ret
        exact ⟨ret_b (HF.out (by rw [HE.out, h1, h2, H9.out]; simp)).symm, HM.out.bl⟩
      have g3 : decide (s.rev < 1) = false := decide_eq_false h3
      by_cases h4 : head < s.rev
      · have h9 : inB s.rev 1 head = false := inB_f (by omega)
        have H9 := Lib.hid h9
        clear h9
        have g4 : decide (head < s.rev) = true := decide_eq_true h4
        go_wp2
        go_ret
        exact ⟨ret_b (HF.out (by rw [HE.out, h1, h2, H9.out]; simp)).symm, HM.out.bl⟩
      have g4 : decide (head < s.rev) = false := decide_eq_false h4
      have H9 := Lib.hid (show okSe head s = true by rw [HE.out, h1, h2, inB_t (by omega)]; rfl)
      go_wp2
      go_roundw
      case rel => exact ⟨j + 1, by omega, by go_num, by rw [HT.out, H9.out], HM.out.pick (ks := []) (by decide) rfl⟩
      case measure => simp [intOf]; omega
    · obtain rfl : j = l.length := by omega
      have HI2 := Lib.hid (show l.all (okSe head) = true by have := HI.out; rwa [List.take_length] at this)
      clear HI
      go_wp2_with fail
      refine (implRequestsOf_d _ l _ (HM.out.arg HR.out) hs).mono ?_
      rintro e' W1 ⟨g, es, c0, rfl, ho, hb, hg, b'⟩
      have HO := Lib.hid ho
      have HB := Lib.hid hb
      clear ho hb
      replace HM := Lib.hid (HM.out.past b')
      clear b'
      go_wp2_with fail
      refine (implInOrder_d g _ es c0 _ HB.out HO.out (by have := ded_len (l := l) (m := []); simp at this; unfold dedSe; omega)).mono ?_
      rintro e' W2 ⟨v', rfl, o', b'⟩
      obtain ⟨Ao, co, rfl⟩ := sliceSes o'.read
      obtain ⟨bo, hm⟩ := HM.out.got o' b'
      clear o' b'
      replace HM := Lib.hid hm
      clear hm
      go_wp2_with fail
      refine (equalSe_d _ _ l (ordSe (dedSe l)) _ (HM.out.arg HR.out) (HM.out.read (i := 0) rfl) hl (by have := ded_len (l := l) (m := []); have h9 := ordSe_perm (l := dedSe l); have h8 := h9.length_eq; simp at this; unfold dedSe at *; omega)).mono ?_
      rintro e' W3 ⟨rfl, b'⟩
      replace HM := Lib.hid (HM.out.past b')
      clear b'
      go_wp2
      go_ret
      exact ⟨ret_b (by unfold seenIB; rw [HI2.out, Bool.true_and]), HM.out.bl⟩
end Go.Proofs.YtamainhocghlgaaGreatDoor.low


/-
  Contracts of impl.SeenOf and DocSame. Written by mkimp8e.py.
-/
namespace Go.Proofs.YtamainhocghlgaaGreatDoor.low
open Go.RowKit
set_option linter.unusedVariables false

end Go.Proofs.YtamainhocghlgaaGreatDoor.low


/-
  Contracts of the program: registriesOf, document, subscriber, HubDoc, HubSub, subSame and HubSame. Written by mkhub2.py.
-/
namespace Go.Proofs.YtamainhocghlgaaGreatDoor.low
open Go.RowKit
set_option linter.unusedVariables false

set_option maxRecDepth 100000 in
set_option maxHeartbeats 3200000 in
theorem pickDo_any (v : Value) (y : Do) (s : ByteArray) (g : Nat) (w : World) (h : RdC w w.heap.size (datDo y) v) (hg : g < w.heap.size) (hc : w.cell? ⟨g, 0, none⟩ = some (.string s)) : Calls Tryz.prog 119 #[v, .pointer (some ⟨g, 0, none⟩)] w (Tells (eqSt y.name s) w) := by
  obtain ⟨C2, c2, C3, c3, C4, c4, rfl, -, -, -⟩ := aggDo h
  have hcx := hc
  have HM := Lib.hid (Ms.start w)
  replace HM := Lib.hid (HM.out.new #[.string y.name, .int .i64 y.from_, .slice C2 y.text.length c2, .slice C3 y.list.length c3, .slice C4 y.seen.length c4] 75)
  have hc1 := ((alloc_below w (.cells #[.string y.name, .int .i64 y.from_, .slice C2 y.text.length c2, .slice C3 y.list.length c3, .slice C4 y.seen.length c4] 75)).cell (p := ⟨g, 0, none⟩) hg).trans hc
  have HT := Lib.hid (show eqSt y.name s = (y.name.toList == s.toList) from rfl)
  clear hc hcx
  go_enter Tryz.func119, Tryz.ntmps119
  go_wp2
  go_ret
  exact ⟨ret_b (by rw [HT.out]), HM.out.bl⟩
set_option maxRecDepth 100000 in
set_option maxHeartbeats 3200000 in
theorem indexFDo_any (v : Value) (l : List Do) (s : ByteArray) (g : Nat) (w : World) (h : RdC w w.heap.size (encDos l) v) (hs : SmDos l) (hg : g < w.heap.size) (hc : w.cell? ⟨g, 0, none⟩ = some (.string s)) : Calls Tryz.prog 118 #[v, .func (.func 119) #[] #[.pointer (some ⟨g, 0, none⟩)]] w (Nums1 (ixInt (docIx l s)) w) := by
  obtain ⟨A, c, rfl⟩ := sliceDos h
  have hl := hs.len
  have HR := Lib.hid h
  have HC := Lib.hid hc
  have HG := Lib.hid hg
  clear h hc hg
  have HM := Lib.hid (Ms.start w)
  go_enter Tryz.func118, Tryz.ntmps118
  go_wp2
  go_loopw [8] (fun i wr => ∃ j : Nat, j ≤ l.length ∧ i = .int .i64 (j : Int) ∧ (∀ i, i < j → ∀ y, l[i]? = some y → eqSt y.name s = false) ∧ Ms w [] wr) (fun i _ => l.length - (intOf i).toNat)
  case atStart => exact ⟨0, Nat.zero_le _, rfl, fun i hi => absurd hi (Nat.not_lt_zero _), HM.out⟩
  case round =>
    obtain ⟨j, hj, rfl, hi, hm⟩ := hrel
    clear HM
    have HM := Lib.hid hm
    have HI := Lib.hid hi
    clear hm hi
    by_cases hlt : j < l.length
    · obtain ⟨b, off, y, C2, c2, C3, c3, C4, c4, rfl, hbb, hp, y0, y1, y2, y3, y4, q2, q3, q4⟩ := atDos HR.out hlt
      have x0 := (HM.out.bl.cell (p := ⟨b, off + j * 5, none⟩) hbb).trans y0
      have x1 := (HM.out.bl.cell (p := ⟨b, off + j * 5 + 1, none⟩) hbb).trans y1
      have x2 := (HM.out.bl.cell (p := ⟨b, off + j * 5 + 2, none⟩) hbb).trans y2
      have x3 := (HM.out.bl.cell (p := ⟨b, off + j * 5 + 3, none⟩) hbb).trans y3
      have x4 := (HM.out.bl.cell (p := ⟨b, off + j * 5 + 4, none⟩) hbb).trans y4
      clear y0 y1 y2 y3 y4
      have HP := Lib.hid hp
      clear hp
      have Q2h := Lib.hid q2
      clear q2
      have Q3h := Lib.hid q3
      clear q3
      have Q4h := Lib.hid q4
      clear q4
      go_wp2_with fail
      clear x0 x1 x2 x3 x4
      refine (pickDo_any _ y _ g _ (rdDo y (HM.out.arg Q2h.out) (HM.out.arg Q3h.out) (HM.out.arg Q4h.out)) (Nat.lt_of_lt_of_le HG.out HM.out.size) ((HM.out.bl.cell (p := ⟨g, 0, none⟩) HG.out).trans HC.out)).mono ?_
      rintro e' W1 ⟨rfl, b'⟩
      replace HM := Lib.hid (HM.out.past b')
      clear b'
      cases h1 : eqSt y.name s
      rotate_left
      · have HF := Lib.hid (show docIx l s = some j from ix_found (p := fun y : Do => eqSt y.name s) HP.out h1 HI.out)
        clear h1
        go_wp2
        go_ret
        exact ⟨ret_i (by rw [HF.out]; rfl), HM.out.bl⟩
      have HI2 := Lib.hid (ix_step (p := fun y : Do => eqSt y.name s) HP.out h1 HI.out)
      clear h1
      go_wp2
      go_roundw
      case rel => exact ⟨j + 1, by omega, by go_num, HI2.out, HM.out⟩
      case measure => simp [intOf]; omega
    · have HF := Lib.hid (show docIx l s = none from ix_none (p := fun y : Do => eqSt y.name s) (fun i hi y hy => HI.out i (by omega) y hy))
      go_wp2
      go_ret
      exact ⟨ret_i (by rw [HF.out]; rfl), HM.out.bl⟩
set_option maxRecDepth 100000 in
set_option maxHeartbeats 3200000 in
theorem document_any (v : Value) (l : List Do) (s : ByteArray) (g o : Nat) (w : World) (h : RdC w w.heap.size (encDos l) v) (hs : SmDos l) (hg : g < w.heap.size) (hc : w.cell? ⟨g, o, none⟩ = some v) : Calls Tryz.prog 95 #[.pointer (some ⟨g, o, none⟩), .string s] w (Nums1 (ixInt (docIx l s)) w) := by
  obtain ⟨A, c, rfl⟩ := sliceDos h
  have HR := Lib.hid h
  clear h
  have HM := Lib.hid (Ms.start w)
  replace HM := Lib.hid (HM.out.new #[.string s] 9)
  have hc1 := ((alloc_below w (.cells #[.string s] 9)).cell (p := ⟨g, o, none⟩) hg).trans hc
  clear hc hg
  have hmf : ∀ (fn : Fn) (first cap : Array Value) (w : World), (Instr.makeFunc fn first cap).run Tryz.prog w = .ok (.func fn first cap) w := fun _ _ _ _ => rfl
  go_enter Tryz.func95, Tryz.ntmps95
  go_wp2_with fail
  clear hc1
  obtain ⟨W1, hW, hm⟩ := HM.out.name
  rw [← hW]
  replace HM := Lib.hid hm
  clear hm hW
  refine (indexFDo_any _ l _ _ _ (HM.out.arg HR.out) hs (HM.out.glt (i := 0) rfl).2 (HM.out.cell (i := 0) (j := 0) rfl rfl)).mono ?_
  rintro e' W2 ⟨rfl, b'⟩
  replace HM := Lib.hid (HM.out.past b')
  clear b'
  go_wp2
  go_ret
  exact ⟨rfl, HM.out.bl⟩
set_option maxRecDepth 100000 in
set_option maxHeartbeats 3200000 in
theorem regs_any (sh : Bool) (A1 A2 : Option Addr) (n1 c1 n2 c2 : Nat) (la : Int) (w : World) : Calls Tryz.prog 19 #[.agg #[.bool sh, .slice A1 n1 c1, .slice A2 n2 c2, .int .i64 la]] w (fun e w' => ∃ g, e = .returned (.pointer (some ⟨g, 0, none⟩)) ∧ Ms w [.bx g (.cells #[.slice A1 n1 c1, .slice A2 n2 c2, .int .i64 la, .bool sh] 54 (0, 0))] w') := by
  have HM := Lib.hid (Ms.start w)
  replace HM := Lib.hid (HM.out.new #[.bool sh, .slice A1 n1 c1, .slice A2 n2 c2, .int .i64 la] 30)
  have hm := HM.out.new #[.slice A1 n1 c1, .slice A2 n2 c2, .int .i64 la, .bool sh] 54
  simp only [World.size_alloc] at hm
  replace HM := Lib.hid hm
  clear hm
  go_enter Tryz.func19, Tryz.ntmps19
  go_wp2
  go_ret
  exact ⟨_, rfl, HM.out.pick (ks := [0]) (by decide) rfl⟩
end Go.Proofs.YtamainhocghlgaaGreatDoor.low


/-
  Contracts of clones, impl.copyOp and opsOf. Written by mkimp8c.py.
-/
namespace Go.Proofs.YtamainhocghlgaaGreatDoor.low
open Go.RowKit
set_option linter.unusedVariables false

set_option maxRecDepth 100000 in
set_option maxHeartbeats 3200000 in
theorem cloneI_d (v : Value) (zs : List Int) (w : World) (h : RdC w w.heap.size (encInts zs) v) (hs : zs.length ≤ 1048576) : Calls Tryz.prog 76 #[v] w (OwnPost (encInts zs) w) := by
  obtain ⟨A, c, rfl⟩ := sliceI h
  have hq : ∀ (w : World) (A : Option Addr) (n c n' c' : Nat), (binOp .eql 61 (.slice A n c) (.slice none n' c')).run Tryz.prog w = .ok (.bool A.isNone) w := fun w A n c n' c' => Lib.run_eql_slice_nil w _ _ A n c n' c' Tryz.underlying61
  cases A with
  | none =>
    obtain rfl : zs = [] := by
      obtain ⟨A9, c9, hv, _, h9⟩ := h
      injection hv with e1 e2 e3
      by_cases h0 : 0 < zs.length
      · obtain ⟨ad, e4, _⟩ := h9 (by simpa using h0)
        rw [← e1] at e4
        cases e4
      · exact List.eq_nil_of_length_eq_zero (by omega)
    clear h
    go_enter Tryz.func76, Tryz.ntmps76
    go_wp2
    go_ret
    exact ((Ms.start w).nil 3 1).post
  | some ad =>
    have HR := Lib.hid h
    clear h
    have HM := Lib.hid (Ms.start w)
    replace HM := Lib.hid (HM.out.empty 3 1)
    go_enter Tryz.func76, Tryz.ntmps76
    go_wp2_with (at_builtin; refine wpList_msAll rfl (.tmp 5) (.tmp 6) 61 rfl eltInt HM.out rfl (some ad) zs.length c rfl (HM.out.arg HR.out) (flatI _) (by simp; omega) ?_; intro A1 c1 w1 b1 hm)
    simp only [List.nil_append, List.length_nil, Nat.zero_add] at hm ⊢
    have HM1 := Lib.hid hm
    clear hm HM
    go_wp2
    go_ret
    exact (show Ms w (.dt (encInts zs) _ _ :: _) _ from HM1.out).post
theorem eltPt : Elt 104 145 (.agg #[.int .i64 0, .int .i64 0, .slice none 0 0]) 3 40 := elt_of (by kernel_rfl) (by kernel_rfl) rfl (by omega) (by omega)
set_option maxRecDepth 100000 in
set_option maxHeartbeats 3200000 in
theorem clonePs_d (v : Value) (ps : List Pt) (w : World) (h : RdC w w.heap.size (encPs ps) v) (hs : ps.length ≤ 1048576) : Calls Tryz.prog 140 #[v] w (RawPost 145 (ps.map encPt) w) := by
  obtain ⟨A, c, rfl⟩ := sliceP h
  have hq : ∀ (w : World) (A : Option Addr) (n c n' c' : Nat), (binOp .eql 104 (.slice A n c) (.slice none n' c')).run Tryz.prog w = .ok (.bool A.isNone) w := fun w A n c n' c' => Lib.run_eql_slice_nil w _ _ A n c n' c' Tryz.underlying104
  cases A with
  | none =>
    obtain rfl : ps = [] := by
      obtain ⟨A9, c9, hv, _, h9⟩ := h
      injection hv with e1 e2 e3
      by_cases h0 : 0 < ps.length
      · obtain ⟨ad, e4, _⟩ := h9 (by simpa using h0)
        rw [← e1] at e4
        cases e4
      · exact List.eq_nil_of_length_eq_zero (by omega)
    clear h
    go_enter Tryz.func140, Tryz.ntmps140
    go_wp2
    go_ret
    exact .inl ⟨rfl, rfl, rfl⟩
  | some ad =>
    have HR := Lib.hid h
    clear h
    have e0 : (ps.map encPt).length = ps.length := List.length_map _
    have E0 := Lib.hid e0
    clear e0
    have HM := Lib.hid (Ms.start w)
    replace HM := Lib.hid (HM.out.empty 145 3)
    go_enter Tryz.func140, Tryz.ntmps140
    go_wp2_with (at_builtin; refine wpList_raw (rs := ps.map encPt) rfl (.tmp 5) (.tmp 6) 104 rfl eltPt HM.out rfl (some ad) ps.length c rfl HR.out (fun r hr => by obtain ⟨q, _, rfl⟩ := List.mem_map.1 hr; exact ⟨rfl, fun d hd => by simp only [encPt, List.mem_cons, List.not_mem_nil, or_false] at hd; rcases hd with rfl | rfl | rfl <;> rfl⟩) (by rw [E0.out]; omega) ?_; intro g cap w1 b1 ys hcap hm hraw hcells)
    have HM1 := Lib.hid hm
    have HX := Lib.hid (And.intro hraw (And.intro hcells hcap))
    clear hm HM hraw hcells hcap
    go_wp2
    go_ret
    exact .inr ⟨g, cap, ys, by rw [E0.out]; rfl, by rw [E0.out]; exact HX.out.2.2, HM1.out.own (i := 0) rfl, HX.out.1, HX.out.2.1, HM1.out.bl⟩
set_option maxRecDepth 100000 in
set_option maxHeartbeats 3200000 in
theorem implCopyOp_d (v : Value) (ps : List Pt) (w : World) (h : RdC w w.heap.size (encPs ps) v) (hs : SmP ps) : Calls Tryz.prog 120 #[v] w (OwnPost (encPs ps) w) := by
  obtain ⟨A, c, rfl⟩ := sliceP h
  have hl : ps.length ≤ 1048576 := by have := hs.1; omega
  have HR := Lib.hid h
  clear h
  have HM := Lib.hid (Ms.start w)
  go_enter Tryz.func120, Tryz.ntmps120
  go_wp2_with fail
  refine (clonePs_d _ ps _ HR.out hl).mono ?_
  rintro e' W1 (⟨h0, rfl, rfl⟩ | ⟨g, cap, ys, rfl, hcap, o', hraw, hcells, b'⟩)
  · obtain rfl : ps = [] := List.map_eq_nil_iff.1 h0
    go_wp2
    refine wp_loop_rounds 1 ?_
    rw [rounds_succ]
    go_wp2
    go_ret
    exact (HM.out.nil 145 3).post
  · rw [show (ps.map encPt).length = ps.length from List.length_map _] at hcap ⊢
    have HW := Lib.hid hraw
    have HC := Lib.hid hcells
    clear hraw hcells
    obtain ⟨bp, hm⟩ := HM.out.got o' b'
    clear o' b'
    replace HM := Lib.hid hm
    clear hm
    go_wp2
    go_loopw [10] (fun i wr => ∃ (j : Nat) (bs : List Nat), j ≤ ps.length ∧ i = .int .i64 (j : Int) ∧ Ms w [.dt (.rows 145 3 ((ps.take j).map encPt)) (.slice (some ⟨g, 0, none⟩) j cap) bs] wr ∧ Raw wr g (j * 3) ys) (fun i _ => ps.length - (intOf i).toNat)
    case atStart => exact ⟨0, _, Nat.zero_le _, rfl, HM.out, by simpa using HW.out⟩
    case round =>
      obtain ⟨j, bs, hj, rfl, hm, hw⟩ := hrel
      clear HM HW
      have HM := Lib.hid hm
      have HW := Lib.hid hw
      clear hm hw
      by_cases hlt : j < ps.length
      · obtain ⟨p, hp⟩ : ∃ p, ps[j]? = some p := ⟨_, List.getElem?_eq_getElem hlt⟩
        obtain ⟨y, hy, hyl, hyk⟩ := HC.out j (encPt p) (by rw [List.getElem?_map, hp]; rfl)
        obtain ⟨_, _, rfl, rfl, _, _, rfl, rfl, v2, _, rfl, hr2, rfl⟩ := hy
        obtain ⟨A5, c5, rfl⟩ := sliceI hr2
        have x0 : wr.cell? ⟨g, j * 3, none⟩ = some (.int .i64 p.kind) := HW.out.cell (Nat.le_refl _) (hyk 0 _ rfl)
        have x1 : wr.cell? ⟨g, j * 3 + 1, none⟩ = some (.int .i64 p.n) := HW.out.cell (by omega) (hyk 1 _ rfl)
        have x2 : wr.cell? ⟨g, j * 3 + 2, none⟩ = some (.slice A5 p.signs.length c5) := HW.out.cell (by omega) (hyk 2 _ rfl)
        have HY := Lib.hid (show ys[j * 3]? = some (.int .i64 p.kind) ∧ ys[j * 3 + 1]? = some (.int .i64 p.n) from ⟨hyk 0 _ rfl, hyk 1 _ rfl⟩)
        have x3 : ys[j * 3 + 2]? = some (.slice A5 p.signs.length c5) := hyk 2 _ rfl
        have X3 := Lib.hid x3
        have HR2 := Lib.hid hr2
        have HT := Lib.hid (show (ps.take (j + 1)).map encPt = (ps.take j).map encPt ++ [[.int p.kind, .int p.n, encInts p.signs]] by rw [List.take_add_one, hp]; simp [encPt])
        have hsm := (show p.signs.length ≤ 1048576 from hs.all p (List.mem_of_getElem? hp))
        have hlj : j < cap := by omega
        have hlen : ((ps.take j).map encPt).length = j := by simp; omega
        have HLN := Lib.hid hlen
        clear hyk hyl hr2 x3 hp hlen
        have HW := Lib.hid (HW.out.past (alloc_below wr (.cells #[.int .i64 p.kind, .int .i64 p.n, .slice A5 p.signs.length c5] 145)))
        replace HM := Lib.hid (HM.out.new #[.int .i64 p.kind, .int .i64 p.n, .slice A5 p.signs.length c5] 145)
        go_wp2_with fail
        generalize (wr.alloc (.cells #[.int .i64 p.kind, .int .i64 p.n, .slice A5 p.signs.length c5] 145)) = W2 at HM HW ⊢
        refine (cloneI_d _ p.signs _ (HM.out.arg HR2.out) hsm).mono ?_
        rintro e' W3 ⟨v', rfl, o', b'⟩
        obtain ⟨A6, c6, rfl⟩ := sliceI o'.read
        have HW := Lib.hid (HW.out.past b')
        obtain ⟨b6, hm⟩ := HM.out.got o' b'
        clear o' b'
        replace HM := Lib.hid hm
        clear hm
        have y2 : W3.cell? ⟨g, j * 3 + 2, none⟩ = some (.slice A5 p.signs.length c5) := HW.out.cell (by omega) X3.out
        have f2 : W3.frozen? ⟨g, j * 3 + 2, none⟩ = false := HW.out.free
        clear x0 x1 x2
        have hm := HM.out.pk [2, 0, 1] (by decide) (by simp)
        simp only [low.pk, List.getElem?_cons_zero, List.getElem?_cons_succ] at hm
        replace HM := Lib.hid hm
        clear hm
        obtain ⟨b8, hm⟩ := HM.out.fill3 HLN.out.symm hlj HW.out HY.out.1 HY.out.2
        rw [← HT.out] at hm
        have HM8 := Lib.hid hm
        have HW8 := Lib.hid (HW.out.set (k' := (j + 1) * 3) (j * 3 + 2) (.slice A6 p.signs.length c6) (by omega) (by omega))
        clear hm HM HW HY X3 HT HR2
        go_wp2
        go_roundw
        case rel => exact ⟨j + 1, b8, by omega, by go_num, HM8.out.pick (ks := [0]) (by decide) rfl, HW8.out⟩
        case measure => simp [intOf]; omega
      · obtain rfl : j = ps.length := by omega
        have hm := HM.out
        rw [List.take_length] at hm
        have HM7 := Lib.hid hm
        clear hm HM
        go_wp2
        go_ret
        exact (show Ms w [.dt (encPs ps) _ _] _ from HM7.out).post
theorem eltPs : Elt 179 104 (.slice none 0 0) 1 24 := elt_of (by kernel_rfl) (by kernel_rfl) rfl (by omega) (by omega)
set_option maxRecDepth 100000 in
set_option maxHeartbeats 3200000 in
theorem implOpsOf_d (v : Value) (l : List En) (w : World) (h : RdC w w.heap.size (encEns l) v) (hs : SmEns l) : Calls Tryz.prog 117 #[v] w (OwnPost (encPss (l.map En.o)) w) := by
  obtain ⟨A, c, rfl⟩ := sliceEns h
  have hl := hs.len
  have HR := Lib.hid h
  clear h
  have HM := Lib.hid (Ms.start w)
  replace HM := Lib.hid (show Ms w [.dt (.rows 104 1 []) (.slice none 0 0) []] w from HM.out.nil 104 1)
  go_enter Tryz.func117, Tryz.ntmps117
  go_wp2
  go_loopw [3, 8] (fun ov i wr => ∃ (j : Nat) (A1 : Option Addr) (c1 : Nat) (bs : List Nat), j ≤ l.length ∧ i = .int .i64 (j : Int) ∧ ov = .slice A1 j c1 ∧ Ms w [.dt (.rows 104 1 (((l.take j).map En.o).map encPsL)) (.slice A1 j c1) bs] wr) (fun _ i _ => l.length - (intOf i).toNat)
  case atStart => exact ⟨0, _, _, _, Nat.zero_le _, rfl, rfl, HM.out⟩
  case round =>
    obtain ⟨j, A1, c1, bs, hj, rfl, rfl, hm⟩ := hrel
    clear HM
    have HM := Lib.hid hm
    clear hm
    by_cases hlt : j < l.length
    · obtain ⟨b, off, e, A5, c5, rfl, hbb, hp, y0, y1, y2, q2⟩ := atEns HR.out hlt
      have x0 := (HM.out.bl.cell (p := ⟨b, off + j * 3, none⟩) hbb).trans y0
      have x1 := (HM.out.bl.cell (p := ⟨b, off + j * 3 + 1, none⟩) hbb).trans y1
      have x2 := (HM.out.bl.cell (p := ⟨b, off + j * 3 + 2, none⟩) hbb).trans y2
      clear y0 y1 y2
      have hse := hs.at_ (List.mem_of_getElem? hp)
      have HT := Lib.hid (show ((l.take (j + 1)).map En.o).map encPsL = ((l.take j).map En.o).map encPsL ++ [[encPs e.o]] by rw [List.take_add_one, hp]; simp [encPsL])
      have HQ := Lib.hid q2
      clear hp q2
      replace HM := Lib.hid (HM.out.new #[.int .i64 e.client, .int .i64 e.seq, .slice A5 e.o.length c5] 106)
      go_wp2_with fail
      obtain ⟨W1, hW, hm⟩ := HM.out.name
      rw [← hW]
      replace HM := Lib.hid hm
      clear hm hW
      refine (implCopyOp_d _ e.o _ (HM.out.arg HQ.out) hse.o).mono ?_
      rintro e' W2 ⟨v', rfl, o', b'⟩
      obtain ⟨A6, c6, rfl⟩ := sliceP o'.read
      obtain ⟨b6, hm⟩ := HM.out.got o' b'
      clear o' b'
      replace HM := Lib.hid hm
      clear hm
      clear x0 x1 x2
      replace HM := Lib.hid (HM.out.new #[.slice A6 e.o.length c6] 104)
      have hm := HM.out.pk [1, 3, 0, 2] (by decide) (by simp)
      simp only [low.pk, List.getElem?_cons_zero, List.getElem?_cons_succ] at hm
      replace HM := Lib.hid hm
      clear hm
      replace HM := Lib.hid (show Ms w [.dt (.agg [encPs e.o]) (.agg ([.slice A6 e.o.length c6] : List Value).toArray) (b6 ++ []), .dt (.rows 104 1 (((l.take j).map En.o).map encPsL)) (.slice A1 j c1) bs, .bx W2.heap.size (.cells #[.slice A6 e.o.length c6] 104 (0, 0)), .bx wr.heap.size (.cells #[.int .i64 e.client, .int .i64 e.seq, .slice A5 e.o.length c5] 106 (0, 0))] (W2.alloc (.cells #[.slice A6 e.o.length c6] 104)) from HM.out.pk0.pkO)
      have hm := HM.out.pk [1, 0, 2, 3] (by decide) (by simp)
      simp only [low.pk, List.getElem?_cons_zero, List.getElem?_cons_succ] at hm
      replace HM := Lib.hid hm
      clear hm
      go_wp2_with (at_builtin; refine wpList_ms1 rfl (.tmp 12) (.tmp 16) 179 rfl eltPs HM.out rfl (by simp; omega) W2.heap.size _ rfl (HM.out.at_ (i := 2) rfl) rfl (by simp [Value.oneCell']) ?_; intro A7 c7 w7 b7 hm)
      have e1 : (((l.take j).map En.o).map encPsL).length = j := by simp; omega
      rw [e1] at hm
      try rw [e1]
      rw [HT.out.symm] at hm
      have HM7 := Lib.hid hm
      clear hm e1 HM
      go_wp2
      go_roundw
      case rel => exact ⟨j + 1, A7, c7, b7, by omega, by go_num, rfl, HM7.out.pick (ks := [0]) (by decide) rfl⟩
      case measure => simp [intOf]; omega
    · obtain rfl : j = l.length := by omega
      have hm := HM.out
      rw [List.take_length] at hm
      have HM7 := Lib.hid hm
      clear hm HM
      go_wp2
      go_ret
      exact (show Ms w [.dt (encPss (l.map En.o)) _ _] _ from HM7.out).post
end Go.Proofs.YtamainhocghlgaaGreatDoor.low


/-
  A slice of structs of three cells under way: a row more, all its cells written, its memory taken over from an item.
-/
namespace Go.Proofs.YtamainhocghlgaaGreatDoor.low
open Go.RowKit
set_option linter.unusedVariables false

section
variable {w0 W W' : World} {L : List It}
/-- the next row is the caller's own -/
theorem Ms.fillA {g n cap : Nat} {e : TypeId} {ds : List (List Dat)} {d : Dat} {v : Value} {b c : List Nat} (x y : Int) (h : Ms w0 (.dt (.rows e 3 ds) (.slice (some ⟨g, 0, none⟩) n cap) b :: .dt d v c :: L) W) (hn : n = ds.length) (hcap : n < cap) :
    ∃ b', Ms w0 (.dt (.rows e 3 (ds ++ [[.int x, .int y, d]])) (.slice (some ⟨g, 0, none⟩) (n + 1) cap) b' :: L) (((W.setCell ⟨g, n * 3, none⟩ (.int .i64 x)).setCell ⟨g, n * 3 + 1, none⟩ (.int .i64 y)).setCell ⟨g, n * 3 + 2, none⟩ v) := by
  subst hn
  have hd : OwC W d v c := h.at_ (i := 1) rfl
  have hrow : OwR W 3 [[.int x, .int y, d]] [.int .i64 x, .int .i64 y, v] c := OwR.one ⟨_, _, [], c, rfl, rfl, ⟨rfl, rfl⟩, _, _, [], c, rfl, rfl, ⟨rfl, rfl⟩, v, [], c, [], rfl, by simp, hd, rfl, rfl⟩ rfl
  obtain ⟨xs, hown, grow⟩ := Ms.grow (Y := [.dt d v c]) h hrow (h.ndAt (i := 1) (x := .dt d v c) rfl) (fun q hq => by simpa [It.bs] using hq)
  obtain ⟨hxs, hcase⟩ := hown
  rcases hcase with ⟨h0, _⟩ | ⟨g', cap', cur, hv, _, hh, hnc, hcm, hcs, htk⟩
  · cases h0
  injection hv with hv1 _ hv3
  injection hv1 with hv1
  injection hv1 with hv1 _ _
  subst hv1 hv3
  refine grow g (ds.length + 1) cap _ ?_ ⟨rfl, rfl, rfl, by simp [World.setCell], fun k hk hne => ?_⟩ (.inl rfl) (by simp only [World.setCell, Array.size_modify]; exact lt_of_some hh)
  rotate_left
  · have hne' : k ≠ g := fun e => hne (by rw [e]; rfl)
    exact ((Below.heap_setCell _ _ _ _ hne').trans (Below.heap_setCell _ _ _ _ hne')).trans (Below.heap_setCell _ _ _ _ hne')
  refine ⟨by simp [hxs]; omega, .inr ⟨g, cap, ((cur.setIfInBounds (ds.length * 3) (.int .i64 x)).setIfInBounds (ds.length * 3 + 1) (.int .i64 y)).setIfInBounds (ds.length * 3 + 2) v, by simp, Nat.zero_le _, bxset (bxset (bxset hh _) _) v, by simp; omega, hcm, by simpa using hcs, ?_⟩⟩
  have hsz : ds.length * 3 + 3 ≤ cur.toList.length := by
    have e : cur.toList.length = cap * 3 := by rw [Array.length_toList]; exact hcs
    rw [e]
    have : (ds.length + 1) * 3 ≤ cap * 3 := Nat.mul_le_mul_right 3 hcap
    omega
  rw [Array.toList_setIfInBounds, Array.toList_setIfInBounds, Array.toList_setIfInBounds, List.length_append, List.length_singleton, Nat.add_mul, Nat.one_mul]
  apply List.ext_getElem?
  intro t
  rw [List.getElem?_take]
  by_cases ht : t < ds.length * 3
  · rw [if_pos (by omega), List.getElem?_set_ne (by omega), List.getElem?_set_ne (by omega), List.getElem?_set_ne (by omega), List.getElem?_append_left (by rw [hxs]; exact ht), ← htk, List.getElem?_take, if_pos ht]
  · rw [List.getElem?_append_right (by rw [hxs]; omega), hxs]
    by_cases h3 : t < ds.length * 3 + 3
    · rw [if_pos h3]
      obtain ⟨k, rfl⟩ : ∃ k, t = ds.length * 3 + k := ⟨t - ds.length * 3, by omega⟩
      rw [Nat.add_sub_cancel_left]
      have hk : k = 0 ∨ k = 1 ∨ k = 2 := by omega
      rcases hk with rfl | rfl | rfl
      · rw [List.getElem?_set_ne (by omega), List.getElem?_set_ne (by omega), Nat.add_zero, List.getElem?_set_self (by omega)]
        rfl
      · rw [List.getElem?_set_ne (by omega), List.getElem?_set_self (by simp; omega)]
        rfl
      · rw [List.getElem?_set_self (by simp; omega)]
        rfl
    · rw [if_neg h3, List.getElem?_eq_none (by simp; omega)]
/-- an entry taken apart: its operation -/
theorem Ms.unEn {x : En} {v : Value} {b : List Nat} (h : Ms w0 (.dt (datEn x) (.agg #[.int .i64 x.client, .int .i64 x.seq, v]) b :: L) W) : ∃ c, Ms w0 (.dt (encPs x.o) v c :: L) W := by
  obtain ⟨d1, d2, h1⟩ := (show Ms w0 (.dt (.agg (encEn x)) (.agg ([.int .i64 x.client, .int .i64 x.seq, v] : List Value).toArray) b :: L) W from h).un
  obtain ⟨d3, d4, h2⟩ := h1.tail.un
  obtain ⟨d5, d6, h3⟩ := h2.tail.un
  exact ⟨d5, (h3.perm (.swap _ _ _)).tail⟩
end
end Go.Proofs.YtamainhocghlgaaGreatDoor.low


/-
  Contracts of impl.copyEntries and clones of rows of clients. Written by mkimp8c.py.
-/
namespace Go.Proofs.YtamainhocghlgaaGreatDoor.low
open Go.RowKit
set_option linter.unusedVariables false

set_option maxRecDepth 100000 in
set_option maxHeartbeats 3200000 in
theorem cloneSe_d (v : Value) (l : List Se) (w : World) (h : RdC w w.heap.size (encSes l) v) (hs : l.length ≤ 1048576) : Calls Tryz.prog 78 #[v] w (OwnPost (encSes l) w) := by
  obtain ⟨A, c, rfl⟩ := sliceSes h
  have hq : ∀ (w : World) (A : Option Addr) (n c n' c' : Nat), (binOp .eql 73 (.slice A n c) (.slice none n' c')).run Tryz.prog w = .ok (.bool A.isNone) w := fun w A n c n' c' => Lib.run_eql_slice_nil w _ _ A n c n' c' Tryz.underlying73
  cases A with
  | none =>
    obtain rfl : l = [] := by
      obtain ⟨A9, c9, hv, _, h9⟩ := h
      injection hv with e1 e2 e3
      by_cases h0 : 0 < l.length
      · obtain ⟨ad, e4, _⟩ := h9 (by simpa using h0)
        rw [← e1] at e4
        cases e4
      · exact List.eq_nil_of_length_eq_zero (by omega)
    clear h
    go_enter Tryz.func78, Tryz.ntmps78
    go_wp2
    go_ret
    exact ((Ms.start w).nil 111 3).post
  | some ad =>
    have HR := Lib.hid h
    clear h
    have HM := Lib.hid (Ms.start w)
    replace HM := Lib.hid (HM.out.empty 111 3)
    go_enter Tryz.func78, Tryz.ntmps78
    go_wp2_with (at_builtin; refine wpList_msAll rfl (.tmp 5) (.tmp 6) 73 rfl eltSe HM.out rfl (some ad) l.length c rfl (HM.out.arg HR.out) (flatSe _) (by simp; omega) ?_; intro A1 c1 w1 b1 hm)
    simp only [List.nil_append, List.length_nil, Nat.zero_add] at hm ⊢
    have HM1 := Lib.hid hm
    clear hm HM
    go_wp2
    go_ret
    exact (show Ms w (.dt (encSes l) _ _ :: _) _ from HM1.out).post
set_option maxRecDepth 100000 in
set_option maxHeartbeats 3200000 in
theorem cloneEns_d (v : Value) (l : List En) (w : World) (h : RdC w w.heap.size (encEns l) v) (hs : l.length ≤ 1048576) : Calls Tryz.prog 101 #[v] w (RawPost 106 (l.map encEn) w) := by
  obtain ⟨A, c, rfl⟩ := sliceEns h
  have hq : ∀ (w : World) (A : Option Addr) (n c n' c' : Nat), (binOp .eql 72 (.slice A n c) (.slice none n' c')).run Tryz.prog w = .ok (.bool A.isNone) w := fun w A n c n' c' => Lib.run_eql_slice_nil w _ _ A n c n' c' Tryz.underlying72
  cases A with
  | none =>
    obtain rfl : l = [] := by
      obtain ⟨A9, c9, hv, _, h9⟩ := h
      injection hv with e1 e2 e3
      by_cases h0 : 0 < l.length
      · obtain ⟨ad, e4, _⟩ := h9 (by simpa using h0)
        rw [← e1] at e4
        cases e4
      · exact List.eq_nil_of_length_eq_zero (by omega)
    clear h
    go_enter Tryz.func101, Tryz.ntmps101
    go_wp2
    go_ret
    exact .inl ⟨rfl, rfl, rfl⟩
  | some ad =>
    have HR := Lib.hid h
    clear h
    have e0 : (l.map encEn).length = l.length := List.length_map _
    have E0 := Lib.hid e0
    clear e0
    have HM := Lib.hid (Ms.start w)
    replace HM := Lib.hid (HM.out.empty 106 3)
    go_enter Tryz.func101, Tryz.ntmps101
    go_wp2_with (at_builtin; refine wpList_raw (rs := l.map encEn) rfl (.tmp 5) (.tmp 6) 72 rfl eltEn HM.out rfl (some ad) l.length c rfl HR.out (fun r hr => by obtain ⟨q, _, rfl⟩ := List.mem_map.1 hr; exact ⟨rfl, fun d hd => by simp only [encEn, List.mem_cons, List.not_mem_nil, or_false] at hd; rcases hd with rfl | rfl | rfl <;> rfl⟩) (by rw [E0.out]; omega) ?_; intro g cap w1 b1 ys hcap hm hraw hcells)
    have HM1 := Lib.hid hm
    have HX := Lib.hid (And.intro hraw (And.intro hcells hcap))
    clear hm HM hraw hcells hcap
    go_wp2
    go_ret
    exact .inr ⟨g, cap, ys, by rw [E0.out]; rfl, by rw [E0.out]; exact HX.out.2.2, HM1.out.own (i := 0) rfl, HX.out.1, HX.out.2.1, HM1.out.bl⟩
set_option maxRecDepth 100000 in
set_option maxHeartbeats 3200000 in
theorem implCopyEntry_d (v : Value) (x : En) (w : World) (h : RdC w w.heap.size (datEn x) v) (hs : SmEn x) : Calls Tryz.prog 102 #[v] w (OwnPost (datEn x) w) := by
  obtain ⟨A2, c2, rfl, r2⟩ := aggEn h
  have HR := Lib.hid r2
  clear h r2
  have HM := Lib.hid (Ms.start w)
  replace HM := Lib.hid (HM.out.new #[.int .i64 x.client, .int .i64 x.seq, .slice A2 x.o.length c2] 106)
  have hm := HM.out.new #[.int .i64 0, .int .i64 0, .slice none 0 0] 106
  simp only [World.size_alloc] at hm
  replace HM := Lib.hid hm
  clear hm
  go_enter Tryz.func102, Tryz.ntmps102
  go_wp2_with fail
  obtain ⟨W1, hW, hm⟩ := HM.out.name
  rw [← hW]
  replace HM := Lib.hid hm
  clear hm hW
  refine (implCopyOp_d _ x.o _ (HM.out.arg HR.out) hs.o).mono ?_
  rintro e' W2 ⟨v', rfl, o', b'⟩
  obtain ⟨An, cn, rfl⟩ := sliceP o'.read
  obtain ⟨bn, hm⟩ := HM.out.got o' b'
  clear o' b'
  replace HM := Lib.hid hm
  clear hm
  obtain ⟨kx0, kx1, kx2⟩ := HM.out.c3 2 rfl
  obtain ⟨fx0, fx1, fx2⟩ := HM.out.f3 2 rfl
  obtain ⟨kr0, kr1, kr2⟩ := HM.out.c3 1 rfl
  obtain ⟨fr0, fr1, fr2⟩ := HM.out.f3 1 rfl
  obtain ⟨nxr, nrx⟩ := HM.out.ne (i := 1) (j := 2) rfl rfl (by omega)
  go_wp2
  clear kx0 kx1 kx2 kr0 kr1 kr2 fx0 fx1 fx2 fr0 fr1 fr2
  have hm := HM.out.pk [2, 0, 1] (by decide) (by simp)
  simp only [low.pk, List.getElem?_cons_zero, List.getElem?_cons_succ] at hm
  replace HM := Lib.hid hm
  clear hm
  have hm := HM.out.set (j := 2) (.slice An x.o.length cn)
  simp only [pa, pb, pc] at hm
  replace HM := Lib.hid hm
  clear hm
  have hm := HM.out.pk [2, 0, 1] (by decide) (by simp)
  simp only [low.pk, List.getElem?_cons_zero, List.getElem?_cons_succ] at hm
  replace HM := Lib.hid hm
  clear hm
  have hm := HM.out.putRow (ys := [.int .i64 x.client, .int .i64 x.seq, .slice An x.o.length cn]) rfl
  simp only [low.putRow, Nat.zero_add, Nat.reduceAdd] at hm
  replace HM := Lib.hid hm
  clear hm
  obtain ⟨W3, hW, hm⟩ := HM.out.name
  rw [← hW]
  replace HM := Lib.hid hm
  clear hm hW
  obtain ⟨kr0, kr1, kr2⟩ := HM.out.c3 0 rfl
  have hm := HM.out.pk [2, 0, 1] (by decide) (by simp)
  simp only [low.pk, List.getElem?_cons_zero, List.getElem?_cons_succ] at hm
  replace HM := Lib.hid hm
  clear hm
  exact bodyPost_ret (v := .agg #[.int .i64 x.client, .int .i64 x.seq, .slice An x.o.length cn]) (by simp [results, Tryz.results102, go_sem, kr0, kr1, kr2]) rfl (show Ms w (.dt (datEn x) (.agg #[.int .i64 x.client, .int .i64 x.seq, .slice An x.o.length cn]) _ :: _) _ from (HM.out.pk0.pkO.pkF rfl).pkF rfl).post
set_option maxRecDepth 100000 in
set_option maxHeartbeats 3200000 in
theorem implCopyEntries_d (v : Value) (l : List En) (w : World) (h : RdC w w.heap.size (encEns l) v) (hs : SmEns l) : Calls Tryz.prog 77 #[v] w (OwnPost (encEns l) w) := by
  obtain ⟨A, c, rfl⟩ := sliceEns h
  have hl : l.length ≤ 1048576 := by have := hs.len; omega
  have HR := Lib.hid h
  clear h
  have HM := Lib.hid (Ms.start w)
  go_enter Tryz.func77, Tryz.ntmps77
  go_wp2_with fail
  refine (cloneEns_d _ l _ HR.out hl).mono ?_
  rintro e' W1 (⟨h0, rfl, rfl⟩ | ⟨g, cap, ys, rfl, hcap, o', hraw, hcells, b'⟩)
  · obtain rfl : l = [] := List.map_eq_nil_iff.1 h0
    go_wp2
    refine wp_loop_rounds 1 ?_
    rw [rounds_succ]
    go_wp2
    go_ret
    exact (HM.out.nil 106 3).post
  · rw [show (l.map encEn).length = l.length from List.length_map _] at hcap ⊢
    have HW := Lib.hid hraw
    have HC := Lib.hid hcells
    clear hraw hcells
    obtain ⟨bp, hm⟩ := HM.out.got o' b'
    clear o' b'
    replace HM := Lib.hid hm
    clear hm
    go_wp2
    go_loopw [10] (fun i wr => ∃ (j : Nat) (bs : List Nat), j ≤ l.length ∧ i = .int .i64 (j : Int) ∧ Ms w [.dt (.rows 106 3 ((l.take j).map encEn)) (.slice (some ⟨g, 0, none⟩) j cap) bs] wr ∧ Raw wr g (j * 3) ys) (fun i _ => l.length - (intOf i).toNat)
    case atStart => exact ⟨0, _, Nat.zero_le _, rfl, HM.out, by simpa using HW.out⟩
    case round =>
      obtain ⟨j, bs, hj, rfl, hm, hw⟩ := hrel
      clear HM HW
      have HM := Lib.hid hm
      have HW := Lib.hid hw
      clear hm hw
      by_cases hlt : j < l.length
      · obtain ⟨p, hp⟩ : ∃ p, l[j]? = some p := ⟨_, List.getElem?_eq_getElem hlt⟩
        obtain ⟨y, hy, hyl, hyk⟩ := HC.out j (encEn p) (by rw [List.getElem?_map, hp]; rfl)
        obtain ⟨_, _, rfl, rfl, _, _, rfl, rfl, v2, _, rfl, hr2, rfl⟩ := hy
        obtain ⟨A5, c5, rfl⟩ := sliceP hr2
        have x0 : wr.cell? ⟨g, j * 3, none⟩ = some (.int .i64 p.client) := HW.out.cell (by omega) (hyk 0 _ rfl)
        have X0 := Lib.hid (show ys[j * 3]? = some (.int .i64 p.client) from hyk 0 _ rfl)
        have x1 : wr.cell? ⟨g, j * 3 + 1, none⟩ = some (.int .i64 p.seq) := HW.out.cell (by omega) (hyk 1 _ rfl)
        have X1 := Lib.hid (show ys[j * 3 + 1]? = some (.int .i64 p.seq) from hyk 1 _ rfl)
        have x2 : wr.cell? ⟨g, j * 3 + 2, none⟩ = some (.slice A5 p.o.length c5) := HW.out.cell (by omega) (hyk 2 _ rfl)
        have X2 := Lib.hid (show ys[j * 3 + 2]? = some (.slice A5 p.o.length c5) from hyk 2 _ rfl)
        have HR2 := Lib.hid hr2
        have HT := Lib.hid (show (l.take (j + 1)).map encEn = (l.take j).map encEn ++ [[.int p.client, .int p.seq, encPs p.o]] by rw [List.take_add_one, hp]; simp [encEn])
        have hsm := hs.at_ (List.mem_of_getElem? hp)
        have hlj : j < cap := by omega
        have hlen : ((l.take j).map encEn).length = j := by simp; omega
        have HLN := Lib.hid hlen
        clear hyk hyl hr2 hp hlen
        have HW := Lib.hid (HW.out.past (alloc_below wr (.cells #[.int .i64 p.client, .int .i64 p.seq, .slice A5 p.o.length c5] 106)))
        replace HM := Lib.hid (HM.out.new #[.int .i64 p.client, .int .i64 p.seq, .slice A5 p.o.length c5] 106)
        go_wp2_with fail
        generalize (wr.alloc (.cells #[.int .i64 p.client, .int .i64 p.seq, .slice A5 p.o.length c5] 106)) = W2 at HM HW ⊢
        refine (implCopyEntry_d _ p _ (rdEn p (HM.out.arg HR2.out)) hsm).mono ?_
        rintro e' W3 ⟨v', rfl, o', b'⟩
        obtain ⟨A6, c6, rfl, -⟩ := aggEn o'.read
        have HW := Lib.hid (HW.out.past b')
        obtain ⟨b6, hm⟩ := HM.out.got o' b'
        clear o' b'
        obtain ⟨b7, hm⟩ := hm.unEn
        replace HM := Lib.hid hm
        clear hm
        clear x0 x1 x2
        have y0 : W3.cell? ⟨g, j * 3, none⟩ = some (.int .i64 p.client) := HW.out.cell (by omega) X0.out
        have f0 : W3.frozen? ⟨g, j * 3, none⟩ = false := HW.out.free
        have y1 : W3.cell? ⟨g, j * 3 + 1, none⟩ = some (.int .i64 p.seq) := HW.out.cell (by omega) X1.out
        have f1 : W3.frozen? ⟨g, j * 3 + 1, none⟩ = false := HW.out.free
        have y2 : W3.cell? ⟨g, j * 3 + 2, none⟩ = some (.slice A5 p.o.length c5) := HW.out.cell (by omega) X2.out
        have f2 : W3.frozen? ⟨g, j * 3 + 2, none⟩ = false := HW.out.free
        have hm := HM.out.pk [2, 0, 1] (by decide) (by simp)
        simp only [low.pk, List.getElem?_cons_zero, List.getElem?_cons_succ] at hm
        replace HM := Lib.hid hm
        clear hm
        obtain ⟨b8, hm⟩ := HM.out.fillA p.client p.seq HLN.out.symm hlj
        rw [← HT.out] at hm
        have HM8 := Lib.hid hm
        have HW8 := Lib.hid (((HW.out.set (k' := (j + 1) * 3) (j * 3) (.int .i64 p.client) (by omega) (by omega)).set (k' := (j + 1) * 3) (j * 3 + 1) (.int .i64 p.seq) (by omega) (by omega)).set (k' := (j + 1) * 3) (j * 3 + 2) (.slice A6 p.o.length c6) (by omega) (by omega))
        clear hm HM HW X0 X1 X2 HT HR2
        go_wp2
        go_roundw
        case rel => exact ⟨j + 1, b8, by omega, by go_num, HM8.out.pick (ks := [0]) (by decide) rfl, HW8.out⟩
        case measure => simp [intOf]; omega
      · obtain rfl : j = l.length := by omega
        have hm := HM.out
        rw [List.take_length] at hm
        have HM7 := Lib.hid hm
        clear hm HM
        go_wp2
        go_ret
        exact (show Ms w [.dt (encEns l) _ _] _ from HM7.out).post
end Go.Proofs.YtamainhocghlgaaGreatDoor.low


/-
  Contracts of impl.RingOk, RingNew, RingLag, RingResync and copyRing. Written by mkring3.py.
-/
namespace Go.Proofs.YtamainhocghlgaaGreatDoor.low
open Go.RowKit
set_option linter.unusedVariables false

set_option maxRecDepth 100000 in
set_option maxHeartbeats 3200000 in
theorem implRingOk_d (v : Value) (x : Ri) (w : World) (h : RdC w w.heap.size (datRi x) v) (hs : SmRi x) : Calls Tryz.prog 94 #[v] w (Tells (ringB x) w) := by
  have HR := Lib.hid h
  obtain ⟨A3, c3, rfl, r3⟩ := aggRi h
  have R3 := Lib.hid r3
  have hl := hs.list.len
  clear h r3
  have HM := Lib.hid (Ms.start w)
  replace HM := Lib.hid (HM.out.new #[.int .i64 x.cap, .int .i64 x.next, .bool x.out, .slice A3 x.list.length c3] 78)
  have HB := Lib.hid (show ringB x = (x.list.all entryB && (inB x.cap 1 6 && (inB x.next 1 1000000000 && (decide ((x.list.length : Int) ≤ x.cap) && (!x.out || decide ((x.list.length : Int) = 0)))))) from rfl)
  by_cases h0 : x.cap < 1
  · have H9 := Lib.hid (show inB x.cap 1 6 = false from inB_f (by omega))
    have g0 : decide (x.cap < 1) = true := decide_eq_true h0
    go_enter Tryz.func94, Tryz.ntmps94
    go_wp2
    go_ret
    exact ⟨ret_b (show false = ringB x by rw [HB.out, H9.out]; simp), HM.out.bl⟩
  have g0 : decide (x.cap < 1) = false := decide_eq_false h0
  by_cases h1 : 6 < x.cap
  · have H9 := Lib.hid (show inB x.cap 1 6 = false from inB_f (by omega))
    have g1 : decide (6 < x.cap) = true := decide_eq_true h1
    go_enter Tryz.func94, Tryz.ntmps94
    go_wp2
    go_ret
    exact ⟨ret_b (show false = ringB x by rw [HB.out, H9.out]; simp), HM.out.bl⟩
  have g1 : decide (6 < x.cap) = false := decide_eq_false h1
  by_cases h2 : x.next < 1
  · have H9 := Lib.hid (show inB x.next 1 1000000000 = false from inB_f (by omega))
    have g2 : decide (x.next < 1) = true := decide_eq_true h2
    go_enter Tryz.func94, Tryz.ntmps94
    go_wp2
    go_ret
    exact ⟨ret_b (show false = ringB x by rw [HB.out, H9.out]; simp), HM.out.bl⟩
  have g2 : decide (x.next < 1) = false := decide_eq_false h2
  by_cases h3 : 1000000000 < x.next
  · have H9 := Lib.hid (show inB x.next 1 1000000000 = false from inB_f (by omega))
    have g3 : decide (1000000000 < x.next) = true := decide_eq_true h3
    go_enter Tryz.func94, Tryz.ntmps94
    go_wp2
    go_ret
    exact ⟨ret_b (show false = ringB x by rw [HB.out, H9.out]; simp), HM.out.bl⟩
  have g3 : decide (1000000000 < x.next) = false := decide_eq_false h3
  have HC := Lib.hid (show inB x.cap 1 6 = true ∧ inB x.next 1 1000000000 = true from ⟨inB_t (by omega), inB_t (by omega)⟩)
  by_cases h4 : x.cap < (x.list.length : Int)
  · have g4 : decide (x.cap < (x.list.length : Int)) = true := decide_eq_true h4
    have H9 := Lib.hid (show decide ((x.list.length : Int) ≤ x.cap) = false from decide_eq_false (by omega))
    go_enter Tryz.func94, Tryz.ntmps94
    go_wp2
    go_ret
    exact ⟨ret_b (show false = ringB x by rw [HB.out, H9.out]; simp), HM.out.bl⟩
  have g4 : decide (x.cap < (x.list.length : Int)) = false := decide_eq_false h4
  have H9 := Lib.hid (show decide ((x.list.length : Int) ≤ x.cap) = true from decide_eq_true (by omega))
  clear h0 h1 h2 h3 h4
  go_enter Tryz.func94, Tryz.ntmps94
  go_wp2_with fail
  obtain ⟨W1, hW, hm⟩ := HM.out.name
  rw [← hW]
  replace HM := Lib.hid hm
  clear hm hW
  refine (implEntriesOk_d _ x.list _ (HM.out.arg R3.out) hs.list).mono ?_
  rintro e' W2 ⟨rfl, b'⟩
  replace HM := Lib.hid (HM.out.past b')
  clear b'
  clear g0 g1 g2 g3 g4
  cases he : x.list.all entryB
  · go_wp2
    go_ret
    exact ⟨ret_b (show false = ringB x by rw [HB.out, he]; rfl), HM.out.bl⟩
  obtain ⟨kx0, kx1, kx2, kx3⟩ := HM.out.c4 0 rfl
  have HQ := Lib.hid (show ringB x = (!x.out || decide ((x.list.length : Int) = 0)) by rw [HB.out, he, HC.out.1, HC.out.2, H9.out]; rfl)
  rcases (show x.out = true ∨ x.out = false by cases x.out <;> simp) with hO | hO
  · rw [hO] at kx2
    have HQ2 := Lib.hid (show ringB x = decide ((x.list.length : Int) = 0) by rw [HQ.out, hO]; rfl)
    clear hO
    by_cases h5 : x.list.length = 0
    · have g5 : ((x.list.length : Int) == 0) = true := by simp [h5]
      have HQ3 := Lib.hid (show ringB x = true by rw [HQ2.out]; simp [h5])
      clear h5
      go_wp2
      go_ret
      exact ⟨ret_b (show true = ringB x by exact HQ3.out.symm), HM.out.bl⟩
    have g5 : ((x.list.length : Int) == 0) = false := by rw [beq_eq_false_iff_ne]; omega
    have HQ3 := Lib.hid (show ringB x = false by rw [HQ2.out]; exact decide_eq_false (by omega))
    clear h5
    go_wp2
    go_ret
    exact ⟨ret_b (show false = ringB x by exact HQ3.out.symm), HM.out.bl⟩
  rw [hO] at kx2
  have HQ2 := Lib.hid (show ringB x = true by rw [HQ.out, hO]; rfl)
  clear hO
  go_wp2
  go_ret
  exact ⟨ret_b (show true = ringB x by exact HQ2.out.symm), HM.out.bl⟩
set_option maxRecDepth 100000 in
set_option maxHeartbeats 3200000 in
theorem implCopyRing_d (v : Value) (x : Ri) (w : World) (h : RdC w w.heap.size (datRi x) v) (hs : SmRi x) : Calls Tryz.prog 79 #[v] w (OwnPost (datRi x) w) := by
  have HR := Lib.hid h
  obtain ⟨A3, c3, rfl, r3⟩ := aggRi h
  have R3 := Lib.hid r3
  have hl := hs.list.len
  clear h r3
  have HM := Lib.hid (Ms.start w)
  replace HM := Lib.hid (HM.out.new #[.int .i64 x.cap, .int .i64 x.next, .bool x.out, .slice A3 x.list.length c3] 78)
  have hm := HM.out.new #[.int .i64 0, .int .i64 0, .bool false, .slice none 0 0] 78
  simp only [World.size_alloc] at hm
  replace HM := Lib.hid hm
  clear hm
  go_enter Tryz.func79, Tryz.ntmps79
  go_wp2_with fail
  obtain ⟨W1, hW, hm⟩ := HM.out.name
  rw [← hW]
  replace HM := Lib.hid hm
  clear hm hW
  refine (implCopyEntries_d _ x.list _ (HM.out.arg R3.out) hs.list).mono ?_
  rintro e' W2 ⟨v', rfl, o', b'⟩
  obtain ⟨Al, cl, rfl⟩ := sliceEns o'.read
  obtain ⟨bl, hm⟩ := HM.out.got o' b'
  clear o' b'
  replace HM := Lib.hid hm
  clear hm
  obtain ⟨kx0, kx1, kx2, kx3⟩ := HM.out.c4 2 rfl
  obtain ⟨fx0, fx1, fx2, fx3⟩ := HM.out.f4 2 rfl
  obtain ⟨kr0, kr1, kr2, kr3⟩ := HM.out.c4 1 rfl
  obtain ⟨fr0, fr1, fr2, fr3⟩ := HM.out.f4 1 rfl
  obtain ⟨nxr, nrx⟩ := HM.out.ne (i := 1) (j := 2) rfl rfl (by omega)
  go_wp2
  clear kx0 kx1 kx2 kx3 fx0 fx1 fx2 fx3 kr0 kr1 kr2 kr3 fr0 fr1 fr2 fr3
  have hm := HM.out.pk [2, 0, 1] (by decide) (by simp)
  simp only [low.pk, List.getElem?_cons_zero, List.getElem?_cons_succ] at hm
  replace HM := Lib.hid hm
  clear hm
  have hm := HM.out.set (j := 3) (.slice Al x.list.length cl)
  simp only [pa, pb, pc] at hm
  replace HM := Lib.hid hm
  clear hm
  have hm := HM.out.pk [2, 0, 1] (by decide) (by simp)
  simp only [low.pk, List.getElem?_cons_zero, List.getElem?_cons_succ] at hm
  replace HM := Lib.hid hm
  clear hm
  have hm := HM.out.putRow (ys := [.int .i64 x.cap, .int .i64 x.next, .bool x.out, .slice Al x.list.length cl]) rfl
  simp only [low.putRow, Nat.zero_add, Nat.reduceAdd] at hm
  replace HM := Lib.hid hm
  clear hm
  obtain ⟨W3, hW, hm⟩ := HM.out.name
  rw [← hW]
  replace HM := Lib.hid hm
  clear hm hW
  obtain ⟨kr0, kr1, kr2, kr3⟩ := HM.out.c4 0 rfl
  have hm := HM.out.pk [2, 0, 1] (by decide) (by simp)
  simp only [low.pk, List.getElem?_cons_zero, List.getElem?_cons_succ] at hm
  replace HM := Lib.hid hm
  clear hm
  exact bodyPost_ret (v := .agg #[.int .i64 x.cap, .int .i64 x.next, .bool x.out, .slice Al x.list.length cl]) (by simp [results, Tryz.results79, go_sem, kr0, kr1, kr2, kr3]) rfl (show Ms w (.dt (datRi x) (.agg #[.int .i64 x.cap, .int .i64 x.next, .bool x.out, .slice Al x.list.length cl]) _ :: _) _ from ((HM.out.pk0.pkO.pkF rfl).pkF rfl).pkF rfl).post
end Go.Proofs.YtamainhocghlgaaGreatDoor.low


/-
  Applying: the lengths; a row that is filled from the front by copies.
-/
namespace Go.Proofs.YtamainhocghlgaaGreatDoor.low
open Go.RowKit
set_option linter.unusedVariables false

theorem foldA_len {t : List Int} {ps : List Pt} (h : fitsB ps t = true) : ∀ k, k ≤ ps.length → ((foldA t (ps.take k)).2.length : Int) = sumOf keepOf (ps.take k) + sumOf putOf (ps.take k)
  | 0, _ => by simp [foldA, sumOf]
  | k + 1, hk => by
    obtain ⟨p, hp⟩ := idx_some (l := ps) (i := k) (by omega)
    have i2 := foldA_len h k (by omega)
    have hok := (fits_of h).1
    have hp' := of_okPt (okPs_at hp hok)
    have hin := foldA_in h hp
    rw [foldA_snoc hp, sumOf_snoc hp, sumOf_snoc hp]
    generalize foldA t (ps.take k) = s at *
    generalize sumOf keepOf (ps.take k) = q1 at *
    generalize sumOf putOf (ps.take k) = q2 at *
    unfold stepA keepOf putOf
    rcases (show p.kind = 1 ∨ p.kind = 2 ∨ p.kind = 3 by omega) with e | e | e
    · have hin := hin (.inl e)
      simp only [e, if_true]
      rw [List.length_append, List.length_take, List.length_drop]
      simp
      omega
    · simp only [e]
      simp
      omega
    · simp only [e]
      simp
      omega
theorem foldA_upto {t : List Int} {ps : List Pt} {n : Nat} (h : fitsB ps t = true) (hn : sumK ps + sumP ps = (n : Int)) (k : Nat) (hk : k ≤ ps.length) : (foldA t (ps.take k)).2.length ≤ n := by
  have h1 := foldA_len h k hk
  obtain ⟨hok, _, _, _, _, _, ho⟩ := fits_of h
  have hp : partsB ps = true := by unfold okOp at ho; rw [Bool.and_eq_true, Bool.and_eq_true] at ho; exact ho.1.1
  obtain ⟨t1, t2, t3⟩ := sum_t hp
  rw [t1, t2] at hn
  have a1 := sumOf_take (f := keepOf) (ps := ps) (fun q hq => (ok_bd (okPs_mem' hok hq)).1.1) k
  have a2 := sumOf_take (f := putOf) (ps := ps) (fun q hq => (ok_bd (okPs_mem' hok hq)).2.1.1) k
  omega
theorem foldA_all {t : List Int} {ps : List Pt} {n : Nat} (h : fitsB ps t = true) (hn : sumK ps + sumP ps = (n : Int)) : (foldA t ps).2.length = n := by
  have h1 := foldA_len h ps.length (Nat.le_refl _)
  rw [List.take_length] at h1
  obtain ⟨hok, _, _, _, _, _, ho⟩ := fits_of h
  have hp : partsB ps = true := by unfold okOp at ho; rw [Bool.and_eq_true, Bool.and_eq_true] at ho; exact ho.1.1
  obtain ⟨t1, t2, t3⟩ := sum_t hp
  rw [t1, t2] at hn
  omega
theorem fits_n {t : List Int} {ps : List Pt} (h : fitsB ps t = true) : ∃ n : Nat, sumK ps + sumP ps = (n : Int) ∧ n ≤ 200 := by
  obtain ⟨hok, _, _, h4, _, _, ho⟩ := fits_of h
  have hp : partsB ps = true := by unfold okOp at ho; rw [Bool.and_eq_true, Bool.and_eq_true] at ho; exact ho.1.1
  obtain ⟨t1, t2, t3⟩ := sum_t hp
  have h1 := foldA_len h ps.length (Nat.le_refl _)
  rw [List.take_length] at h1
  exact ⟨(foldA t ps).2.length, by rw [t1, t2]; omega, by omega⟩
/-- a row of n cells of which the first are filled -/
def fillR (n : Nat) (out : List Int) : List Value := out.map (Value.int .i64) ++ List.replicate (n - out.length) (Value.int .i64 0)
theorem fill_len (n : Nat) (out : List Int) (h : out.length ≤ n) : (fillR n out).length = n := by unfold fillR; simp; omega
theorem fill_splice (n : Nat) (out ys : List Int) (h : out.length + ys.length ≤ n) : splice (fillR n out) out.length (ys.map (Value.int .i64)) = fillR n (out ++ ys) := by
  unfold splice fillR
  have e1 : (out.map (Value.int .i64) ++ List.replicate (n - out.length) (Value.int .i64 0)).take out.length = out.map (Value.int .i64) := by
    rw [List.take_append_of_le_length (by simp), List.take_of_length_le (by simp)]
  have e2 : (out.map (Value.int .i64) ++ List.replicate (n - out.length) (Value.int .i64 0)).drop (out.length + (ys.map (Value.int .i64)).length) = List.replicate (n - (out ++ ys).length) (Value.int .i64 0) := by
    rw [List.drop_append, List.drop_eq_nil_of_le (by simp), List.nil_append, List.drop_replicate]
    congr 1
    simp
    omega
  rw [e1, e2, List.map_append, List.append_assoc]
theorem fill_all (n : Nat) (out : List Int) (h : out.length = n) : fillR n out = out.map (Value.int .i64) := by
  unfold fillR
  rw [h]
  simp
theorem own_full {w : World} {base r n : Nat} {e : TypeId} {xs : List Value} (h : w.ownsRow base e 1 (.slice (some ⟨r, 0, none⟩) n n) n xs) : w.heap[r]? = some (.cells xs.toArray e (0, 0)) ∧ base ≤ r ∧ xs.length = n := by
  have hl := h.1
  rcases h.2 with ⟨h1, _⟩ | ⟨g, cap, cur, hv, hge, hh, h4, h5, h6, h7⟩
  · cases h1
  · injection hv with q1 q2 q3
    injection q1 with q1
    injection q1 with q1
    subst q1
    subst q3
    have : cur = xs.toArray := by
      rw [← h7, List.take_of_length_le (by simp; omega)]
    subst this
    exact ⟨hh, hge, by simpa using hl⟩
theorem full_own {w : World} {base r n : Nat} {e : TypeId} {xs : List Value} (h : w.heap[r]? = some (.cells xs.toArray e (0, 0))) (hb : base ≤ r) (hl : xs.length = n) (hn : n ≤ 4294967296) : w.ownsRow base e 1 (.slice (some ⟨r, 0, none⟩) n n) n xs := by
  refine ⟨by simpa using hl, .inr ⟨r, n, xs.toArray, rfl, hb, h, Nat.le_refl _, by unfold maxLen; omega, by simp [hl], ?_⟩⟩
  rw [List.take_of_length_le (by simp [hl])]
end Go.Proofs.YtamainhocghlgaaGreatDoor.low


/-
  The program's side: contracts of impl.TextOk, impl.applies and of the reader's next.
-/
namespace Go.Proofs.YtamainhocghlgaaGreatDoor.low
open Go.RowKit
set_option linter.unusedVariables false

set_option maxHeartbeats 800000 in
theorem implTextOk_d (v : Value) (t : List Int) (w : World) (h : RdC w w.heap.size (encInts t) v) (hs : SmI t) : Calls Tryz.prog 138 #[v] w (Tells (okText t) w) := by
  obtain ⟨A, c, rfl, hr, _⟩ := ints_rd h
  have hl : t.length ≤ 1048576 := hs
  by_cases h2 : t.length ≤ 200
  · have HS := Lib.hid (show okText t = allB t by unfold okText; rw [decide_eq_true h2, Bool.and_true])
    go_enter Tryz.func138, Tryz.ntmps138
    go_wp2_with fail
    refine (implSignsOk_any A c t _ hr (by omega)).mono ?_
    rintro e w1 ⟨rfl, rfl⟩
    generalize allB t = q at *
    go_wp2
    go_ret
    exact ⟨ret_bool (by rw [HS.out]), Below.refl _ _⟩
  · have HS := Lib.hid (show okText t = false by unfold okText; rw [decide_eq_false h2, Bool.and_false])
    go_enter Tryz.func138, Tryz.ntmps138
    go_wp2
    go_ret
    exact ⟨ret_bool (by rw [HS.out]), Below.refl _ _⟩

set_option maxHeartbeats 1600000 in
theorem implFits_d (v v' : Value) (ps : List Pt) (t : List Int) (w : World) (h : RdC w w.heap.size (encPs ps) v) (h' : RdC w w.heap.size (encInts t) v') (hs : SmP ps) (hs' : SmI t) : Calls Tryz.prog 149 #[v, v'] w (Tells (fitsB ps t) w) := by
  obtain ⟨A, c, rfl, hr, _⟩ := parts_rd h
  obtain ⟨A', c', rfl, hr', _⟩ := ints_rd h'
  have hl := hs.1
  cases ho : okOp ps
  · have HS := Lib.hid (show fitsB ps t = false by unfold fitsB; rw [ho]; rfl)
    go_enter Tryz.func149, Tryz.ntmps149
    go_wp2_with fail
    refine (implOpOk_any A c ps _ hr (by omega) hs.all4).mono ?_
    rintro e w1 ⟨rfl, b1⟩
    rw [ho]
    go_wp2
    go_ret
    exact ⟨ret_bool (by rw [HS.out]), b1⟩
  · cases ht : okText t
    · have HS := Lib.hid (show fitsB ps t = false by unfold fitsB; rw [ho, ht]; rfl)
      go_enter Tryz.func149, Tryz.ntmps149
      go_wp2_with fail
      refine (implOpOk_any A c ps _ hr (by omega) hs.all4).mono ?_
      rintro e w1 ⟨rfl, b1⟩
      rw [ho]
      go_wp2_with fail
      refine (implTextOk_d _ t _ (h'.past b1) hs').mono ?_
      rintro e w2 ⟨rfl, b2⟩
      rw [ht]
      go_wp2
      go_ret
      exact ⟨ret_bool (by rw [HS.out]), b1.trans (b2.mono b1.size)⟩
    · have HS := Lib.hid (show fitsB ps t = (sumK ps + sumD ps == (t.length : Int)) by unfold fitsB; rw [ho, ht, Bool.true_and]; cases hq : (sumK ps + sumD ps == (t.length : Int)) <;> simp_all)
      go_enter Tryz.func149, Tryz.ntmps149
      go_wp2_with fail
      refine (implOpOk_any A c ps _ hr (by omega) hs.all4).mono ?_
      rintro e w1 ⟨rfl, b1⟩
      rw [ho]
      go_wp2_with fail
      refine (implTextOk_d _ t _ (h'.past b1) hs').mono ?_
      rintro e w2 ⟨rfl, b2⟩
      rw [ht]
      have d2 := b1.trans (b2.mono b1.size)
      go_wp2_with fail
      refine (implOpFrom_any A c ps _ (hr.past d2) (by omega) hs.all4).mono ?_
      rintro e w3 ⟨rfl, b3⟩
      generalize sumK ps + sumD ps = q at *
      go_wp2
      go_ret
      exact ⟨ret_bool (by rw [HS.out]), d2.trans (b3.mono d2.size)⟩

/-- the reader at block g: zs is left of the text, which lies in blocks below B -/
def Rdr (B g : Nat) (w : World) (zs : List Int) : Prop := ∃ A c, w.heap[g]? = some (.cells #[.slice A zs.length c] 207 (0, 0)) ∧ zs.length ≤ c ∧ Row (Value.int .i64) w B A zs ∧ B ≤ g
theorem Rdr.keep {B g : Nat} {w w' : World} {zs : List Int} (h : Rdr B g w zs) (hg : w'.heap[g]? = w.heap[g]?) (hk : ∀ p : Addr, p.block < B → w'.cell? p = w.cell? p) : Rdr B g w' zs := by
  obtain ⟨A, c, h1, h2, h3, h4⟩ := h
  exact ⟨A, c, hg.trans h1, h2, h3.keep hk, h4⟩
theorem Rdr.lt {B g : Nat} {w : World} {zs : List Int} (h : Rdr B g w zs) : g < w.heap.size := by
  obtain ⟨A, c, h1, _⟩ := h
  exact lt_of_some h1
theorem Rdr.past {B g : Nat} {w w' : World} {zs : List Int} (h : Rdr B g w zs) (hb : Below w.heap.size w w') : Rdr B g w' zs := by
  have hlt := h.lt
  have hB : B ≤ g := by obtain ⟨_, _, _, _, _, h4⟩ := h; exact h4
  exact h.keep (hb.block g hlt) (fun p hp => hb.cell (by omega))
theorem Rdr.touch {B g : Nat} {w w' : World} {zs : List Int} {T : Nat → Prop} (h : Rdr B g w zs) (ht : Touch T w w') (hT : ∀ b, T b → B ≤ b ∧ ¬ b = g) : Rdr B g w' zs :=
  h.keep (ht.block g (fun e => (hT g e).2 rfl)) (fun p hp => ht.cell (fun e => by have := (hT _ e).1; omega))
/-- next gives the first n numbers, and the reader goes on behind them -/
def NextP (B g : Nat) (zs : List Int) (n : Nat) (w : World) (e : Ending) (w' : World) : Prop := ∃ A, e = .returned (.slice A n n) ∧ Row (Value.int .i64) w' B A (zs.take n) ∧ Rdr B g w' (zs.drop n) ∧ Touch (fun b => b = g) w w'

theorem addr_add_add (p : Addr) (i j : Nat) : (p.add i).add j = p.add (i + j) := by
  unfold Addr.add
  by_cases hi : i = 0
  · subst hi; simp
  · by_cases hj : j = 0
    · subst hj; simp [hi]
    · simp [hi, hj, Nat.add_assoc]
theorem Row.init {w : World} {B : Nat} {A : Option Addr} {zs : List Int} (h : Row (Value.int .i64) w B A zs) (n : Nat) : Row (Value.int .i64) w B A (zs.take n) := fun hn => by
  have h0 : 0 < zs.length := by rw [List.length_take] at hn; omega
  obtain ⟨ad, e, hb, hc⟩ := h h0
  refine ⟨ad, e, hb, fun k z hz => ?_⟩
  rw [List.getElem?_take] at hz
  split at hz
  · exact hc k z hz
  · cases hz
theorem Row.tail {w : World} {B : Nat} {ad : Addr} {zs : List Int} (h : Row (Value.int .i64) w B (some ad) zs) (n : Nat) : Row (Value.int .i64) w B (some (ad.add n)) (zs.drop n) := fun hn => by
  have h0 : 0 < zs.length := by rw [List.length_drop] at hn; omega
  obtain ⟨ad', e, hb, hc⟩ := h h0
  injection e with e
  subst e
  refine ⟨_, rfl, by rw [block_of_add]; exact hb, fun k z hz => ?_⟩
  rw [List.getElem?_drop] at hz
  rw [addr_add_add]
  exact hc (n + k) z hz
theorem heap_set0 {w : World} {g : Nat} {T : TypeId} {u v : Value} (h : w.heap[g]? = some (.cells #[u] T (0, 0))) : (w.setCell ⟨g, 0, none⟩ v).heap[g]? = some (.cells #[v] T (0, 0)) := by
  rw [heap_setCell_same _ _ _ _ _ _ h]
  rfl

set_option maxHeartbeats 1600000 in
theorem implNext (B g n : Nat) (zs : List Int) (w : World) (h : Rdr B g w zs) (hn : n ≤ zs.length) (hz : zs.length ≤ 1000000) : Calls Tryz.prog 151 #[.pointer (some ⟨g, 0, none⟩), .int .i64 n] w (NextP B g zs n w) := by
  obtain ⟨A, c, h1, h2, h3, h4⟩ := h
  have hcell : w.cell? ⟨g, 0, none⟩ = some (.slice A zs.length c) := cell_of_row _ _ 0 _ _ _ h1
  have hfree : w.frozen? ⟨g, 0, none⟩ = false := by simp [World.frozen?, h1]
  have H1 := Lib.hid h1
  clear h1
  cases A with
  | none =>
    have h0 : zs = [] := by
      rcases Nat.eq_zero_or_pos zs.length with h | h
      · exact List.eq_nil_of_length_eq_zero h
      · obtain ⟨_, hn, _⟩ := h3 h
        cases hn
    subst h0
    obtain rfl : n = 0 := by simpa using hn
    go_enter Tryz.func151, Tryz.ntmps151
    go_wp2
    all_goals
      go_ret
      refine ⟨none, rfl, Row.nil, ⟨none, _, heap_set0 H1.out, ?_, Row.nil, h4⟩, (Touch.refl (fun b => b = g) _).setCell (p := ⟨g, 0, none⟩) rfl _⟩
      simp
  | some ad =>
    by_cases hc : n = c
    · obtain rfl : n = c := hc
      obtain rfl : n = zs.length := by omega
      go_enter Tryz.func151, Tryz.ntmps151
      have hd : zs.drop zs.length = [] := List.drop_length
      have HD := Lib.hid hd
      clear hd
      go_wp2
      go_ret
      refine ⟨some ad, rfl, (h3.init _).keep (fun p hp => ?_), ?_, (Touch.refl (fun b => b = g) _).setCell (p := ⟨g, 0, none⟩) rfl _⟩
      · exact ((Touch.refl (fun b => b = g) _).setCell (p := ⟨g, 0, none⟩) rfl _).cell (fun e => by omega)
      · rw [HD.out]
        exact ⟨some ad, 0, heap_set0 H1.out, Nat.le_refl _, Row.nil, h4⟩
    · go_enter Tryz.func151, Tryz.ntmps151
      go_wp2
      go_ret
      have hk : ∀ p : Addr, p.block < B → (w.setCell ⟨g, 0, none⟩ (.slice (some (ad.add n)) (zs.length - n) (c - n))).cell? p = w.cell? p := fun p hp => ((Touch.refl (fun b => b = g) w).setCell (p := ⟨g, 0, none⟩) rfl _).cell (fun e => by omega)
      refine ⟨some ad, rfl, (h3.init _).keep hk, ⟨some (ad.add n), c - n, ?_, by rw [List.length_drop]; omega, (h3.tail n).keep hk, h4⟩, (Touch.refl (fun b => b = g) _).setCell (p := ⟨g, 0, none⟩) rfl _⟩
      rw [List.length_drop]
      exact heap_set0 H1.out
end Go.Proofs.YtamainhocghlgaaGreatDoor.low


/-
  The program's side: contract of impl.Apply.
-/
namespace Go.Proofs.YtamainhocghlgaaGreatDoor.low
open Go.RowKit
set_option linter.unusedVariables false

theorem Rdr.drew {B g : Nat} {w : World} {zs : List Int} (h : Rdr B g w zs) : Rdr B g w.drew zs := h.keep rfl (fun _ _ => rfl)
theorem int_size : (Tryz.prog.info? 3).map (·.size) = some 1 := by kernel_rfl
theorem made_zero (n : Nat) : (madeCells (Value.cells (Value.int .i64 0)) (n * 1)).toList = fillR n [] := by
  unfold fillR
  simp [madeCells, Value.cells, Nat.mod_one, List.map_const']
theorem Row.src {w : World} {B : Nat} {A : Option Addr} {ys : List Int} (h : Row (Value.int .i64) w B A ys) (hp : 0 < (ys.map (Value.int .i64)).length) : ∃ ad, A = some ad ∧ ∀ j v, (ys.map (Value.int .i64))[j]? = some v → w.cell? (ad.add j) = some v := by
  obtain ⟨ad, e, _, hc⟩ := h (by simpa using hp)
  refine ⟨ad, e, fun j v hv => ?_⟩
  rw [List.getElem?_map] at hv
  obtain ⟨z, hz, rfl⟩ := Option.map_eq_some_iff.1 hv
  exact hc j z hz
theorem ints_one (ys : List Int) : ∀ v ∈ ys.map (Value.int .i64), v.oneCell' = true := by
  intro v hv
  obtain ⟨z, _, rfl⟩ := List.mem_map.1 hv
  rfl

set_option maxRecDepth 100000 in
set_option maxHeartbeats 3200000 in
theorem implApply_d (v v' : Value) (ps : List Pt) (t : List Int) (w : World) (h : RdC w w.heap.size (encPs ps) v) (h' : RdC w w.heap.size (encInts t) v') (hs : SmP ps) (hs' : SmI t) : Calls Tryz.prog 139 #[v, v'] w (ResB (encInts (applyT ps t)) (fitsB ps t) w) := by
  obtain ⟨A, c, rfl, hr, _⟩ := parts_rd h
  obtain ⟨A', c', rfl, hr', hcap⟩ := ints_rd h'
  obtain ⟨i0, hi0, hz0, hz1, hz2⟩ := info_parts ints_info
  cases hf : fitsB ps t
  · have e1 : applyT ps t = [] := by simp [applyT, hf]
    rw [e1]
    go_enter Tryz.func139, Tryz.ntmps139
    go_wp2_with fail
    refine (implFits_d _ _ ps t _ h h' hs hs').mono ?_
    rintro e w1 ⟨rfl, b1⟩
    rw [hf]
    go_wp2
    go_ret2
    exact ⟨_, rfl, ⟨[], ⟨[], [], World.ownsRow_nil _ _ _ _, ⟨rfl, rfl⟩, rfl⟩, by simp, fun b hb => by simp at hb, Nat.le_refl _, b1.size⟩, b1⟩
  · have e1 : applyT ps t = (foldA t ps).2 := by simp [applyT, hf]
    rw [e1]
    have HF := Lib.hid hf
    have HFO := Lib.hid (fits_of hf)
    have hl := HFO.out.2.1
    have ht := HFO.out.2.2.2.2.2.1
    obtain ⟨n, hn, hn2⟩ := fits_n hf
    have HN := Lib.hid hn
    clear hn
    have hl1 := hs.1
    go_enter Tryz.func139, Tryz.ntmps139
    go_wp2_with fail
    refine (implFits_d _ _ ps t _ h h' hs hs').mono ?_
    rintro e w1 ⟨rfl, b1⟩
    rw [hf]
    clear hf e1
    go_wp2_with fail
    have hrd : Rdr w.heap.size w1.heap.size (w1.alloc (.cells #[.slice A' t.length c'] 207)) t := ⟨A', c', heap_alloc_new w1 _, hcap, (hr'.below b1).keep (fun p hp => (alloc_below w1 _).cell (Nat.lt_of_lt_of_le hp b1.size)), b1.size⟩
    have hb2 := b1.trans ((alloc_below w1 (.cells #[.slice A' t.length c'] 207)).mono b1.size)
    generalize w1.alloc (.cells #[.slice A' t.length c'] 207) = w2 at *
    have hwg := b1.size
    generalize w1.heap.size = g at *
    clear b1
    refine (implOpTo_any A c ps w2 (hr.past hb2) (by omega) hs.all4).mono ?_
    rintro e w3 ⟨rfl, b3⟩
    rw [HN.out]
    have hrd3 := hrd.past b3
    have hb3 := hb2.trans (b3.mono hb2.size)
    clear hrd hb2 b3
    go_wp2_with (at_make; refine wpList_make_full _ rfl _ _ 61 rfl w3.heap.size 3 i0 (.int .i64 0) 1 Tryz.underlying61 hi0 hz0 hz1 _ _ _ _ n rfl rfl (by omega) (by omega) (by rw [hz2]; omega) (by unfold maxLen; omega) (Nat.le_refl _) ?_; intro w4 hown hg4)
    have hb4 := (Below.refl w3.heap.size w3).grown hg4 (Nat.le_refl _) (fun _ h => by cases h)
    rw [made_zero] at hown
    have hrow := (own_full hown).1
    have hrd4 := hrd3.past hb4
    have hgr := hrd3.lt
    have hbw := hb3.trans (hb4.mono hb3.size)
    have hwr := hb3.size
    generalize w3.heap.size = r at *
    have HRW := Lib.hid hrow
    have HRD := Lib.hid hrd4
    clear hown hg4 hb4 hrow hrd4 hrd3 hb3
    go_loopw [8, 23] (fun a i wr => ∃ k : Nat, k ≤ ps.length ∧ i = .int .i64 k ∧ a = .int .i64 ((foldA t (ps.take k)).2.length : Int) ∧ wr.heap[r]? = some (.cells (fillR n (foldA t (ps.take k)).2).toArray 3 (0, 0)) ∧ Rdr w.heap.size g wr (t.drop (foldA t (ps.take k)).1) ∧ Below w.heap.size w wr) (fun _ i _ => ps.length - (intOf i).toNat)
    case atStart => exact ⟨0, Nat.zero_le _, rfl, rfl, HRW.out, HRD.out, hbw⟩
    case round =>
      obtain ⟨k, hk, rfl, rfl, hrow, hrd, hbel⟩ := hrel
      clear HRW HRD hbw
      have hout := foldA_upto HF.out HN.out k hk
      have hfit := Lib.hid (foldA_fit (t := t) HFO.out.1 k hk)
      by_cases hlt : k < ps.length
      · obtain ⟨b, off, p, rfl, hb, hp, hc⟩ := hr.at_ hlt
        obtain ⟨x0, x1, A1, e1, x2, r1⟩ := hc.keep (w' := wr) hb (fun _ hq => hbel.cell hq)
        have hokp := okPs_at hp HFO.out.1
        have hok := of_okPt hokp
        have hout1 := foldA_upto HF.out HN.out (k + 1) hlt
        have hin := foldA_in HF.out hp
        rw [foldA_snoc (t := t) hp] at hout1
        have K1 := Lib.hid (foldA_snoc (t := t) hp)
        have hsl := hs.all p (List.mem_of_getElem? hp)
        clear hp hc
        have hat : (foldA t (ps.take k)).1 ≤ 200 := by
          have f := hfit.out
          have a1 := sumOf_take (f := keepOf) (ps := ps) (fun q hq => (ok_bd (okPs_mem' HFO.out.1 hq)).1.1) k
          have a3 := sumOf_take (f := dropOf) (ps := ps) (fun q hq => (ok_bd (okPs_mem' HFO.out.1 hq)).2.2.1) k
          have g1 := HFO.out.2.2.1
          omega
        generalize foldA t (ps.take k) = st at *
        obtain ⟨at_, out⟩ := st
        obtain ⟨pk, pn, pz⟩ := p
        simp only at x0 x1 x2 hok r1 hin hrow hrd hat hout
        rcases (show pk = 1 ∨ pk = 2 ∨ pk = 3 by omega) with rfl | rfl | rfl
        · have hn1 : 0 ≤ pn := by omega
          have hn2 : pn ≤ 200 := by omega
          have hin' := hin (.inl rfl)
          obtain ⟨m, rfl⟩ := Int.eq_ofNat_of_zero_le hn1
          have hlen : ((t.drop at_).take m).length = m := piece_len (by omega)
          have K2 := Lib.hid (show stepA t (at_, out) ⟨1, (m : Int), pz⟩ = (at_ + m, out ++ (t.drop at_).take m) by simp [stepA])
          rw [K2.out] at hout1
          have HY := Lib.hid (show (t.drop at_).take ((t.drop at_).take m).length = (t.drop at_).take m by rw [hlen])
          generalize (t.drop at_).take m = ys at *
          obtain rfl : ys.length = m := hlen
          have hn3 : out.length + ys.length ≤ n := by simpa using hout1
          clear hok hin hout1
          have bA := alloc_below wr (.cells #[.int .i64 1, .int .i64 (ys.length : Int), .slice A1 pz.length e1] 145)
          have HRD := Lib.hid (hrd.past bA)
          have hrl := lt_of_some hrow
          have HRW := Lib.hid ((bA.block r hrl).trans hrow)
          clear hrd hrow r1
          have hb0 := hbel.trans (bA.mono hbel.size)
          clear bA
          have hfl : (ys.map (Value.int .i64)).length = Nat.min ys.length (n - out.length) := by rw [List.length_map]; exact (Nat.min_eq_left (by omega)).symm
          have HFL := Lib.hid hfl
          clear hfl
          have hdst : 0 < (ys.map (Value.int .i64)).length → (if n = out.length then some (⟨r, 0, none⟩ : Addr) else some ⟨r, out.length, none⟩) = some ⟨r, out.length, none⟩ := fun hp => if_neg (by rw [List.length_map] at hp; omega)
          have HDST := Lib.hid hdst
          clear hdst
          have hz1 : ys.length ≤ (t.drop at_).length := by rw [List.length_drop]; omega
          have hz2' : (t.drop at_).length ≤ 1000000 := by rw [List.length_drop]; omega
          have HZ1 := Lib.hid hz1
          have HZ2 := Lib.hid hz2'
          clear hz1 hz2'
          have hw1 : IntKind.i64.wrap ((out.length : Int) + (ys.length : Int)) = (out.length : Int) + (ys.length : Int) := IntWalk.i64_in _ (by omega)
          go_wp2
          go_region_law (first | (refine step_copy_splice rfl (.tmp 34) (.tmp 38) 61 61 rfl 3 Tryz.underlying61 int_size (if n = out.length then some (⟨r, 0, none⟩ : Addr) else some ⟨r, out.length, none⟩) A4 (n - out.length) (n - out.length) ys.length ys.length rfl rfl r out.length (fillR n out) 3 (by exact hrw4.out) (ys.map (Value.int .i64)) (by exact HFL.out) (fun hp => ⟨HDST.out hp, r4.out.src hp⟩) (by rw [fill_len _ _ hout]; simpa using hn3) (ints_one _) r _ (Below.refl _ _) (Nat.le_refl _) ?_; intro w5 hg5 hb5) | (go_simp; go_at_call 151; refine (implNext w.heap.size g ys.length (t.drop at_) _ (by exact HRD.out.drew) (by exact HZ1.out) (by exact HZ2.out)).mono ?_; rintro e w4 ⟨A4, rfl, r4, rd4, t4⟩; rw [HY.out] at r4; replace r4 := Lib.hid r4; have HR4 := Lib.hid rd4; have hrw4 := Lib.hid ((t4.block r (by omega)).trans HRW.out); clear rd4))
          have hb4' : Below w.heap.size w w4 := hb0.drew.trans (t4.below (fun b hb => by have hb' : b = g := hb; omega))
          have hb5' : Below w.heap.size w w5 := hb4'.trans (hb5.mono hwr)
          have HR5 := Lib.hid (show w5.heap[r]? = some (.cells (fillR n (out ++ ys)).toArray 3 (0, 0)) by rw [hg5.out, fill_splice _ _ _ hn3])
          have HD5 := Lib.hid (HR4.out.keep (hb5.block g hgr) (fun p hp => hb5.cell (by omega)))
          clear hg5 hb5 HDST HFL hb4' t4
          go_wp2
          go_roundw
          case rel => exact ⟨k + 1, by omega, by go_num, by rw [K1.out, K2.out]; simp, by rw [K1.out, K2.out]; exact HR5.out, by rw [K1.out, K2.out]; have := HD5.out; rw [List.drop_drop] at this; exact this, hb5'⟩
          case measure => simp [intOf]; omega
        · have hn3 : out.length + pz.length ≤ n := by
            have := hout1
            simp [stepA] at this
            exact this
          clear hok hin hout1
          have bA := alloc_below wr (.cells #[.int .i64 2, .int .i64 pn, .slice A1 pz.length e1] 145)
          have HRD := Lib.hid (hrd.past bA)
          have hrl := lt_of_some hrow
          have HRW := Lib.hid ((bA.block r hrl).trans hrow)
          have hpc := Lib.hid (Row.past_alloc (r1.more hbel.size) (.cells #[.int .i64 2, .int .i64 pn, .slice A1 pz.length e1] 145))
          clear hrd hrow r1
          have hb0 := hbel.trans (bA.mono hbel.size)
          clear bA
          have hfl : (pz.map (Value.int .i64)).length = Nat.min pz.length (n - out.length) := by rw [List.length_map]; exact (Nat.min_eq_left (by omega)).symm
          have HFL := Lib.hid hfl
          clear hfl
          have hw1 : IntKind.i64.wrap ((out.length : Int) + (pz.length : Int)) = (out.length : Int) + (pz.length : Int) := IntWalk.i64_in _ (by omega)
          have hdst : 0 < (pz.map (Value.int .i64)).length → (if n = out.length then some (⟨r, 0, none⟩ : Addr) else some ⟨r, out.length, none⟩) = some ⟨r, out.length, none⟩ := fun hp => if_neg (by rw [List.length_map] at hp; omega)
          have HDST := Lib.hid hdst
          clear hdst
          go_wp2
          go_region_law (refine step_copy_splice rfl (.tmp 46) (.tmp 48) 61 61 rfl 3 Tryz.underlying61 int_size (if n = out.length then some (⟨r, 0, none⟩ : Addr) else some ⟨r, out.length, none⟩) A1 (n - out.length) (n - out.length) pz.length e1 rfl rfl r out.length (fillR n out) 3 (by exact HRW.out) (pz.map (Value.int .i64)) (by exact HFL.out) (fun hp => ⟨HDST.out hp, hpc.out.src hp⟩) (by rw [fill_len _ _ hout]; simpa using hn3) (ints_one _) r _ (Below.refl _ _) (Nat.le_refl _) ?_; intro w5 hg5 hb5)
          have hb5' : Below w.heap.size w w5 := hb0.drew.trans (hb5.mono hwr)
          have HR5 := Lib.hid (show w5.heap[r]? = some (.cells (fillR n (out ++ pz)).toArray 3 (0, 0)) by rw [hg5.out, fill_splice _ _ _ hn3])
          have HD5 := Lib.hid (HRD.out.drew.keep (hb5.block g hgr) (fun p hp => hb5.cell (by omega)))
          clear hg5 hb5 HDST HFL
          go_wp2
          go_roundw
          case rel => exact ⟨k + 1, by omega, by go_num, by rw [K1.out]; simp [stepA], by rw [K1.out]; exact HR5.out, by rw [K1.out]; exact HD5.out, hb5'⟩
          case measure => simp [intOf]; omega
        · have hn1 : 0 ≤ pn := by omega
          have hn2 : pn ≤ 200 := by omega
          have hin' := hin (.inr rfl)
          clear hok hin hout1
          obtain ⟨m, rfl⟩ := Int.eq_ofNat_of_zero_le hn1
          have bA := alloc_below wr (.cells #[.int .i64 3, .int .i64 (m : Int), .slice A1 pz.length e1] 145)
          have HRD := Lib.hid (hrd.past bA)
          have hrl := lt_of_some hrow
          have HRW := Lib.hid ((bA.block r hrl).trans hrow)
          clear hrd hrow
          have hb0 := hbel.trans (bA.mono hbel.size)
          clear bA
          go_wp2_with fail
          refine (implNext w.heap.size g m (t.drop at_) _ HRD.out (by rw [List.length_drop]; omega) (by rw [List.length_drop]; omega)).mono ?_
          rintro e w4 ⟨A4, rfl, r4, rd4, t4⟩
          have HR4 := Lib.hid rd4
          have hrw4 := Lib.hid ((t4.block r (by omega)).trans HRW.out)
          have hb4 := hb0.trans (t4.below (fun b hb => by have := hb; omega))
          clear r4 rd4 t4
          go_wp2
          go_roundw
          case rel => exact ⟨k + 1, by omega, by go_num, by rw [K1.out]; rfl, by rw [K1.out]; exact hrw4.out, by rw [K1.out]; have := HR4.out; rw [List.drop_drop] at this; simpa [stepA] using this, hb4⟩
          case measure => simp [intOf]; omega
      · have hke : ps.take k = ps := List.take_of_length_le (by omega)
        rw [hke] at hrow hrd ⊢
        have hall := foldA_all HF.out HN.out
        rw [fill_all _ _ hall] at hrow
        have HO := Lib.hid (full_own (base := w.heap.size) hrow hwr (by simpa using hall) (by omega))
        have HL := Lib.hid hall
        clear hrow hrd hall hke hout
        generalize (foldA t ps).2 = out at *
        go_wp2
        go_ret2
        have HO2 := HO.out
        rw [← HL.out] at HO2 ⊢
        exact ⟨_, rfl, ⟨_, ow_ints HO2, by simp [Value.ownBlock], fun b hb => by
          have hb' : b = r := by simpa [Value.ownBlock] using hb
          subst hb'
          exact ⟨hwr, own_in HO2 rfl⟩, Nat.le_refl _, hbel.size⟩, hbel⟩
end Go.Proofs.YtamainhocghlgaaGreatDoor.low


/-
  The program's side: contracts of impl.ApplyAll and impl.Idle.
-/
namespace Go.Proofs.YtamainhocghlgaaGreatDoor.low
open Go.RowKit
set_option linter.unusedVariables false

set_option maxRecDepth 100000 in
set_option maxHeartbeats 3200000 in
theorem implApplyAll_d (v v' : Value) (l : List (List Pt)) (t : List Int) (w : World) (h : RdC w w.heap.size (encPss l) v) (h' : RdC w w.heap.size (encInts t) v') (hs : SmPP l) (hs' : SmI t) : Calls Tryz.prog 116 #[v, v'] w (ResB (encInts (applyAllT l t)) (applyAllB l t) w) := by
  obtain ⟨A, c, rfl⟩ := pss_len h
  obtain ⟨A', c', rfl, hr', _⟩ := ints_rd h'
  obtain ⟨i0, hi0, hz0, hz1, hz2⟩ := info_parts ints_info
  have hl := hs.1
  have ht : t.length ≤ 1048576 := hs'
  cases htx : okText t
  · have HN := Lib.hid (show applyAllB l t = false ∧ applyAllT l t = [] by
      have e1 : applyAllB l t = false := by unfold applyAllB; rw [htx, Bool.and_false]
      exact ⟨e1, by unfold applyAllT; rw [e1]; rfl⟩)
    go_enter Tryz.func116, Tryz.ntmps116
    go_wp2_with fail
    refine (implTextOk_d _ t _ h' hs').mono ?_
    rintro e w1 ⟨rfl, b1⟩
    rw [htx]
    go_wp2
    go_ret2
    rw [HN.out.1, HN.out.2]
    exact ⟨_, rfl, nilOwn _ _ rfl b1.size, b1⟩
  · have HTX := Lib.hid htx
    have hsrc : Nat.min t.length t.length = t.length := Nat.min_self _
    have hfl : (t.map (Value.int .i64)).length = Nat.min t.length t.length := by rw [List.length_map, hsrc]
    have HFL := Lib.hid hfl
    clear hfl hsrc
    go_enter Tryz.func116, Tryz.ntmps116
    go_wp2_with fail
    refine (implTextOk_d _ t _ h' hs').mono ?_
    rintro e w1 ⟨rfl, b1⟩
    rw [htx]
    clear htx
    go_wp2_with (first | (at_make; refine wpList_make_full _ rfl _ _ 61 rfl w1.heap.size 3 i0 (.int .i64 0) 1 Tryz.underlying61 hi0 hz0 hz1 _ _ _ _ t.length rfl rfl (by omega) (by omega) (by rw [hz2]; omega) (by unfold maxLen; omega) (Nat.le_refl _) ?_; intro w2 hown hg2; rw [made_zero] at hown; have HROW := Lib.hid (own_full hown).1; have hb2 := (Below.refl w1.heap.size w1).grown hg2 (Nat.le_refl _) (fun _ h => by cases h); have hsr := Lib.hid ((hr'.past b1).past hb2); clear hown hg2) | (refine wpList_copy_splice (o := ⟨some 19, _, _, _, _, _⟩) rfl (.tmp 17) (.tmp 18) 61 61 rfl 3 Tryz.underlying61 int_size (some ⟨w1.heap.size, 0, none⟩) A' t.length t.length t.length c' rfl rfl w1.heap.size 0 (fillR t.length []) 3 HROW.out (t.map (Value.int .i64)) HFL.out (fun hp => ⟨rfl, hsr.out.src hp⟩) (by rw [fill_len _ _ (Nat.zero_le _)]; simp) (ints_one _) w1.heap.size _ (Below.refl _ _) (Nat.le_refl _) ?_; intro w3 hg3 hb3))
    have hbn := b1.trans ((hb2.trans hb3).mono b1.size)
    have hrow3 : w3.heap[w1.heap.size]? = some (.cells (t.map (Value.int .i64)).toArray 3 (0, 0)) := by
      have e := fill_splice t.length [] t (by simp)
      rw [List.nil_append, List.length_nil] at e
      rw [hg3.out, e, fill_all _ _ rfl]
    have HON := Lib.hid (ownInts (full_own (base := w.heap.size) hrow3 b1.size (by simp) (by omega)) hbn.size)
    clear hrow3 hg3 hb3 hb2 b1 HROW hsr HFL
    generalize w1.heap.size = r at *
    go_loopw [6, 22] (fun o i wr => ∃ (k : Nat) (cur : List Int), k ≤ l.length ∧ i = .int .i64 k ∧ foldAll (l.take k) t = some cur ∧ Own w.heap.size wr.heap.size wr (encInts cur) o ∧ Below w.heap.size w wr) (fun _ i _ => l.length - (intOf i).toNat)
    case atStart => exact ⟨0, t, Nat.zero_le _, rfl, rfl, HON.out, hbn⟩
    case round =>
      obtain ⟨k, cur, hk, rfl, hf, ho, hbel⟩ := hrel
      clear HON hbn
      have HF := Lib.hid hf
      have hcl := foldAll_len hk hf
      clear hf
      by_cases hlt : k < l.length
      · obtain ⟨ad, ps, A1, c1, rfl, hb, hp, hc, hpr⟩ := pss_at (h.below hbel) hlt
        have K1 := Lib.hid (foldAll_snoc (t := t) hp)
        rw [HF.out] at K1
        have hsp := hs.all ps (List.mem_of_getElem? hp)
        clear hp
        obtain ⟨Ao, co, rfl⟩ := sliceI ho.read
        have HO := Lib.hid ho
        have HPR := Lib.hid (RdC.more hbel.size _ _ hpr)
        clear ho hpr
        have hsc : SmI cur := by unfold SmI; omega
        go_wp2_with fail
        refine (implApply_d _ _ ps cur _ HPR.out HO.out.read hsp hsc).mono ?_
        rintro e w1 ⟨v1, rfl, o1, b1⟩
        obtain ⟨A3, c3, rfl⟩ := sliceI o1.read
        have HO1 := Lib.hid o1
        clear o1
        cases hfit : fitsB ps cur
        · have HN := Lib.hid (show applyAllB l t = false ∧ applyAllT l t = [] by
            have : foldAll l t = none := foldAll_none (k := k + 1) (by rw [K1.out]; simp [stepAll, hfit])
            have e1 : applyAllB l t = false := by unfold applyAllB; rw [this]; rfl
            exact ⟨e1, by unfold applyAllT; rw [e1]; rfl⟩)
          go_wp2
          go_ret2
          rw [HN.out.1, HN.out.2]
          exact ⟨_, rfl, nilOwn _ _ rfl (hbel.trans (b1.mono hbel.size)).size, hbel.trans (b1.mono hbel.size)⟩
        · have K2 := Lib.hid (show foldAll (l.take (k + 1)) t = some (applyT ps cur) by rw [K1.out]; simp [stepAll, hfit])
          go_wp2
          go_roundw
          case rel => exact ⟨k + 1, applyT ps cur, by omega, by go_num, K2.out, HO1.out.wide hbel.size (Nat.le_refl _) (Nat.le_refl _), hbel.trans (b1.mono hbel.size)⟩
          case measure => simp [intOf]; omega

      · have hke : l.take k = l := List.take_of_length_le (by omega)
        have HF2 := Lib.hid (show foldAll l t = some cur by rw [← HF.out, hke])
        obtain ⟨Ao, co, rfl⟩ := sliceI ho.read
        have HO := Lib.hid ho
        clear ho
        have HN := Lib.hid (show applyAllB l t = true ∧ applyAllT l t = cur by
          have e1 : applyAllB l t = true := by unfold applyAllB; rw [HTX.out, HF2.out]; rfl
          exact ⟨e1, by unfold applyAllT; rw [if_pos e1, HF2.out]; rfl⟩)
        go_wp2
        go_ret2
        rw [HN.out.1, HN.out.2]
        exact ⟨_, rfl, HO.out, hbel⟩
end Go.Proofs.YtamainhocghlgaaGreatDoor.low


/-
  Contract of spec.Forget. Written by mkdoc8.py.
-/
namespace Go.Proofs.YtamainhocghlgaaGreatDoor.low
open Go.RowKit
set_option linter.unusedVariables false

end Go.Proofs.YtamainhocghlgaaGreatDoor.low


/-
  Contracts of impl.DocOk, DocNew, stores, TextAt, HeadText and OpsSince. Written by mkimp8d.py.
-/
namespace Go.Proofs.YtamainhocghlgaaGreatDoor.low
open Go.RowKit
set_option linter.unusedVariables false

theorem strClone_any (s : ByteArray) (w : World) (hs : s.size ≤ 1048576) : Calls Tryz.prog 75 #[.string s] w fun e w' => e = .returned (.string s) ∧ Below w.heap.size w w' := by
  go_enter Tryz.func75, Tryz.ntmps75
  go_wp2_with fail
  refine (Tryz.stringslite_Clone s _ (by omega)).mono ?_
  rintro e w' ⟨rfl, hb⟩
  go_wp2
  go_ret
  exact ⟨rfl, hb⟩
theorem bulk_mapI : ∀ l : List En, bulk (l.map En.o) = sumN totEn l
  | [] => rfl
  | e :: l => by
    have ih := bulk_mapI l
    rw [sumN_cons, ← ih]
    simp [bulk, totEn, totP]
theorem smEns_pp {l : List En} (h : SmEns l) : SmPP (l.map En.o) := by
  have h1 := h.len
  unfold SmEns totEns at h
  exact ⟨by simp; omega, by rw [bulk_mapI]; omega⟩
set_option maxRecDepth 100000 in
set_option maxHeartbeats 3200000 in
theorem implDocOk_w (v : Value) (x : Do) (w : World) (h : RdC w w.heap.size (datDo x) v) (hs : SmD4 x) : Calls Tryz.prog 93 #[v] w (Tells (docB x) w) := by
  have HR := Lib.hid h
  obtain ⟨A2, c2, A3, c3, A4, c4, rfl, r2, r3, r4⟩ := aggDo h
  have R2 := Lib.hid r2
  have R3 := Lib.hid r3
  have R4 := Lib.hid r4
  have HD := Lib.hid (doc_eq x)
  clear h r2 r3 r4
  have HM := Lib.hid (Ms.start w)
  replace HM := Lib.hid (HM.out.new #[.string x.name, .int .i64 x.from_, .slice A2 x.text.length c2, .slice A3 x.list.length c3, .slice A4 x.seen.length c4] 75)
  go_enter Tryz.func93, Tryz.ntmps93
  go_wp2_with fail
  obtain ⟨W1, hW, hm⟩ := HM.out.name
  rw [← hW]
  replace HM := Lib.hid hm
  clear hm hW
  refine (implNameOk_d x.name _ hs.nameL).mono ?_
  rintro e' W2 ⟨rfl, b'⟩
  replace HM := Lib.hid (HM.out.past b')
  clear b'
  cases hn : nameB x.name
  · go_wp2
    go_ret
    exact ⟨ret_b (by rw [HD.out, hn]; rfl), HM.out.bl⟩
  obtain ⟨kx0, kx1, kx2, kx3, kx4⟩ := HM.out.c5 0 rfl
  by_cases hf1 : x.from_ < 0
  · have H9 := Lib.hid (show inB x.from_ 0 999999000 = false from inB_f (by omega))
    have g1 : decide (x.from_ < 0) = true := decide_eq_true hf1
    go_wp2
    go_ret
    exact ⟨ret_b (by rw [HD.out, hn, H9.out]; rfl), HM.out.bl⟩
  have g1 : decide (x.from_ < 0) = false := decide_eq_false hf1
  by_cases hf2 : 999999000 < x.from_
  · have H9 := Lib.hid (show inB x.from_ 0 999999000 = false from inB_f (by omega))
    have g2 : decide (999999000 < x.from_) = true := decide_eq_true hf2
    go_wp2
    go_ret
    exact ⟨ret_b (by rw [HD.out, hn, H9.out]; rfl), HM.out.bl⟩
  have g2 : decide (999999000 < x.from_) = false := decide_eq_false hf2
  have HF := Lib.hid (show inB x.from_ 0 999999000 = true from inB_t (by omega))
  by_cases hf3 : 8 < x.list.length
  · have H9 := Lib.hid (show entriesIB x.list = false by unfold entriesIB; rw [decide_eq_false (by omega), Bool.false_and])
    have g3 : decide (8 < (x.list.length : Int)) = true := decide_eq_true (by omega)
    go_wp2
    go_ret
    exact ⟨ret_b (by rw [HD.out, hn, HF.out, H9.out]; rfl), HM.out.bl⟩
  have g3 : decide (8 < (x.list.length : Int)) = false := decide_eq_false (by omega)
  have h8 : x.list.length ≤ 8 := by omega
  go_wp2
  clear kx0 kx1 kx2 kx3 kx4 g1 g2 g3 hf3
  cases he : entriesIB x.list
  · replace HM := Lib.hid (HM.out.drew)
    refine wp_region_held_drew (S := fun W => Ms w [.bx w.heap.size (.cells #[.string x.name, .int .i64 x.from_, .slice A2 x.text.length c2, .slice A3 x.list.length c3, .slice A4 x.seen.length c4] 75 (0, 0))] W) (by kernel_rfl) (HM.out.pick (ks := [0]) (by decide) rfl) (fun hS => ?_)
    generalize W2.drew = W3 at HM hS  ⊢
    refine tk (v := ?_) 0 25 rfl (fun w' hS' => ?_) hS ?_
    rotate_left
    · go_simp; all_goals (with_reducible rfl)
    try simp only [Act.put, pa, pb, pc]
    refine tk (v := ?_) 1 26 rfl (fun w' hS' => ?_) hS ?_
    rotate_left
    · (try dsimp only at hS'); obtain ⟨q0, q1, q2, q3, q4⟩ := hS'.c5 0 rfl; go_simp; all_goals (with_reducible rfl)
    try simp only [Act.put, pa, pb, pc]
    refine r1 2 (some 27) rfl (fun K hK => ?_)
    go_simp
    refine (implEntriesOk8_d _ x.list _ (HM.out.arg R3.out) hs.list h8).mono ?_
    rw [he]
    rintro e' W4 ⟨rfl, b'⟩
    replace HM := Lib.hid (HM.out.past b')
    clear b'
    clear hS
    refine hK.out _ _ (HM.out.pick (ks := [0]) (by decide) rfl) (fun hS => ?_)
    clear hK K
    try simp only [Act.put, pa, pb, pc]
    refine tk (v := ?_) 3 28 rfl (fun w' hS' => ?_) hS ?_
    rotate_left
    · go_simp; all_goals (with_reducible rfl)
    try simp only [Act.put, pa, pb, pc]
    refine tk (v := ?_) 4 29 rfl (fun w' hS' => ?_) hS ?_
    rotate_left
    · go_simp; all_goals (with_reducible rfl)
    try simp only [Act.put, pa, pb, pc]
    refine tu 5 30 rfl hS ?_
    try simp only [Act.put, pa, pb, pc]
    refine tu 6 31 rfl hS ?_
    try simp only [Act.put, pa, pb, pc]
    refine tu 7 32 rfl hS ?_
    try simp only [Act.put, pa, pb, pc]
    refine tu 8 33 rfl hS ?_
    try simp only [Act.put, pa, pb, pc]
    refine tu 9 34 rfl hS ?_
    try simp only [Act.put, pa, pb, pc]
    refine tu 10 35 rfl hS ?_
    try simp only [Act.put, pa, pb, pc]
    refine tk (v := ?_) 11 36 rfl (fun w' hS' => ?_) hS ?_
    rotate_left
    · go_simp; all_goals (with_reducible rfl)
    try simp only [Act.put, pa, pb, pc]
    refine wpAnyH_done (by kernel_rfl) ?_ _
    clear hS
    go_wp2
    go_ret
    exact ⟨ret_b (by rw [HD.out, hn, HF.out, he]; rfl), HM.out.bl⟩
  cases hse : seenIB (headRevT x) x.seen
  · replace HM := Lib.hid (HM.out.drew)
    refine wp_region_held_drew (S := fun W => Ms w [.bx w.heap.size (.cells #[.string x.name, .int .i64 x.from_, .slice A2 x.text.length c2, .slice A3 x.list.length c3, .slice A4 x.seen.length c4] 75 (0, 0))] W) (by kernel_rfl) (HM.out.pick (ks := [0]) (by decide) rfl) (fun hS => ?_)
    generalize W2.drew = W5 at HM hS  ⊢
    refine tk (v := ?_) 0 25 rfl (fun w' hS' => ?_) hS ?_
    rotate_left
    · go_simp; all_goals (with_reducible rfl)
    try simp only [Act.put, pa, pb, pc]
    refine tk (v := ?_) 1 26 rfl (fun w' hS' => ?_) hS ?_
    rotate_left
    · (try dsimp only at hS'); obtain ⟨q0, q1, q2, q3, q4⟩ := hS'.c5 0 rfl; go_simp; all_goals (with_reducible rfl)
    try simp only [Act.put, pa, pb, pc]
    refine r1 2 (some 27) rfl (fun K hK => ?_)
    go_simp
    refine (implEntriesOk8_d _ x.list _ (HM.out.arg R3.out) hs.list h8).mono ?_
    rw [he]
    rintro e' W6 ⟨rfl, b'⟩
    replace HM := Lib.hid (HM.out.past b')
    clear b'
    clear hS
    refine hK.out _ _ (HM.out.pick (ks := [0]) (by decide) rfl) (fun hS => ?_)
    clear hK K
    try simp only [Act.put, pa, pb, pc]
    refine tk (v := ?_) 3 28 rfl (fun w' hS' => ?_) hS ?_
    rotate_left
    · go_simp; all_goals (with_reducible rfl)
    try simp only [Act.put, pa, pb, pc]
    refine tk (v := ?_) 4 29 rfl (fun w' hS' => ?_) hS ?_
    rotate_left
    · go_simp; all_goals (with_reducible rfl)
    try simp only [Act.put, pa, pb, pc]
    first | refine tu 5 30 rfl hS ?_ | (refine tk (v := ?_) 5 30 rfl (fun w' hS' => ?_) hS ?_; rotate_left; · (go_simp; all_goals (with_reducible rfl)))
    try simp only [Act.put, pa, pb, pc]
    first | refine tu 6 31 rfl hS ?_ | (refine tk (v := ?_) 6 31 rfl (fun w' hS' => ?_) hS ?_; rotate_left; · ((try dsimp only at hS'); obtain ⟨q0, q1, q2, q3, q4⟩ := hS'.c5 0 rfl; go_simp; all_goals (with_reducible rfl)))
    try simp only [Act.put, pa, pb, pc]
    first | refine tu 7 32 rfl hS ?_ | (refine tk (v := ?_) 7 32 rfl (fun w' hS' => ?_) hS ?_; rotate_left; · ((try dsimp only at hS'); obtain ⟨q0, q1, q2, q3, q4⟩ := hS'.c5 0 rfl; go_simp; all_goals (with_reducible rfl)))
    try simp only [Act.put, pa, pb, pc]
    refine r1 8 (some 33) rfl (fun K hK => ?_)
    go_simp
    refine (implHeadRev_w _ x _ (HM.out.arg HR.out)).mono ?_
    rintro e' W7 ⟨rfl, b'⟩
    replace HM := Lib.hid (HM.out.past b')
    clear b'
    clear hS
    refine hK.out _ _ (HM.out.pick (ks := [0]) (by decide) rfl) (fun hS => ?_)
    clear hK K
    try simp only [Act.put, pa, pb, pc]
    refine r1 9 (some 34) rfl (fun K hK => ?_)
    go_simp
    refine (implSeenOk_d _ x.seen (headRevT x) _ (HM.out.arg R4.out) hs.seen).mono ?_
    rw [hse]
    rintro e' W8 ⟨rfl, b'⟩
    replace HM := Lib.hid (HM.out.past b')
    clear b'
    clear hS
    refine hK.out _ _ (HM.out.pick (ks := [0]) (by decide) rfl) (fun hS => ?_)
    clear hK K
    try simp only [Act.put, pa, pb, pc]
    first | refine tu 10 35 rfl hS ?_ | (refine tk (v := ?_) 10 35 rfl (fun w' hS' => ?_) hS ?_; rotate_left; · (go_simp; all_goals (with_reducible rfl)))
    try simp only [Act.put, pa, pb, pc]
    refine tk (v := ?_) 11 36 rfl (fun w' hS' => ?_) hS ?_
    rotate_left
    · go_simp; all_goals (with_reducible rfl)
    try simp only [Act.put, pa, pb, pc]
    refine wpAnyH_done (by kernel_rfl) ?_ _
    clear hS
    go_wp2
    go_ret
    exact ⟨ret_b (by rw [HD.out, hn, HF.out, he, hse]; rfl), HM.out.bl⟩
  replace HM := Lib.hid (HM.out.drew)
  refine wp_region_held_drew (S := fun W => Ms w [.bx w.heap.size (.cells #[.string x.name, .int .i64 x.from_, .slice A2 x.text.length c2, .slice A3 x.list.length c3, .slice A4 x.seen.length c4] 75 (0, 0))] W) (by kernel_rfl) (HM.out.pick (ks := [0]) (by decide) rfl) (fun hS => ?_)
  generalize W2.drew = W9 at HM hS  ⊢
  refine tk (v := ?_) 0 25 rfl (fun w' hS' => ?_) hS ?_
  rotate_left
  · go_simp; all_goals (with_reducible rfl)
  try simp only [Act.put, pa, pb, pc]
  refine tk (v := ?_) 1 26 rfl (fun w' hS' => ?_) hS ?_
  rotate_left
  · (try dsimp only at hS'); obtain ⟨q0, q1, q2, q3, q4⟩ := hS'.c5 0 rfl; go_simp; all_goals (with_reducible rfl)
  try simp only [Act.put, pa, pb, pc]
  refine r1 2 (some 27) rfl (fun K hK => ?_)
  go_simp
  refine (implEntriesOk8_d _ x.list _ (HM.out.arg R3.out) hs.list h8).mono ?_
  rw [he]
  rintro e' W10 ⟨rfl, b'⟩
  replace HM := Lib.hid (HM.out.past b')
  clear b'
  clear hS
  refine hK.out _ _ (HM.out.pick (ks := [0]) (by decide) rfl) (fun hS => ?_)
  clear hK K
  try simp only [Act.put, pa, pb, pc]
  refine tk (v := ?_) 3 28 rfl (fun w' hS' => ?_) hS ?_
  rotate_left
  · go_simp; all_goals (with_reducible rfl)
  try simp only [Act.put, pa, pb, pc]
  refine tk (v := ?_) 4 29 rfl (fun w' hS' => ?_) hS ?_
  rotate_left
  · go_simp; all_goals (with_reducible rfl)
  try simp only [Act.put, pa, pb, pc]
  first | refine tu 5 30 rfl hS ?_ | (refine tk (v := ?_) 5 30 rfl (fun w' hS' => ?_) hS ?_; rotate_left; · (go_simp; all_goals (with_reducible rfl)))
  try simp only [Act.put, pa, pb, pc]
  first | refine tu 6 31 rfl hS ?_ | (refine tk (v := ?_) 6 31 rfl (fun w' hS' => ?_) hS ?_; rotate_left; · ((try dsimp only at hS'); obtain ⟨q0, q1, q2, q3, q4⟩ := hS'.c5 0 rfl; go_simp; all_goals (with_reducible rfl)))
  try simp only [Act.put, pa, pb, pc]
  first | refine tu 7 32 rfl hS ?_ | (refine tk (v := ?_) 7 32 rfl (fun w' hS' => ?_) hS ?_; rotate_left; · ((try dsimp only at hS'); obtain ⟨q0, q1, q2, q3, q4⟩ := hS'.c5 0 rfl; go_simp; all_goals (with_reducible rfl)))
  try simp only [Act.put, pa, pb, pc]
  refine r1 8 (some 33) rfl (fun K hK => ?_)
  go_simp
  refine (implHeadRev_w _ x _ (HM.out.arg HR.out)).mono ?_
  rintro e' W11 ⟨rfl, b'⟩
  replace HM := Lib.hid (HM.out.past b')
  clear b'
  clear hS
  refine hK.out _ _ (HM.out.pick (ks := [0]) (by decide) rfl) (fun hS => ?_)
  clear hK K
  try simp only [Act.put, pa, pb, pc]
  refine r1 9 (some 34) rfl (fun K hK => ?_)
  go_simp
  refine (implSeenOk_d _ x.seen (headRevT x) _ (HM.out.arg R4.out) hs.seen).mono ?_
  rw [hse]
  rintro e' W12 ⟨rfl, b'⟩
  replace HM := Lib.hid (HM.out.past b')
  clear b'
  clear hS
  refine hK.out _ _ (HM.out.pick (ks := [0]) (by decide) rfl) (fun hS => ?_)
  clear hK K
  try simp only [Act.put, pa, pb, pc]
  first | refine tu 10 35 rfl hS ?_ | (refine tk (v := ?_) 10 35 rfl (fun w' hS' => ?_) hS ?_; rotate_left; · (go_simp; all_goals (with_reducible rfl)))
  try simp only [Act.put, pa, pb, pc]
  refine tk (v := ?_) 11 36 rfl (fun w' hS' => ?_) hS ?_
  rotate_left
  · go_simp; all_goals (with_reducible rfl)
  try simp only [Act.put, pa, pb, pc]
  refine wpAnyH_done (by kernel_rfl) ?_ _
  clear hS
  go_wp2
  replace HM := Lib.hid (HM.out.drew)
  refine wp_region_held_drew (S := fun W => Ms w [.bx w.heap.size (.cells #[.string x.name, .int .i64 x.from_, .slice A2 x.text.length c2, .slice A3 x.list.length c3, .slice A4 x.seen.length c4] 75 (0, 0))] W) (by kernel_rfl) (HM.out.pick (ks := [0]) (by decide) rfl) (fun hS => ?_)
  generalize W12.drew = W13 at HM hS  ⊢
  refine tk (v := ?_) 0 38 rfl (fun w' hS' => ?_) hS ?_
  rotate_left
  · go_simp; all_goals (with_reducible rfl)
  try simp only [Act.put, pa, pb, pc]
  refine tk (v := ?_) 1 39 rfl (fun w' hS' => ?_) hS ?_
  rotate_left
  · (try dsimp only at hS'); obtain ⟨q0, q1, q2, q3, q4⟩ := hS'.c5 0 rfl; go_simp; all_goals (with_reducible rfl)
  try simp only [Act.put, pa, pb, pc]
  refine tk (v := ?_) 3 41 rfl (fun w' hS' => ?_) hS ?_
  rotate_left
  · go_simp; all_goals (with_reducible rfl)
  try simp only [Act.put, pa, pb, pc]
  refine tk (v := ?_) 4 42 rfl (fun w' hS' => ?_) hS ?_
  rotate_left
  · (try dsimp only at hS'); obtain ⟨q0, q1, q2, q3, q4⟩ := hS'.c5 0 rfl; go_simp; all_goals (with_reducible rfl)
  try simp only [Act.put, pa, pb, pc]
  refine r1 2 (some 40) rfl (fun K hK => ?_)
  go_simp
  refine (implOpsOf_d _ x.list _ (HM.out.arg R3.out) hs.list).mono ?_
  rintro e' W14 ⟨v', rfl, o', b'⟩
  obtain ⟨Al, nl, cl, rfl⟩ := sliceV o'.read
  obtain ⟨bl, hm⟩ := HM.out.got o' b'
  clear o' b'
  replace HM := Lib.hid hm
  clear hm
  clear hS
  refine hK.out _ _ (HM.out.pick (ks := [1]) (by decide) rfl) (fun hS => ?_)
  clear hK K
  try simp only [Act.put, pa, pb, pc]
  refine r1 5 (some 43) rfl (fun K hK => ?_)
  go_simp
  refine (implApplyAll_d _ _ (x.list.map En.o) x.text _ (HM.out.read (i := 0) rfl) (HM.out.arg R2.out) (smEns_pp hs.list) hs.text).mono ?_
  rintro e' W15 ⟨v', rfl, o', b'⟩
  clear o'
  replace HM := Lib.hid (HM.out.past b')
  clear b'
  clear hS
  refine hK.out _ _ (HM.out.pick (ks := [1]) (by decide) rfl) (fun hS => ?_)
  clear hK K
  try simp only [Act.put, pa, pb, pc]
  refine tk (v := ?_) 6 37 rfl (fun w' hS' => ?_) hS ?_
  rotate_left
  · go_simp; all_goals (with_reducible rfl)
  try simp only [Act.put, pa, pb, pc]
  refine tk (v := ?_) 7 44 rfl (fun w' hS' => ?_) hS ?_
  rotate_left
  · go_simp; all_goals (with_reducible rfl)
  try simp only [Act.put, pa, pb, pc]
  refine tk (v := ?_) 8 45 rfl (fun w' hS' => ?_) hS ?_
  rotate_left
  · go_simp; all_goals (with_reducible rfl)
  try simp only [Act.put, pa, pb, pc]
  refine tk (v := ?_) 9 3 rfl (fun w' hS' => ?_) hS ?_
  rotate_left
  · go_simp; all_goals (with_reducible rfl)
  try simp only [Act.put, pa, pb, pc]
  refine tk (v := ?_) 10 4 rfl (fun w' hS' => ?_) hS ?_
  rotate_left
  · go_simp; all_goals (with_reducible rfl)
  try simp only [Act.put, pa, pb, pc]
  refine wpAnyH_done (by kernel_rfl) ?_ _
  clear hS
  go_wp2
  go_ret
  exact ⟨ret_b (by rw [HD.out, hn, HF.out, he, hse]; rfl), HM.out.bl⟩
theorem implDocOk_d (v : Value) (x : Do) (w : World) (h : RdC w w.heap.size (datDo x) v) (hs : SmDo x) : Calls Tryz.prog 93 #[v] w (Tells (docB x) w) := implDocOk_w v x w h hs.four
end Go.Proofs.YtamainhocghlgaaGreatDoor.low

