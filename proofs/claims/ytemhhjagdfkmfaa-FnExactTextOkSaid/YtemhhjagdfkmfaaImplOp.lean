
/-
  Contracts of the program's functions on operations that only read: impl.PartOk, partsOk, size, sizeOf, OpFrom, OpTo, OpOk, Puts, Drops.
-/
import Derived.Test.YtemhhjagdfkmfaaSpecOp
namespace Go.Proofs.Ytemhhjagdfkmfaa.low
open Go.RowKit
set_option linter.unusedVariables false

set_option maxHeartbeats 1600000 in
theorem implPartOk_any (p : Pt) (A : Option Addr) (c : Nat) (w : World) (hr : Row (Value.int .i64) w w.heap.size A p.signs) (hl : p.signs.length ≤ 4294967296) :
    Calls Try.prog 75 #[.agg #[.int .i64 p.kind, .int .i64 p.n, .slice A p.signs.length c]] w (Tells (okPt p) w) := by
  obtain ⟨k, n, zs⟩ := p
  have hr' : Row (Value.int .i64) w w.heap.size A zs := hr
  have hl' : zs.length ≤ 4294967296 := hl
  clear hr hl
  by_cases hk : k = 1 ∨ k = 3
  · by_cases h0 : 0 ≤ n
    · by_cases h1 : n ≤ 200
      · by_cases hz : zs.length = 0
        all_goals
          have HS := Lib.hid (show okPt ⟨k, n, zs⟩ = decide (zs.length = 0) by
            first
              | (rw [okPt_t (.inl ⟨hk, ⟨h0, h1⟩, hz⟩), decide_eq_true hz])
              | (rw [okPt_f (by simp only; omega), decide_eq_false hz]))
          have hzb : ((zs.length : Int) == 0) = decide (zs.length = 0) := by
            first
              | (rw [decide_eq_true hz, beq_iff_eq]; omega)
              | (rw [decide_eq_false hz, beq_eq_false_iff_ne]; omega)
          generalize decide (zs.length = 0) = bb at HS hzb
          clear hz
          rcases hk with rfl | rfl
          all_goals
            go_enter Try.func75, Try.ntmps75
            go_wp2
            go_ret
            exact ⟨ret_bool (by rw [HS.out]), alloc_below _ _⟩
      · have HS := Lib.hid (show okPt ⟨k, n, zs⟩ = false by rw [okPt_f (by simp only; omega)])
        rcases hk with rfl | rfl
        all_goals
          go_enter Try.func75, Try.ntmps75
          go_wp2
          go_ret
          exact ⟨ret_bool (by rw [HS.out]), alloc_below _ _⟩
    · have HS := Lib.hid (show okPt ⟨k, n, zs⟩ = false by rw [okPt_f (by simp only; omega)])
      rcases hk with rfl | rfl
      all_goals
        go_enter Try.func75, Try.ntmps75
        go_wp2
        go_ret
        exact ⟨ret_bool (by rw [HS.out]), alloc_below _ _⟩
  · have hk1 : (k == 1) = false := by rw [beq_eq_false_iff_ne]; omega
    have hk3 : (k == 3) = false := by rw [beq_eq_false_iff_ne]; omega
    by_cases hk2 : k = 2
    · have hk2' : (k == 2) = true := by rw [beq_iff_eq]; exact hk2
      by_cases hn : n = 0
      · have hn' : (n == 0) = true := by rw [beq_iff_eq]; exact hn
        have HS := Lib.hid (show okPt ⟨k, n, zs⟩ = (allB zs && decide (zs.length ≤ 200)) by
          unfold okPt
          simp [hk2, hn])
        clear hk hk2 hn
        by_cases hlen : zs.length ≤ 200
        · have HL := Lib.hid (decide_eq_true hlen)
          go_enter Try.func75, Try.ntmps75
          go_wp2_with (go_at_call 35; refine (implSignsOk_any A c zs _ (hr'.past_alloc _) hl').mono ?_; rintro e w' ⟨rfl, rfl⟩)
          go_ret
          refine ⟨ret_bool ?_, alloc_below _ _⟩
          rw [HS.out, HL.out, Bool.and_true]
        · have HL := Lib.hid (decide_eq_false hlen)
          go_enter Try.func75, Try.ntmps75
          go_wp2
          go_ret
          refine ⟨ret_bool ?_, alloc_below _ _⟩
          rw [HS.out, HL.out, Bool.and_false]
      · have hn' : (n == 0) = false := by rw [beq_eq_false_iff_ne]; exact hn
        have HS := Lib.hid (show okPt ⟨k, n, zs⟩ = false by rw [okPt_f (by simp only; omega)])
        clear hk hk2 hn
        go_enter Try.func75, Try.ntmps75
        go_wp2
        go_ret
        exact ⟨ret_bool (by rw [HS.out]), alloc_below _ _⟩
    · have hk2' : (k == 2) = false := by rw [beq_eq_false_iff_ne]; exact hk2
      have HS := Lib.hid (show okPt ⟨k, n, zs⟩ = false by rw [okPt_f (by simp only; omega)])
      clear hk hk2
      go_enter Try.func75, Try.ntmps75
      go_wp2
      go_ret
      exact ⟨ret_bool (by rw [HS.out]), alloc_below _ _⟩

set_option maxHeartbeats 1600000 in
theorem implParts_any (A : Option Addr) (c : Nat) (ps : List Pt) (w : World) (hr : PRow w w.heap.size A ps) (hl : ps.length ≤ 4294967296) (hls : ∀ p ∈ ps, p.signs.length ≤ 4294967296) :
    Calls Try.prog 66 #[.slice A ps.length c] w (Tells (partsB ps) w) := by
  by_cases h6 : ps.length ≤ 600
  · go_enter Try.func66, Try.ntmps66
    go_wp2
    go_loopw [10] (fun i wr => ∃ k : Nat, k ≤ ps.length ∧ i = .int .i64 k ∧ okPs (ps.take k) = true ∧ Below w.heap.size w wr) (fun i _ => ps.length - (intOf i).toNat)
    case atStart => exact ⟨0, Nat.zero_le _, rfl, rfl, Below.refl _ _⟩
    case round =>
      obtain ⟨k, hk, rfl, ha, hbel⟩ := hrel
      have HA := Lib.hid ha
      clear ha
      by_cases hlt : k < ps.length
      · obtain ⟨b, off, p, rfl, hb, hp, hc⟩ := hr.at_ hlt
        obtain ⟨x0, x1, A1, e1, x2, r1⟩ := hc.keep (w' := wr) hb (fun _ hq => hbel.cell hq)
        have hsp := hls p (List.mem_of_getElem? hp)
        have HP := Lib.hid hp
        clear hp hc
        cases hs : okPt p
        · go_wp2_with fail
          refine (implPartOk_any p A1 e1 _ ((r1.more hbel.size).past_alloc _) hsp).mono ?_
          rintro e w2 ⟨rfl, b2⟩
          go_wp2
          go_ret
          exact ⟨ret_bool (by unfold partsB; rw [okPs_f HP.out hs]; rfl), (hbel.trans ((alloc_below wr _).mono hbel.size)).trans (b2.mono (Nat.le_trans hbel.size (alloc_below wr _).size))⟩
        · go_wp2_with fail
          refine (implPartOk_any p A1 e1 _ ((r1.more hbel.size).past_alloc _) hsp).mono ?_
          rintro e w2 ⟨rfl, b2⟩
          go_wp2
          go_roundw
          case rel => exact ⟨k + 1, by omega, by go_num, okPs_snoc HP.out HA.out hs, (hbel.trans ((alloc_below wr _).mono hbel.size)).trans (b2.mono (Nat.le_trans hbel.size (alloc_below wr _).size))⟩
          case measure => simp [intOf]; omega
      · have HE := Lib.hid (show partsB ps = true by
          have h1 := HA.out
          rw [List.take_of_length_le (by omega)] at h1
          unfold partsB
          rw [h1, Bool.true_and]
          exact decide_eq_true h6)
        go_wp2
        go_ret
        refine ⟨ret_bool ?_, hbel⟩
        rw [HE.out]
  · have HE := Lib.hid (show partsB ps = false by unfold partsB; rw [decide_eq_false h6, Bool.and_false])
    go_enter Try.func66, Try.ntmps66
    go_wp2
    go_ret
    exact ⟨ret_bool (by rw [HE.out]), Below.refl _ _⟩

/-- the size of a part of the kind -/
def sizeK (kind : Int) (p : Pt) : Int := if p.kind = kind then p.n + (p.signs.length : Int) else 0
theorem sumOf_congr {f g : Pt → Int} : ∀ {ps : List Pt}, (∀ p ∈ ps, f p = g p) → sumOf f ps = sumOf g ps
  | [], _ => rfl
  | p :: ps, h => by
    have h1 := h p (List.mem_cons_self ..)
    have h2 := sumOf_congr (f := f) (g := g) (ps := ps) fun q hq => h q (List.mem_cons_of_mem _ hq)
    have e : ∀ f : Pt → Int, sumOf f (p :: ps) = f p + sumOf f ps := fun f => by simp [sumOf]
    rw [e, e, h1, h2]
theorem okPs_mem {ps : List Pt} (h : okPs ps = true) {p : Pt} (hp : p ∈ ps) : okPt p = true := by unfold okPs at h; exact List.all_eq_true.1 h p hp
theorem sizeK_keep {ps : List Pt} (h : okPs ps = true) : sumOf (sizeK 1) ps = sumOf keepOf ps := sumOf_congr fun p hp => by
  have := of_okPt (okPs_mem h hp)
  unfold sizeK keepOf
  split <;> omega
theorem sizeK_put {ps : List Pt} (h : okPs ps = true) : sumOf (sizeK 2) ps = sumOf putOf ps := sumOf_congr fun p hp => by
  have := of_okPt (okPs_mem h hp)
  unfold sizeK putOf
  split <;> omega
theorem sizeK_drop {ps : List Pt} (h : okPs ps = true) : sumOf (sizeK 3) ps = sumOf dropOf ps := sumOf_congr fun p hp => by
  have := of_okPt (okPs_mem h hp)
  unfold sizeK dropOf
  split <;> omega
theorem sizeK_bd {kind : Int} {ps : List Pt} (h : okPs ps = true) (hl : ps.length ≤ 600) : 0 ≤ sumOf (sizeK kind) ps ∧ sumOf (sizeK kind) ps ≤ 120000 := by
  have := sumOf_bd (f := sizeK kind) ps fun p hq => by
    have := of_okPt (okPs_mem h hq)
    unfold sizeK
    split <;> omega
  omega

set_option maxHeartbeats 400000 in
theorem implSize_any (k n : Int) (A : Option Addr) (len c : Nat) (w : World) (h0 : 0 ≤ n) (h1 : n ≤ 200) (h2 : len ≤ 200) :
    Calls Try.prog 76 #[.agg #[.int .i64 k, .int .i64 n, .slice A len c]] w (Nums1 (n + (len : Int)) w) := by
  go_enter Try.func76, Try.ntmps76
  go_wp2
  go_ret
  exact ⟨rfl, alloc_below _ _⟩

set_option maxRecDepth 100000 in
set_option maxHeartbeats 1600000 in
theorem implSizeOf_any (kind : Int) (A : Option Addr) (c : Nat) (ps : List Pt) (w : World) (hr : PRow w w.heap.size A ps) (hl : ps.length ≤ 600) (hok : okPs ps = true) :
    Calls Try.prog 67 #[.slice A ps.length c, .int .i64 kind] w (Nums1 (sumOf (sizeK kind) ps) w) := by
  have HOK := Lib.hid hok
  clear hok
  go_enter Try.func67, Try.ntmps67
  go_wp2
  go_loopw [5, 10] (fun a i wr => ∃ k : Nat, k ≤ ps.length ∧ i = .int .i64 k ∧ a = .int .i64 (sumOf (sizeK kind) (ps.take k)) ∧ Below w.heap.size w wr) (fun _ i _ => ps.length - (intOf i).toNat)
  case atStart => exact ⟨0, Nat.zero_le _, rfl, rfl, Below.refl _ _⟩
  case round =>
    obtain ⟨k, hk, rfl, rfl, hbel⟩ := hrel
    obtain ⟨s1, s2⟩ := sizeK_bd (kind := kind) (okPs_take HOK.out k) (by rw [List.length_take]; omega)
    by_cases hlt : k < ps.length
    · obtain ⟨b, off, p, rfl, hb, hp, hc⟩ := hr.at_ hlt
      obtain ⟨x0, x1, A1, e1, x2, r1⟩ := hc.keep (w' := wr) hb (fun _ hq => hbel.cell hq)
      have hok := of_okPt (okPs_at hp HOK.out)
      have K1 := Lib.hid (sumOf_snoc (f := sizeK kind) hp)
      clear hp hc
      generalize sumOf (sizeK kind) (ps.take k) = q1 at *
      obtain ⟨pk, pn, pz⟩ := p
      simp only at x0 x1 x2 hok
      have hn1 : 0 ≤ pn := by omega
      have hn2 : pn ≤ 200 := by omega
      have hn3 : pz.length ≤ 200 := by omega
      clear hok
      by_cases hkk : pk = kind
      · have hkb : (pk == kind) = true := by rw [beq_iff_eq]; exact hkk
        have HK := Lib.hid (show sizeK kind ⟨pk, pn, pz⟩ = pn + (pz.length : Int) by unfold sizeK; exact if_pos hkk)
        clear hkk
        go_wp2_with fail
        refine (implSize_any pk pn A1 pz.length e1 _ hn1 hn2 hn3).mono ?_
        rintro e w2 ⟨rfl, b2⟩
        go_wp2
        go_roundw
        case rel => exact ⟨k + 1, by omega, by go_num, by rw [K1.out, HK.out], (hbel.trans ((alloc_below wr _).mono hbel.size)).trans (b2.mono (Nat.le_trans hbel.size (alloc_below wr _).size))⟩
        case measure => simp [intOf]; omega
      · have hkb : (pk == kind) = false := by rw [beq_eq_false_iff_ne]; exact hkk
        have HK := Lib.hid (show sizeK kind ⟨pk, pn, pz⟩ = 0 by unfold sizeK; exact if_neg hkk)
        clear hkk
        go_wp2
        go_roundw
        case rel => exact ⟨k + 1, by omega, by go_num, by rw [K1.out, HK.out, Int.add_zero], hbel.trans ((alloc_below wr _).mono hbel.size)⟩
        case measure => simp [intOf]; omega
    · have hke : ps.take k = ps := List.take_of_length_le (by omega)
      rw [hke] at s1 s2 ⊢
      go_wp2
      go_ret
      exact ⟨rfl, hbel⟩

set_option maxHeartbeats 800000 in
theorem implOpFrom_any (A : Option Addr) (c : Nat) (ps : List Pt) (w : World) (hr : PRow w w.heap.size A ps) (hl : ps.length ≤ 4294967296) (hls : ∀ p ∈ ps, p.signs.length ≤ 4294967296) :
    Calls Try.prog 65 #[.slice A ps.length c] w (Nums1 (sumK ps + sumD ps) w) := by
  cases hpb : partsB ps
  · have HS := Lib.hid (sum_f hpb)
    go_enter Try.func65, Try.ntmps65
    go_wp2_with fail
    refine (implParts_any A c ps _ hr hl hls).mono ?_
    rintro e w1 ⟨rfl, b1⟩
    go_wp2
    go_ret
    rw [HS.out.1, HS.out.2.2]
    exact ⟨rfl, b1⟩
  · obtain ⟨t1, t2, t3⟩ := sum_t hpb
    obtain ⟨p1, p2⟩ := partsB_of hpb
    have HS := Lib.hid (show sumK ps + sumD ps = sumOf (sizeK 1) ps + sumOf (sizeK 3) ps by rw [t1, t3, sizeK_keep p1, sizeK_drop p1])
    obtain ⟨s1, s2⟩ := sizeK_bd (kind := 1) p1 p2
    obtain ⟨s3, s4⟩ := sizeK_bd (kind := 3) p1 p2
    clear t1 t2 t3
    go_enter Try.func65, Try.ntmps65
    go_wp2_with fail
    refine (implParts_any A c ps _ hr hl hls).mono ?_
    rintro e w1 ⟨rfl, b1⟩
    go_wp2_with fail
    refine (implSizeOf_any 1 A c ps _ (hr.past b1) p2 p1).mono ?_
    rintro e w2 ⟨rfl, b2⟩
    have d2 := b1.trans (b2.mono b1.size)
    go_wp2_with fail
    refine (implSizeOf_any 3 A c ps _ (hr.past d2) p2 p1).mono ?_
    rintro e w3 ⟨rfl, b3⟩
    have d3 := d2.trans (b3.mono d2.size)
    generalize sumOf (sizeK 1) ps = q1 at *
    generalize sumOf (sizeK 3) ps = q3 at *
    go_wp2
    go_ret
    rw [HS.out]
    exact ⟨rfl, d3⟩

set_option maxHeartbeats 800000 in
theorem implOpTo_any (A : Option Addr) (c : Nat) (ps : List Pt) (w : World) (hr : PRow w w.heap.size A ps) (hl : ps.length ≤ 4294967296) (hls : ∀ p ∈ ps, p.signs.length ≤ 4294967296) :
    Calls Try.prog 40 #[.slice A ps.length c] w (Nums1 (sumK ps + sumP ps) w) := by
  cases hpb : partsB ps
  · have HS := Lib.hid (sum_f hpb)
    go_enter Try.func40, Try.ntmps40
    go_wp2_with fail
    refine (implParts_any A c ps _ hr hl hls).mono ?_
    rintro e w1 ⟨rfl, b1⟩
    go_wp2
    go_ret
    rw [HS.out.1, HS.out.2.1]
    exact ⟨rfl, b1⟩
  · obtain ⟨t1, t2, t3⟩ := sum_t hpb
    obtain ⟨p1, p2⟩ := partsB_of hpb
    have HS := Lib.hid (show sumK ps + sumP ps = sumOf (sizeK 1) ps + sumOf (sizeK 2) ps by rw [t1, t2, sizeK_keep p1, sizeK_put p1])
    obtain ⟨s1, s2⟩ := sizeK_bd (kind := 1) p1 p2
    obtain ⟨s3, s4⟩ := sizeK_bd (kind := 2) p1 p2
    clear t1 t2 t3
    go_enter Try.func40, Try.ntmps40
    go_wp2_with fail
    refine (implParts_any A c ps _ hr hl hls).mono ?_
    rintro e w1 ⟨rfl, b1⟩
    go_wp2_with fail
    refine (implSizeOf_any 1 A c ps _ (hr.past b1) p2 p1).mono ?_
    rintro e w2 ⟨rfl, b2⟩
    have d2 := b1.trans (b2.mono b1.size)
    go_wp2_with fail
    refine (implSizeOf_any 2 A c ps _ (hr.past d2) p2 p1).mono ?_
    rintro e w3 ⟨rfl, b3⟩
    have d3 := d2.trans (b3.mono d2.size)
    generalize sumOf (sizeK 1) ps = q1 at *
    generalize sumOf (sizeK 2) ps = q3 at *
    go_wp2
    go_ret
    rw [HS.out]
    exact ⟨rfl, d3⟩

set_option maxHeartbeats 1600000 in
theorem implOpOk_any (A : Option Addr) (c : Nat) (ps : List Pt) (w : World) (hr : PRow w w.heap.size A ps) (hl : ps.length ≤ 4294967296) (hls : ∀ p ∈ ps, p.signs.length ≤ 4294967296) :
    Calls Try.prog 58 #[.slice A ps.length c] w (Tells (okOp ps) w) := by
  cases hpb : partsB ps
  · have HS := Lib.hid (show okOp ps = false by unfold okOp; rw [hpb]; rfl)
    go_enter Try.func58, Try.ntmps58
    go_wp2_with fail
    refine (implParts_any A c ps _ hr hl hls).mono ?_
    rintro e w1 ⟨rfl, b1⟩
    go_wp2
    go_ret
    exact ⟨ret_bool (by rw [HS.out]), b1⟩
  · by_cases hf : sumK ps + sumD ps ≤ 200
    · by_cases ht : sumK ps + sumP ps ≤ 200
      all_goals
        have HS := Lib.hid (show okOp ps = decide (sumK ps + sumP ps ≤ 200) by unfold okOp; rw [hpb, decide_eq_true hf]; rfl)
        go_enter Try.func58, Try.ntmps58
        go_wp2_with fail
        refine (implParts_any A c ps _ hr hl hls).mono ?_
        rintro e w1 ⟨rfl, b1⟩
        go_wp2_with fail
        refine (implOpFrom_any A c ps _ (hr.past b1) hl hls).mono ?_
        rintro e w2 ⟨rfl, b2⟩
        have d2 := b1.trans (b2.mono b1.size)
        go_wp2_with fail
        refine (implOpTo_any A c ps _ (hr.past d2) hl hls).mono ?_
        rintro e w3 ⟨rfl, b3⟩
        go_wp2
        go_ret
        refine ⟨ret_bool ?_, d2.trans (b3.mono d2.size)⟩
        rw [HS.out]
        first | done | (rw [decide_eq_true ht]) | (rw [decide_eq_false ht])
    · have HS := Lib.hid (show okOp ps = false by unfold okOp; rw [hpb, decide_eq_false hf]; rfl)
      go_enter Try.func58, Try.ntmps58
      go_wp2_with fail
      refine (implParts_any A c ps _ hr hl hls).mono ?_
      rintro e w1 ⟨rfl, b1⟩
      go_wp2_with fail
      refine (implOpFrom_any A c ps _ (hr.past b1) hl hls).mono ?_
      rintro e w2 ⟨rfl, b2⟩
      go_wp2
      go_ret
      exact ⟨ret_bool (by rw [HS.out]), b1.trans (b2.mono b1.size)⟩

theorem okOp_parts {ps : List Pt} (h : okOp ps = true) : partsB ps = true := by
  unfold okOp at h
  cases hp : partsB ps
  · rw [hp] at h; simp at h
  · rfl

set_option maxHeartbeats 800000 in
theorem implPuts_any (A : Option Addr) (c : Nat) (ps : List Pt) (w : World) (hr : PRow w w.heap.size A ps) (hl : ps.length ≤ 4294967296) (hls : ∀ p ∈ ps, p.signs.length ≤ 4294967296) :
    Calls Try.prog 59 #[.slice A ps.length c] w (Nums1 (putsN ps) w) := by
  cases ho : okOp ps
  · have HS := Lib.hid (show putsN ps = 0 by unfold putsN; rw [ho]; rfl)
    go_enter Try.func59, Try.ntmps59
    go_wp2_with fail
    refine (implOpOk_any A c ps _ hr hl hls).mono ?_
    rintro e w1 ⟨rfl, b1⟩
    go_wp2
    go_ret
    rw [HS.out]
    exact ⟨rfl, b1⟩
  · have hpb := okOp_parts ho
    obtain ⟨p1, p2⟩ := partsB_of hpb
    have HS := Lib.hid (show putsN ps = sumOf (sizeK 2) ps by unfold putsN; rw [ho, (sum_t hpb).2.1, sizeK_put p1]; rfl)
    clear hpb
    go_enter Try.func59, Try.ntmps59
    go_wp2_with fail
    refine (implOpOk_any A c ps _ hr hl hls).mono ?_
    rintro e w1 ⟨rfl, b1⟩
    go_wp2_with fail
    refine (implSizeOf_any 2 A c ps _ (hr.past b1) p2 p1).mono ?_
    rintro e w2 ⟨rfl, b2⟩
    go_wp2
    go_ret
    rw [HS.out]
    exact ⟨rfl, b1.trans (b2.mono b1.size)⟩

set_option maxHeartbeats 800000 in
theorem implDrops_any (A : Option Addr) (c : Nat) (ps : List Pt) (w : World) (hr : PRow w w.heap.size A ps) (hl : ps.length ≤ 4294967296) (hls : ∀ p ∈ ps, p.signs.length ≤ 4294967296) :
    Calls Try.prog 60 #[.slice A ps.length c] w (Nums1 (dropsN ps) w) := by
  cases ho : okOp ps
  · have HS := Lib.hid (show dropsN ps = 0 by unfold dropsN; rw [ho]; rfl)
    go_enter Try.func60, Try.ntmps60
    go_wp2_with fail
    refine (implOpOk_any A c ps _ hr hl hls).mono ?_
    rintro e w1 ⟨rfl, b1⟩
    go_wp2
    go_ret
    rw [HS.out]
    exact ⟨rfl, b1⟩
  · have hpb := okOp_parts ho
    obtain ⟨p1, p2⟩ := partsB_of hpb
    have HS := Lib.hid (show dropsN ps = sumOf (sizeK 3) ps by unfold dropsN; rw [ho, (sum_t hpb).2.2, sizeK_drop p1]; rfl)
    clear hpb
    go_enter Try.func60, Try.ntmps60
    go_wp2_with fail
    refine (implOpOk_any A c ps _ hr hl hls).mono ?_
    rintro e w1 ⟨rfl, b1⟩
    go_wp2_with fail
    refine (implSizeOf_any 3 A c ps _ (hr.past b1) p2 p1).mono ?_
    rintro e w2 ⟨rfl, b2⟩
    go_wp2
    go_ret
    rw [HS.out]
    exact ⟨rfl, b1.trans (b2.mono b1.size)⟩
end Go.Proofs.Ytemhhjagdfkmfaa.low
