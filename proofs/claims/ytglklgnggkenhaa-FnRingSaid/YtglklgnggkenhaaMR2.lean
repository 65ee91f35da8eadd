/-
  Texts that the proofs over this seat rest on, one behind the other (2 of 3).
-/
import Derived.Test.YtglklgnggkenhaaMR1
import Derived.IntWalk
import Derived.Deep.RegionHeld3
import Derived.Laws.BitsLemmas
import Derived.Deep.AppendLies
import Derived.Deep.RegionHeld
set_option maxHeartbeats 12800000
set_option maxRecDepth 1000000
namespace Go.Proofs.Ytglklgnggkenhaa.low
open Go.RowKit
set_option linter.unusedVariables false
theorem implPartOk_any (p : Pt) (A : Option Addr) (c : Nat) (w : World) (hr : Row (Value.int .i64) w w.heap.size A p.signs) (hl : p.signs.length ≤ 4294967296) :
  Calls Try.prog 116 #[.agg #[.int .i64 p.kind, .int .i64 p.n, .slice A p.signs.length c]] w (Tells (okPt p) w) := by
 obtain ⟨k, n, zs⟩ := p
 have hr' : Row (Value.int .i64) w w.heap.size A zs := hr
 have hl' : zs.length ≤ 4294967296 := hl
 clear hr hl
 by_cases hk : k = 1 ∨ k = 3
 ·by_cases h0 : 0 ≤ n
  ·by_cases h1 : n ≤ 200
   ·by_cases hz : zs.length = 0
    all_goals
     have HS := Lib.hid (show okPt ⟨k, n, zs⟩ = decide (zs.length = 0) by
      first
       | (rw [okPt_t (.inl ⟨hk, ⟨h0, h1⟩, hz⟩), decide_eq_true hz])
       | (rw [okPt_f (by simp only; omega), decide_eq_false hz]))
     have hzb : ((zs.length : Int) == 0) = decide (zs.length = 0) := by
      first
       | (rw [decide_eq_true hz, beq_iff_eq]; omega)
       | (rw [decide_eq_false hz, beq_eq_false_iff_ne]; omega)
     generalize decide (zs.length = 0) = bb at HS hzb
     clear hz
     rcases hk with rfl | rfl
     all_goals
      go_enter Try.func116, Try.ntmps116
      go_wp2
      go_ret
      exact ⟨ret_bool (by rw [HS.out]), alloc_below _ _⟩
   ·have HS := Lib.hid (show okPt ⟨k, n, zs⟩ = false by rw [okPt_f (by simp only; omega)])
    rcases hk with rfl | rfl
    all_goals
     go_enter Try.func116, Try.ntmps116
     go_wp2
     go_ret
     exact ⟨ret_bool (by rw [HS.out]), alloc_below _ _⟩
  ·have HS := Lib.hid (show okPt ⟨k, n, zs⟩ = false by rw [okPt_f (by simp only; omega)])
   rcases hk with rfl | rfl
   all_goals
    go_enter Try.func116, Try.ntmps116
    go_wp2
    go_ret
    exact ⟨ret_bool (by rw [HS.out]), alloc_below _ _⟩
 ·have hk1 : (k == 1) = false := by rw [beq_eq_false_iff_ne]; omega
  have hk3 : (k == 3) = false := by rw [beq_eq_false_iff_ne]; omega
  by_cases hk2 : k = 2
  ·have hk2' : (k == 2) = true := by rw [beq_iff_eq]; exact hk2
   by_cases hn : n = 0
   ·have hn' : (n == 0) = true := by rw [beq_iff_eq]; exact hn
    have HS := Lib.hid (show okPt ⟨k, n, zs⟩ = (allB zs && decide (zs.length ≤ 200)) by
     unfold okPt
     simp [hk2, hn])
    clear hk hk2 hn
    by_cases hlen : zs.length ≤ 200
    ·have HL := Lib.hid (decide_eq_true hlen)
     go_enter Try.func116, Try.ntmps116
     go_wp2_with (go_at_call 133; refine (implSignsOk_any A c zs _ (hr'.past_alloc _) hl').mono ?_; rintro e w' ⟨rfl, rfl⟩)
     go_ret
     refine ⟨ret_bool ?_, alloc_below _ _⟩
     rw [HS.out, HL.out, Bool.and_true]
    ·have HL := Lib.hid (decide_eq_false hlen)
     go_enter Try.func116, Try.ntmps116
     go_wp2
     go_ret
     refine ⟨ret_bool ?_, alloc_below _ _⟩
     rw [HS.out, HL.out, Bool.and_false]
   ·have hn' : (n == 0) = false := by rw [beq_eq_false_iff_ne]; exact hn
    have HS := Lib.hid (show okPt ⟨k, n, zs⟩ = false by rw [okPt_f (by simp only; omega)])
    clear hk hk2 hn
    go_enter Try.func116, Try.ntmps116
    go_wp2
    go_ret
    exact ⟨ret_bool (by rw [HS.out]), alloc_below _ _⟩
  ·have hk2' : (k == 2) = false := by rw [beq_eq_false_iff_ne]; exact hk2
   have HS := Lib.hid (show okPt ⟨k, n, zs⟩ = false by rw [okPt_f (by simp only; omega)])
   clear hk hk2
   go_enter Try.func116, Try.ntmps116
   go_wp2
   go_ret
   exact ⟨ret_bool (by rw [HS.out]), alloc_below _ _⟩
theorem implParts_any (A : Option Addr) (c : Nat) (ps : List Pt) (w : World) (hr : PRow w w.heap.size A ps) (hl : ps.length ≤ 4294967296) (hls : ∀ p ∈ ps, p.signs.length ≤ 4294967296) :
  Calls Try.prog 94 #[.slice A ps.length c] w (Tells (partsB ps) w) := by
 by_cases h6 : ps.length ≤ 600
 ·go_enter Try.func94, Try.ntmps94
  go_wp2
  go_loopw [10] (fun i wr => ∃ k : Nat, k ≤ ps.length ∧ i = .int .i64 k ∧ okPs (ps.take k) = true ∧ Below w.heap.size w wr) (fun i _ => ps.length - (intOf i).toNat)
  case atStart => exact ⟨0, Nat.zero_le _, rfl, rfl, Below.refl _ _⟩
  case round =>
   obtain ⟨k, hk, rfl, ha, hbel⟩ := hrel
   have HA := Lib.hid ha
   clear ha
   by_cases hlt : k < ps.length
   ·obtain ⟨b, off, p, rfl, hb, hp, hc⟩ := hr.at_ hlt
    obtain ⟨x0, x1, A1, e1, x2, r1⟩ := hc.keep (w' := wr) hb (fun _ hq => hbel.cell hq)
    have hsp := hls p (List.mem_of_getElem? hp)
    have HP := Lib.hid hp
    clear hp hc
    cases hs : okPt p
    ·go_wp2_with fail
     refine (implPartOk_any p A1 e1 _ ((r1.more hbel.size).past_alloc _) hsp).mono ?_
     rintro e w2 ⟨rfl, b2⟩
     go_wp2
     go_ret
     exact ⟨ret_bool (by unfold partsB; rw [okPs_f HP.out hs]; rfl), (hbel.trans ((alloc_below wr _).mono hbel.size)).trans (b2.mono (Nat.le_trans hbel.size (alloc_below wr _).size))⟩
    ·go_wp2_with fail
     refine (implPartOk_any p A1 e1 _ ((r1.more hbel.size).past_alloc _) hsp).mono ?_
     rintro e w2 ⟨rfl, b2⟩
     go_wp2
     go_roundw
     case rel => exact ⟨k + 1, by omega, by go_num, okPs_snoc HP.out HA.out hs, (hbel.trans ((alloc_below wr _).mono hbel.size)).trans (b2.mono (Nat.le_trans hbel.size (alloc_below wr _).size))⟩
     case measure => simp [intOf]; omega
   ·have HE := Lib.hid (show partsB ps = true by
     have h1 := HA.out
     rw [List.take_of_length_le (by omega)] at h1
     unfold partsB
     rw [h1, Bool.true_and]
     exact decide_eq_true h6)
    go_wp2
    go_ret
    refine ⟨ret_bool ?_, hbel⟩
    rw [HE.out]
 ·have HE := Lib.hid (show partsB ps = false by unfold partsB; rw [decide_eq_false h6, Bool.and_false])
  go_enter Try.func94, Try.ntmps94
  go_wp2
  go_ret
  exact ⟨ret_bool (by rw [HE.out]), Below.refl _ _⟩
def sizeK (kind : Int) (p : Pt) : Int := if p.kind = kind then p.n + (p.signs.length : Int) else 0
theorem sumOf_congr {f g : Pt → Int} : ∀ {ps : List Pt}, (∀ p ∈ ps, f p = g p) → sumOf f ps = sumOf g ps
 | [], _ => rfl
 | p :: ps, h => by
  have h1 := h p (List.mem_cons_self ..)
  have h2 := sumOf_congr (f := f) (g := g) (ps := ps) fun q hq => h q (List.mem_cons_of_mem _ hq)
  have e : ∀ f : Pt → Int, sumOf f (p :: ps) = f p + sumOf f ps := fun f => by simp [sumOf]
  rw [e, e, h1, h2]
theorem okPs_mem {ps : List Pt} (h : okPs ps = true) {p : Pt} (hp : p ∈ ps) : okPt p = true := by unfold okPs at h; exact List.all_eq_true.1 h p hp
theorem sizeK_keep {ps : List Pt} (h : okPs ps = true) : sumOf (sizeK 1) ps = sumOf keepOf ps := sumOf_congr fun p hp => by
 have := of_okPt (okPs_mem h hp)
 unfold sizeK keepOf
 split <;> omega
theorem sizeK_put {ps : List Pt} (h : okPs ps = true) : sumOf (sizeK 2) ps = sumOf putOf ps := sumOf_congr fun p hp => by
 have := of_okPt (okPs_mem h hp)
 unfold sizeK putOf
 split <;> omega
theorem sizeK_drop {ps : List Pt} (h : okPs ps = true) : sumOf (sizeK 3) ps = sumOf dropOf ps := sumOf_congr fun p hp => by
 have := of_okPt (okPs_mem h hp)
 unfold sizeK dropOf
 split <;> omega
theorem sizeK_bd {kind : Int} {ps : List Pt} (h : okPs ps = true) (hl : ps.length ≤ 600) : 0 ≤ sumOf (sizeK kind) ps ∧ sumOf (sizeK kind) ps ≤ 120000 := by
 have := sumOf_bd (f := sizeK kind) ps fun p hq => by
  have := of_okPt (okPs_mem h hq)
  unfold sizeK
  split <;> omega
 omega
theorem implSize_any (k n : Int) (A : Option Addr) (len c : Nat) (w : World) (h0 : 0 ≤ n) (h1 : n ≤ 200) (h2 : len ≤ 200) :
  Calls Try.prog 134 #[.agg #[.int .i64 k, .int .i64 n, .slice A len c]] w (Nums1 (n + (len : Int)) w) := by
 go_enter Try.func134, Try.ntmps134
 go_wp2
 go_ret
 exact ⟨rfl, alloc_below _ _⟩
theorem implSizeOf_any (kind : Int) (A : Option Addr) (c : Nat) (ps : List Pt) (w : World) (hr : PRow w w.heap.size A ps) (hl : ps.length ≤ 600) (hok : okPs ps = true) :
  Calls Try.prog 117 #[.slice A ps.length c, .int .i64 kind] w (Nums1 (sumOf (sizeK kind) ps) w) := by
 have HOK := Lib.hid hok
 clear hok
 go_enter Try.func117, Try.ntmps117
 go_wp2
 go_loopw [5, 10] (fun a i wr => ∃ k : Nat, k ≤ ps.length ∧ i = .int .i64 k ∧ a = .int .i64 (sumOf (sizeK kind) (ps.take k)) ∧ Below w.heap.size w wr) (fun _ i _ => ps.length - (intOf i).toNat)
 case atStart => exact ⟨0, Nat.zero_le _, rfl, rfl, Below.refl _ _⟩
 case round =>
  obtain ⟨k, hk, rfl, rfl, hbel⟩ := hrel
  obtain ⟨s1, s2⟩ := sizeK_bd (kind := kind) (okPs_take HOK.out k) (by rw [List.length_take]; omega)
  by_cases hlt : k < ps.length
  ·obtain ⟨b, off, p, rfl, hb, hp, hc⟩ := hr.at_ hlt
   obtain ⟨x0, x1, A1, e1, x2, r1⟩ := hc.keep (w' := wr) hb (fun _ hq => hbel.cell hq)
   have hok := of_okPt (okPs_at hp HOK.out)
   have K1 := Lib.hid (sumOf_snoc (f := sizeK kind) hp)
   clear hp hc
   generalize sumOf (sizeK kind) (ps.take k) = q1 at *
   obtain ⟨pk, pn, pz⟩ := p
   simp only at x0 x1 x2 hok
   have hn1 : 0 ≤ pn := by omega
   have hn2 : pn ≤ 200 := by omega
   have hn3 : pz.length ≤ 200 := by omega
   clear hok
   by_cases hkk : pk = kind
   ·have hkb : (pk == kind) = true := by rw [beq_iff_eq]; exact hkk
    have HK := Lib.hid (show sizeK kind ⟨pk, pn, pz⟩ = pn + (pz.length : Int) by unfold sizeK; exact if_pos hkk)
    clear hkk
    go_wp2_with fail
    refine (implSize_any pk pn A1 pz.length e1 _ hn1 hn2 hn3).mono ?_
    rintro e w2 ⟨rfl, b2⟩
    go_wp2
    go_roundw
    case rel => exact ⟨k + 1, by omega, by go_num, by rw [K1.out, HK.out], (hbel.trans ((alloc_below wr _).mono hbel.size)).trans (b2.mono (Nat.le_trans hbel.size (alloc_below wr _).size))⟩
    case measure => simp [intOf]; omega
   ·have hkb : (pk == kind) = false := by rw [beq_eq_false_iff_ne]; exact hkk
    have HK := Lib.hid (show sizeK kind ⟨pk, pn, pz⟩ = 0 by unfold sizeK; exact if_neg hkk)
    clear hkk
    go_wp2
    go_roundw
    case rel => exact ⟨k + 1, by omega, by go_num, by rw [K1.out, HK.out, Int.add_zero], hbel.trans ((alloc_below wr _).mono hbel.size)⟩
    case measure => simp [intOf]; omega
  ·have hke : ps.take k = ps := List.take_of_length_le (by omega)
   rw [hke] at s1 s2 ⊢
   go_wp2
   go_ret
   exact ⟨rfl, hbel⟩
theorem implOpFrom_any (A : Option Addr) (c : Nat) (ps : List Pt) (w : World) (hr : PRow w w.heap.size A ps) (hl : ps.length ≤ 4294967296) (hls : ∀ p ∈ ps, p.signs.length ≤ 4294967296) :
  Calls Try.prog 95 #[.slice A ps.length c] w (Nums1 (sumK ps + sumD ps) w) := by
 cases hpb : partsB ps
 ·have HS := Lib.hid (sum_f hpb)
  go_enter Try.func95, Try.ntmps95
  go_wp2_with fail
  refine (implParts_any A c ps _ hr hl hls).mono ?_
  rintro e w1 ⟨rfl, b1⟩
  go_wp2
  go_ret
  rw [HS.out.1, HS.out.2.2]
  exact ⟨rfl, b1⟩
 ·obtain ⟨t1, t2, t3⟩ := sum_t hpb
  obtain ⟨p1, p2⟩ := partsB_of hpb
  have HS := Lib.hid (show sumK ps + sumD ps = sumOf (sizeK 1) ps + sumOf (sizeK 3) ps by rw [t1, t3, sizeK_keep p1, sizeK_drop p1])
  obtain ⟨s1, s2⟩ := sizeK_bd (kind := 1) p1 p2
  obtain ⟨s3, s4⟩ := sizeK_bd (kind := 3) p1 p2
  clear t1 t2 t3
  go_enter Try.func95, Try.ntmps95
  go_wp2_with fail
  refine (implParts_any A c ps _ hr hl hls).mono ?_
  rintro e w1 ⟨rfl, b1⟩
  go_wp2_with fail
  refine (implSizeOf_any 1 A c ps _ (hr.past b1) p2 p1).mono ?_
  rintro e w2 ⟨rfl, b2⟩
  have d2 := b1.trans (b2.mono b1.size)
  go_wp2_with fail
  refine (implSizeOf_any 3 A c ps _ (hr.past d2) p2 p1).mono ?_
  rintro e w3 ⟨rfl, b3⟩
  have d3 := d2.trans (b3.mono d2.size)
  generalize sumOf (sizeK 1) ps = q1 at *
  generalize sumOf (sizeK 3) ps = q3 at *
  go_wp2
  go_ret
  rw [HS.out]
  exact ⟨rfl, d3⟩
theorem implOpTo_any (A : Option Addr) (c : Nat) (ps : List Pt) (w : World) (hr : PRow w w.heap.size A ps) (hl : ps.length ≤ 4294967296) (hls : ∀ p ∈ ps, p.signs.length ≤ 4294967296) :
  Calls Try.prog 96 #[.slice A ps.length c] w (Nums1 (sumK ps + sumP ps) w) := by
 cases hpb : partsB ps
 ·have HS := Lib.hid (sum_f hpb)
  go_enter Try.func96, Try.ntmps96
  go_wp2_with fail
  refine (implParts_any A c ps _ hr hl hls).mono ?_
  rintro e w1 ⟨rfl, b1⟩
  go_wp2
  go_ret
  rw [HS.out.1, HS.out.2.1]
  exact ⟨rfl, b1⟩
 ·obtain ⟨t1, t2, t3⟩ := sum_t hpb
  obtain ⟨p1, p2⟩ := partsB_of hpb
  have HS := Lib.hid (show sumK ps + sumP ps = sumOf (sizeK 1) ps + sumOf (sizeK 2) ps by rw [t1, t2, sizeK_keep p1, sizeK_put p1])
  obtain ⟨s1, s2⟩ := sizeK_bd (kind := 1) p1 p2
  obtain ⟨s3, s4⟩ := sizeK_bd (kind := 2) p1 p2
  clear t1 t2 t3
  go_enter Try.func96, Try.ntmps96
  go_wp2_with fail
  refine (implParts_any A c ps _ hr hl hls).mono ?_
  rintro e w1 ⟨rfl, b1⟩
  go_wp2_with fail
  refine (implSizeOf_any 1 A c ps _ (hr.past b1) p2 p1).mono ?_
  rintro e w2 ⟨rfl, b2⟩
  have d2 := b1.trans (b2.mono b1.size)
  go_wp2_with fail
  refine (implSizeOf_any 2 A c ps _ (hr.past d2) p2 p1).mono ?_
  rintro e w3 ⟨rfl, b3⟩
  have d3 := d2.trans (b3.mono d2.size)
  generalize sumOf (sizeK 1) ps = q1 at *
  generalize sumOf (sizeK 2) ps = q3 at *
  go_wp2
  go_ret
  rw [HS.out]
  exact ⟨rfl, d3⟩
theorem implOpOk_any (A : Option Addr) (c : Nat) (ps : List Pt) (w : World) (hr : PRow w w.heap.size A ps) (hl : ps.length ≤ 4294967296) (hls : ∀ p ∈ ps, p.signs.length ≤ 4294967296) :
  Calls Try.prog 76 #[.slice A ps.length c] w (Tells (okOp ps) w) := by
 cases hpb : partsB ps
 ·have HS := Lib.hid (show okOp ps = false by unfold okOp; rw [hpb]; rfl)
  go_enter Try.func76, Try.ntmps76
  go_wp2_with fail
  refine (implParts_any A c ps _ hr hl hls).mono ?_
  rintro e w1 ⟨rfl, b1⟩
  go_wp2
  go_ret
  exact ⟨ret_bool (by rw [HS.out]), b1⟩
 ·by_cases hf : sumK ps + sumD ps ≤ 200
  ·by_cases ht : sumK ps + sumP ps ≤ 200
   all_goals
    have HS := Lib.hid (show okOp ps = decide (sumK ps + sumP ps ≤ 200) by unfold okOp; rw [hpb, decide_eq_true hf]; rfl)
    go_enter Try.func76, Try.ntmps76
    go_wp2_with fail
    refine (implParts_any A c ps _ hr hl hls).mono ?_
    rintro e w1 ⟨rfl, b1⟩
    go_wp2_with fail
    refine (implOpFrom_any A c ps _ (hr.past b1) hl hls).mono ?_
    rintro e w2 ⟨rfl, b2⟩
    have d2 := b1.trans (b2.mono b1.size)
    go_wp2_with fail
    refine (implOpTo_any A c ps _ (hr.past d2) hl hls).mono ?_
    rintro e w3 ⟨rfl, b3⟩
    go_wp2
    go_ret
    refine ⟨ret_bool ?_, d2.trans (b3.mono d2.size)⟩
    rw [HS.out]
    first | done | (rw [decide_eq_true ht]) | (rw [decide_eq_false ht])
  ·have HS := Lib.hid (show okOp ps = false by unfold okOp; rw [hpb, decide_eq_false hf]; rfl)
   go_enter Try.func76, Try.ntmps76
   go_wp2_with fail
   refine (implParts_any A c ps _ hr hl hls).mono ?_
   rintro e w1 ⟨rfl, b1⟩
   go_wp2_with fail
   refine (implOpFrom_any A c ps _ (hr.past b1) hl hls).mono ?_
   rintro e w2 ⟨rfl, b2⟩
   go_wp2
   go_ret
   exact ⟨ret_bool (by rw [HS.out]), b1.trans (b2.mono b1.size)⟩
theorem okOp_parts {ps : List Pt} (h : okOp ps = true) : partsB ps = true := by
 unfold okOp at h
 cases hp : partsB ps
 ·rw [hp] at h; simp at h
 ·rfl
theorem implPartSame_any (p q : Pt) (A A' : Option Addr) (c c' : Nat) (w : World) (hp : Row (Value.int .i64) w w.heap.size A p.signs) (hq : Row (Value.int .i64) w w.heap.size A' q.signs) (h1 : p.signs.length ≤ 4294967296) (h2 : q.signs.length ≤ 4294967296) :
  Calls Try.prog 61 #[.agg #[.int .i64 p.kind, .int .i64 p.n, .slice A p.signs.length c], .agg #[.int .i64 q.kind, .int .i64 q.n, .slice A' q.signs.length c']] w (Tells (samePt p q) w) := by
 obtain ⟨k, n, zs⟩ := p
 obtain ⟨k', n', zs'⟩ := q
 have hbb : ∀ o o' : Obj, Below w.heap.size w ((w.alloc o).alloc o') := fun o o' => ((Below.refl _ _).alloc (Nat.le_refl _) _).alloc (by simp) _
 by_cases hk : k = k'
 ·by_cases hn : n = n'
  ·have HS := Lib.hid (show samePt ⟨k, n, zs⟩ ⟨k', n', zs'⟩ = sameB zs zs' by unfold samePt; simp [hk, hn])
   have hk1 : (k == k') = true := by simp [hk]
   have hn1 : (n == n') = true := by simp [hn]
   clear hk hn
   go_enter Try.func61, Try.ntmps61
   go_wp2_with fail
   refine (implSignsSame_any A A' c c' zs zs' _ ((hp.past_alloc _).past_alloc _) ((hq.past_alloc _).past_alloc _) h1 h2).mono ?_
   intro e w1 hsay
   obtain ⟨rfl, b1⟩ := says_tells hsay
   go_wp2
   go_ret
   refine ⟨ret_bool (by rw [HS.out]), (hbb _ _).trans (b1.mono (by simp; omega))⟩
  ·have HS := Lib.hid (show samePt ⟨k, n, zs⟩ ⟨k', n', zs'⟩ = false by unfold samePt; simp [hn])
   have hk1 : (k == k') = true := by simp [hk]
   have hn1 : (n == n') = false := by simp [hn]
   clear hk hn
   go_enter Try.func61, Try.ntmps61
   go_wp2
   go_ret
   exact ⟨ret_bool (by rw [HS.out]), hbb _ _⟩
 ·have HS := Lib.hid (show samePt ⟨k, n, zs⟩ ⟨k', n', zs'⟩ = false by unfold samePt; simp [hk])
  have hk1 : (k == k') = false := by simp [hk]
  clear hk
  go_enter Try.func61, Try.ntmps61
  go_wp2
  go_ret
  exact ⟨ret_bool (by rw [HS.out]), hbb _ _⟩
theorem equalFunc_any (A B : Option Addr) (c d : Nat) (ps qs : List Pt) (w : World) (hx : PRow w w.heap.size A ps) (hy : PRow w w.heap.size B qs)
  (hl : ps.length ≤ 4294967296) (hl2 : qs.length ≤ 4294967296) (hs : ∀ p ∈ ps, p.signs.length ≤ 4294967296) (hs2 : ∀ p ∈ qs, p.signs.length ≤ 4294967296) :
  Calls Try.prog 60 #[.slice A ps.length c, .slice B qs.length d, .func (.func 61) #[] #[]] w (Tells (samePs ps qs) w) := by
 by_cases hlen : ps.length = qs.length
 ·have HL := Lib.hid hlen
  have hb : ((ps.length : Int) != (qs.length : Int)) = false := by simp [hlen]
  clear hlen
  go_enter Try.func60, Try.ntmps60
  go_wp2
  go_loopw [17] (fun i wr => ∃ k : Nat, k ≤ ps.length ∧ i = .int .i64 k ∧ samePs (ps.take k) (qs.take k) = true ∧ Below w.heap.size w wr) (fun i _ => ps.length - (intOf i).toNat)
  case atStart => exact ⟨0, Nat.zero_le _, rfl, rfl, Below.refl _ _⟩
  case round =>
   obtain ⟨k, hk, rfl, ht, hbel⟩ := hrel
   have HT := Lib.hid ht
   clear ht
   by_cases hlt : k < ps.length
   ·have hlt2 : k < qs.length := by have := HL.out; omega
    obtain ⟨b1, o1, p, rfl, hb1, hp, hc1⟩ := hx.at_ hlt
    obtain ⟨b2, o2, q, rfl, hb2, hq, hc2⟩ := hy.at_ (k := k) hlt2
    obtain ⟨x0, x1, A1, e1, x2, r1⟩ := hc1.keep (w' := wr) hb1 (fun _ hq => hbel.cell hq)
    have hsp := hs p (List.mem_of_getElem? hp)
    have hsq := hs2 q (List.mem_of_getElem? hq)
    have HP := Lib.hid hp
    have HQ := Lib.hid hq
    clear hp hq hc1
    have bW := alloc_below wr (.cells #[.int .i64 p.kind, .int .i64 p.n, .slice A1 p.signs.length e1] 93)
    have dW := hbel.trans (bW.mono hbel.size)
    obtain ⟨y0, y1, A2, e2, y2, r2⟩ := hc2.keep (w' := wr.alloc (.cells #[.int .i64 p.kind, .int .i64 p.n, .slice A1 p.signs.length e1] 93)) hb2 (fun _ hq => dW.cell hq)
    have dV := dW.trans ((alloc_below (wr.alloc (.cells #[.int .i64 p.kind, .int .i64 p.n, .slice A1 p.signs.length e1] 93)) (.cells #[.int .i64 q.kind, .int .i64 q.n, .slice A2 q.signs.length e2] 93)).mono dW.size)
    have R1 := Lib.hid (Row.past_alloc ((r1.more hbel.size).past bW) (.cells #[.int .i64 q.kind, .int .i64 q.n, .slice A2 q.signs.length e2] 93))
    have R2 := Lib.hid (Row.past_alloc (r2.more dW.size) (.cells #[.int .i64 q.kind, .int .i64 q.n, .slice A2 q.signs.length e2] 93))
    clear hc2 r1 r2
    cases hsame : samePt p q
    ·go_wp2_with fail
     refine (implPartSame_any p q A1 A2 e1 e2 _ R1.out R2.out hsp hsq).mono ?_
     rintro e w2 ⟨rfl, b2⟩
     go_wp2
     go_ret
     exact ⟨ret_bool (by rw [samePs_at ps qs k p q HP.out HQ.out hsame]), dV.trans (b2.mono dV.size)⟩
    ·go_wp2_with fail
     refine (implPartSame_any p q A1 A2 e1 e2 _ R1.out R2.out hsp hsq).mono ?_
     rintro e w2 ⟨rfl, b2⟩
     go_wp2
     go_roundw
     case rel => exact ⟨k + 1, by omega, by go_num, samePs_snoc ps qs k p q HP.out HQ.out hsame HT.out, dV.trans (b2.mono dV.size)⟩
     case measure => simp [intOf]; omega
   ·have H := Lib.hid (show samePs ps qs = true by have := HT.out; rwa [List.take_of_length_le (by omega), List.take_of_length_le (by have := HL.out; omega)] at this)
    go_wp2
    go_ret
    exact ⟨ret_bool (by rw [H.out]), hbel⟩
 ·have hb : ((ps.length : Int) != (qs.length : Int)) = true := by simp; omega
  have H := Lib.hid (show samePs ps qs = false by cases h : samePs ps qs; rfl; exact absurd (samePs_len ps qs h) hlen)
  clear hlen
  go_enter Try.func60, Try.ntmps60
  go_wp2
  go_ret
  exact ⟨ret_bool (by rw [H.out]), Below.refl _ _⟩
theorem implOpSame_any (A B : Option Addr) (c d : Nat) (ps qs : List Pt) (w : World) (hx : PRow w w.heap.size A ps) (hy : PRow w w.heap.size B qs)
  (hl : ps.length ≤ 4294967296) (hl2 : qs.length ≤ 4294967296) (hs : ∀ p ∈ ps, p.signs.length ≤ 4294967296) (hs2 : ∀ p ∈ qs, p.signs.length ≤ 4294967296) :
  Calls Try.prog 39 #[.slice A ps.length c, .slice B qs.length d] w (Tells (samePs ps qs) w) := by
 go_enter Try.func39, Try.ntmps39
 go_wp2_with fail
 refine (equalFunc_any A B c d ps qs _ hx hy hl hl2 hs hs2).mono ?_
 rintro e w1 ⟨rfl, b1⟩
 go_wp2
 go_ret
 exact ⟨rfl, b1⟩
theorem sameB_comm (a b : List Int) : sameB a b = sameB b a := by
 by_cases h : a = b
 ·subst h; rfl
 ·have h' : ¬ b = a := fun e => h e.symm
  unfold sameB
  simp [h, h']
theorem samePt_comm (p q : Pt) : samePt p q = samePt q p := by
 unfold samePt
 rw [sameB_comm p.signs q.signs, Bool.beq_comm (a := p.kind), Bool.beq_comm (a := p.n)]
theorem samePs_comm : ∀ ps qs : List Pt, samePs ps qs = samePs qs ps
 | [], [] => rfl
 | [], _ :: _ => rfl
 | _ :: _, [] => rfl
 | p :: ps, q :: qs => by
  show (samePt p q && samePs ps qs) = (samePt q p && samePs qs ps)
  rw [samePt_comm p q, samePs_comm ps qs]
theorem implAdd_any (lo g : Nat) (qs : List Pt) (put : List Int) (d : Int) (p : Pt) (A : Option Addr) (c : Nat) (w : World) (hb : BAt lo g 119 w qs put d) (hr : Row (Value.int .i64) w w.heap.size A p.signs) (hok : okPt p = true)
  (hl : qs.length ≤ 4294967296) (hp : put.length ≤ 4294967296) (h0 : 0 ≤ d) (h1 : d ≤ 4611686018427387904)
  (hq : ∀ p ∈ qs ++ putL put ++ dropL d, 0 ≤ p.n ∧ p.n ≤ 4611686018427387904) (hql : (qs ++ putL put ++ dropL d).length ≤ 4294967298) :
  Calls Try.prog 97 #[.pointer (some ⟨g, 0, none⟩), .agg #[.int .i64 p.kind, .int .i64 p.n, .slice A p.signs.length c]] w (Built lo g 119 w (stepN (qs, put, d) p).1 (stepN (qs, put, d) p).2.1 (stepN (qs, put, d) p).2.2) := by
 have hlo : lo ≤ w.heap.size := by obtain ⟨v, u, us, hx, _⟩ := hb; exact Nat.le_trans hx.low (Nat.le_of_lt hx.lt)
 have hk := of_okPt hok
 clear hok
 obtain ⟨pk, pn, pz⟩ := p
 simp only at hk hr ⊢
 have hat := hb.past (alloc_below w (.cells #[.int .i64 pk, .int .i64 pn, .slice A pz.length c] 93))
 have bel : Below lo w (w.alloc (.cells #[.int .i64 pk, .int .i64 pn, .slice A pz.length c] 93)) := (alloc_below w _).mono hlo
 rcases (show pk = 1 ∨ pk = 2 ∨ pk = 3 by omega) with rfl | rfl | rfl
 ·have hn1 : 0 ≤ pn := by omega
  have hn2 : pn ≤ 200 := by omega
  clear hk
  by_cases hz : pn = 0
  ·subst hz
   go_enter Try.func97, Try.ntmps97
   go_wp2_with fail
   refine (implKeep_zero g _).mono ?_
   rintro e w' ⟨rfl, rfl⟩
   go_wp2
   go_end0
   exact ⟨rfl, hat, bel⟩
  ·go_enter Try.func97, Try.ntmps97
   go_wp2_with fail
   refine (implKeep_any lo g qs put d pn _ hat hl hp hz hn1 (by omega) hq hql).mono ?_
   rintro e w3 ⟨rfl, hn3, b3⟩
   go_wp2
   go_end0
   refine ⟨rfl, ?_, bel.trans b3⟩
   simp only [stepN, if_neg hz]
   exact hn3.at_
 ·have hl2 : pz.length ≤ 200 := by omega
  clear hk
  go_enter Try.func97, Try.ntmps97
  go_wp2_with fail
  refine (implPut_any lo g qs put d A c pz _ hat (hr.past_alloc _) hp (by omega)).mono ?_
  rintro e w3 ⟨rfl, hn3, b3⟩
  go_wp2
  go_end0
  exact ⟨rfl, hn3, bel.trans b3⟩
 ·have hn1 : 0 ≤ pn := by omega
  have hn2 : pn ≤ 200 := by omega
  clear hk
  go_enter Try.func97, Try.ntmps97
  go_wp2_with fail
  refine (implDrop_any lo g qs put d pn _ hat h0 h1 hn1 (by omega)).mono ?_
  rintro e w3 ⟨rfl, hn3, b3⟩
  go_wp2
  go_end0
  exact ⟨rfl, hn3, bel.trans b3⟩
theorem implOpNorm_any (A : Option Addr) (c : Nat) (ps : List Pt) (w : World) (hr : PRow w w.heap.size A ps) (hl : ps.length ≤ 4294967296) (hls : ∀ p ∈ ps, p.signs.length ≤ 4294967296) (hss : signsIn ps ≤ 1048576) :
  Calls Try.prog 77 #[.slice A ps.length c] w (PsPost (normL ps) w) := by
 cases hok : okOp ps
 ·have e1 : normL ps = [] := by simp [normL, hok]
  rw [e1]
  go_enter Try.func77, Try.ntmps77
  go_wp2_with fail
  refine (implOpOk_any A c ps _ hr hl hls).mono ?_
  rintro e w1 ⟨rfl, b1⟩
  rw [hok] at *
  go_wp2
  go_ret
  refine ⟨_, rfl, ⟨[], World.ownsRow_nil _ _ _ _, ⟨rfl, fun i p u hp _ => by simp at hp, fun i j k u v hu _ _ _ => by simp at hu⟩, fun k hk => by simp [Value.ownBlock] at hk, Nat.le_refl _, b1.size⟩, b1⟩
 ·have e1 : normL ps = doneN (foldN ps) := by simp [normL, hok]
  rw [e1]
  have HPB := Lib.hid (partsB_of (okOp_parts hok))
  go_enter Try.func77, Try.ntmps77
  go_wp2_with fail
  refine (implOpOk_any A c ps _ hr hl hls).mono ?_
  rintro e w1 ⟨rfl, b1⟩
  rw [hok] at *
  clear hok
  go_wp2
  have hnew := BAt.new w.heap.size 119 w1 b1.size
  have hbn := b1.trans ((alloc_below w1 (.cells #[.slice none 0 0, .slice none 0 0, .int .i64 0] 119)).mono b1.size)
  have hgl : w.heap.size ≤ w1.heap.size := b1.size
  generalize w1.alloc (.cells #[.slice none 0 0, .slice none 0 0, .int .i64 0] 119) = w2 at *
  generalize w1.heap.size = g at *
  clear b1
  go_loopw [13] (fun i wr => ∃ k : Nat, k ≤ ps.length ∧ i = .int .i64 k ∧ BAt w.heap.size g 119 wr (foldN (ps.take k)).1 (foldN (ps.take k)).2.1 (foldN (ps.take k)).2.2 ∧ Below w.heap.size w wr) (fun i _ => ps.length - (intOf i).toNat)
  case atStart => exact ⟨0, Nat.zero_le _, rfl, hnew, hbn⟩
  case round =>
   obtain ⟨k, hk, rfl, hat, hbel⟩ := hrel
   clear hnew hbn
   have hfit := foldN_fit HPB.out.1 k hk
   have hpl := HPB.out.2
   by_cases hlt : k < ps.length
   ·obtain ⟨b, off, p, rfl, hb, hp, hc⟩ := hr.at_ hlt
    obtain ⟨x0, x1, A1, e1, x2, r1⟩ := hc.keep (w' := wr) hb (fun _ hq => hbel.cell hq)
    have hokp := okPs_at hp HPB.out.1
    have K1 := Lib.hid (foldN_snoc hp)
    have hsg : signsIn (ps.take k) ≤ signsIn ps := signsIn_take ps k
    clear hp hc
    generalize foldN (ps.take k) = st at *
    obtain ⟨qs, put, d⟩ := st
    have hf1 := hfit.len
    have hf2 := hfit.signs
    have hf3 := hfit.d0
    have hf4 := hfit.d1
    have hdn := Lib.hid hfit.done
    simp only at hf1 hf2 hf3 hf4 hat
    go_wp2_with fail
    refine (implAdd_any w.heap.size g qs put d p A1 e1 _ (hat.past (alloc_below wr _)) (Row.past_alloc (r1.more hbel.size) _) hokp (by omega) (by omega) hf3 (by omega) (fun p hp => by have := hdn.out.2.2 p hp; omega) (by have := hdn.out.1; exact Nat.le_trans this (by omega))).mono ?_
    rintro e w3 ⟨rfl, hn3, b3⟩
    go_wp2
    go_roundw
    case rel => exact ⟨k + 1, by omega, by go_num, by rw [K1.out]; exact hn3, hbel.trans (((alloc_below wr _).mono hbel.size).trans b3)⟩
    case measure => simp [intOf]; omega
   ·have hke : ps.take k = ps := List.take_of_length_le (by omega)
    rw [hke] at hat hfit
    have hf1 := hfit.len
    have hf2 := hfit.signs
    go_wp2_with fail
    refine (implDone_any w.heap.size g _ _ _ _ hat (by omega) (by omega)).mono ?_
    rintro e w3 ⟨v, rfl, p3, b3⟩
    change PBuf _ _ _ _ (doneN (foldN ps)) at p3
    generalize doneN (foldN ps) = L at *
    obtain ⟨B3, d3, rfl, q3⟩ := p3.slice
    have HP3 := Lib.hid p3
    clear p3
    go_wp2
    go_ret
    exact ⟨_, rfl, HP3.out, hbel.trans b3⟩
theorem implIsNorm_any (A : Option Addr) (c : Nat) (ps : List Pt) (w : World) (hr : PRow w w.heap.size A ps) (hl : ps.length ≤ 4294967296) (hls : ∀ p ∈ ps, p.signs.length ≤ 4294967296) (hss : signsIn ps ≤ 1048576) :
  Calls Try.prog 54 #[.slice A ps.length c] w (Tells (isNormL ps) w) := by
 obtain ⟨n1, n2⟩ := normL_fit hss
 have hls' : ∀ p ∈ normL ps, p.signs.length ≤ 4294967296 := fun p hp => by
  obtain ⟨i, hi⟩ := List.getElem?_of_mem hp
  have := signsIn_at hi
  omega
 cases hok : okOp ps
 ·have HS := Lib.hid (show isNormL ps = false by unfold isNormL; rw [hok]; rfl)
  go_enter Try.func54, Try.ntmps54
  go_wp2_with fail
  refine (implOpOk_any A c ps _ hr hl hls).mono ?_
  rintro e w1 ⟨rfl, b1⟩
  rw [hok] at *
  go_wp2
  go_ret
  exact ⟨ret_bool (by rw [HS.out]), b1⟩
 ·have HS := Lib.hid (show isNormL ps = samePs ps (normL ps) by unfold isNormL; rw [hok, samePs_comm]; rfl)
  go_enter Try.func54, Try.ntmps54
  go_wp2_with fail
  refine (implOpOk_any A c ps _ hr hl hls).mono ?_
  rintro e w1 ⟨rfl, b1⟩
  rw [hok] at *
  clear hok
  go_wp2_with fail
  refine (implOpNorm_any A c ps _ (hr.past b1) hl hls hss).mono ?_
  rintro e w2 ⟨v2, rfl, p2, b2⟩
  obtain ⟨B2, d2, rfl, q2⟩ := p2.slice
  have d2' := b1.trans (b2.mono b1.size)
  generalize normL ps = L at *
  go_wp2_with fail
  refine (implOpSame_any A B2 c d2 ps L _ (hr.past d2') q2 hl (by omega) hls hls').mono ?_
  rintro e w3 ⟨rfl, b3⟩
  go_wp2
  go_ret
  exact ⟨ret_bool (by rw [HS.out]), d2'.trans (b3.mono d2'.size)⟩
theorem addr_add_add (p : Addr) (i j : Nat) : (p.add i).add j = p.add (i + j) := by
 unfold Addr.add
 by_cases hi : i = 0
 ·subst hi; simp
 ·by_cases hj : j = 0
  ·subst hj; simp [hi]
  ·simp [hi, hj, Nat.add_assoc]
theorem Row.init {w : World} {B : Nat} {A : Option Addr} {zs : List Int} (h : Row (Value.int .i64) w B A zs) (n : Nat) : Row (Value.int .i64) w B A (zs.take n) := fun hn => by
 have h0 : 0 < zs.length := by rw [List.length_take] at hn; omega
 obtain ⟨ad, e, hb, hc⟩ := h h0
 refine ⟨ad, e, hb, fun k z hz => ?_⟩
 rw [List.getElem?_take] at hz
 split at hz
 ·exact hc k z hz
 ·cases hz
theorem Row.tail {w : World} {B : Nat} {ad : Addr} {zs : List Int} (h : Row (Value.int .i64) w B (some ad) zs) (n : Nat) : Row (Value.int .i64) w B (some (ad.add n)) (zs.drop n) := fun hn => by
 have h0 : 0 < zs.length := by rw [List.length_drop] at hn; omega
 obtain ⟨ad', e, hb, hc⟩ := h h0
 injection e with e
 subst e
 refine ⟨_, rfl, by rw [block_of_add]; exact hb, fun k z hz => ?_⟩
 rw [List.getElem?_drop] at hz
 rw [addr_add_add]
 exact hc (n + k) z hz
theorem Row.src {w : World} {B : Nat} {A : Option Addr} {ys : List Int} (h : Row (Value.int .i64) w B A ys) (hp : 0 < (ys.map (Value.int .i64)).length) : ∃ ad, A = some ad ∧ ∀ j v, (ys.map (Value.int .i64))[j]? = some v → w.cell? (ad.add j) = some v := by
 obtain ⟨ad, e, _, hc⟩ := h (by simpa using hp)
 refine ⟨ad, e, fun j v hv => ?_⟩
 rw [List.getElem?_map] at hv
 obtain ⟨z, hz, rfl⟩ := Option.map_eq_some_iff.1 hv
 exact hc j z hz
inductive U where
 | k
 | p (x : Int)
 | d
def unitsP (p : Pt) : List U := if p.kind = 1 then List.replicate p.n.toNat .k else if p.kind = 2 then p.signs.map .p else List.replicate p.n.toNat .d
def units (L : List Pt) : List U := L.flatMap unitsP
theorem units_app (a b : List Pt) : units (a ++ b) = units a ++ units b := by simp [units]
def stepU (s : List Pt × List Int × Int) : U → List Pt × List Int × Int
 | .k => (keepTo (doneN s) 1, [], 0)
 | .p x => (s.1, s.2.1 ++ [x], s.2.2)
 | .d => (s.1, s.2.1, s.2.2 + 1)
def foldU (us : List U) : List Pt × List Int × Int := us.foldl stepU ([], [], 0)
def src : List U → Nat
 | [] => 0
 | .k :: us => src us + 1
 | .p _ :: us => src us
 | .d :: us => src us + 1
def tgt : List U → Nat
 | [] => 0
 | .k :: us => tgt us + 1
 | .p _ :: us => tgt us + 1
 | .d :: us => tgt us
theorem src_app : ∀ a b : List U, src (a ++ b) = src a + src b
 | [], b => by simp [src]
 | .k :: a, b => by simp only [List.cons_append, src, src_app a b]; omega
 | .p _ :: a, b => by simp only [List.cons_append, src, src_app a b]
 | .d :: a, b => by simp only [List.cons_append, src, src_app a b]; omega
theorem tgt_app : ∀ a b : List U, tgt (a ++ b) = tgt a + tgt b
 | [], b => by simp [tgt]
 | .k :: a, b => by simp only [List.cons_append, tgt, tgt_app a b]; omega
 | .p _ :: a, b => by simp only [List.cons_append, tgt, tgt_app a b]; omega
 | .d :: a, b => by simp only [List.cons_append, tgt, tgt_app a b]
def comp : List U → List U → List U
 | [], [] => []
 | [], .p x :: b => .p x :: comp [] b
 | [], .k :: b => []
 | [], .d :: b => []
 | .d :: a, b => .d :: comp a b
 | .k :: a, [] => []
 | .k :: a, .p x :: b => .p x :: comp (.k :: a) b
 | .k :: a, .k :: b => .k :: comp a b
 | .k :: a, .d :: b => .d :: comp a b
 | .p y :: a, [] => []
 | .p y :: a, .p x :: b => .p x :: comp (.p y :: a) b
 | .p y :: a, .k :: b => .p y :: comp a b
 | .p y :: a, .d :: b => comp a b
termination_by a b => a.length + b.length
def xf : List U → List U → List U × List U
 | [], [] => ([], [])
 | .p x :: a, b => (.p x :: (xf a b).1, .k :: (xf a b).2)
 | [], .p x :: b => (.k :: (xf [] b).1, .p x :: (xf [] b).2)
 | [], .k :: b => ([], [])
 | [], .d :: b => ([], [])
 | .k :: a, [] => ([], [])
 | .k :: a, .p x :: b => (.k :: (xf (.k :: a) b).1, .p x :: (xf (.k :: a) b).2)
 | .k :: a, .k :: b => (.k :: (xf a b).1, .k :: (xf a b).2)
 | .k :: a, .d :: b => ((xf a b).1, .d :: (xf a b).2)
 | .d :: a, [] => ([], [])
 | .d :: a, .p x :: b => (.k :: (xf (.d :: a) b).1, .p x :: (xf (.d :: a) b).2)
 | .d :: a, .k :: b => (.d :: (xf a b).1, (xf a b).2)
 | .d :: a, .d :: b => xf a b
termination_by a b => a.length + b.length
theorem src_rk : ∀ n : Nat, src (List.replicate n U.k) = n ∧ tgt (List.replicate n U.k) = n
 | 0 => ⟨rfl, rfl⟩
 | n + 1 => by rw [List.replicate_succ]; simp [src, tgt, src_rk n]
theorem src_rd : ∀ n : Nat, src (List.replicate n U.d) = n ∧ tgt (List.replicate n U.d) = 0
 | 0 => ⟨rfl, rfl⟩
 | n + 1 => by rw [List.replicate_succ]; simp [src, tgt, src_rd n]
theorem src_mp : ∀ zs : List Int, src (zs.map U.p) = 0 ∧ tgt (zs.map U.p) = zs.length
 | [] => ⟨rfl, rfl⟩
 | z :: zs => by rw [List.map_cons]; simp [src, tgt, src_mp zs]
def noD : List U → Prop
 | .d :: _ => False
 | _ => True
def noP : List U → Prop
 | .p _ :: _ => False
 | _ => True
theorem comp_ds : ∀ (n : Nat) (a b : List U), comp (List.replicate n .d ++ a) b = List.replicate n .d ++ comp a b
 | 0, a, b => rfl
 | n + 1, a, b => by rw [List.replicate_succ, List.cons_append, comp, comp_ds n a b]; rfl
theorem comp_put1 (a b : List U) (x : Int) (h : noD a) : comp a (.p x :: b) = .p x :: comp a b := by
 cases a with
 | nil => rw [comp]
 | cons u a =>
  cases u with
  | k => rw [comp]
  | p y => rw [comp]
  | d => exact absurd h (by simp [noD])
theorem comp_puts : ∀ (zs : List Int) (a b : List U), noD a → comp a (zs.map .p ++ b) = zs.map .p ++ comp a b
 | [], a, b, _ => rfl
 | z :: zs, a, b, h => by rw [List.map_cons, List.cons_append, comp_put1 a _ z h, comp_puts zs a b h]; rfl
theorem comp_pk : ∀ (zs : List Int) (a b : List U), comp (zs.map .p ++ a) (List.replicate zs.length .k ++ b) = zs.map .p ++ comp a b
 | [], a, b => rfl
 | z :: zs, a, b => by rw [List.map_cons, List.length_cons, List.replicate_succ, List.cons_append, List.cons_append, comp, comp_pk zs a b]; rfl
theorem xf_puts : ∀ (zs : List Int) (a b : List U), xf (zs.map .p ++ a) b = (zs.map .p ++ (xf a b).1, List.replicate zs.length .k ++ (xf a b).2)
 | [], a, b => rfl
 | z :: zs, a, b => by rw [List.map_cons, List.cons_append, xf, xf_puts zs a b]; rfl
theorem xf_put1 (a b : List U) (x : Int) (h : noP a) : xf a (.p x :: b) = (.k :: (xf a b).1, .p x :: (xf a b).2) := by
 cases a with
 | nil => rw [xf]
 | cons u a =>
  cases u with
  | k => rw [xf]
  | p y => exact absurd h (by simp [noP])
  | d => rw [xf]
theorem xf_putsB : ∀ (zs : List Int) (a b : List U), noP a → xf a (zs.map .p ++ b) = (List.replicate zs.length .k ++ (xf a b).1, zs.map .p ++ (xf a b).2)
 | [], a, b, _ => rfl
 | z :: zs, a, b, h => by rw [List.map_cons, List.cons_append, xf_put1 a _ z h, xf_putsB zs a b h]; rfl
def sizeP (p : Pt) : Nat := if p.kind = 2 then p.signs.length else p.n.toNat
def rem (ps : List Pt) (at_ done : Nat) : List U := (units (ps.drop at_)).drop done
structure Cur (g : Nat) (T : TypeId) (w : World) (A : Option Addr) (c : Nat) (ps : List Pt) (at_ done : Nat) : Prop where
 box : w.heap[g]? = some (.cells #[.slice A ps.length c, .int .i64 (at_ : Int), .int .i64 (done : Int)] T (0, 0))
 le : at_ ≤ ps.length
 part : ∀ p, ps[at_]? = some p → done ≤ sizeP p
 stop : at_ = ps.length → done = 0
theorem Cur.cell {g : Nat} {T : TypeId} {w : World} {A : Option Addr} {c : Nat} {ps : List Pt} {at_ done : Nat} (h : Cur g T w A c ps at_ done) (i : Nat) : w.cell? ⟨g, i, none⟩ = #[Value.slice A ps.length c, .int .i64 (at_ : Int), .int .i64 (done : Int)][i]? := cell_of_row _ _ i _ _ _ h.box
theorem Cur.free {g : Nat} {T : TypeId} {w : World} {A : Option Addr} {c : Nat} {ps : List Pt} {at_ done : Nat} (h : Cur g T w A c ps at_ done) (o : Nat) : w.frozen? ⟨g, o, none⟩ = false := by simp [World.frozen?, h.box]
theorem Cur.lt {g : Nat} {T : TypeId} {w : World} {A : Option Addr} {c : Nat} {ps : List Pt} {at_ done : Nat} (h : Cur g T w A c ps at_ done) : g < w.heap.size := lt_of_some h.box
theorem Cur.keep {g : Nat} {T : TypeId} {w w' : World} {A : Option Addr} {c : Nat} {ps : List Pt} {at_ done : Nat} (h : Cur g T w A c ps at_ done) (hk : w'.heap[g]? = w.heap[g]?) : Cur g T w' A c ps at_ done := ⟨hk.trans h.box, h.le, h.part, h.stop⟩
def KS (wr W : World) : Prop := Below wr.heap.size wr W
theorem KS.start (wr : World) : KS wr wr.drew := (Below.refl _ _).drew
theorem Cur.step {g : Nat} {T : TypeId} {w : World} {A : Option Addr} {c : Nat} {ps : List Pt} {at_ done : Nat} (h : Cur g T w A c ps at_ done) (done' : Nat) (h1 : at_ < ps.length) (h2 : ∀ p, ps[at_]? = some p → done' ≤ sizeP p) :
  Cur g T (w.setCell ⟨g, 2, none⟩ (.int .i64 (done' : Int))) A c ps at_ done' := by
 refine ⟨?_, h.le, h2, fun e => by omega⟩
 rw [heap_setCell_same _ _ _ _ _ _ h.box]
 rfl
def kindOf : List U → Int
 | [] => 0
 | .k :: _ => 1
 | .p _ :: _ => 2
 | .d :: _ => 3
structure CInv (a b : List Pt) (RX RY : List U) (L : List Pt) : Prop where
 eq : units L ++ comp RX RY = comp (units a) (units b)
 bal : tgt RX = src RY
 len : L.length + RX.length + RY.length ≤ 2000
theorem CInv.drop {a b : List Pt} {n : Nat} {RX RY : List U} {L : List Pt} (h : CInv a b (List.replicate n .d ++ RX) RY L) (hn : 0 < n) : CInv a b RX RY (L ++ [⟨3, (n : Int), []⟩]) := by
 refine ⟨?_, ?_, ?_⟩
 ·rw [← h.eq, comp_ds, units_app]
  simp [units, unitsP]
 ·have := h.bal; rwa [tgt_app, (src_rd n).2, Nat.zero_add] at this
 ·have := h.len; simp at this ⊢; omega
theorem CInv.put {a b : List Pt} {zs : List Int} {RX RY : List U} {L : List Pt} (h : CInv a b RX (zs.map .p ++ RY) L) (hd : noD RX) (hn : 0 < zs.length) : CInv a b RX RY (L ++ [⟨2, 0, zs⟩]) := by
 refine ⟨?_, ?_, ?_⟩
 ·rw [← h.eq, comp_puts zs _ _ hd, units_app]
  simp [units, unitsP]
 ·have := h.bal; rwa [src_app, (src_mp zs).1, Nat.zero_add] at this
 ·have := h.len; simp at this ⊢; omega
theorem CInv.pk {a b : List Pt} {zs : List Int} {RX RY : List U} {L : List Pt} (h : CInv a b (zs.map .p ++ RX) (List.replicate zs.length .k ++ RY) L) (hn : 0 < zs.length) : CInv a b RX RY (L ++ [⟨2, 0, zs⟩]) := by
 refine ⟨?_, ?_, ?_⟩
 ·rw [← h.eq, comp_pk, units_app]
  simp [units, unitsP]
 ·have := h.bal; rw [tgt_app, src_app, (src_mp zs).2, (src_rk zs.length).1] at this; omega
 ·have := h.len; simp at this ⊢; omega
def Lead (R : List U) (m : Nat) : Prop := (R = [] ∧ m = 0) ∨ (0 < m ∧ m ≤ 200 ∧ m ≤ R.length ∧ ((kindOf R = 1 ∧ R.take m = List.replicate m .k) ∨ (kindOf R = 3 ∧ R.take m = List.replicate m .d) ∨ (kindOf R = 2 ∧ ∃ zs : List Int, R.take m = zs.map .p)))
theorem take_rep {R : List U} {u : U} {m n : Nat} (h : R.take m = List.replicate m u) (hn : n ≤ m) : R = List.replicate n u ++ R.drop n := by
 have e : R.take n = List.replicate n u := by
  have := congrArg (List.take n) h
  rwa [List.take_take, Nat.min_eq_left hn, List.take_replicate, Nat.min_eq_left hn] at this
 rw [← e, List.take_append_drop]
theorem Lead.k {R : List U} {m n : Nat} (h : Lead R m) (hk : kindOf R = 1) (hn : n ≤ m) : R = List.replicate n .k ++ R.drop n := by
 rcases h with ⟨rfl, rfl⟩ | ⟨_, _, _, ⟨_, h⟩ | ⟨h, _⟩ | ⟨h, _⟩⟩
 ·obtain rfl : n = 0 := by omega
  rfl
 ·exact take_rep h hn
 ·omega
 ·omega
theorem Lead.d {R : List U} {m n : Nat} (h : Lead R m) (hk : kindOf R = 3) (hn : n ≤ m) : R = List.replicate n .d ++ R.drop n := by
 rcases h with ⟨rfl, rfl⟩ | ⟨_, _, _, ⟨h, _⟩ | ⟨_, h⟩ | ⟨h, _⟩⟩
 ·obtain rfl : n = 0 := by omega
  rfl
 ·omega
 ·exact take_rep h hn
 ·omega
theorem Lead.p {R : List U} {m n : Nat} (h : Lead R m) (hk : kindOf R = 2) (hn : n ≤ m) : ∃ zs : List Int, zs.length = n ∧ R = zs.map .p ++ R.drop n := by
 rcases h with ⟨rfl, rfl⟩ | ⟨_, _, hl, ⟨h, _⟩ | ⟨h, _⟩ | ⟨_, zs, h⟩⟩
 ·obtain rfl : n = 0 := by omega
  exact ⟨[], rfl, rfl⟩
 ·omega
 ·omega
 ·have e : R.take n = (zs.take n).map .p := by
   have := congrArg (List.take n) h
   rwa [List.take_take, Nat.min_eq_left hn, ← List.map_take] at this
  have l := congrArg List.length e
  rw [List.length_take, List.length_map] at l
  exact ⟨zs.take n, by omega, by rw [← e, List.take_append_drop]⟩
structure Fx where
 lo : Nat
 gx : Nat
 gy : Nat
 TC : TypeId
 A : Option Addr
 ca : Nat
 a : List Pt
 B : Option Addr
 cb : Nat
 b : List Pt
def Fx.swap (K : Fx) : Fx := ⟨K.lo, K.gy, K.gx, K.TC, K.B, K.cb, K.b, K.A, K.ca, K.a⟩
def Sett (ps : List Pt) (at_ done : Nat) : Option Nat → Prop
 | none => True
 | some m => (at_ = ps.length ∧ m = 0) ∨ ∃ p, ps[at_]? = some p ∧ done < sizeP p ∧ m = sizeP p - done
structure Cs (K : Fx) (w : World) (sx sy : Option Nat) (RX RY : List U) : Prop where
 ex : ∃ i d, Cur K.gx K.TC w K.A K.ca K.a i d ∧ rem K.a i d = RX ∧ Sett K.a i d sx
 ey : ∃ i d, Cur K.gy K.TC w K.B K.cb K.b i d ∧ rem K.b i d = RY ∧ Sett K.b i d sy
 ra : RdC w K.lo (encPs K.a) (.slice K.A K.a.length K.ca)
 rb : RdC w K.lo (encPs K.b) (.slice K.B K.b.length K.cb)
 ne : ¬ K.gx = K.gy
 lx : K.lo ≤ K.gx
 ly : K.lo ≤ K.gy
 sa : ∀ p ∈ K.a, szP_ p
 sb : ∀ p ∈ K.b, szP_ p
 na : K.a.length ≤ 1048576
 nb : K.b.length ≤ 1048576
section
variable {K : Fx} {w w' : World} {sx sy : Option Nat} {RX RY : List U}
theorem Cs.swap (h : Cs K w sx sy RX RY) : Cs K.swap w sy sx RY RX := ⟨h.ey, h.ex, h.rb, h.ra, fun e => h.ne e.symm, h.ly, h.lx, h.sb, h.sa, h.nb, h.na⟩
theorem Cs.xlt (h : Cs K w sx sy RX RY) : K.gx < w.heap.size := by obtain ⟨_, _, hc, _⟩ := h.ex; exact hc.lt
theorem Cs.ylt (h : Cs K w sx sy RX RY) : K.gy < w.heap.size := by obtain ⟨_, _, hc, _⟩ := h.ey; exact hc.lt
theorem Cs.keep (h : Cs K w sx sy RX RY) (hx : w'.heap[K.gx]? = w.heap[K.gx]?) (hy : w'.heap[K.gy]? = w.heap[K.gy]?) (hb : Below K.lo w w') : Cs K w' sx sy RX RY := by
 obtain ⟨i, d, h1, h2, h3⟩ := h.ex
 obtain ⟨j, e, k1, k2, k3⟩ := h.ey
 exact ⟨⟨i, d, h1.keep hx, h2, h3⟩, ⟨j, e, k1.keep hy, k2, k3⟩, h.ra.below hb, h.rb.below hb, h.ne, h.lx, h.ly, h.sa, h.sb, h.na, h.nb⟩
theorem Cs.past (h : Cs K w sx sy RX RY) (hb : Below w.heap.size w w') : Cs K w' sx sy RX RY :=
 h.keep (hb.block _ h.xlt) (hb.block _ h.ylt) (hb.mono (Nat.le_trans h.lx (Nat.le_of_lt h.xlt)))
theorem Cs.grew {O O' : Nat → Prop} (h : Cs K w sx sy RX RY) (hg : Grew O O' w w') (hb : Below K.lo w w') (hx : ¬ O K.gx) (hy : ¬ O K.gy) : Cs K w' sx sy RX RY :=
 h.keep (hg.block _ h.xlt hx) (hg.block _ h.ylt hy) hb
end
structure CB (K : Fx) (go : Nat) (TB : TypeId) (O : Nat → Prop) (L : List Pt) (w : World) (sx sy : Option Nat) (RX RY : List U) : Prop where
 cs : Cs K w sx sy RX RY
 bd : Bld O K.lo go TB w L
 ox : ¬ O K.gx
 oy : ¬ O K.gy
section
variable {K : Fx} {go : Nat} {TB : TypeId} {O O' : Nat → Prop} {L L' : List Pt} {w w' : World} {sx sy sx' sy' : Option Nat} {RX RY RX' RY' : List U}
theorem CB.past (h : CB K go TB O L w sx sy RX RY) (hb : Below w.heap.size w w') : CB K go TB O L w' sx sy RX RY := ⟨h.cs.past hb, h.bd.past hb, h.ox, h.oy⟩
end
section
variable {K : Fx} {go : Nat} {TB : TypeId} {O : Nat → Prop} {L : List Pt} {w : World} {sx sy : Option Nat} {RX RY : List U}
end
def loopsOf : Code → List Code
 | .loop c => [c]
 | .seq a b => loopsOf a ++ loopsOf b
 | .cond _ a b => loopsOf a ++ loopsOf b
 | .block _ c => loopsOf c
 | .scope c => loopsOf c
 | _ => []
def CoR (K : Fx) (go : Nat) (w0 w' : World) : Prop := ∃ O L RX RY, CB K go 104 O L w' none none RX RY ∧ CInv K.a K.b RX RY L ∧ Below K.lo w0 w'
theorem CoR.mk {K : Fx} {go : Nat} {w0 w' : World} {O : Nat → Prop} {L : List Pt} {RX RY : List U} (h : CB K go 104 O L w' none none RX RY) (hi : CInv K.a K.b RX RY L) (D : Below K.lo w0 w') : CoR K go w0 w' := ⟨O, L, RX, RY, h, hi, D⟩
theorem heap_old (w : World) (o : Obj) {g : Nat} {x : Obj} (h : w.heap[g]? = some x) : (w.alloc o).heap[g]? = some x := by
 rw [Below.heap_alloc _ _ _ (lt_of_some h)]
 exact h
theorem cur_new {w : World} {g : Nat} {T : TypeId} {A : Option Addr} {c : Nat} {ps : List Pt} (h : w.heap[g]? = some (.cells #[.slice A ps.length c, .int .i64 0, .int .i64 0] T (0, 0))) : ∃ i d, Cur g T w A c ps i d ∧ rem ps i d = units ps ∧ Sett ps i d none :=
 ⟨0, 0, ⟨h, Nat.zero_le _, fun _ _ => Nat.zero_le _, fun _ => rfl⟩, by simp [rem], trivial⟩
theorem Cs.new {w w' : World} {A B : Option Addr} {ca cb lo : Nat} {a b : List Pt} {TC : TypeId} (hlo : lo ≤ w.heap.size) (ra : RdC w lo (encPs a) (.slice A a.length ca)) (rb : RdC w lo (encPs b) (.slice B b.length cb)) (sa : ∀ p ∈ a, szP_ p) (sb : ∀ p ∈ b, szP_ p) (na : a.length ≤ 1048576) (nb : b.length ≤ 1048576)
  (hx : w'.heap[w.heap.size]? = some (.cells #[.slice A a.length ca, .int .i64 0, .int .i64 0] TC (0, 0))) (hy : w'.heap[w.heap.size + 1]? = some (.cells #[.slice B b.length cb, .int .i64 0, .int .i64 0] TC (0, 0))) (hb : Below lo w w') : Cs ⟨lo, w.heap.size, w.heap.size + 1, TC, A, ca, a, B, cb, b⟩ w' none none (units a) (units b) :=
 ⟨cur_new hx, cur_new hy, ra.below hb, rb.below hb, by simp, hlo, Nat.le_succ_of_le hlo, sa, sb, na, nb⟩
theorem CB.new {w : World} {A B : Option Addr} {ca cb lo : Nat} {a b : List Pt} {TC TB : TypeId} (hlo : lo ≤ w.heap.size) (ra : RdC w lo (encPs a) (.slice A a.length ca)) (rb : RdC w lo (encPs b) (.slice B b.length cb)) (sa : ∀ p ∈ a, szP_ p) (sb : ∀ p ∈ b, szP_ p) (na : a.length ≤ 1048576) (nb : b.length ≤ 1048576) :
  CB ⟨lo, w.heap.size, w.heap.size + 1, TC, A, ca, a, B, cb, b⟩ (w.heap.size + 1 + 1) TB (fun q => q = w.heap.size + 1 + 1) [] (((w.alloc (.cells #[.slice A a.length ca, .int .i64 0, .int .i64 0] TC)).alloc (.cells #[.slice B b.length cb, .int .i64 0, .int .i64 0] TC)).alloc (.cells #[.slice none 0 0, .slice none 0 0, .int .i64 0] TB)) none none (units a) (units b) ∧
  Below lo w (((w.alloc (.cells #[.slice A a.length ca, .int .i64 0, .int .i64 0] TC)).alloc (.cells #[.slice B b.length cb, .int .i64 0, .int .i64 0] TC)).alloc (.cells #[.slice none 0 0, .slice none 0 0, .int .i64 0] TB)) := by
 have s1 : (w.alloc (.cells #[.slice A a.length ca, .int .i64 0, .int .i64 0] TC)).heap.size = w.heap.size + 1 := Array.size_push ..
 have s2 : ((w.alloc (.cells #[.slice A a.length ca, .int .i64 0, .int .i64 0] TC)).alloc (.cells #[.slice B b.length cb, .int .i64 0, .int .i64 0] TC)).heap.size = w.heap.size + 1 + 1 := by rw [← s1]; exact Array.size_push ..
 have b1 := (((alloc_below w (.cells #[.slice A a.length ca, .int .i64 0, .int .i64 0] TC)).mono hlo).alloc (by rw [s1]; omega) (.cells #[.slice B b.length cb, .int .i64 0, .int .i64 0] TC)).alloc (by rw [s2]; omega) (.cells #[.slice none 0 0, .slice none 0 0, .int .i64 0] TB)
 have hb := Bld.new lo TB ((w.alloc (.cells #[.slice A a.length ca, .int .i64 0, .int .i64 0] TC)).alloc (.cells #[.slice B b.length cb, .int .i64 0, .int .i64 0] TC)) (by rw [s2]; omega)
 rw [s2] at hb
 exact ⟨⟨Cs.new hlo ra rb sa sb na nb (heap_old _ _ (heap_old _ _ (heap_alloc_new w _))) (heap_old _ _ (by rw [← s1]; exact heap_alloc_new _ _)) b1, hb, by show ¬ w.heap.size = _; omega, by show ¬ w.heap.size + 1 = _; omega⟩, b1⟩
structure XInv (a b : List Pt) (RX RY : List U) (L M : List Pt) : Prop where
 eq1 : units L ++ (xf RX RY).1 = (xf (units a) (units b)).1
 eq2 : units M ++ (xf RX RY).2 = (xf (units a) (units b)).2
 bal : src RX = src RY
 len : L.length + M.length + 2 * RX.length + 2 * RY.length ≤ 4000
section
variable {a b : List Pt} {RX RY : List U} {L M : List Pt}
theorem XInv.px {zs : List Int} (h : XInv a b (zs.map .p ++ RX) RY L M) (hn : 0 < zs.length) : XInv a b RX RY (L ++ [⟨2, 0, zs⟩]) (M ++ [⟨1, (zs.length : Int), []⟩]) := by
 refine ⟨?_, ?_, ?_, ?_⟩
 ·rw [← h.eq1, xf_puts, units_app]; simp [units, unitsP]
 ·rw [← h.eq2, xf_puts, units_app]; simp [units, unitsP]
 ·have := h.bal; rw [src_app, (src_mp zs).1] at this; omega
 ·have := h.len; simp at this ⊢; omega
theorem XInv.py {zs : List Int} (h : XInv a b RX (zs.map .p ++ RY) L M) (hp : noP RX) (hn : 0 < zs.length) : XInv a b RX RY (L ++ [⟨1, (zs.length : Int), []⟩]) (M ++ [⟨2, 0, zs⟩]) := by
 refine ⟨?_, ?_, ?_, ?_⟩
 ·rw [← h.eq1, xf_putsB _ _ _ hp, units_app]; simp [units, unitsP]
 ·rw [← h.eq2, xf_putsB _ _ _ hp, units_app]; simp [units, unitsP]
 ·have := h.bal; rw [src_app, (src_mp zs).1] at this; omega
 ·have := h.len; simp at this ⊢; omega
end
structure TT (K : Fx) (g1 g2 : Nat) (TB : TypeId) (O P : Nat → Prop) (L M : List Pt) (w : World) (sx sy : Option Nat) (RX RY : List U) : Prop where
 cs : Cs K w sx sy RX RY
 b1 : Bld O K.lo g1 TB w L
 b2 : Bld P K.lo g2 TB w M
 ox : ¬ O K.gx
 oy : ¬ O K.gy
 px : ¬ P K.gx
 py : ¬ P K.gy
 dis : ∀ q, O q → ¬ P q
section
variable {K : Fx} {g1 g2 : Nat} {TB : TypeId} {O O' P P' : Nat → Prop} {L L' M M' : List Pt} {w w' : World} {sx sy sx' sy' : Option Nat} {RX RY RX' RY' : List U}
theorem TT.one (h : TT K g1 g2 TB O P L M w sx sy RX RY) : CB K g1 TB O L w sx sy RX RY := ⟨h.cs, h.b1, h.ox, h.oy⟩
theorem TT.past (h : TT K g1 g2 TB O P L M w sx sy RX RY) (hb : Below w.heap.size w w') : TT K g1 g2 TB O P L M w' sx sy RX RY := ⟨h.cs.past hb, h.b1.past hb, h.b2.past hb, h.ox, h.oy, h.px, h.py, h.dis⟩
end
section
variable {K : Fx} {g1 g2 : Nat} {TB : TypeId} {O P : Nat → Prop} {L M : List Pt} {w : World} {sx sy : Option Nat} {RX RY : List U}
end
theorem OwB.upto {lo hi hi' : Nat} {w : World} {d : Dat} {v : Value} {b : List Nat} (h : OwB lo hi w d v b) (h1 : hi ≤ hi') (h2 : hi' ≤ w.heap.size) : OwB lo hi' w d v b := ⟨h.ow, h.nd, fun x hx => ⟨(h.rng x hx).1, Nat.lt_of_lt_of_le (h.rng x hx).2 h1⟩, h2, Nat.le_trans h.le h1⟩
def made (us : List U) : List Pt := doneN (foldU us)
end Go.Proofs.Ytglklgnggkenhaa.low
namespace Go.Proofs.Ytglklgnggkenhaa.low
open Go.RowKit Go.ChangeShapes Go.WideShapes Go.Deep
set_option linter.unusedVariables false
theorem cellsU8 : Try.prog.cellsOf 5 = 1 := by kernel_rfl
section
variable {H : Type} {enc : TypeId × Value → H} {w : World} {base : Nat} {spare : Nat → Bool} {held : Bool}
theorem read_bytes {fuel : Nat} {cs : List Value} {x : DataW H × List MemPlace} (h : DataW.trod enc Try.prog w base spare held fuel 22 cs = some x) :
  ∃ A c, ∃ zs : List Int, cs = [.slice A zs.length c] ∧ Row (Value.int .u8) w w.heap.size A zs ∧ zs.length ≤ maxLen ∧ ∀ z ∈ zs, 0 ≤ z ∧ z < 256 := by
 rcases open_ints Try.underlying22 Try.underlying5 cellsU8 h with ⟨hcs, _⟩ | ⟨a, len, cap, zs, hcs, _, hl, hm, hz, _, hc, hw⟩
 ·exact ⟨none, 0, [], hcs, Row.nil, Nat.zero_le _, by simp⟩
 ·have hzl : len ≤ zs.length := by rw [hz]; split <;> omega
  refine ⟨some a, cap, zs.take len, by rw [hcs, List.length_take, Nat.min_eq_left hzl], fun hn => ?_, by rw [List.length_take]; omega, fun z hz' => ?_⟩
  ·have h0 := cell_lt (hc 0 (by simp at hn; omega))
   rw [block_of_add] at h0
   refine ⟨a, rfl, h0, fun k z hk => ?_⟩
   have hk' : k < zs.length := by
    rcases Nat.lt_or_ge k zs.length with h | h
    ·exact h
    ·rw [List.getElem?_eq_none (by simp; omega)] at hk; cases hk
   have hk2 : zs[k]? = some z := by
    rw [List.getElem?_take] at hk
    split at hk
    ·exact hk
    ·cases hk
   rw [hc k hk']
   simp [List.getD, hk2]
  ·have := hw z (List.mem_of_mem_take hz')
   simp [Lit.wf, IntKind.min, IntKind.max, IntKind.signed, IntKind.bits] at this
   omega
end
end Go.Proofs.Ytglklgnggkenhaa.low
namespace Go.Proofs.Ytglklgnggkenhaa.low
open Go.RowKit
set_option linter.unusedVariables false
theorem and255 (n : Int) : bits .and .i64 n 255 = n % 256 := by
 have h127 : (BitVec.ofInt 64 255).toNat = 2 ^ 8 - 1 := by decide
 have key : (BitVec.ofInt 64 n &&& BitVec.ofInt 64 255).toNat = (n % ((2 ^ 64 : Nat) : Int)).toNat % 2 ^ 8 := by
  rw [BitVec.toNat_and, BitVec.toNat_ofInt, h127, Nat.and_two_pow_sub_one_eq_mod]
 show IntKind.i64.wrap ((BitVec.ofInt 64 n &&& BitVec.ofInt 64 255).toNat : Nat) = n % 256
 rw [key, IntKind.wrap_i64]
 omega
theorem and255_bd (n : Int) : 0 ≤ bits .and .i64 n 255 ∧ bits .and .i64 n 255 ≤ 255 := by rw [and255]; omega
def DC (B g : Nat) (w : World) : Prop := ∃ (A : Option Addr) (c : Nat) (zs : List Int) (i : Nat) (h : Int), w.heap[g]? = some (.cells #[.slice A zs.length c, .int .i64 (i : Int), .int .i64 h] 57 (0, 0)) ∧ zs.length ≤ 1048576 ∧ Row (Value.int .u8) w B A zs ∧ (∀ z ∈ zs, 0 ≤ z ∧ z < 256) ∧ B ≤ g
theorem DC.keep {B g : Nat} {w w' : World} (h : DC B g w) (hg : w'.heap[g]? = w.heap[g]?) (hk : ∀ p : Addr, p.block < B → w'.cell? p = w.cell? p) : DC B g w' := by
 obtain ⟨A, c, zs, i, x, h1, h2, h3, h4, h5⟩ := h
 exact ⟨A, c, zs, i, x, hg.trans h1, h2, h3.keep hk, h4, h5⟩
theorem DC.lt {B g : Nat} {w : World} (h : DC B g w) : g < w.heap.size := by
 obtain ⟨A, c, zs, i, x, h1, _⟩ := h
 exact lt_of_some h1
theorem DC.low {B g : Nat} {w : World} (h : DC B g w) : B ≤ g := by
 obtain ⟨A, c, zs, i, x, _, _, _, _, h5⟩ := h
 exact h5
theorem DC.past {B g : Nat} {w w' : World} (h : DC B g w) (hb : Below w.heap.size w w') : DC B g w' := h.keep (hb.block g h.lt) (fun p hp => hb.cell (by have := h.lt; have := h.low; omega))
theorem DC.grew {B g : Nat} {O O' : Nat → Prop} {w w' : World} (h : DC B g w) (hg : Grew O O' w w') (hb : Below B w w') (ho : ¬ O g) : DC B g w' := h.keep (hg.block g h.lt ho) (fun p hp => hb.cell hp)
def DrawP (P : Int → Prop) (B g : Nat) (w : World) (e : Ending) (w' : World) : Prop := ∃ x, e = .returned (.int .i64 x) ∧ P x ∧ DC B g w' ∧ Fr (fun q => q = g) w w' ∧ Below B w w'
theorem set2_row {w : World} {g : Nat} {T : TypeId} {a b c v : Value} {n : Nat} (h : w.heap[g]? = some (.cells #[a, b, c] T (0, 0))) : ((w.setCell ⟨g, 2, none⟩ v).drewN n).heap[g]? = some (.cells #[a, b, v] T (0, 0)) := by
 show (w.setCell ⟨g, 2, none⟩ v).heap[g]? = _
 rw [heap_setCell_same _ _ _ _ _ _ h]
 rfl
theorem set1_row {w : World} {g : Nat} {T : TypeId} {a b c v : Value} (h : w.heap[g]? = some (.cells #[a, b, c] T (0, 0))) : (w.setCell ⟨g, 1, none⟩ v).heap[g]? = some (.cells #[a, v, c] T (0, 0)) := by
 rw [heap_setCell_same _ _ _ _ _ _ h]
 rfl
theorem fr_drewN' {S : Nat → Prop} {n : Nat} {w wr : World} (h : Fr S w wr) : Fr S w (wr.drewN n) := ⟨h.size, h.block⟩
theorem below_drewN' {lo n : Nat} {w wr : World} (h : Below lo w wr) : Below lo w (wr.drewN n) := ⟨h.os, h.tape, h.output, h.size, h.block⟩
theorem specByte_d (B g : Nat) (w : World) (h : DC B g w) : Calls Try.prog 49 #[.pointer (some ⟨g, 0, none⟩)] w (DrawP (fun x => 0 ≤ x ∧ x ≤ 255) B g w) := by
 obtain ⟨A, c, zs, i, x, h1, h2, h3, h4, h5⟩ := h
 have c0 : w.cell? ⟨g, 0, none⟩ = some (.slice A zs.length c) := cell_of_row _ _ 0 _ _ _ h1
 have c1 : w.cell? ⟨g, 1, none⟩ = some (.int .i64 (i : Int)) := cell_of_row _ _ 1 _ _ _ h1
 have c2 : w.cell? ⟨g, 2, none⟩ = some (.int .i64 x) := cell_of_row _ _ 2 _ _ _ h1
 have f1 : w.frozen? ⟨g, 1, none⟩ = false := by simp [World.frozen?, h1]
 have f2 : w.frozen? ⟨g, 2, none⟩ = false := by simp [World.frozen?, h1]
 have H1 := Lib.hid h1
 have H4 := Lib.hid h4
 clear h1 h4
 by_cases hlt : i < zs.length
 ·obtain ⟨ad, z, rfl, hbl, hz, hc⟩ := h3.at_ hlt
  have hzz := H4.out z (List.mem_of_getElem? hz)
  clear hz
  have hcx : ∀ v, (w.setCell ⟨g, 2, none⟩ v).cell? (ad.add i) = some (.int .u8 z) := fun v => (World.cell?_of_block (heap_setCell_other _ _ _ _ (fun e => by have e' : (ad.add i).block = g := e; rw [block_of_add] at e'; omega))).trans hc
  go_enter Try.func49, Try.ntmps49
  go_wp2
  go_quiet (fail)
  go_wp2
  go_quiet (fail)
  go_wp2
  go_quiet (fail)
  go_wp2
  go_ret
  refine ⟨_, rfl, and255_bd _, ⟨some ad, c, zs, i + 1, wrap64 (wrap64 (x * 6364136223846793005) + 1442695040888963407), set1_row (set2_row H1.out), h2, h3.keep (fun p hp => ?_), H4.out, h5⟩, ?_, ?_⟩
  ·exact (World.cell?_of_block (heap_setCell_other _ _ _ _ (fun e => by have e' : p.block = g := e; omega))).trans (World.cell?_of_block (heap_setCell_other _ _ _ _ (fun e => by have e' : p.block = g := e; omega)))
  ·exact (fr_drewN' ((Fr.refl (fun q => q = g) w).setCell (p := ⟨g, 2, none⟩) rfl _)).setCell (p := ⟨g, 1, none⟩) rfl _
  ·exact (below_drewN' ((Below.refl B w).setCell (p := ⟨g, 2, none⟩) h5 _)).setCell (p := ⟨g, 1, none⟩) h5 _
 ·go_enter Try.func49, Try.ntmps49
  go_wp2
  go_quiet (fail)
  go_wp2
  go_quiet (fail)
  go_wp2
  go_ret
  refine ⟨_, rfl, and255_bd _, ⟨A, c, zs, i, wrap64 (wrap64 (x * 6364136223846793005) + 1442695040888963407), set2_row (n := 0) H1.out, h2, h3.keep (fun p hp => ?_), H4.out, h5⟩, ?_, ?_⟩
  ·exact World.cell?_of_block (heap_setCell_other _ _ _ _ (fun e => by have e' : p.block = g := e; omega))
  ·exact fr_drewN' (fr_drewN' ((Fr.refl (fun q => q = g) w).setCell (p := ⟨g, 2, none⟩) rfl _))
  ·exact below_drewN' (below_drewN' ((Below.refl B w).setCell (p := ⟨g, 2, none⟩) h5 _))
theorem DrawP.mono {P P' : Int → Prop} {B g : Nat} {w w' : World} {e : Ending} (h : DrawP P B g w e w') (hp : ∀ x, P x → P' x) : DrawP P' B g w e w' := by
 obtain ⟨x, h1, h2, h3⟩ := h
 exact ⟨x, h1, hp x h2, h3⟩
theorem specBelow_d (B g : Nat) (n : Int) (w : World) (h : DC B g w) (hn : n ≤ 2147483648) : Calls Try.prog 30 #[.pointer (some ⟨g, 0, none⟩), .int .i64 n] w (DrawP (fun x => 0 ≤ x ∧ (0 < n → x < n) ∧ (n ≤ 0 → x = 0)) B g w) := by
 by_cases h0 : n ≤ 0
 ·go_enter Try.func30, Try.ntmps30
  go_wp2
  go_ret
  exact ⟨0, rfl, ⟨by omega, fun h => by omega, fun _ => rfl⟩, h, Fr.refl _ _, Below.refl _ _⟩
 ·have h0' : 0 < n := by omega
  by_cases h1 : n ≤ 256
  ·go_enter Try.func30, Try.ntmps30
   go_wp2_with fail
   refine (specByte_d B g _ h).mono ?_
   rintro e w1 ⟨x, rfl, ⟨x1, x2⟩, dc, fr, bl⟩
   have hz : ¬ n = 0 := by omega
   go_wp2
   go_ret
   exact ⟨_, rfl, ⟨Int.emod_nonneg _ (by omega), fun _ => Int.emod_lt_of_pos _ h0', fun h => by omega⟩, dc, fr, bl⟩
  ·go_enter Try.func30, Try.ntmps30
   go_wp2_with fail
   refine (specByte_d B g _ h).mono ?_
   rintro e w1 ⟨x, rfl, ⟨x1, x2⟩, dc, fr, bl⟩
   go_wp2_with fail
   refine (specByte_d B g _ dc).mono ?_
   rintro e w2 ⟨y, rfl, ⟨y1, y2⟩, dc2, fr2, bl2⟩
   go_wp2_with fail
   refine (specByte_d B g _ dc2).mono ?_
   rintro e w3 ⟨z, rfl, ⟨z1, z2⟩, dc3, fr3, bl3⟩
   go_wp2_with fail
   refine (specByte_d B g _ dc3).mono ?_
   rintro e w4 ⟨t, rfl, ⟨t1, t2⟩, dc4, fr4, bl4⟩
   have hz : ¬ n = 0 := by omega
   go_wp2
   go_ret
   exact ⟨_, rfl, ⟨Int.emod_nonneg _ (by omega), fun _ => Int.emod_lt_of_pos _ h0', fun h => by omega⟩, dc4, ((fr.trans fr2).trans fr3).trans fr4, ((bl.trans bl2).trans bl3).trans bl4⟩
theorem wpList_append_row {w : World} {ops : Array Oper} {rest : List Oper} {o : Oper} {a : Act} {Q : Exit → Act → World → Prop} (hgd : o.guard = none) (s x : Operand) (t : TypeId)
  (ho : o.op = .call { callee := .builtin .append, args := #[s, x], argTypes := #[t, t] }) (e : TypeId) (i : TypeInfo) (z : Value) (sz bytes : Nat) (ht : Try.prog.underlying t = some (.slice e)) (hi : Try.prog.info? e = some i) (hz : i.zero = some z) (hsize : i.size = sz) (hby : i.bytes = bytes) (hzs : z.cells.size = sz) (hsz : 0 < sz) (hbm : bytes ≤ 100000)
  (lo hi' : Nat) (v : Value) (ds : List (List Dat)) (b : List Nat) (h : OwB lo hi' w (.rows e sz ds) v b) (hs : a.eval s = v) (hlen : ds.length ≤ 2000000)
  (ad : Addr) (c0 : Nat) (ys : List Value) (hx : a.eval x = .slice (some ad) 1 c0) (hl : ys.length = sz) (hnews : ∀ j u, ys[j]? = some u → w.cell? (ad.add j) = some u) (h1 : ∀ u ∈ ys, u.oneCell' = true)
  (r : List Dat) (c : List Nat) (hr : OwL w r ys c) (hcn : c.Nodup) (hbc : ∀ q ∈ b, q ∉ c) (hcr : ∀ q ∈ c, lo ≤ q)
  (K : ∀ A' c' w' b', OwB lo w'.heap.size w' (.rows e sz (ds ++ [r])) (.slice A' (ds.length + 1) c') b' → (∀ q ∈ b', q ∈ b ∨ q ∈ c ∨ w.heap.size ≤ q) → Grew (fun q => q ∈ b) (fun q => q ∈ b ∨ w.heap.size ≤ q) w w' → Below lo w w' → wpList Try.prog ops Q rest (a.put o.dst (.slice A' (ds.length + 1) c')) w') : wpList Try.prog ops Q (o :: rest) a w := by
 have hnd := h.nd
 have hrg := h.rng
 obtain ⟨xs, cs, ho', hor, hb⟩ := h.ow
 refine wpList_append_lies _ hgd s x t ho 0 e i z sz bytes ht hi hz hsize hby hzs hsz v ds.length xs hs ho' ad 1 c0 ys hx (by simp [hl]) hnews h1 (by omega) (by unfold maxLen; omega) ?_ (Nat.zero_le _) _ rfl ?_
 ·have : (ds.length + 1) * bytes ≤ 2000001 * 100000 := Nat.mul_le_mul (by omega) hbm
  omega
 intro g cap w' hown hg hat hlt
 rw [hb] at hnd
 obtain ⟨n1, n2, n3⟩ := List.nodup_append.1 hnd
 have own_mem : ∀ q, v.ownBlock = some q → q ∈ b := fun q hq => by rw [hb, hq]; simp
 have hcs : ∀ q ∈ cs, w'.heap[q]? = w.heap[q]? := fun q hq => hg.block q (OwR.lt sz _ _ _ hor q hq) (fun e => n3 q (by rw [← e]; simp) q hq rfl)
 have hcc : ∀ q ∈ c, w'.heap[q]? = w.heap[q]? := fun q hq => hg.block q (OwL.lt _ _ _ hr q hq) (fun e => hbc q (own_mem q e.symm) hq)
 have hor' := (OwR.keep sz _ _ _ hor hcs).append (OwR.one (OwL.keep _ _ _ hr hcc) hl)
 have g1 : g ∉ cs := fun hq => by
  rcases hat with e | e
  ·exact n3 g (by rw [e]; simp) g hq rfl
  ·have := OwR.lt sz _ _ _ hor g hq; omega
 have g2 : g ∉ c := fun hq => by
  rcases hat with e | e
  ·exact hbc g (own_mem g e) hq
  ·have := OwL.lt _ _ _ hr g hq; omega
 have g3 : lo ≤ g ∧ (g ∈ b ∨ w.heap.size ≤ g) := by
  rcases hat with e | e
  ·exact ⟨(hrg g (own_mem g e)).1, .inl (own_mem g e)⟩
  ·have := h.top; have := h.le; exact ⟨by omega, .inr (by omega)⟩
 have hsz' := hg.size
 have ht' := h.top
 refine K _ cap w' (g :: (cs ++ c)) ⟨⟨xs ++ ys, cs ++ c, by rw [List.length_append]; exact hown, hor', rfl⟩, ?_, ?_, Nat.le_refl _, by have := h.le; omega⟩ ?_ ⟨hg.size, fun q hq hn => hg.block q hq (fun e => hn (own_mem q e.symm)), fun q hq => hq⟩ ?_
 ·refine List.nodup_cons.2 ⟨fun hq => ?_, List.nodup_append.2 ⟨n2, hcn, fun q hq q' hq' e => ?_⟩⟩
  ·rcases List.mem_append.1 hq with hq | hq
   ·exact g1 hq
   ·exact g2 hq
  ·subst e
   exact hbc q (by rw [hb]; simp [hq]) hq'
 ·intro q hq
  rcases List.mem_cons.1 hq with rfl | hq
  ·exact ⟨g3.1, hlt⟩
  ·rcases List.mem_append.1 hq with hq | hq
   ·have := hrg q (by rw [hb]; simp [hq]); exact ⟨this.1, by omega⟩
   ·have := OwL.lt _ _ _ hr q hq; exact ⟨hcr q hq, by omega⟩
 ·intro q hq
  rcases List.mem_cons.1 hq with rfl | hq
  ·rcases g3.2 with h | h
   ·exact .inl h
   ·exact .inr (.inr h)
  ·rcases List.mem_append.1 hq with hq | hq
   ·exact .inl (by rw [hb]; simp [hq])
   ·exact .inr (.inl hq)
 ·exact (Below.refl lo w).grown hg (by have := h.le; omega) (fun k hk => (hrg k (own_mem k hk)).1)
def OnceP (B g : Nat) (w : World) (e : Ending) (w' : World) : Prop := ∃ q : Bool, e = .returned (.bool q) ∧ DC B g w' ∧ Fr (fun q => q = g) w w' ∧ Below B w w'
theorem specOnce_d (B g : Nat) (n : Int) (w : World) (h : DC B g w) (hn : n ≤ 2147483648) : Calls Try.prog 74 #[.pointer (some ⟨g, 0, none⟩), .int .i64 n] w (OnceP B g w) := by
 go_enter Try.func74, Try.ntmps74
 go_wp2_with fail
 refine (specBelow_d B g n _ h hn).mono ?_
 rintro e w1 ⟨x, rfl, _, dc, fr, bl⟩
 go_wp2
 go_ret
 exact ⟨_, rfl, dc, fr, bl⟩
theorem specPick_d (B g : Nat) (A : Option Addr) (c : Nat) (zs : List Int) (w : World) (h : DC B g w) (hr : Row (Value.int .i64) w w.heap.size A zs) (hz : 0 < zs.length) (hl : zs.length ≤ 1000) (P : Int → Prop) (hp : ∀ z ∈ zs, P z) (hg : ∀ ad, A = some ad → ¬ ad.block = g) :
  Calls Try.prog 115 #[.pointer (some ⟨g, 0, none⟩), .slice A zs.length c] w (DrawP P B g w) := by
 go_enter Try.func115, Try.ntmps115
 go_wp2_with fail
 refine (specBelow_d B g (zs.length : Int) _ h (by omega)).mono ?_
 rintro e w1 ⟨x, rfl, ⟨x1, x2, _⟩, dc, fr, bl⟩
 have x2 := x2 (by omega)
 obtain ⟨k, rfl⟩ := Int.eq_ofNat_of_zero_le x1
 obtain ⟨ad, z, rfl, hb, hzk, hc⟩ := hr.at_ (k := k) (by omega)
 have hc' : w1.cell? (ad.add k) = some (.int .i64 z) := by
  rw [World.cell?_of_block (w := w) (fr.block _ (by rw [block_of_add]; exact hb) (by rw [block_of_add]; exact hg ad rfl))]
  exact hc
 have HP := Lib.hid (hp z (List.mem_of_getElem? hzk))
 clear hzk
 have hlt : k < zs.length := by omega
 go_wp2
 go_ret
 exact ⟨z, rfl, HP.out, dc, fr, bl⟩
theorem pickList_ok : ∀ z ∈ ([0, 127, 128, 2047, 2048, 55295, 57344, 65535, 65536, 1114111, 10, 32] : List Int), signB z = true := by decide
theorem specSign_d (B g : Nat) (w : World) (h : DC B g w) : Calls Try.prog 93 #[.pointer (some ⟨g, 0, none⟩)] w (DrawP (fun x => signB x = true) B g w) := by
 go_enter Try.func93, Try.ntmps93
 go_wp2_with fail
 refine (specOnce_d B g 8 _ h (by omega)).mono ?_
 rintro e w1 ⟨q, rfl, dc, fr, bl⟩
 cases q
 ·go_wp2_with fail
  refine (specBelow_d B g 6 _ dc (by omega)).mono ?_
  rintro e w2 ⟨x, rfl, ⟨x1, x2, _⟩, dc2, fr2, bl2⟩
  have x2 := x2 (by omega)
  go_wp2
  go_ret
  exact ⟨_, rfl, by simp only [signB, decide_eq_true_eq]; omega, dc2, fr.trans fr2, bl.trans bl2⟩
 ·go_wp2_with fail
  have hB := dc.lt
  have hBg := dc.low
  have bA := alloc_below w1 (.cells #[.int .i64 0, .int .i64 127, .int .i64 128, .int .i64 2047, .int .i64 2048, .int .i64 55295, .int .i64 57344, .int .i64 65535, .int .i64 65536, .int .i64 1114111, .int .i64 10, .int .i64 32] 3)
  have hrow : Row (Value.int .i64) (w1.alloc (.cells #[.int .i64 0, .int .i64 127, .int .i64 128, .int .i64 2047, .int .i64 2048, .int .i64 55295, .int .i64 57344, .int .i64 65535, .int .i64 65536, .int .i64 1114111, .int .i64 10, .int .i64 32] 3)) (w1.alloc (.cells #[.int .i64 0, .int .i64 127, .int .i64 128, .int .i64 2047, .int .i64 2048, .int .i64 55295, .int .i64 57344, .int .i64 65535, .int .i64 65536, .int .i64 1114111, .int .i64 10, .int .i64 32] 3)).heap.size (some ⟨w1.heap.size, 0, none⟩) [0, 127, 128, 2047, 2048, 55295, 57344, 65535, 65536, 1114111, 10, 32] := fun _ => by
   refine ⟨_, rfl, lt_of_some (heap_alloc_new w1 _), fun k z hz => ?_⟩
   rw [add_plain0]
   have hk := idx_lt hz
   rw [cell_of_row _ _ k _ _ _ (heap_alloc_new w1 _)]
   have : (#[Value.int .i64 0, .int .i64 127, .int .i64 128, .int .i64 2047, .int .i64 2048, .int .i64 55295, .int .i64 57344, .int .i64 65535, .int .i64 65536, .int .i64 1114111, .int .i64 10, .int .i64 32] : Array Value) = (([0, 127, 128, 2047, 2048, 55295, 57344, 65535, 65536, 1114111, 10, 32] : List Int).map (Value.int .i64)).toArray := rfl
   rw [this]
   simp only [List.getElem?_toArray, List.getElem?_map, hz, Option.map_some]
  refine (specPick_d B g _ _ _ _ (dc.past bA) hrow (by decide) (by decide) (fun x => signB x = true) pickList_ok (fun ad e => by injection e with e; subst e; show ¬ w1.heap.size = g; omega)).mono ?_
  rintro e w2 ⟨x, rfl, hx, dc2, fr2, bl2⟩
  have fA : Fr (fun q => q = g) w1 _ := Fr.below bA
  have HX := Lib.hid hx
  go_wp2
  go_ret
  exact ⟨x, rfl, HX.out, dc2, (fr.trans fA).trans fr2, (bl.trans (bA.mono (by omega))).trans bl2⟩
def SignsP (most B g : Nat) (w : World) (e : Ending) (w' : World) : Prop := ∃ t v b, e = .returned v ∧ t.length ≤ most ∧ allB t = true ∧ OwB w.heap.size w'.heap.size w' (encInts t) v b ∧ DC B g w' ∧ Fr (fun q => q = g) w w' ∧ Below B w w'
theorem Fr.old {S : Nat → Prop} {w w1 w2 : World} {O O' : Nat → Prop} (h : Fr S w w1) (hg : Grew O O' w1 w2) (hO : ∀ q, O q → w.heap.size ≤ q) : Fr S w w2 :=
 ⟨Nat.le_trans h.size hg.size, fun q hq hs => (hg.block q (Nat.lt_of_lt_of_le hq h.size) (fun ho => by have := hO q ho; omega)).trans (h.block q hq hs)⟩
theorem OwB.fr {lo hi g : Nat} {w w' : World} {d : Dat} {v : Value} {b : List Nat} (h : OwB lo hi w d v b) (hf : Fr (fun q => q = g) w w') (hg : g < lo) : OwB lo hi w' d v b :=
 ⟨OwC.keep d v b h.ow (fun x hx => hf.block x (OwC.lt d v b h.ow x hx) (fun e => by have e' : x = g := e; have := (h.rng x hx).1; omega)), h.nd, h.rng, Nat.le_trans h.top hf.size, h.le⟩
theorem allB_add {t : List Int} {x : Int} (h : allB t = true) (hx : signB x = true) : allB (t ++ [x]) = true := by rw [allB_app, h]; simp [allB, hx]
theorem specSigns_d (B g most : Nat) (w : World) (h : DC B g w) (hm : most ≤ 1000) : Calls Try.prog 75 #[.pointer (some ⟨g, 0, none⟩), .int .i64 (most : Int)] w (SignsP most B g w) := by
 obtain ⟨i0, hi0, hz0, hz1, hz2⟩ := info_parts ints_info
 have hgl := h.lt
 have hBg := h.low
 go_enter Try.func75, Try.ntmps75
 go_wp2_with fail
 have bA := alloc_below w (.cells #[] 3)
 have hib : OwB w.heap.size (w.alloc (.cells #[] 3)).heap.size (w.alloc (.cells #[] 3)) (encInts []) (.slice (some ⟨w.heap.size, 0, none⟩) 0 0) [w.heap.size] :=
  ⟨⟨[], [], ⟨rfl, .inr ⟨w.heap.size, 0, #[], rfl, Nat.zero_le _, heap_alloc_new w _, Nat.le_refl _, by unfold maxLen; omega, rfl, rfl⟩⟩, ⟨rfl, rfl⟩, rfl⟩, by simp, fun x hx => by obtain rfl : x = w.heap.size := (by simpa using hx); exact ⟨Nat.le_refl _, lt_of_some (heap_alloc_new w _)⟩, Nat.le_refl _, bA.size⟩
 have hdc := h.past bA
 have fA : Fr (fun q => q = g) w _ := Fr.below bA
 generalize w.alloc (.cells #[] 3) = w1 at *
 generalize (Value.slice (some ⟨w.heap.size, 0, none⟩) 0 0) = v0 at *
 refine (specBelow_d B g ((most : Int) + 1) _ hdc (by omega)).mono ?_
 rintro e w2 ⟨x, rfl, ⟨x1, x2, _⟩, dc, fr, bl⟩
 have x2 := x2 (by omega)
 obtain ⟨m, rfl⟩ := Int.eq_ofNat_of_zero_le x1
 have hib2 := (hib.fr fr hgl).upto fr.size (Nat.le_refl _)
 have HR0 := Lib.hid hib2
 have F0 := fA.trans fr
 have D0 := (bA.mono (show B ≤ w.heap.size by omega)).trans bl
 clear hib hib2 hdc fA fr bl bA
 go_wp2
 go_loopw [5, 6] (fun o i wr => ∃ (k : Nat) (t : List Int) (b : List Nat), t.length + k ≤ most ∧ i = .int .i64 k ∧ allB t = true ∧ OwB w.heap.size wr.heap.size wr (encInts t) o b ∧ DC B g wr ∧ Fr (fun q => q = g) w wr ∧ Below B w wr) (fun _ i _ => (intOf i).toNat)
 case atStart => exact ⟨m, [], _, by simp; omega, rfl, rfl, HR0.out, dc, F0, D0⟩
 case round =>
  obtain ⟨k, t, b, hk, rfl, ha, ho, dc, fr, bl⟩ := hrel
  clear HR0 F0 D0
  have HO := Lib.hid ho
  have HA := Lib.hid ha
  obtain ⟨A1, c1, rfl⟩ := sliceI ho.read
  clear ho ha
  by_cases hk0 : 0 < k
  ·have hz := bl.size
   go_wp2_with fail
   refine (specSign_d B g _ dc).mono ?_
   rintro e w3 ⟨x, rfl, hx, dc3, fr3, bl3⟩
   have HX := Lib.hid hx
   have HO3 := Lib.hid ((HO.out.fr fr3 hgl).upto fr3.size (Nat.le_refl _))
   have bA := alloc_below w3 (.cells #[.int .i64 x] 3)
   have HO4 := Lib.hid (HO3.out.past bA)
   have hnews : ∀ (j : Nat) (u : Value), [Value.int .i64 x][j]? = some u → (w3.alloc (.cells #[.int .i64 x] 3)).cell? ((⟨w3.heap.size, 0, none⟩ : Addr).add j) = some u := fun j u hu => by
    cases j with
    | zero =>
     simp at hu
     subst hu
     exact cell_of_row _ _ 0 _ _ _ (heap_alloc_new w3 _)
    | succ j => simp at hu
   have HNW := Lib.hid hnews
   have hlx : (t.map fun z => [Dat.int z]).length ≤ 2000000 := by rw [List.length_map]; omega
   have dc4 := dc3.past bA
   have fr4 : Fr (fun q => q = g) w _ := (fr.trans fr3).trans (Fr.below bA)
   have bl4 := (bl.trans bl3).trans (bA.mono (by have := dc3.lt; omega))
   have hgn : g < w.heap.size := hgl
   clear hnews hx fr3 bl3 dc3 dc fr bl bA
   go_wp2_with (at_builtin; refine wpList_append_row rfl (.tmp 16) (.tmp 19) 91 rfl 3 i0 (.int .i64 0) 1 8 Try.underlying91 hi0 hz0 hz1 hz2 rfl (by decide) (by decide) w.heap.size _ (.slice A1 t.length c1) (t.map fun z => [Dat.int z]) b HO4.out rfl hlx ⟨w3.heap.size, 0, none⟩ _ [.int .i64 x] rfl rfl HNW.out (by simp [Value.oneCell']) [.int x] [] ⟨_, [], [], [], rfl, rfl, ⟨rfl, rfl⟩, rfl, rfl⟩ (by simp) (by simp) (by simp) ?_; intro A7 c7 w7 b7 o7 in7 g7 bl7)
   have HO7 : OwB w.heap.size w7.heap.size w7 (encInts (t ++ [x])) (.slice A7 (t.length + 1) c7) b7 := by
    have e : encInts (t ++ [x]) = .rows 3 1 ((t.map fun z => [Dat.int z]) ++ [[Dat.int x]]) := by unfold encInts; rw [List.map_append]; rfl
    rw [e]
    simpa using o7
   replace HO7 := Lib.hid HO7
   have fr7 := fr4.old g7 (fun q hq => (HO4.out.rng q hq).1)
   have dc7 := dc4.grew g7 (bl7.mono (show B ≤ w.heap.size by omega)) (fun hq => by have := (HO4.out.rng g hq).1; omega)
   have bl7' := bl4.trans (bl7.mono (show B ≤ w.heap.size by omega))
   clear o7 in7 g7 bl7 HO4 HO3 HNW dc4 fr4 bl4
   go_wp2
   go_roundw
   case rel => exact ⟨k - 1, t ++ [x], b7, by simp; omega, by rw [Int.natCast_sub (by omega)]; rfl, allB_add HA.out HX.out, by simpa using HO7.out, dc7, fr7, bl7'⟩
   case measure => simp [intOf]; omega
  ·obtain rfl : k = 0 := by omega
   go_wp2
   go_ret
   exact ⟨t, _, b, rfl, by omega, HA.out, HO.out, dc, fr, bl⟩
theorem wpList_append_part {w : World} {ops : Array Oper} {rest : List Oper} {o : Oper} {a : Act} {Q : Exit → Act → World → Prop} (hgd : o.guard = none) (s x : Operand)
  (ho : o.op = .call { callee := .builtin .append, args := #[s, x], argTypes := #[30, 30] })
  (lo hi' : Nat) (v : Value) (L : List Pt) (b : List Nat) (h : OwB lo hi' w (encPs L) v b) (hs : a.eval s = v) (hlen : L.length ≤ 2000000)
  (g0 c0 : Nat) (p : Pt) (u : Value) (c : List Nat) (hx : a.eval x = .slice (some ⟨g0, 0, none⟩) 1 c0) (hcell : w.heap[g0]? = some (.cells #[.int .i64 p.kind, .int .i64 p.n, u] 93 (0, 0)))
  (hu : OwC w (encInts p.signs) u c) (hcn : c.Nodup) (hbc : ∀ q ∈ b, q ∉ c) (hcr : ∀ q ∈ c, lo ≤ q)
  (K : ∀ A' c' w' b', OwB lo w'.heap.size w' (encPs (L ++ [p])) (.slice A' (L.length + 1) c') b' → (∀ q ∈ b', q ∈ b ∨ q ∈ c ∨ w.heap.size ≤ q) → Grew (fun q => q ∈ b) (fun q => q ∈ b ∨ w.heap.size ≤ q) w w' → Below lo w w' → wpList Try.prog ops Q rest (a.put o.dst (.slice A' (L.length + 1) c')) w') : wpList Try.prog ops Q (o :: rest) a w := by
 obtain ⟨i0, hi0, hz0, hz1, hz2⟩ := info_parts part_info
 have hone : ∀ y ∈ [Value.int .i64 p.kind, .int .i64 p.n, u], y.oneCell' = true := by
  intro y hy
  obtain ⟨A, cc, rfl, _⟩ : ∃ A cc, u = .slice A p.signs.length cc ∧ True := by
   obtain ⟨xs, cs, hox, _⟩ := hu
   obtain ⟨A, cc, e⟩ := own_form hox
   exact ⟨A, cc, by simpa using e, trivial⟩
  simp at hy
  rcases hy with rfl | rfl | rfl <;> rfl
 refine wpList_append_row hgd s x 30 ho 93 i0 _ 3 40 Try.underlying30 hi0 hz0 hz1 hz2 rfl (by decide) (by decide) lo hi' v (L.map encPt) b h hs (by rw [List.length_map]; exact hlen) ⟨g0, 0, none⟩ c0 [.int .i64 p.kind, .int .i64 p.n, u] hx rfl (fun j y hy => ?_) hone (encPt p) c ⟨_, _, [], c, rfl, by simp, ⟨rfl, rfl⟩, _, _, [], c, rfl, by simp, ⟨rfl, rfl⟩, _, [], c, [], rfl, by simp, hu, rfl, rfl⟩ hcn hbc hcr ?_
 ·rw [add_plain0, cell_of_row _ _ j _ _ _ hcell]
  rw [← hy]
  simp
 ·intro A' c' w' b' o1 h1 h2 h3
  rw [List.length_map] at o1 ⊢
  refine K A' c' w' b' ?_ h1 h2 h3
  have e : encPs (L ++ [p]) = .rows 93 3 (L.map encPt ++ [encPt p]) := by unfold encPs; rw [List.map_append]; rfl
  rw [e]
  exact o1
theorem nil_ow (w : World) : OwC w (encInts []) (.slice none 0 0) [] := ⟨[], [], World.ownsRow_nil _ _ _ _, ⟨rfl, rfl⟩, rfl⟩
theorem sumOf_nonneg {L : List Pt} (h : okPs L = true) : 0 ≤ sumOf keepOf L ∧ 0 ≤ sumOf dropOf L ∧ 0 ≤ sumOf putOf L := by
 have a1 := sumOf_take (f := keepOf) (ps := L) (fun q hq => (ok_bd (okPs_mem' h hq)).1.1) 0
 have a2 := sumOf_take (f := dropOf) (ps := L) (fun q hq => (ok_bd (okPs_mem' h hq)).2.2.1) 0
 have a3 := sumOf_take (f := putOf) (ps := L) (fun q hq => (ok_bd (okPs_mem' h hq)).2.1.1) 0
 simp [sumOf] at a1 a2 a3
 exact ⟨a1, a2, a3⟩
noncomputable def drBody : Code := (((Try.f51.body.map loopsOf).getD []).headD .skip)
def slen : Value → Nat
 | .slice _ n _ => n
 | _ => 0
structure DS (B g : Nat) (w0 : World) (n : Nat) (o : Value) (left room : Nat) (L : List Pt) (b : List Nat) (w : World) : Prop where
 ow : OwB w0.heap.size w.heap.size w (encPs L) o b
 ok : okPs L = true
 sum : sumOf keepOf L + sumOf dropOf L + (left : Int) = (n : Int)
 puts : sumOf putOf L + (room : Int) = 12
 dc : DC B g w
 fr : Fr (fun q => q = g) w0 w
 bl : Below B w0 w
 lt : g < w0.heap.size
theorem sumOf_add (f : Pt → Int) (L : List Pt) (p : Pt) : sumOf f (L ++ [p]) = sumOf f L + f p := by simp [sumOf]
section
variable {B g n : Nat} {w0 w w' : World} {o : Value} {left room : Nat} {L : List Pt} {b : List Nat}
theorem DS.draw (h : DS B g w0 n o left room L b w) (dc : DC B g w') (fr : Fr (fun q => q = g) w w') (bl : Below B w w') : DS B g w0 n o left room L b w' :=
 ⟨(h.ow.fr fr h.lt).upto fr.size (Nat.le_refl _), h.ok, h.sum, h.puts, dc, h.fr.trans fr, h.bl.trans bl, h.lt⟩
theorem DS.past (h : DS B g w0 n o left room L b w) (hb : Below w.heap.size w w') : DS B g w0 n o left room L b w' :=
 h.draw (h.dc.past hb) (Fr.below hb) (hb.mono (by have := h.dc.lt; have := h.dc.low; omega))
theorem DS.app {p : Pt} {o' : Value} {b' : List Nat} {O' : Nat → Prop} {left' room' : Nat} (h : DS B g w0 n o left room L b w) (ow : OwB w0.heap.size w'.heap.size w' (encPs (L ++ [p])) o' b') (hg : Grew (fun q => q ∈ b) O' w w') (bl : Below w0.heap.size w w') (hp : okPt p = true) (h1 : keepOf p + dropOf p + (left' : Int) = (left : Int)) (h2 : putOf p + (room' : Int) = (room : Int)) : DS B g w0 n o' left' room' (L ++ [p]) b' w' := by
 have hlt := h.lt
 have hB := h.dc.low
 have q1 := h.sum
 have q2 := h.puts
 have bB := bl.mono (show B ≤ w0.heap.size by omega)
 exact ⟨ow, by have := h.ok; unfold okPs at *; rw [List.all_append, this]; simp [hp], by rw [sumOf_add, sumOf_add]; omega, by rw [sumOf_add]; omega, h.dc.grew hg bB (fun hq => by have := (h.ow.rng g hq).1; omega), h.fr.old hg (fun q hq => (h.ow.rng q hq).1), h.bl.trans bB, h.lt⟩
end
theorem okPt_keep {n : Int} (h0 : 0 ≤ n) (h : n ≤ 200) : okPt ⟨1, n, []⟩ = true := by simp [okPt]; omega
theorem okPt_drop {n : Int} (h0 : 0 ≤ n) (h : n ≤ 200) : okPt ⟨3, n, []⟩ = true := by simp [okPt]; omega
theorem okPt_put {t : List Int} (h : t.length ≤ 200) (ha : allB t = true) : okPt ⟨2, 0, t⟩ = true := by simp [okPt, ha]; omega
def DrR (B g : Nat) (w0 : World) (n : Nat) (o l r : Value) (w : World) : Prop := ∃ left room L b, DS B g w0 n o left room L b w ∧ L.length ≤ 40 ∧ l = .int .i64 (left : Int) ∧ r = .int .i64 (room : Int)
def DrX (B g : Nat) (w0 : World) (n : Nat) (o : Value) (w : World) : Prop := ∃ room L b, DS B g w0 n o 0 room L b w ∧ L.length ≤ 42
def DrI (B g : Nat) (w0 : World) (n : Nat) (c1 c2 c3 c4 c11 c12 c74 : Value) (a : Act) (w : World) : Prop := ∃ u5 u6 u7 u8 u9 u10 u13 u14 u15 u16 u17 u18 u19 u20 u21 u22 u23 u24 u25 u26 u27 u28 u29 u30 u31 u32 u33 u34 u35 u36 u37 u38 u39 u40 u41 u42 u43 u44 u45 u46 u47 u48 u49 u50 u51 u52 u53 u54 u55 u56 u57 u58 u59 u60 u61 u62 u63 u64 u65 u66 u67 u68 u69 u70 u71 u72 u73 : Value, DrR B g w0 n u5 u6 u7 w ∧ a = ⟨#[.pointer (some ⟨g, 0, none⟩), c1, c2, c3, c4, u5, u6, u7, u8, u9, u10, c11, c12, u13, u14, u15, u16, u17, u18, u19, u20, u21, u22, u23, u24, u25, u26, u27, u28, u29, u30, u31, u32, u33, u34, u35, u36, u37, u38, u39, u40, u41, u42, u43, u44, u45, u46, u47, u48, u49, u50, u51, u52, u53, u54, u55, u56, u57, u58, u59, u60, u61, u62, u63, u64, u65, u66, u67, u68, u69, u70, u71, u72, u73, c74], []⟩
def DrE (B g : Nat) (w0 : World) (n : Nat) (c1 c2 c3 c4 c11 c12 c74 : Value) (a : Act) (w : World) : Prop := ∃ u5 u6 u7 u8 u9 u10 u13 u14 u15 u16 u17 u18 u19 u20 u21 u22 u23 u24 u25 u26 u27 u28 u29 u30 u31 u32 u33 u34 u35 u36 u37 u38 u39 u40 u41 u42 u43 u44 u45 u46 u47 u48 u49 u50 u51 u52 u53 u54 u55 u56 u57 u58 u59 u60 u61 u62 u63 u64 u65 u66 u67 u68 u69 u70 u71 u72 u73 : Value, DrX B g w0 n u5 w ∧ a = ⟨#[.pointer (some ⟨g, 0, none⟩), c1, c2, c3, c4, u5, u6, u7, u8, u9, u10, c11, c12, u13, u14, u15, u16, u17, u18, u19, u20, u21, u22, u23, u24, u25, u26, u27, u28, u29, u30, u31, u32, u33, u34, u35, u36, u37, u38, u39, u40, u41, u42, u43, u44, u45, u46, u47, u48, u49, u50, u51, u52, u53, u54, u55, u56, u57, u58, u59, u60, u61, u62, u63, u64, u65, u66, u67, u68, u69, u70, u71, u72, u73, c74], []⟩
theorem drP (B g : Nat) (w0 wr : World) (n : Nat) (hn : n ≤ 150) (A : Option Addr) (c left room : Nat) (L : List Pt) (b : List Nat) (c1 c2 c3 c4 c11 c12 c74 u8 u9 u10 u13 u14 u15 u16 u17 u18 u19 u20 u21 u22 u23 u24 u25 u26 u27 u28 u29 u30 u31 u32 u33 u34 u35 u36 u37 u38 u39 u40 u41 u42 u43 u44 u45 u46 u47 u48 u49 u50 u51 u52 u53 u54 u55 u56 u57 u58 u59 u60 u61 u62 u63 u64 u65 u66 u67 u68 u69 u70 u71 u72 u73 : Value) (Q0 : Exit → Act → World → Prop) (hs : DS B g w0 n (.slice A L.length c) left room L b wr) (hL : L.length ≤ 40) (hl0 : 0 < left) (hexit : ∀ a w, DrE B g w0 n c1 c2 c3 c4 c11 c12 c74 a w → Q0 (.exit 0) a w) :
  Code.wp Try.prog drBody (Exit.then (fun a' w'' => DrI B g w0 n c1 c2 c3 c4 c11 c12 c74 a' w'' ∧ 41 - slen (a'.tmps.getD 5 undef) < 41 - L.length) Q0) ⟨#[.pointer (some ⟨g, 0, none⟩), c1, c2, c3, c4, .slice A L.length c, .int .i64 (left : Int), .int .i64 (room : Int), u8, u9, u10, c11, c12, u13, u14, u15, u16, u17, u18, u19, u20, u21, u22, u23, u24, u25, u26, u27, u28, u29, u30, u31, u32, u33, u34, u35, u36, u37, u38, u39, u40, u41, u42, u43, u44, u45, u46, u47, u48, u49, u50, u51, u52, u53, u54, u55, u56, u57, u58, u59, u60, u61, u62, u63, u64, u65, u66, u67, u68, u69, u70, u71, u72, u73, c74], []⟩ wr := by
 have hb1 : (left : Int) ≤ n := by have := hs.sum; have q1 := sumOf_nonneg hs.ok; omega
 have hb2 : (room : Int) ≤ 12 := by have := hs.puts; have q1 := sumOf_nonneg hs.ok; omega
 have HS := Lib.hid hs
 clear hs
 conv => arg 2; whnf
 go_wp2_with fail
 refine (specBelow_d B g 4 _ HS.out.dc (by omega)).mono ?_
 rintro e w1 ⟨x1, rfl, ⟨xa1, xb1, _⟩, dc1, fr1, bl1⟩
 replace HS := Lib.hid (HS.out.draw dc1 fr1 bl1)
 clear dc1 fr1 bl1
 have xb1 := xb1 (by omega)
 by_cases hx0 : x1 = 0
 ·subst hx0
  go_wp2_with fail
  refine (specSigns_d B g 3 _ HS.out.dc (by omega)).mono ?_
  rintro e w2 ⟨t2, v2, s2, rfl, tl2, ta2, to2, dc2, fr2, bl2⟩
  have HOLD := HS.out.ow
  have HSZ := HS.out.fr.size
  replace HS := Lib.hid (HS.out.draw dc2 fr2 bl2)
  have HT2 := Lib.hid to2
  have HTA2 := Lib.hid ta2
  obtain ⟨At2, ct2, rfl⟩ := sliceI to2.read
  have HSR2 := Lib.hid (show ∀ q ∈ b, q ∉ s2 from fun q hq hq' => by have q1 := (HOLD.rng q hq).2; have q2 := (to2.rng q hq').1; omega)
  clear HOLD to2 ta2
  clear dc2 fr2 bl2
  by_cases hr : t2.length ≤ room
  ·have hr2 : ¬ room < t2.length := by omega
   by_cases hm : L.length + 1 ≤ 40
   ·have hm2 : ¬ 40 < L.length + 1 := by omega
    have bA3 := alloc_below w2 (.cells #[.int .i64 2, .int .i64 0, .slice At2 t2.length ct2] 93)
    have HN3 := Lib.hid (heap_alloc_new w2 (.cells #[.int .i64 2, .int .i64 0, .slice At2 t2.length ct2] 93))
    replace HS := Lib.hid (HS.out.past bA3)
    have HU3 := Lib.hid ((HT2.out.past bA3).ow)
    have hll3 : (L).length ≤ 2000000 := (by omega)
    go_wp2_with (at_builtin; refine wpList_append_part rfl (.tmp 45) (.tmp 48) rfl w0.heap.size _ (.slice A L.length c) (L) b HS.out.ow rfl hll3 w2.heap.size _ ⟨2, 0, t2⟩ (.slice At2 t2.length ct2) s2 rfl HN3.out HU3.out HT2.out.nd HSR2.out (fun q hq => by have q1 := (HT2.out.rng q hq).1; omega) ?_; intro Ap3 cp3 w3 b3 o3 in3 g3 bl3)
    replace HS := Lib.hid (HS.out.app (left' := left) (room' := (room - t2.length)) o3 g3 bl3 (okPt_put (by omega) HTA2.out) (by simp [keepOf, dropOf]) (by simp [putOf]; omega))
    clear o3 in3 g3 bl3 bA3 HN3 HU3 hll3
    refine ⟨?_, by simp [slen]; omega⟩
    unfold DrI
    iterate 67 apply Exists.intro
    refine ⟨⟨_, _, _, _, HS.out, ?_, ?_, ?_⟩, rfl⟩
    ·simp; omega
    ·first | rfl | (congr 1; omega)
    ·first | rfl | (congr 1; omega)
   ·have hm2 : 40 < L.length + 1 := by omega
    have bA4 := alloc_below w2 (.cells #[.int .i64 2, .int .i64 0, .slice At2 t2.length ct2] 93)
    have HN4 := Lib.hid (heap_alloc_new w2 (.cells #[.int .i64 2, .int .i64 0, .slice At2 t2.length ct2] 93))
    replace HS := Lib.hid (HS.out.past bA4)
    have HU4 := Lib.hid ((HT2.out.past bA4).ow)
    have hll4 : (L).length ≤ 2000000 := (by omega)
    go_wp2_with (first | (at_builtin; refine wpList_append_part rfl (.tmp 45) (.tmp 48) rfl w0.heap.size _ (.slice A L.length c) (L) b HS.out.ow rfl hll4 w2.heap.size _ ⟨2, 0, t2⟩ (.slice At2 t2.length ct2) s2 rfl HN4.out HU4.out HT2.out.nd HSR2.out (fun q hq => by have q1 := (HT2.out.rng q hq).1; omega) ?_; intro Ap4 cp4 w4 b4 o4 in4 g4 bl4; replace HS := Lib.hid (HS.out.app (left' := left) (room' := (room - t2.length)) o4 g4 bl4 (okPt_put (by omega) HTA2.out) (by simp [keepOf, dropOf]) (by simp [putOf]; omega)); clear o4 in4 g4 bl4 bA4 HN4 HU4 hll4; have bA5 := alloc_below w4 (.cells #[.int .i64 1, .int .i64 (left : Int), .slice none 0 0] 93); have HN5 := Lib.hid (heap_alloc_new w4 (.cells #[.int .i64 1, .int .i64 (left : Int), .slice none 0 0] 93)); replace HS := Lib.hid (HS.out.past bA5); have HU5 := Lib.hid (nil_ow (w4.alloc (.cells #[.int .i64 1, .int .i64 (left : Int), .slice none 0 0] 93))); have hll5 : (L ++ [(⟨2, 0, t2⟩ : Pt)]).length ≤ 2000000 := (by rw [List.length_append]; show L.length + 1 ≤ 2000000; omega)) | (at_builtin; refine wpList_append_part rfl (.tmp 69) (.tmp 72) rfl w0.heap.size _ (.slice Ap4 (L.length + 1) cp4) (L ++ [(⟨2, 0, t2⟩ : Pt)]) b4 HS.out.ow rfl hll5 w4.heap.size _ ⟨1, (left : Int), []⟩ (.slice none 0 0) [] rfl HN5.out HU5.out (by simp) (by simp) (by simp) ?_; intro Ap5 cp5 w5 b5 o5 in5 g5 bl5))
    replace HS := Lib.hid (HS.out.app (left' := 0) (room' := (room - t2.length)) o5 g5 bl5 (okPt_keep (by omega) (by omega)) (by first | (simp [keepOf, dropOf]; done) | (simp [keepOf, dropOf]; omega)) (by simp [putOf]))
    clear o5 in5 g5 bl5 bA5 HN5 HU5 hll5
    have HSx := HS.out
    rw [List.length_append] at HSx
    have HR : DrX B g w0 n _ _ := ⟨_, _, _, HSx, by simp; omega⟩
    unfold DrE
    iterate 67 apply Exists.intro
    exact ⟨HR, rfl⟩
  ·have hr2 : room < t2.length := by omega
   by_cases hm : L.length + 1 ≤ 40
   ·have hm2 : ¬ 40 < L.length + 1 := by omega
    have bA6 := alloc_below w2 (.cells #[.int .i64 2, .int .i64 0, .slice none 0 0] 93)
    have HN6 := Lib.hid (heap_alloc_new w2 (.cells #[.int .i64 2, .int .i64 0, .slice none 0 0] 93))
    replace HS := Lib.hid (HS.out.past bA6)
    have HU6 := Lib.hid (nil_ow (w2.alloc (.cells #[.int .i64 2, .int .i64 0, .slice none 0 0] 93)))
    have hll6 : (L).length ≤ 2000000 := (by omega)
    go_wp2_with (at_builtin; refine wpList_append_part rfl (.tmp 45) (.tmp 48) rfl w0.heap.size _ (.slice A L.length c) (L) b HS.out.ow rfl hll6 w2.heap.size _ ⟨2, 0, []⟩ (.slice none 0 0) [] rfl HN6.out HU6.out (by simp) (by simp) (by simp) ?_; intro Ap6 cp6 w6 b6 o6 in6 g6 bl6)
    replace HS := Lib.hid (HS.out.app (left' := left) (room' := room) o6 g6 bl6 (okPt_put (by simp) rfl) (by simp [keepOf, dropOf]) (by simp [putOf]))
    clear o6 in6 g6 bl6 bA6 HN6 HU6 hll6
    refine ⟨?_, by simp [slen]; omega⟩
    unfold DrI
    iterate 67 apply Exists.intro
    refine ⟨⟨_, _, _, _, HS.out, ?_, ?_, ?_⟩, rfl⟩
    ·simp; omega
    ·first | rfl | (congr 1; omega)
    ·first | rfl | (congr 1; omega)
   ·have hm2 : 40 < L.length + 1 := by omega
    have bA7 := alloc_below w2 (.cells #[.int .i64 2, .int .i64 0, .slice none 0 0] 93)
    have HN7 := Lib.hid (heap_alloc_new w2 (.cells #[.int .i64 2, .int .i64 0, .slice none 0 0] 93))
    replace HS := Lib.hid (HS.out.past bA7)
    have HU7 := Lib.hid (nil_ow (w2.alloc (.cells #[.int .i64 2, .int .i64 0, .slice none 0 0] 93)))
    have hll7 : (L).length ≤ 2000000 := (by omega)
    go_wp2_with (first | (at_builtin; refine wpList_append_part rfl (.tmp 45) (.tmp 48) rfl w0.heap.size _ (.slice A L.length c) (L) b HS.out.ow rfl hll7 w2.heap.size _ ⟨2, 0, []⟩ (.slice none 0 0) [] rfl HN7.out HU7.out (by simp) (by simp) (by simp) ?_; intro Ap7 cp7 w7 b7 o7 in7 g7 bl7; replace HS := Lib.hid (HS.out.app (left' := left) (room' := room) o7 g7 bl7 (okPt_put (by simp) rfl) (by simp [keepOf, dropOf]) (by simp [putOf])); clear o7 in7 g7 bl7 bA7 HN7 HU7 hll7; have bA8 := alloc_below w7 (.cells #[.int .i64 1, .int .i64 (left : Int), .slice none 0 0] 93); have HN8 := Lib.hid (heap_alloc_new w7 (.cells #[.int .i64 1, .int .i64 (left : Int), .slice none 0 0] 93)); replace HS := Lib.hid (HS.out.past bA8); have HU8 := Lib.hid (nil_ow (w7.alloc (.cells #[.int .i64 1, .int .i64 (left : Int), .slice none 0 0] 93))); have hll8 : (L ++ [(⟨2, 0, []⟩ : Pt)]).length ≤ 2000000 := (by rw [List.length_append]; show L.length + 1 ≤ 2000000; omega)) | (at_builtin; refine wpList_append_part rfl (.tmp 69) (.tmp 72) rfl w0.heap.size _ (.slice Ap7 (L.length + 1) cp7) (L ++ [(⟨2, 0, []⟩ : Pt)]) b7 HS.out.ow rfl hll8 w7.heap.size _ ⟨1, (left : Int), []⟩ (.slice none 0 0) [] rfl HN8.out HU8.out (by simp) (by simp) (by simp) ?_; intro Ap8 cp8 w8 b8 o8 in8 g8 bl8))
    replace HS := Lib.hid (HS.out.app (left' := 0) (room' := room) o8 g8 bl8 (okPt_keep (by omega) (by omega)) (by first | (simp [keepOf, dropOf]; done) | (simp [keepOf, dropOf]; omega)) (by simp [putOf]))
    clear o8 in8 g8 bl8 bA8 HN8 HU8 hll8
    have HSx := HS.out
    rw [List.length_append] at HSx
    have HR : DrX B g w0 n _ _ := ⟨_, _, _, HSx, by simp; omega⟩
    unfold DrE
    iterate 67 apply Exists.intro
    exact ⟨HR, rfl⟩
 ·have hx0b : (x1 == 0) = false := by simp [hx0]
  by_cases hx1 : x1 = 1
  ·subst hx1
   clear hx0 hx0b
   go_wp2_with fail
   refine (specBelow_d B g ((left : Int) + 1) _ HS.out.dc (by omega)).mono ?_
   rintro e w9 ⟨m9, rfl, ⟨ma9, mb9, _⟩, dc9, fr9, bl9⟩
   replace HS := Lib.hid (HS.out.draw dc9 fr9 bl9)
   clear dc9 fr9 bl9
   have mb9 := mb9 (by omega)
   obtain ⟨d, rfl⟩ := Int.eq_ofNat_of_zero_le ma9
   by_cases h4 : d ≤ 4
   ·have h4b : ¬ 4 < d := by omega
    by_cases hm : L.length + 1 ≤ 40
    ·have hm2 : ¬ 40 < L.length + 1 := by omega
     have bA10 := alloc_below w9 (.cells #[.int .i64 3, .int .i64 (d : Int), .slice none 0 0] 93)
     have HN10 := Lib.hid (heap_alloc_new w9 (.cells #[.int .i64 3, .int .i64 (d : Int), .slice none 0 0] 93))
     replace HS := Lib.hid (HS.out.past bA10)
     have HU10 := Lib.hid (nil_ow (w9.alloc (.cells #[.int .i64 3, .int .i64 (d : Int), .slice none 0 0] 93)))
     have hll10 : (L).length ≤ 2000000 := (by omega)
     go_wp2_with (at_builtin; refine wpList_append_part rfl (.tmp 61) (.tmp 64) rfl w0.heap.size _ (.slice A L.length c) (L) b HS.out.ow rfl hll10 w9.heap.size _ ⟨3, (d : Int), []⟩ (.slice none 0 0) [] rfl HN10.out HU10.out (by simp) (by simp) (by simp) ?_; intro Ap10 cp10 w10 b10 o10 in10 g10 bl10)
     replace HS := Lib.hid (HS.out.app (left' := (left - d)) (room' := room) o10 g10 bl10 (okPt_drop (by omega) (by omega)) (by simp [keepOf, dropOf]; omega) (by simp [putOf]))
     clear o10 in10 g10 bl10 bA10 HN10 HU10 hll10
     refine ⟨?_, by simp [slen]; omega⟩
     unfold DrI
     iterate 67 apply Exists.intro
     refine ⟨⟨_, _, _, _, HS.out, ?_, ?_, ?_⟩, rfl⟩
     ·simp; omega
     ·first | rfl | (congr 1; omega)
     ·first | rfl | (congr 1; omega)
    ·have hm2 : 40 < L.length + 1 := by omega
     have bA11 := alloc_below w9 (.cells #[.int .i64 3, .int .i64 (d : Int), .slice none 0 0] 93)
     have HN11 := Lib.hid (heap_alloc_new w9 (.cells #[.int .i64 3, .int .i64 (d : Int), .slice none 0 0] 93))
     replace HS := Lib.hid (HS.out.past bA11)
     have HU11 := Lib.hid (nil_ow (w9.alloc (.cells #[.int .i64 3, .int .i64 (d : Int), .slice none 0 0] 93)))
     have hll11 : (L).length ≤ 2000000 := (by omega)
     go_wp2_with (first | (at_builtin; refine wpList_append_part rfl (.tmp 61) (.tmp 64) rfl w0.heap.size _ (.slice A L.length c) (L) b HS.out.ow rfl hll11 w9.heap.size _ ⟨3, (d : Int), []⟩ (.slice none 0 0) [] rfl HN11.out HU11.out (by simp) (by simp) (by simp) ?_; intro Ap11 cp11 w11 b11 o11 in11 g11 bl11; replace HS := Lib.hid (HS.out.app (left' := (left - d)) (room' := room) o11 g11 bl11 (okPt_drop (by omega) (by omega)) (by simp [keepOf, dropOf]; omega) (by simp [putOf])); clear o11 in11 g11 bl11 bA11 HN11 HU11 hll11; have bA12 := alloc_below w11 (.cells #[.int .i64 1, .int .i64 ((left : Int) - (d : Int)), .slice none 0 0] 93); have HN12 := Lib.hid (heap_alloc_new w11 (.cells #[.int .i64 1, .int .i64 ((left : Int) - (d : Int)), .slice none 0 0] 93)); replace HS := Lib.hid (HS.out.past bA12); have HU12 := Lib.hid (nil_ow (w11.alloc (.cells #[.int .i64 1, .int .i64 ((left : Int) - (d : Int)), .slice none 0 0] 93))); have hll12 : (L ++ [(⟨3, (d : Int), []⟩ : Pt)]).length ≤ 2000000 := (by rw [List.length_append]; show L.length + 1 ≤ 2000000; omega)) | (at_builtin; refine wpList_append_part rfl (.tmp 69) (.tmp 72) rfl w0.heap.size _ (.slice Ap11 (L.length + 1) cp11) (L ++ [(⟨3, (d : Int), []⟩ : Pt)]) b11 HS.out.ow rfl hll12 w11.heap.size _ ⟨1, ((left : Int) - (d : Int)), []⟩ (.slice none 0 0) [] rfl HN12.out HU12.out (by simp) (by simp) (by simp) ?_; intro Ap12 cp12 w12 b12 o12 in12 g12 bl12))
     replace HS := Lib.hid (HS.out.app (left' := 0) (room' := room) o12 g12 bl12 (okPt_keep (by omega) (by omega)) (by first | (simp [keepOf, dropOf]; done) | (simp [keepOf, dropOf]; omega)) (by simp [putOf]))
     clear o12 in12 g12 bl12 bA12 HN12 HU12 hll12
     have HSx := HS.out
     rw [List.length_append] at HSx
     have HR : DrX B g w0 n _ _ := ⟨_, _, _, HSx, by simp; omega⟩
     unfold DrE
     iterate 67 apply Exists.intro
     exact ⟨HR, rfl⟩
   ·have h4b : 4 < d := by omega
    by_cases hm : L.length + 1 ≤ 40
    ·have hm2 : ¬ 40 < L.length + 1 := by omega
     have bA13 := alloc_below w9 (.cells #[.int .i64 3, .int .i64 4, .slice none 0 0] 93)
     have HN13 := Lib.hid (heap_alloc_new w9 (.cells #[.int .i64 3, .int .i64 4, .slice none 0 0] 93))
     replace HS := Lib.hid (HS.out.past bA13)
     have HU13 := Lib.hid (nil_ow (w9.alloc (.cells #[.int .i64 3, .int .i64 4, .slice none 0 0] 93)))
     have hll13 : (L).length ≤ 2000000 := (by omega)
     go_wp2_with (at_builtin; refine wpList_append_part rfl (.tmp 61) (.tmp 64) rfl w0.heap.size _ (.slice A L.length c) (L) b HS.out.ow rfl hll13 w9.heap.size _ ⟨3, 4, []⟩ (.slice none 0 0) [] rfl HN13.out HU13.out (by simp) (by simp) (by simp) ?_; intro Ap13 cp13 w13 b13 o13 in13 g13 bl13)
     replace HS := Lib.hid (HS.out.app (left' := (left - 4)) (room' := room) o13 g13 bl13 (okPt_drop (by omega) (by omega)) (by simp [keepOf, dropOf]; omega) (by simp [putOf]))
     clear o13 in13 g13 bl13 bA13 HN13 HU13 hll13
     refine ⟨?_, by simp [slen]; omega⟩
     unfold DrI
     iterate 67 apply Exists.intro
     refine ⟨⟨_, _, _, _, HS.out, ?_, ?_, ?_⟩, rfl⟩
     ·simp; omega
     ·first | rfl | (congr 1; omega)
     ·first | rfl | (congr 1; omega)
    ·have hm2 : 40 < L.length + 1 := by omega
     have bA14 := alloc_below w9 (.cells #[.int .i64 3, .int .i64 4, .slice none 0 0] 93)
     have HN14 := Lib.hid (heap_alloc_new w9 (.cells #[.int .i64 3, .int .i64 4, .slice none 0 0] 93))
     replace HS := Lib.hid (HS.out.past bA14)
     have HU14 := Lib.hid (nil_ow (w9.alloc (.cells #[.int .i64 3, .int .i64 4, .slice none 0 0] 93)))
     have hll14 : (L).length ≤ 2000000 := (by omega)
     go_wp2_with (first | (at_builtin; refine wpList_append_part rfl (.tmp 61) (.tmp 64) rfl w0.heap.size _ (.slice A L.length c) (L) b HS.out.ow rfl hll14 w9.heap.size _ ⟨3, 4, []⟩ (.slice none 0 0) [] rfl HN14.out HU14.out (by simp) (by simp) (by simp) ?_; intro Ap14 cp14 w14 b14 o14 in14 g14 bl14; replace HS := Lib.hid (HS.out.app (left' := (left - 4)) (room' := room) o14 g14 bl14 (okPt_drop (by omega) (by omega)) (by simp [keepOf, dropOf]; omega) (by simp [putOf])); clear o14 in14 g14 bl14 bA14 HN14 HU14 hll14; have bA15 := alloc_below w14 (.cells #[.int .i64 1, .int .i64 ((left : Int) - 4), .slice none 0 0] 93); have HN15 := Lib.hid (heap_alloc_new w14 (.cells #[.int .i64 1, .int .i64 ((left : Int) - 4), .slice none 0 0] 93)); replace HS := Lib.hid (HS.out.past bA15); have HU15 := Lib.hid (nil_ow (w14.alloc (.cells #[.int .i64 1, .int .i64 ((left : Int) - 4), .slice none 0 0] 93))); have hll15 : (L ++ [(⟨3, 4, []⟩ : Pt)]).length ≤ 2000000 := (by rw [List.length_append]; show L.length + 1 ≤ 2000000; omega)) | (at_builtin; refine wpList_append_part rfl (.tmp 69) (.tmp 72) rfl w0.heap.size _ (.slice Ap14 (L.length + 1) cp14) (L ++ [(⟨3, 4, []⟩ : Pt)]) b14 HS.out.ow rfl hll15 w14.heap.size _ ⟨1, ((left : Int) - 4), []⟩ (.slice none 0 0) [] rfl HN15.out HU15.out (by simp) (by simp) (by simp) ?_; intro Ap15 cp15 w15 b15 o15 in15 g15 bl15))
     replace HS := Lib.hid (HS.out.app (left' := 0) (room' := room) o15 g15 bl15 (okPt_keep (by omega) (by omega)) (by first | (simp [keepOf, dropOf]; done) | (simp [keepOf, dropOf]; omega)) (by simp [putOf]))
     clear o15 in15 g15 bl15 bA15 HN15 HU15 hll15
     have HSx := HS.out
     rw [List.length_append] at HSx
     have HR : DrX B g w0 n _ _ := ⟨_, _, _, HSx, by simp; omega⟩
     unfold DrE
     iterate 67 apply Exists.intro
     exact ⟨HR, rfl⟩
  ·have hx1b : (x1 == 1) = false := by simp [hx1]
   clear hx0 hx1
   go_wp2_with fail
   refine (specBelow_d B g ((left : Int) + 1) _ HS.out.dc (by omega)).mono ?_
   rintro e w16 ⟨m16, rfl, ⟨ma16, mb16, _⟩, dc16, fr16, bl16⟩
   replace HS := Lib.hid (HS.out.draw dc16 fr16 bl16)
   clear dc16 fr16 bl16
   have mb16 := mb16 (by omega)
   obtain ⟨d, rfl⟩ := Int.eq_ofNat_of_zero_le ma16
   by_cases hm : L.length + 1 ≤ 40
   ·have hm2 : ¬ 40 < L.length + 1 := by omega
    have bA17 := alloc_below w16 (.cells #[.int .i64 1, .int .i64 (d : Int), .slice none 0 0] 93)
    have HN17 := Lib.hid (heap_alloc_new w16 (.cells #[.int .i64 1, .int .i64 (d : Int), .slice none 0 0] 93))
    replace HS := Lib.hid (HS.out.past bA17)
    have HU17 := Lib.hid (nil_ow (w16.alloc (.cells #[.int .i64 1, .int .i64 (d : Int), .slice none 0 0] 93)))
    have hll17 : (L).length ≤ 2000000 := (by omega)
    go_wp2_with (at_builtin; refine wpList_append_part rfl (.tmp 28) (.tmp 31) rfl w0.heap.size _ (.slice A L.length c) (L) b HS.out.ow rfl hll17 w16.heap.size _ ⟨1, (d : Int), []⟩ (.slice none 0 0) [] rfl HN17.out HU17.out (by simp) (by simp) (by simp) ?_; intro Ap17 cp17 w17 b17 o17 in17 g17 bl17)
    replace HS := Lib.hid (HS.out.app (left' := (left - d)) (room' := room) o17 g17 bl17 (okPt_keep (by omega) (by omega)) (by simp [keepOf, dropOf]; omega) (by simp [putOf]))
    clear o17 in17 g17 bl17 bA17 HN17 HU17 hll17
    refine ⟨?_, by simp [slen]; omega⟩
    unfold DrI
    iterate 67 apply Exists.intro
    refine ⟨⟨_, _, _, _, HS.out, ?_, ?_, ?_⟩, rfl⟩
    ·simp; omega
    ·first | rfl | (congr 1; omega)
    ·first | rfl | (congr 1; omega)
   ·have hm2 : 40 < L.length + 1 := by omega
    have bA18 := alloc_below w16 (.cells #[.int .i64 1, .int .i64 (d : Int), .slice none 0 0] 93)
    have HN18 := Lib.hid (heap_alloc_new w16 (.cells #[.int .i64 1, .int .i64 (d : Int), .slice none 0 0] 93))
    replace HS := Lib.hid (HS.out.past bA18)
    have HU18 := Lib.hid (nil_ow (w16.alloc (.cells #[.int .i64 1, .int .i64 (d : Int), .slice none 0 0] 93)))
    have hll18 : (L).length ≤ 2000000 := (by omega)
    go_wp2_with (first | (at_builtin; refine wpList_append_part rfl (.tmp 28) (.tmp 31) rfl w0.heap.size _ (.slice A L.length c) (L) b HS.out.ow rfl hll18 w16.heap.size _ ⟨1, (d : Int), []⟩ (.slice none 0 0) [] rfl HN18.out HU18.out (by simp) (by simp) (by simp) ?_; intro Ap18 cp18 w18 b18 o18 in18 g18 bl18; replace HS := Lib.hid (HS.out.app (left' := (left - d)) (room' := room) o18 g18 bl18 (okPt_keep (by omega) (by omega)) (by simp [keepOf, dropOf]; omega) (by simp [putOf])); clear o18 in18 g18 bl18 bA18 HN18 HU18 hll18; have bA19 := alloc_below w18 (.cells #[.int .i64 1, .int .i64 ((left : Int) - (d : Int)), .slice none 0 0] 93); have HN19 := Lib.hid (heap_alloc_new w18 (.cells #[.int .i64 1, .int .i64 ((left : Int) - (d : Int)), .slice none 0 0] 93)); replace HS := Lib.hid (HS.out.past bA19); have HU19 := Lib.hid (nil_ow (w18.alloc (.cells #[.int .i64 1, .int .i64 ((left : Int) - (d : Int)), .slice none 0 0] 93))); have hll19 : (L ++ [(⟨1, (d : Int), []⟩ : Pt)]).length ≤ 2000000 := (by rw [List.length_append]; show L.length + 1 ≤ 2000000; omega)) | (at_builtin; refine wpList_append_part rfl (.tmp 69) (.tmp 72) rfl w0.heap.size _ (.slice Ap18 (L.length + 1) cp18) (L ++ [(⟨1, (d : Int), []⟩ : Pt)]) b18 HS.out.ow rfl hll19 w18.heap.size _ ⟨1, ((left : Int) - (d : Int)), []⟩ (.slice none 0 0) [] rfl HN19.out HU19.out (by simp) (by simp) (by simp) ?_; intro Ap19 cp19 w19 b19 o19 in19 g19 bl19))
    replace HS := Lib.hid (HS.out.app (left' := 0) (room' := room) o19 g19 bl19 (okPt_keep (by omega) (by omega)) (by first | (simp [keepOf, dropOf]; done) | (simp [keepOf, dropOf]; omega)) (by simp [putOf]))
    clear o19 in19 g19 bl19 bA19 HN19 HU19 hll19
    have HSx := HS.out
    rw [List.length_append] at HSx
    have HR : DrX B g w0 n _ _ := ⟨_, _, _, HSx, by simp; omega⟩
    unfold DrE
    iterate 67 apply Exists.intro
    exact ⟨HR, rfl⟩
theorem drZ (B g : Nat) (w0 wr : World) (n : Nat) (hn : n ≤ 150) (A : Option Addr) (c left room : Nat) (L : List Pt) (b : List Nat) (c1 c2 c3 c4 c11 c12 c74 u8 u9 u10 u13 u14 u15 u16 u17 u18 u19 u20 u21 u22 u23 u24 u25 u26 u27 u28 u29 u30 u31 u32 u33 u34 u35 u36 u37 u38 u39 u40 u41 u42 u43 u44 u45 u46 u47 u48 u49 u50 u51 u52 u53 u54 u55 u56 u57 u58 u59 u60 u61 u62 u63 u64 u65 u66 u67 u68 u69 u70 u71 u72 u73 : Value) (Q0 : Exit → Act → World → Prop) (hs : DS B g w0 n (.slice A L.length c) left room L b wr) (hL : L.length ≤ 40) (hl0 : ¬ 0 < left) (hexit : ∀ a w, DrE B g w0 n c1 c2 c3 c4 c11 c12 c74 a w → Q0 (.exit 0) a w) :
  Code.wp Try.prog drBody (Exit.then (fun a' w'' => DrI B g w0 n c1 c2 c3 c4 c11 c12 c74 a' w'' ∧ 41 - slen (a'.tmps.getD 5 undef) < 41 - L.length) Q0) ⟨#[.pointer (some ⟨g, 0, none⟩), c1, c2, c3, c4, .slice A L.length c, .int .i64 (left : Int), .int .i64 (room : Int), u8, u9, u10, c11, c12, u13, u14, u15, u16, u17, u18, u19, u20, u21, u22, u23, u24, u25, u26, u27, u28, u29, u30, u31, u32, u33, u34, u35, u36, u37, u38, u39, u40, u41, u42, u43, u44, u45, u46, u47, u48, u49, u50, u51, u52, u53, u54, u55, u56, u57, u58, u59, u60, u61, u62, u63, u64, u65, u66, u67, u68, u69, u70, u71, u72, u73, c74], []⟩ wr := by
 have hb1 : (left : Int) ≤ n := by have := hs.sum; have q1 := sumOf_nonneg hs.ok; omega
 have hb2 : (room : Int) ≤ 12 := by have := hs.puts; have q1 := sumOf_nonneg hs.ok; omega
 have HS := Lib.hid hs
 clear hs
 conv => arg 2; whnf
 go_wp2_with fail
 refine (specOnce_d B g 3 _ HS.out.dc (by omega)).mono ?_
 rintro e w1 ⟨q1, rfl, dc1, fr1, bl1⟩
 replace HS := Lib.hid (HS.out.draw dc1 fr1 bl1)
 clear dc1 fr1 bl1
 cases q1
 ·go_wp2
  have e0 : left = 0 := by omega
  have HS0 := HS.out
  rw [e0] at HS0
  have HR : DrX B g w0 n _ _ := ⟨_, _, _, HS0, by omega⟩
  unfold DrE
  iterate 67 apply Exists.intro
  exact ⟨HR, rfl⟩
 go_wp2_with fail
 refine (specBelow_d B g 4 _ HS.out.dc (by omega)).mono ?_
 rintro e w2 ⟨x2, rfl, ⟨xa2, xb2, _⟩, dc2, fr2, bl2⟩
 replace HS := Lib.hid (HS.out.draw dc2 fr2 bl2)
 clear dc2 fr2 bl2
 have xb2 := xb2 (by omega)
 by_cases hx0 : x2 = 0
 ·subst hx0
  go_wp2_with fail
  refine (specSigns_d B g 3 _ HS.out.dc (by omega)).mono ?_
  rintro e w3 ⟨t3, v3, s3, rfl, tl3, ta3, to3, dc3, fr3, bl3⟩
  have HOLD := HS.out.ow
  have HSZ := HS.out.fr.size
  replace HS := Lib.hid (HS.out.draw dc3 fr3 bl3)
  have HT3 := Lib.hid to3
  have HTA3 := Lib.hid ta3
  obtain ⟨At3, ct3, rfl⟩ := sliceI to3.read
  have HSR3 := Lib.hid (show ∀ q ∈ b, q ∉ s3 from fun q hq hq' => by have q1 := (HOLD.rng q hq).2; have q2 := (to3.rng q hq').1; omega)
  clear HOLD to3 ta3
  clear dc3 fr3 bl3
  by_cases hr : t3.length ≤ room
  ·have hr2 : ¬ room < t3.length := by omega
   by_cases hm : L.length + 1 ≤ 40
   ·have hm2 : ¬ 40 < L.length + 1 := by omega
    have bA4 := alloc_below w3 (.cells #[.int .i64 2, .int .i64 0, .slice At3 t3.length ct3] 93)
    have HN4 := Lib.hid (heap_alloc_new w3 (.cells #[.int .i64 2, .int .i64 0, .slice At3 t3.length ct3] 93))
    replace HS := Lib.hid (HS.out.past bA4)
    have HU4 := Lib.hid ((HT3.out.past bA4).ow)
    have hll4 : (L).length ≤ 2000000 := (by omega)
    go_wp2_with (at_builtin; refine wpList_append_part rfl (.tmp 45) (.tmp 48) rfl w0.heap.size _ (.slice A L.length c) (L) b HS.out.ow rfl hll4 w3.heap.size _ ⟨2, 0, t3⟩ (.slice At3 t3.length ct3) s3 rfl HN4.out HU4.out HT3.out.nd HSR3.out (fun q hq => by have q1 := (HT3.out.rng q hq).1; omega) ?_; intro Ap4 cp4 w4 b4 o4 in4 g4 bl4)
    replace HS := Lib.hid (HS.out.app (left' := left) (room' := (room - t3.length)) o4 g4 bl4 (okPt_put (by omega) HTA3.out) (by simp [keepOf, dropOf]) (by simp [putOf]; omega))
    clear o4 in4 g4 bl4 bA4 HN4 HU4 hll4
    refine ⟨?_, by simp [slen]; omega⟩
    unfold DrI
    iterate 67 apply Exists.intro
    refine ⟨⟨_, _, _, _, HS.out, ?_, ?_, ?_⟩, rfl⟩
    ·simp; omega
    ·first | rfl | (congr 1; omega)
    ·first | rfl | (congr 1; omega)
   ·have hm2 : 40 < L.length + 1 := by omega
    have bA5 := alloc_below w3 (.cells #[.int .i64 2, .int .i64 0, .slice At3 t3.length ct3] 93)
    have HN5 := Lib.hid (heap_alloc_new w3 (.cells #[.int .i64 2, .int .i64 0, .slice At3 t3.length ct3] 93))
    replace HS := Lib.hid (HS.out.past bA5)
    have HU5 := Lib.hid ((HT3.out.past bA5).ow)
    have hll5 : (L).length ≤ 2000000 := (by omega)
    go_wp2_with (first | (at_builtin; refine wpList_append_part rfl (.tmp 45) (.tmp 48) rfl w0.heap.size _ (.slice A L.length c) (L) b HS.out.ow rfl hll5 w3.heap.size _ ⟨2, 0, t3⟩ (.slice At3 t3.length ct3) s3 rfl HN5.out HU5.out HT3.out.nd HSR3.out (fun q hq => by have q1 := (HT3.out.rng q hq).1; omega) ?_; intro Ap5 cp5 w5 b5 o5 in5 g5 bl5; replace HS := Lib.hid (HS.out.app (left' := left) (room' := (room - t3.length)) o5 g5 bl5 (okPt_put (by omega) HTA3.out) (by simp [keepOf, dropOf]) (by simp [putOf]; omega)); clear o5 in5 g5 bl5 bA5 HN5 HU5 hll5; have bA6 := alloc_below w5 (.cells #[.int .i64 1, .int .i64 (left : Int), .slice none 0 0] 93); have HN6 := Lib.hid (heap_alloc_new w5 (.cells #[.int .i64 1, .int .i64 (left : Int), .slice none 0 0] 93)); replace HS := Lib.hid (HS.out.past bA6); have HU6 := Lib.hid (nil_ow (w5.alloc (.cells #[.int .i64 1, .int .i64 (left : Int), .slice none 0 0] 93))); have hll6 : (L ++ [(⟨2, 0, t3⟩ : Pt)]).length ≤ 2000000 := (by rw [List.length_append]; show L.length + 1 ≤ 2000000; omega)) | (at_builtin; refine wpList_append_part rfl (.tmp 69) (.tmp 72) rfl w0.heap.size _ (.slice Ap5 (L.length + 1) cp5) (L ++ [(⟨2, 0, t3⟩ : Pt)]) b5 HS.out.ow rfl hll6 w5.heap.size _ ⟨1, (left : Int), []⟩ (.slice none 0 0) [] rfl HN6.out HU6.out (by simp) (by simp) (by simp) ?_; intro Ap6 cp6 w6 b6 o6 in6 g6 bl6))
    replace HS := Lib.hid (HS.out.app (left' := 0) (room' := (room - t3.length)) o6 g6 bl6 (okPt_keep (by omega) (by omega)) (by first | (simp [keepOf, dropOf]; done) | (simp [keepOf, dropOf]; omega)) (by simp [putOf]))
    clear o6 in6 g6 bl6 bA6 HN6 HU6 hll6
    have HSx := HS.out
    rw [List.length_append] at HSx
    have HR : DrX B g w0 n _ _ := ⟨_, _, _, HSx, by simp; omega⟩
    unfold DrE
    iterate 67 apply Exists.intro
    exact ⟨HR, rfl⟩
  ·have hr2 : room < t3.length := by omega
   by_cases hm : L.length + 1 ≤ 40
   ·have hm2 : ¬ 40 < L.length + 1 := by omega
    have bA7 := alloc_below w3 (.cells #[.int .i64 2, .int .i64 0, .slice none 0 0] 93)
    have HN7 := Lib.hid (heap_alloc_new w3 (.cells #[.int .i64 2, .int .i64 0, .slice none 0 0] 93))
    replace HS := Lib.hid (HS.out.past bA7)
    have HU7 := Lib.hid (nil_ow (w3.alloc (.cells #[.int .i64 2, .int .i64 0, .slice none 0 0] 93)))
    have hll7 : (L).length ≤ 2000000 := (by omega)
    go_wp2_with (at_builtin; refine wpList_append_part rfl (.tmp 45) (.tmp 48) rfl w0.heap.size _ (.slice A L.length c) (L) b HS.out.ow rfl hll7 w3.heap.size _ ⟨2, 0, []⟩ (.slice none 0 0) [] rfl HN7.out HU7.out (by simp) (by simp) (by simp) ?_; intro Ap7 cp7 w7 b7 o7 in7 g7 bl7)
    replace HS := Lib.hid (HS.out.app (left' := left) (room' := room) o7 g7 bl7 (okPt_put (by simp) rfl) (by simp [keepOf, dropOf]) (by simp [putOf]))
    clear o7 in7 g7 bl7 bA7 HN7 HU7 hll7
    refine ⟨?_, by simp [slen]; omega⟩
    unfold DrI
    iterate 67 apply Exists.intro
    refine ⟨⟨_, _, _, _, HS.out, ?_, ?_, ?_⟩, rfl⟩
    ·simp; omega
    ·first | rfl | (congr 1; omega)
    ·first | rfl | (congr 1; omega)
   ·have hm2 : 40 < L.length + 1 := by omega
    have bA8 := alloc_below w3 (.cells #[.int .i64 2, .int .i64 0, .slice none 0 0] 93)
    have HN8 := Lib.hid (heap_alloc_new w3 (.cells #[.int .i64 2, .int .i64 0, .slice none 0 0] 93))
    replace HS := Lib.hid (HS.out.past bA8)
    have HU8 := Lib.hid (nil_ow (w3.alloc (.cells #[.int .i64 2, .int .i64 0, .slice none 0 0] 93)))
    have hll8 : (L).length ≤ 2000000 := (by omega)
    go_wp2_with (first | (at_builtin; refine wpList_append_part rfl (.tmp 45) (.tmp 48) rfl w0.heap.size _ (.slice A L.length c) (L) b HS.out.ow rfl hll8 w3.heap.size _ ⟨2, 0, []⟩ (.slice none 0 0) [] rfl HN8.out HU8.out (by simp) (by simp) (by simp) ?_; intro Ap8 cp8 w8 b8 o8 in8 g8 bl8; replace HS := Lib.hid (HS.out.app (left' := left) (room' := room) o8 g8 bl8 (okPt_put (by simp) rfl) (by simp [keepOf, dropOf]) (by simp [putOf])); clear o8 in8 g8 bl8 bA8 HN8 HU8 hll8; have bA9 := alloc_below w8 (.cells #[.int .i64 1, .int .i64 (left : Int), .slice none 0 0] 93); have HN9 := Lib.hid (heap_alloc_new w8 (.cells #[.int .i64 1, .int .i64 (left : Int), .slice none 0 0] 93)); replace HS := Lib.hid (HS.out.past bA9); have HU9 := Lib.hid (nil_ow (w8.alloc (.cells #[.int .i64 1, .int .i64 (left : Int), .slice none 0 0] 93))); have hll9 : (L ++ [(⟨2, 0, []⟩ : Pt)]).length ≤ 2000000 := (by rw [List.length_append]; show L.length + 1 ≤ 2000000; omega)) | (at_builtin; refine wpList_append_part rfl (.tmp 69) (.tmp 72) rfl w0.heap.size _ (.slice Ap8 (L.length + 1) cp8) (L ++ [(⟨2, 0, []⟩ : Pt)]) b8 HS.out.ow rfl hll9 w8.heap.size _ ⟨1, (left : Int), []⟩ (.slice none 0 0) [] rfl HN9.out HU9.out (by simp) (by simp) (by simp) ?_; intro Ap9 cp9 w9 b9 o9 in9 g9 bl9))
    replace HS := Lib.hid (HS.out.app (left' := 0) (room' := room) o9 g9 bl9 (okPt_keep (by omega) (by omega)) (by first | (simp [keepOf, dropOf]; done) | (simp [keepOf, dropOf]; omega)) (by simp [putOf]))
    clear o9 in9 g9 bl9 bA9 HN9 HU9 hll9
    have HSx := HS.out
    rw [List.length_append] at HSx
    have HR : DrX B g w0 n _ _ := ⟨_, _, _, HSx, by simp; omega⟩
    unfold DrE
    iterate 67 apply Exists.intro
    exact ⟨HR, rfl⟩
 ·have hx0b : (x2 == 0) = false := by simp [hx0]
  by_cases hx1 : x2 = 1
  ·subst hx1
   clear hx0 hx0b
   go_wp2_with fail
   refine (specBelow_d B g ((left : Int) + 1) _ HS.out.dc (by omega)).mono ?_
   rintro e w10 ⟨m10, rfl, ⟨ma10, mb10, _⟩, dc10, fr10, bl10⟩
   replace HS := Lib.hid (HS.out.draw dc10 fr10 bl10)
   clear dc10 fr10 bl10
   have mb10 := mb10 (by omega)
   obtain ⟨d, rfl⟩ := Int.eq_ofNat_of_zero_le ma10
   by_cases h4 : d ≤ 4
   ·have h4b : ¬ 4 < d := by omega
    by_cases hm : L.length + 1 ≤ 40
    ·have hm2 : ¬ 40 < L.length + 1 := by omega
     have bA11 := alloc_below w10 (.cells #[.int .i64 3, .int .i64 (d : Int), .slice none 0 0] 93)
     have HN11 := Lib.hid (heap_alloc_new w10 (.cells #[.int .i64 3, .int .i64 (d : Int), .slice none 0 0] 93))
     replace HS := Lib.hid (HS.out.past bA11)
     have HU11 := Lib.hid (nil_ow (w10.alloc (.cells #[.int .i64 3, .int .i64 (d : Int), .slice none 0 0] 93)))
     have hll11 : (L).length ≤ 2000000 := (by omega)
     go_wp2_with (at_builtin; refine wpList_append_part rfl (.tmp 61) (.tmp 64) rfl w0.heap.size _ (.slice A L.length c) (L) b HS.out.ow rfl hll11 w10.heap.size _ ⟨3, (d : Int), []⟩ (.slice none 0 0) [] rfl HN11.out HU11.out (by simp) (by simp) (by simp) ?_; intro Ap11 cp11 w11 b11 o11 in11 g11 bl11)
     replace HS := Lib.hid (HS.out.app (left' := (left - d)) (room' := room) o11 g11 bl11 (okPt_drop (by omega) (by omega)) (by simp [keepOf, dropOf]; omega) (by simp [putOf]))
     clear o11 in11 g11 bl11 bA11 HN11 HU11 hll11
     refine ⟨?_, by simp [slen]; omega⟩
     unfold DrI
     iterate 67 apply Exists.intro
     refine ⟨⟨_, _, _, _, HS.out, ?_, ?_, ?_⟩, rfl⟩
     ·simp; omega
     ·first | rfl | (congr 1; omega)
     ·first | rfl | (congr 1; omega)
    ·have hm2 : 40 < L.length + 1 := by omega
     have bA12 := alloc_below w10 (.cells #[.int .i64 3, .int .i64 (d : Int), .slice none 0 0] 93)
     have HN12 := Lib.hid (heap_alloc_new w10 (.cells #[.int .i64 3, .int .i64 (d : Int), .slice none 0 0] 93))
     replace HS := Lib.hid (HS.out.past bA12)
     have HU12 := Lib.hid (nil_ow (w10.alloc (.cells #[.int .i64 3, .int .i64 (d : Int), .slice none 0 0] 93)))
     have hll12 : (L).length ≤ 2000000 := (by omega)
     go_wp2_with (first | (at_builtin; refine wpList_append_part rfl (.tmp 61) (.tmp 64) rfl w0.heap.size _ (.slice A L.length c) (L) b HS.out.ow rfl hll12 w10.heap.size _ ⟨3, (d : Int), []⟩ (.slice none 0 0) [] rfl HN12.out HU12.out (by simp) (by simp) (by simp) ?_; intro Ap12 cp12 w12 b12 o12 in12 g12 bl12; replace HS := Lib.hid (HS.out.app (left' := (left - d)) (room' := room) o12 g12 bl12 (okPt_drop (by omega) (by omega)) (by simp [keepOf, dropOf]; omega) (by simp [putOf])); clear o12 in12 g12 bl12 bA12 HN12 HU12 hll12; have bA13 := alloc_below w12 (.cells #[.int .i64 1, .int .i64 ((left : Int) - (d : Int)), .slice none 0 0] 93); have HN13 := Lib.hid (heap_alloc_new w12 (.cells #[.int .i64 1, .int .i64 ((left : Int) - (d : Int)), .slice none 0 0] 93)); replace HS := Lib.hid (HS.out.past bA13); have HU13 := Lib.hid (nil_ow (w12.alloc (.cells #[.int .i64 1, .int .i64 ((left : Int) - (d : Int)), .slice none 0 0] 93))); have hll13 : (L ++ [(⟨3, (d : Int), []⟩ : Pt)]).length ≤ 2000000 := (by rw [List.length_append]; show L.length + 1 ≤ 2000000; omega)) | (at_builtin; refine wpList_append_part rfl (.tmp 69) (.tmp 72) rfl w0.heap.size _ (.slice Ap12 (L.length + 1) cp12) (L ++ [(⟨3, (d : Int), []⟩ : Pt)]) b12 HS.out.ow rfl hll13 w12.heap.size _ ⟨1, ((left : Int) - (d : Int)), []⟩ (.slice none 0 0) [] rfl HN13.out HU13.out (by simp) (by simp) (by simp) ?_; intro Ap13 cp13 w13 b13 o13 in13 g13 bl13))
     replace HS := Lib.hid (HS.out.app (left' := 0) (room' := room) o13 g13 bl13 (okPt_keep (by omega) (by omega)) (by first | (simp [keepOf, dropOf]; done) | (simp [keepOf, dropOf]; omega)) (by simp [putOf]))
     clear o13 in13 g13 bl13 bA13 HN13 HU13 hll13
     have HSx := HS.out
     rw [List.length_append] at HSx
     have HR : DrX B g w0 n _ _ := ⟨_, _, _, HSx, by simp; omega⟩
     unfold DrE
     iterate 67 apply Exists.intro
     exact ⟨HR, rfl⟩
   ·exfalso
    omega
  ·have hx1b : (x2 == 1) = false := by simp [hx1]
   clear hx0 hx1
   go_wp2_with fail
   refine (specBelow_d B g ((left : Int) + 1) _ HS.out.dc (by omega)).mono ?_
   rintro e w14 ⟨m14, rfl, ⟨ma14, mb14, _⟩, dc14, fr14, bl14⟩
   replace HS := Lib.hid (HS.out.draw dc14 fr14 bl14)
   clear dc14 fr14 bl14
   have mb14 := mb14 (by omega)
   obtain ⟨d, rfl⟩ := Int.eq_ofNat_of_zero_le ma14
   by_cases hm : L.length + 1 ≤ 40
   ·have hm2 : ¬ 40 < L.length + 1 := by omega
    have bA15 := alloc_below w14 (.cells #[.int .i64 1, .int .i64 (d : Int), .slice none 0 0] 93)
    have HN15 := Lib.hid (heap_alloc_new w14 (.cells #[.int .i64 1, .int .i64 (d : Int), .slice none 0 0] 93))
    replace HS := Lib.hid (HS.out.past bA15)
    have HU15 := Lib.hid (nil_ow (w14.alloc (.cells #[.int .i64 1, .int .i64 (d : Int), .slice none 0 0] 93)))
    have hll15 : (L).length ≤ 2000000 := (by omega)
    go_wp2_with (at_builtin; refine wpList_append_part rfl (.tmp 28) (.tmp 31) rfl w0.heap.size _ (.slice A L.length c) (L) b HS.out.ow rfl hll15 w14.heap.size _ ⟨1, (d : Int), []⟩ (.slice none 0 0) [] rfl HN15.out HU15.out (by simp) (by simp) (by simp) ?_; intro Ap15 cp15 w15 b15 o15 in15 g15 bl15)
    replace HS := Lib.hid (HS.out.app (left' := (left - d)) (room' := room) o15 g15 bl15 (okPt_keep (by omega) (by omega)) (by simp [keepOf, dropOf]; omega) (by simp [putOf]))
    clear o15 in15 g15 bl15 bA15 HN15 HU15 hll15
    refine ⟨?_, by simp [slen]; omega⟩
    unfold DrI
    iterate 67 apply Exists.intro
    refine ⟨⟨_, _, _, _, HS.out, ?_, ?_, ?_⟩, rfl⟩
    ·simp; omega
    ·first | rfl | (congr 1; omega)
    ·first | rfl | (congr 1; omega)
   ·have hm2 : 40 < L.length + 1 := by omega
    have bA16 := alloc_below w14 (.cells #[.int .i64 1, .int .i64 (d : Int), .slice none 0 0] 93)
    have HN16 := Lib.hid (heap_alloc_new w14 (.cells #[.int .i64 1, .int .i64 (d : Int), .slice none 0 0] 93))
    replace HS := Lib.hid (HS.out.past bA16)
    have HU16 := Lib.hid (nil_ow (w14.alloc (.cells #[.int .i64 1, .int .i64 (d : Int), .slice none 0 0] 93)))
    have hll16 : (L).length ≤ 2000000 := (by omega)
    go_wp2_with (first | (at_builtin; refine wpList_append_part rfl (.tmp 28) (.tmp 31) rfl w0.heap.size _ (.slice A L.length c) (L) b HS.out.ow rfl hll16 w14.heap.size _ ⟨1, (d : Int), []⟩ (.slice none 0 0) [] rfl HN16.out HU16.out (by simp) (by simp) (by simp) ?_; intro Ap16 cp16 w16 b16 o16 in16 g16 bl16; replace HS := Lib.hid (HS.out.app (left' := (left - d)) (room' := room) o16 g16 bl16 (okPt_keep (by omega) (by omega)) (by simp [keepOf, dropOf]; omega) (by simp [putOf])); clear o16 in16 g16 bl16 bA16 HN16 HU16 hll16; have bA17 := alloc_below w16 (.cells #[.int .i64 1, .int .i64 ((left : Int) - (d : Int)), .slice none 0 0] 93); have HN17 := Lib.hid (heap_alloc_new w16 (.cells #[.int .i64 1, .int .i64 ((left : Int) - (d : Int)), .slice none 0 0] 93)); replace HS := Lib.hid (HS.out.past bA17); have HU17 := Lib.hid (nil_ow (w16.alloc (.cells #[.int .i64 1, .int .i64 ((left : Int) - (d : Int)), .slice none 0 0] 93))); have hll17 : (L ++ [(⟨1, (d : Int), []⟩ : Pt)]).length ≤ 2000000 := (by rw [List.length_append]; show L.length + 1 ≤ 2000000; omega)) | (at_builtin; refine wpList_append_part rfl (.tmp 69) (.tmp 72) rfl w0.heap.size _ (.slice Ap16 (L.length + 1) cp16) (L ++ [(⟨1, (d : Int), []⟩ : Pt)]) b16 HS.out.ow rfl hll17 w16.heap.size _ ⟨1, ((left : Int) - (d : Int)), []⟩ (.slice none 0 0) [] rfl HN17.out HU17.out (by simp) (by simp) (by simp) ?_; intro Ap17 cp17 w17 b17 o17 in17 g17 bl17))
    replace HS := Lib.hid (HS.out.app (left' := 0) (room' := room) o17 g17 bl17 (okPt_keep (by omega) (by omega)) (by first | (simp [keepOf, dropOf]; done) | (simp [keepOf, dropOf]; omega)) (by simp [putOf]))
    clear o17 in17 g17 bl17 bA17 HN17 HU17 hll17
    have HSx := HS.out
    rw [List.length_append] at HSx
    have HR : DrX B g w0 n _ _ := ⟨_, _, _, HSx, by simp; omega⟩
    unfold DrE
    iterate 67 apply Exists.intro
    exact ⟨HR, rfl⟩
theorem drRound (B g : Nat) (w0 : World) (n : Nat) (hn : n ≤ 150) (c1 c2 c3 c4 c11 c12 c74 : Value) (Q0 : Exit → Act → World → Prop) (hexit : ∀ a w, DrE B g w0 n c1 c2 c3 c4 c11 c12 c74 a w → Q0 (.exit 0) a w) (a : Act) (w : World) (hI : DrI B g w0 n c1 c2 c3 c4 c11 c12 c74 a w) :
  Code.wp Try.prog drBody (Exit.then (fun a' w'' => DrI B g w0 n c1 c2 c3 c4 c11 c12 c74 a' w'' ∧ 41 - slen (a'.tmps.getD 5 undef) < 41 - slen (a.tmps.getD 5 undef)) Q0) a w := by
 unfold DrI at hI
 obtain ⟨u5, hI⟩ := hI
 obtain ⟨u6, hI⟩ := hI
 obtain ⟨u7, hI⟩ := hI
 obtain ⟨u8, hI⟩ := hI
 obtain ⟨u9, hI⟩ := hI
 obtain ⟨u10, hI⟩ := hI
 obtain ⟨u13, hI⟩ := hI
 obtain ⟨u14, hI⟩ := hI
 obtain ⟨u15, hI⟩ := hI
 obtain ⟨u16, hI⟩ := hI
 obtain ⟨u17, hI⟩ := hI
 obtain ⟨u18, hI⟩ := hI
 obtain ⟨u19, hI⟩ := hI
 obtain ⟨u20, hI⟩ := hI
 obtain ⟨u21, hI⟩ := hI
 obtain ⟨u22, hI⟩ := hI
 obtain ⟨u23, hI⟩ := hI
 obtain ⟨u24, hI⟩ := hI
 obtain ⟨u25, hI⟩ := hI
 obtain ⟨u26, hI⟩ := hI
 obtain ⟨u27, hI⟩ := hI
 obtain ⟨u28, hI⟩ := hI
 obtain ⟨u29, hI⟩ := hI
 obtain ⟨u30, hI⟩ := hI
 obtain ⟨u31, hI⟩ := hI
 obtain ⟨u32, hI⟩ := hI
 obtain ⟨u33, hI⟩ := hI
 obtain ⟨u34, hI⟩ := hI
 obtain ⟨u35, hI⟩ := hI
 obtain ⟨u36, hI⟩ := hI
 obtain ⟨u37, hI⟩ := hI
 obtain ⟨u38, hI⟩ := hI
 obtain ⟨u39, hI⟩ := hI
 obtain ⟨u40, hI⟩ := hI
 obtain ⟨u41, hI⟩ := hI
 obtain ⟨u42, hI⟩ := hI
 obtain ⟨u43, hI⟩ := hI
 obtain ⟨u44, hI⟩ := hI
 obtain ⟨u45, hI⟩ := hI
 obtain ⟨u46, hI⟩ := hI
 obtain ⟨u47, hI⟩ := hI
 obtain ⟨u48, hI⟩ := hI
 obtain ⟨u49, hI⟩ := hI
 obtain ⟨u50, hI⟩ := hI
 obtain ⟨u51, hI⟩ := hI
 obtain ⟨u52, hI⟩ := hI
 obtain ⟨u53, hI⟩ := hI
 obtain ⟨u54, hI⟩ := hI
 obtain ⟨u55, hI⟩ := hI
 obtain ⟨u56, hI⟩ := hI
 obtain ⟨u57, hI⟩ := hI
 obtain ⟨u58, hI⟩ := hI
 obtain ⟨u59, hI⟩ := hI
 obtain ⟨u60, hI⟩ := hI
 obtain ⟨u61, hI⟩ := hI
 obtain ⟨u62, hI⟩ := hI
 obtain ⟨u63, hI⟩ := hI
 obtain ⟨u64, hI⟩ := hI
 obtain ⟨u65, hI⟩ := hI
 obtain ⟨u66, hI⟩ := hI
 obtain ⟨u67, hI⟩ := hI
 obtain ⟨u68, hI⟩ := hI
 obtain ⟨u69, hI⟩ := hI
 obtain ⟨u70, hI⟩ := hI
 obtain ⟨u71, hI⟩ := hI
 obtain ⟨u72, hI⟩ := hI
 obtain ⟨u73, hI⟩ := hI
 obtain ⟨⟨left, room, L, b, hs, hL, rfl, rfl⟩, rfl⟩ := hI
 obtain ⟨A, c, rfl⟩ := sliceP hs.ow.read
 by_cases hl : 0 < left
 ·exact drP B g w0 w n hn A c left room L b c1 c2 c3 c4 c11 c12 c74 u8 u9 u10 u13 u14 u15 u16 u17 u18 u19 u20 u21 u22 u23 u24 u25 u26 u27 u28 u29 u30 u31 u32 u33 u34 u35 u36 u37 u38 u39 u40 u41 u42 u43 u44 u45 u46 u47 u48 u49 u50 u51 u52 u53 u54 u55 u56 u57 u58 u59 u60 u61 u62 u63 u64 u65 u66 u67 u68 u69 u70 u71 u72 u73 Q0 hs hL hl hexit
 ·exact drZ B g w0 w n hn A c left room L b c1 c2 c3 c4 c11 c12 c74 u8 u9 u10 u13 u14 u15 u16 u17 u18 u19 u20 u21 u22 u23 u24 u25 u26 u27 u28 u29 u30 u31 u32 u33 u34 u35 u36 u37 u38 u39 u40 u41 u42 u43 u44 u45 u46 u47 u48 u49 u50 u51 u52 u53 u54 u55 u56 u57 u58 u59 u60 u61 u62 u63 u64 u65 u66 u67 u68 u69 u70 u71 u72 u73 Q0 hs hL hl hexit
theorem drLoop (B g : Nat) (w0 : World) (n : Nat) (hn : n ≤ 150) (c1 c2 c3 c4 c11 c12 c74 u5 u6 u7 u8 u9 u10 u13 u14 u15 u16 u17 u18 u19 u20 u21 u22 u23 u24 u25 u26 u27 u28 u29 u30 u31 u32 u33 u34 u35 u36 u37 u38 u39 u40 u41 u42 u43 u44 u45 u46 u47 u48 u49 u50 u51 u52 u53 u54 u55 u56 u57 u58 u59 u60 u61 u62 u63 u64 u65 u66 u67 u68 u69 u70 u71 u72 u73 : Value) (Q0 : Exit → Act → World → Prop) (w : World) (hR : DrR B g w0 n u5 u6 u7 w) (hexit : ∀ a w, DrE B g w0 n c1 c2 c3 c4 c11 c12 c74 a w → Q0 (.exit 0) a w) :
  Code.wp Try.prog (Code.loop drBody) Q0 ⟨#[.pointer (some ⟨g, 0, none⟩), c1, c2, c3, c4, u5, u6, u7, u8, u9, u10, c11, c12, u13, u14, u15, u16, u17, u18, u19, u20, u21, u22, u23, u24, u25, u26, u27, u28, u29, u30, u31, u32, u33, u34, u35, u36, u37, u38, u39, u40, u41, u42, u43, u44, u45, u46, u47, u48, u49, u50, u51, u52, u53, u54, u55, u56, u57, u58, u59, u60, u61, u62, u63, u64, u65, u66, u67, u68, u69, u70, u71, u72, u73, c74], []⟩ w := by
 refine wp_loop (DrI B g w0 n c1 c2 c3 c4 c11 c12 c74) (fun a _ => 41 - slen (a.tmps.getD 5 undef)) ?_ (fun a w'' hI => drRound B g w0 n hn c1 c2 c3 c4 c11 c12 c74 Q0 hexit a w'' hI)
 unfold DrI
 iterate 67 apply Exists.intro
 exact ⟨hR, rfl⟩
def OpP (n B g : Nat) (w : World) (e : Ending) (w' : World) : Prop := ∃ L v b, e = .returned v ∧ okOp L = true ∧ sumK L + sumD L = (n : Int) ∧ sumK L + sumP L ≤ (n : Int) + 12 ∧ sumP L ≤ 12 ∧ SmP L ∧ OwB w.heap.size w'.heap.size w' (encPs L) v b ∧ DC B g w' ∧ Fr (fun q => q = g) w w' ∧ Below B w w'
theorem drawn_ok {L : List Pt} {n room : Nat} (hok : okPs L = true) (hs : sumOf keepOf L + sumOf dropOf L + ((0 : Nat) : Int) = (n : Int)) (hp : sumOf putOf L + (room : Int) = 12) (hl : L.length ≤ 42) (hn : n ≤ 150) : okOp L = true ∧ sumK L + sumD L = (n : Int) ∧ sumK L + sumP L ≤ (n : Int) + 12 ∧ sumP L ≤ 12 ∧ SmP L := by
 have hpb : partsB L = true := by unfold partsB; rw [hok]; simp; omega
 obtain ⟨t1, t2, t3⟩ := sum_t hpb
 obtain ⟨q1, q2, q3⟩ := sumOf_nonneg hok
 have h1 : sumK L + sumD L = (n : Int) := by rw [t1, t3]; omega
 have h2 : sumK L + sumP L ≤ (n : Int) + 12 := by rw [t1, t2]; omega
 refine ⟨?_, h1, h2, by rw [t2]; omega, by omega, ?_⟩
 ·unfold okOp
  rw [hpb, decide_eq_true (show sumK L + sumD L ≤ 200 by omega), decide_eq_true (show sumK L + sumP L ≤ 200 by omega)]
  rfl
 ·have := signsIn_le (okPs_sz hok)
  omega
theorem specDraw_d (B g n : Nat) (w : World) (h : DC B g w) (hn : n ≤ 150) : Calls Try.prog 51 #[.pointer (some ⟨g, 0, none⟩), .int .i64 (n : Int)] w (OpP n B g w) := by
 have hgl := h.lt
 have hBg := h.low
 go_enter Try.func51, Try.ntmps51
 go_wp2
 have bA := alloc_below w (.cells #[] 93)
 have hib : OwB w.heap.size (w.alloc (.cells #[] 93)).heap.size (w.alloc (.cells #[] 93)) (encPs []) (.slice (some ⟨w.heap.size, 0, none⟩) 0 0) [w.heap.size] :=
  ⟨⟨[], [], ⟨rfl, .inr ⟨w.heap.size, 0, #[], rfl, Nat.zero_le _, heap_alloc_new w _, Nat.le_refl _, by unfold maxLen; omega, rfl, rfl⟩⟩, ⟨rfl, rfl⟩, rfl⟩, by simp, fun x hx => by obtain rfl : x = w.heap.size := (by simpa using hx); exact ⟨Nat.le_refl _, lt_of_some (heap_alloc_new w _)⟩, Nat.le_refl _, bA.size⟩
 have hs : DS B g w n (.slice (some ⟨w.heap.size, 0, none⟩) 0 0) n 12 [] [w.heap.size] (w.alloc (.cells #[] 93)) := ⟨hib, rfl, by simp [sumOf], by simp [sumOf], h.past bA, Fr.below bA, bA.mono (by omega), hgl⟩
 have HS := Lib.hid hs
 clear hs hib bA
 refine drLoop B g w n hn _ _ _ _ _ _ _ _ _ _ _ _ _ _ _ _ _ _ _ _ _ _ _ _ _ _ _ _ _ _ _ _ _ _ _ _ _ _ _ _ _ _ _ _ _ _ _ _ _ _ _ _ _ _ _ _ _ _ _ _ _ _ _ _ _ _ _ _ _ _ _ _ _ _ _ _ ⟨n, 12, [], _, HS.out, by simp, rfl, rfl⟩ ?_
 intro act w8 hI
 clear HS
 unfold DrE at hI
 obtain ⟨u5, hI⟩ := hI
 obtain ⟨u6, hI⟩ := hI
 obtain ⟨u7, hI⟩ := hI
 obtain ⟨u8, hI⟩ := hI
 obtain ⟨u9, hI⟩ := hI
 obtain ⟨u10, hI⟩ := hI
 obtain ⟨u13, hI⟩ := hI
 obtain ⟨u14, hI⟩ := hI
 obtain ⟨u15, hI⟩ := hI
 obtain ⟨u16, hI⟩ := hI
 obtain ⟨u17, hI⟩ := hI
 obtain ⟨u18, hI⟩ := hI
 obtain ⟨u19, hI⟩ := hI
 obtain ⟨u20, hI⟩ := hI
 obtain ⟨u21, hI⟩ := hI
 obtain ⟨u22, hI⟩ := hI
 obtain ⟨u23, hI⟩ := hI
 obtain ⟨u24, hI⟩ := hI
 obtain ⟨u25, hI⟩ := hI
 obtain ⟨u26, hI⟩ := hI
 obtain ⟨u27, hI⟩ := hI
 obtain ⟨u28, hI⟩ := hI
 obtain ⟨u29, hI⟩ := hI
 obtain ⟨u30, hI⟩ := hI
 obtain ⟨u31, hI⟩ := hI
 obtain ⟨u32, hI⟩ := hI
 obtain ⟨u33, hI⟩ := hI
 obtain ⟨u34, hI⟩ := hI
 obtain ⟨u35, hI⟩ := hI
 obtain ⟨u36, hI⟩ := hI
 obtain ⟨u37, hI⟩ := hI
 obtain ⟨u38, hI⟩ := hI
 obtain ⟨u39, hI⟩ := hI
 obtain ⟨u40, hI⟩ := hI
 obtain ⟨u41, hI⟩ := hI
 obtain ⟨u42, hI⟩ := hI
 obtain ⟨u43, hI⟩ := hI
 obtain ⟨u44, hI⟩ := hI
 obtain ⟨u45, hI⟩ := hI
 obtain ⟨u46, hI⟩ := hI
 obtain ⟨u47, hI⟩ := hI
 obtain ⟨u48, hI⟩ := hI
 obtain ⟨u49, hI⟩ := hI
 obtain ⟨u50, hI⟩ := hI
 obtain ⟨u51, hI⟩ := hI
 obtain ⟨u52, hI⟩ := hI
 obtain ⟨u53, hI⟩ := hI
 obtain ⟨u54, hI⟩ := hI
 obtain ⟨u55, hI⟩ := hI
 obtain ⟨u56, hI⟩ := hI
 obtain ⟨u57, hI⟩ := hI
 obtain ⟨u58, hI⟩ := hI
 obtain ⟨u59, hI⟩ := hI
 obtain ⟨u60, hI⟩ := hI
 obtain ⟨u61, hI⟩ := hI
 obtain ⟨u62, hI⟩ := hI
 obtain ⟨u63, hI⟩ := hI
 obtain ⟨u64, hI⟩ := hI
 obtain ⟨u65, hI⟩ := hI
 obtain ⟨u66, hI⟩ := hI
 obtain ⟨u67, hI⟩ := hI
 obtain ⟨u68, hI⟩ := hI
 obtain ⟨u69, hI⟩ := hI
 obtain ⟨u70, hI⟩ := hI
 obtain ⟨u71, hI⟩ := hI
 obtain ⟨u72, hI⟩ := hI
 obtain ⟨u73, hI⟩ := hI
 obtain ⟨⟨room, L, b, hs, hL⟩, rfl⟩ := hI
 obtain ⟨A, c, rfl⟩ := sliceP hs.ow.read
 have HS := Lib.hid hs
 clear hs
 go_wp2
 go_ret
 obtain ⟨k1, k2, k3, k3b, k4⟩ := drawn_ok HS.out.ok HS.out.sum HS.out.puts hL hn
 exact ⟨L, _, b, rfl, k1, k2, k3, k3b, k4, HS.out.ow, HS.out.dc, HS.out.fr, HS.out.bl⟩
def NewP (w : World) (e : Ending) (w' : World) : Prop := e = .returned (.pointer (some ⟨w.heap.size, 0, none⟩)) ∧ DC w.heap.size w.heap.size w' ∧ Below w.heap.size w w'
def Code8 (w : World) (v : Value) : Prop := ∃ A c zs, v = .slice A zs.length c ∧ zs.length ≤ 1048576 ∧ Row (Value.int .u8) w w.heap.size A zs ∧ ∀ z ∈ zs, 0 ≤ z ∧ z < 256
theorem specNew_d (v : Value) (w : World) (h : Code8 w v) : Calls Try.prog 29 #[v] w (NewP w) := by
 obtain ⟨A, c, zs, rfl, hl, hr, hz⟩ := h
 go_enter Try.func29, Try.ntmps29
 go_wp2
 go_loop [3, 4] (fun x i => ∃ (k : Nat) (h : Int), k ≤ zs.length ∧ i = .int .i64 k ∧ x = .int .i64 h) (fun _ i => zs.length - (intOf i).toNat)
 case atStart => exact ⟨0, _, Nat.zero_le _, rfl, rfl⟩
 case round =>
  obtain ⟨k, h, hk, rfl, rfl⟩ := hrel
  have fin : NewP w (.returned (.pointer (some ⟨w.heap.size, 0, none⟩))) (w.alloc (.cells #[.slice A zs.length c, .int .i64 0, .int .i64 h] 57)) :=
   ⟨rfl, ⟨A, c, zs, 0, h, heap_alloc_new w _, hl, hr.keep (fun p hp => (alloc_below w _).cell hp), hz, Nat.le_refl _⟩, alloc_below w _⟩
  have FIN := Lib.hid fin
  clear fin
  by_cases hlt : k < zs.length
  ·by_cases h4 : k < 4000
   ·obtain ⟨ad, z, rfl, hb, hzk, hc⟩ := hr.at_ hlt
    have hzz := hz z (List.mem_of_getElem? hzk)
    clear hzk
    go_wp2
    go_round
    case rel => exact ⟨k + 1, _, by omega, by go_num, rfl⟩
    case measure => simp [intOf]; omega
   ·go_wp2
    go_ret
    exact FIN.out
  ·go_wp2
   go_ret
   exact FIN.out
def chain : Int → List (List Pt) → Prop
 | _, [] => True
 | n, o :: l => okOp o = true ∧ sumK o + sumD o = n ∧ sumP o ≤ 12 ∧ chain (sumK o + sumP o) l
def endN (n : Int) (l : List (List Pt)) : Int := l.foldl (fun _ o => sumK o + sumP o) n
structure ML (B g : Nat) (w0 : World) (n : Nat) (o : Value) (l : List (List Pt)) (b : List Nat) (w : World) : Prop where
 ow : OwB w0.heap.size w.heap.size w (encPss l) o b
 ch : chain (n : Int) l
 le : 0 ≤ endN (n : Int) l ∧ endN (n : Int) l ≤ (n : Int) + 12 * l.length
 bk : bulk l ≤ 130000 * l.length
 dc : DC B g w
 fr : Fr (fun q => q = g) w0 w
 bl : Below B w0 w
 lt : g < w0.heap.size
theorem DC.sum {B g : Nat} {w : World} (h : DC B g w) : ∃ x : Int, w.cell? ⟨g, 2, none⟩ = some (.int .i64 x) ∧ w.frozen? ⟨g, 2, none⟩ = false ∧ ∀ y : Int, DC B g (w.setCell ⟨g, 2, none⟩ (.int .i64 y)) ∧ Below B w (w.setCell ⟨g, 2, none⟩ (.int .i64 y)) := by
 obtain ⟨A, c, zs, i, x, h1, h2, h3, h4, h5⟩ := h
 refine ⟨x, cell_of_row _ _ 2 _ _ _ h1, by simp [World.frozen?, h1], fun y => ⟨⟨A, c, zs, i, y, set2_row (n := 0) h1, h2, h3.keep (fun p hp => ?_), h4, h5⟩, (Below.refl B w).setCell (p := ⟨g, 2, none⟩) h5 _⟩⟩
 exact World.cell?_of_block (heap_setCell_other _ _ _ _ (fun e => by have e' : p.block = g := e; omega))
theorem Code8.past {w w' : World} {v : Value} (h : Code8 w v) (hb : Below w.heap.size w w') : Code8 w' v := by
 obtain ⟨A, c, zs, h1, h2, h3, h4⟩ := h
 exact ⟨A, c, zs, h1, h2, h3.past hb, h4⟩
def MNum (n : Int) (w : World) (e : Ending) (w' : World) : Prop := ∃ x, e = .returned (.int .i64 x) ∧ 0 ≤ x ∧ (0 < n → x < n) ∧ Below w.heap.size w w'
theorem specMakeNum_d (v : Value) (n : Int) (w : World) (h : Code8 w v) (hn : n ≤ 2147483648) : Calls Try.prog 10 #[v, .int .i64 n] w (MNum n w) := by
 obtain ⟨A0, c0, zs0, rfl, _⟩ : ∃ A c zs, v = .slice A (List.length (α := Int) zs) c ∧ True := by obtain ⟨A, c, zs, e, _⟩ := h; exact ⟨A, c, zs, e, trivial⟩
 go_enter Try.func10, Try.ntmps10
 go_wp2_with fail
 refine (specNew_d _ w h).mono ?_
 rintro e w1 ⟨rfl, dc, b1⟩
 obtain ⟨x, k1, k2, k3⟩ := dc.sum
 have K3 := Lib.hid k3
 clear k3 dc
 go_wp2_with fail
 refine (specBelow_d _ _ n _ (K3.out _).1 hn).mono ?_
 rintro e w2 ⟨y, rfl, ⟨h1, h2, _⟩, _, _, bl⟩
 have B2 := Lib.hid bl
 have B3 := Lib.hid (K3.out (wrap64 (x + 777))).2
 clear bl k1 k2 K3
 go_wp2
 go_ret
 exact ⟨y, rfl, h1, h2, (b1.trans B3.out).trans B2.out⟩
def sumN {α : Type} (f : α → Nat) (l : List α) : Nat := (l.map f).sum
theorem sumN_at {α : Type} {f : α → Nat} {l : List α} {x : α} (hm : x ∈ l) : f x ≤ sumN f l := by
 unfold sumN
 induction l with
 | nil => cases hm
 | cons q r ih =>
  rw [List.map_cons, List.sum_cons]
  rcases List.mem_cons.1 hm with rfl | hm
  ·omega
  ·have := ih hm; omega
theorem sumN_cons {α : Type} (f : α → Nat) (x : α) (l : List α) : sumN f (x :: l) = f x + sumN f l := by simp [sumN]
def OwnL (lo hi : Nat) (w : World) (ds : List Dat) (vs : List Value) : Prop := ∃ bs, OwL w ds vs bs ∧ bs.Nodup ∧ (∀ b ∈ bs, lo ≤ b ∧ b < hi) ∧ hi ≤ w.heap.size ∧ lo ≤ hi
theorem OwnL.nil {lo hi : Nat} {w : World} (h : hi ≤ w.heap.size) (h2 : lo ≤ hi) : OwnL lo hi w [] [] := ⟨[], ⟨rfl, rfl⟩, by simp, fun b hb => by simp at hb, h, h2⟩
theorem OwnL.flat {lo hi : Nat} {w : World} {d : Dat} {u : Value} {ds : List Dat} {vs : List Value} (hf : d.flat = some u) (h : OwnL lo hi w ds vs) : OwnL lo hi w (d :: ds) (u :: vs) := by
 obtain ⟨bs, h1, h2⟩ := h
 exact ⟨bs, ⟨u, vs, [], bs, rfl, rfl, OwC.of_flat hf, h1⟩, h2⟩
theorem OwnL.own {lo mid hi : Nat} {w : World} {d : Dat} {v : Value} {ds : List Dat} {vs : List Value} (h : Own lo mid w d v) (h' : OwnL mid hi w ds vs) : OwnL lo hi w (d :: ds) (v :: vs) := by
 obtain ⟨b, k1, k2, k3, k4, k5⟩ := h
 obtain ⟨b', l1, l2, l3, l4, l5⟩ := h'
 refine ⟨b ++ b', ⟨v, vs, b, b', rfl, rfl, k1, l1⟩, ?_, fun x hx => ?_, l4, by omega⟩
 ·rw [List.nodup_append]
  refine ⟨k2, l2, fun x hx y hy e => ?_⟩
  subst e
  have := k3 x hx
  have := l3 x hy
  omega
 ·rcases List.mem_append.1 hx with hx | hx
  ·have := k3 x hx; omega
  ·have := l3 x hx; omega
theorem OwnL.past {lo hi : Nat} {w w' : World} {ds : List Dat} {vs : List Value} (h : OwnL lo hi w ds vs) (hb : Below w.heap.size w w') : OwnL lo hi w' ds vs := by
 obtain ⟨bs, h1, h2, h3, h4, h5⟩ := h
 exact ⟨bs, OwL.keep ds vs bs h1 (fun b hb' => hb.block b (OwL.lt ds vs bs h1 b hb')), h2, h3, Nat.le_trans h4 hb.size, h5⟩
theorem OwnL.agg {lo hi : Nat} {w : World} {ds : List Dat} {vs : List Value} (h : OwnL lo hi w ds vs) : Own lo hi w (.agg ds) (.agg vs.toArray) := by
 obtain ⟨bs, h1, h2⟩ := h
 exact ⟨bs, ⟨vs, rfl, h1⟩, h2⟩
theorem Own.setUnder {lo hi : Nat} {w : World} {d : Dat} {v : Value} (h : Own lo hi w d v) {g o : Nat} (hg : g < lo ∨ hi ≤ g) (x : Value) : Own lo hi (w.setCell ⟨g, o, none⟩ x) d v := by
 obtain ⟨bs, h1, h2, h3, h4, h5⟩ := h
 exact ⟨bs, OwC.keep d v bs h1 (fun b hb => Below.heap_setCell _ _ _ _ (fun e => by have := h3 b hb; have e' : b = g := e; omega)), h2, h3, by simpa [World.setCell] using h4, h5⟩
def putRow (w : World) (g : Nat) : Nat → List Value → World
 | _, [] => w
 | o, y :: ys => putRow (w.setCell ⟨g, o, none⟩ y) g (o + 1) ys
theorem putRow_size (g : Nat) : ∀ (ys : List Value) (w : World) (o : Nat), (putRow w g o ys).heap.size = w.heap.size
 | [], _, _ => rfl
 | y :: ys, w, o => by rw [putRow, putRow_size g ys]; simp [World.setCell]
theorem putRow_block (g : Nat) : ∀ (ys : List Value) (w : World) (o b : Nat), b ≠ g → (putRow w g o ys).heap[b]? = w.heap[b]?
 | [], _, _, _, _ => rfl
 | y :: ys, w, o, b, hb => by rw [putRow, putRow_block g ys _ _ b hb]; exact Below.heap_setCell _ _ _ _ hb
theorem putRow_below {lo g : Nat} {a : World} (hg : lo ≤ g) : ∀ (ys : List Value) (w : World) (o : Nat), Below lo a w → Below lo a (putRow w g o ys)
 | [], _, _, h => h
 | y :: ys, w, o, h => by rw [putRow]; exact putRow_below hg ys _ _ (h.setCell (p := ⟨g, o, none⟩) hg y)
def setRow (xs : List Value) : Nat → List Value → List Value
 | _, [] => xs
 | o, y :: ys => setRow (xs.set o y) (o + 1) ys
theorem setRow_eq : ∀ (ys xs : List Value) (o : Nat), o + ys.length ≤ xs.length → setRow xs o ys = xs.take o ++ ys ++ xs.drop (o + ys.length)
 | [], xs, o, h => by simp [setRow]
 | y :: ys, xs, o, h => by
  rw [List.length_cons] at h
  rw [setRow, setRow_eq ys (xs.set o y) (o + 1) (by rw [List.length_set]; omega)]
  have e1 : (xs.set o y).take (o + 1) = xs.take o ++ [y] := by
   rw [List.take_add_one, List.take_set_of_le (Nat.le_refl o)]
   simp [show o < xs.length by omega]
  have e2 : (xs.set o y).drop (o + 1 + ys.length) = xs.drop (o + (ys.length + 1)) := by
   rw [List.drop_set_of_lt (by omega)]
   congr 1
   omega
  rw [e1, e2]
  simp
theorem putRow_own {lo e sz n g cap : Nat} : ∀ (ys : List Value) (w : World) (xs : List Value) (o : Nat), w.ownsRow lo e sz (.slice (some ⟨g, 0, none⟩) n cap) n xs → (putRow w g o ys).ownsRow lo e sz (.slice (some ⟨g, 0, none⟩) n cap) n (setRow xs o ys)
 | [], _, _, _, h => h
 | y :: ys, w, xs, o, h => by
  rw [putRow, setRow]
  exact putRow_own ys _ _ _ (h.stored o y).1
theorem Own.putRow {lo hi g : Nat} {d : Dat} {v : Value} (hg : g < lo ∨ hi ≤ g) : ∀ (ys : List Value) (w : World) (o : Nat), Own lo hi w d v → Own lo hi (low.putRow w g o ys) d v
 | [], _, _, h => h
 | y :: ys, w, o, h => Own.putRow hg ys _ _ (h.setUnder hg y)
def Fil (lo e sz n : Nat) (rs : List (List Dat)) (w : World) : Prop := ∃ xs cs, w.ownsRow lo e sz (.slice (some ⟨lo, 0, none⟩) n n) n xs ∧ OwR w sz rs (xs.take (rs.length * sz)) cs ∧ cs.Nodup ∧ (∀ b ∈ cs, lo < b)
theorem Fil.start {lo e sz n : Nat} {w : World} {xs : List Value} (h : w.ownsRow lo e sz (.slice (some ⟨lo, 0, none⟩) n n) n xs) : Fil lo e sz n [] w := ⟨xs, [], h, by simpa using ⟨rfl, rfl⟩, by simp, fun b hb => by simp at hb⟩
theorem Fil.lt {lo e sz n : Nat} {rs : List (List Dat)} {w : World} (h : Fil lo e sz n rs w) : lo < w.heap.size := by
 obtain ⟨xs, cs, h1, _⟩ := h
 exact own_in h1 (k := lo) rfl
theorem Fil.cell {lo e sz n : Nat} {rs : List (List Dat)} {w : World} (h : Fil lo e sz n rs w) {o : Nat} (ho : o < n * sz) : ∃ u, w.cell? ⟨lo, o, none⟩ = some u := by
 obtain ⟨xs, cs, h1, _⟩ := h
 rw [h1.cellAt o ho]
 exact ⟨_, List.getElem?_eq_getElem (by rw [h1.1]; exact ho)⟩
theorem Fil.free {lo e sz n : Nat} {rs : List (List Dat)} {w : World} (h : Fil lo e sz n rs w) (o : Nat) : w.frozen? ⟨lo, o, none⟩ = false := by
 obtain ⟨xs, cs, h1, _⟩ := h
 exact h1.frozenAt o
theorem Fil.past {lo e sz n : Nat} {rs : List (List Dat)} {w w' : World} (h : Fil lo e sz n rs w) (hb : Below w.heap.size w w') : Fil lo e sz n rs w' := by
 obtain ⟨xs, cs, h1, h2, h3, h4⟩ := h
 exact ⟨xs, cs, own_past3 h1 hb, OwR.keep sz _ _ cs h2 (fun b hb' => hb.block b (OwR.lt sz _ _ cs h2 b hb')), h3, h4⟩
theorem Fil.push {lo e sz n m : Nat} {rs : List (List Dat)} {w : World} {r : List Dat} {ys : List Value} (h : Fil lo e sz n rs w) (hn : rs.length < n) (hy : ys.length = sz) {w1 : World} (hb : Below w.heap.size w w1) (ho : OwnL w.heap.size m w1 r ys) : Fil lo e sz n (rs ++ [r]) (putRow w1 lo (rs.length * sz) ys) := by
 have hlt := h.lt
 obtain ⟨xs, cs, h1, h2, h3, h4⟩ := h
 obtain ⟨bs, k1, k2, k3, k4, k5⟩ := ho
 have hcs := OwR.lt sz _ _ cs h2
 have l1 := own_past3 h1 hb
 have l2 := OwR.keep sz _ _ cs h2 (fun b hb' => hb.block b (hcs b hb'))
 have hxl : xs.length = n * sz := h1.1
 have hfit : rs.length * sz + ys.length ≤ xs.length := by
  rw [hxl, hy]
  calc rs.length * sz + sz = (rs.length + 1) * sz := by rw [Nat.add_mul]; omega
   _ ≤ n * sz := Nat.mul_le_mul_right _ (by omega)
 have l3 := l2.append (OwR.one k1 hy)
 have l4 := OwR.keep sz _ _ _ l3 (w' := putRow w1 lo (rs.length * sz) ys) (fun b hb' => putRow_block lo ys _ _ b (by
  rcases List.mem_append.1 hb' with hb' | hb'
  ·have := h4 b hb'; omega
  ·have := k3 b hb'; omega))
 refine ⟨_, cs ++ bs, putRow_own ys w1 xs (rs.length * sz) l1, ?_, ?_, fun b hb' => ?_⟩
 ·rw [setRow_eq ys xs _ hfit]
  have e : (xs.take (rs.length * sz) ++ ys ++ xs.drop (rs.length * sz + ys.length)).take ((rs ++ [r]).length * sz) = xs.take (rs.length * sz) ++ ys := by
   have hl : (xs.take (rs.length * sz) ++ ys).length = (rs ++ [r]).length * sz := by
    rw [List.length_append, List.length_take, List.length_append, hy, Nat.min_eq_left (by omega), List.length_singleton, Nat.add_mul]
    omega
   rw [← hl, List.take_left]
  rw [e]
  exact l4
 ·rw [List.nodup_append]
  refine ⟨h3, k2, fun a ha b hb' e => ?_⟩
  subst e
  have := hcs a ha
  have := (k3 a hb').1
  omega
 ·rcases List.mem_append.1 hb' with hb' | hb'
  ·exact h4 b hb'
  ·have := (k3 b hb').1; omega
theorem Fil.done {lo e sz n : Nat} {rs : List (List Dat)} {w : World} (h : Fil lo e sz n rs w) (hn : rs.length = n) : Own lo w.heap.size w (.rows e sz rs) (.slice (some ⟨lo, 0, none⟩) n n) := by
 have hlt := h.lt
 obtain ⟨xs, cs, h1, h2, h3, h4⟩ := h
 rw [List.take_of_length_le (by rw [h1.1, hn]; omega)] at h2
 refine ⟨lo :: cs, ⟨xs, cs, by rw [hn]; exact own_lower h1 (Nat.zero_le _), h2, rfl⟩, ?_, fun b hb => ?_, Nat.le_refl _, Nat.le_of_lt hlt⟩
 ·rw [List.nodup_cons]
  exact ⟨fun hc => by have := h4 _ hc; omega, h3⟩
 ·rcases List.mem_cons.1 hb with rfl | hb
  ·exact ⟨Nat.le_refl _, hlt⟩
  ·exact ⟨Nat.le_of_lt (h4 b hb), OwR.lt sz _ _ cs h2 b hb⟩
theorem heap_kept (w : World) (o : Obj) {g : Nat} {x : Obj} (h : w.heap[g]? = some x) : (w.alloc o).heap[g]? = some x := by
 rw [Below.heap_alloc _ _ _ (lt_of_some h)]
 exact h
theorem bxcell {w : World} {g j : Nat} {cs : Array Value} {T : TypeId} {u : Value} (h : w.heap[g]? = some (.cells cs T (0, 0))) (hu : cs[j]? = some u) : w.cell? ⟨g, j, none⟩ = some u := by
 rw [← hu]
 exact cell_of_row _ _ j _ _ _ h
theorem bxfree {w : World} {g j : Nat} {cs : Array Value} {T : TypeId} (h : w.heap[g]? = some (.cells cs T (0, 0))) : w.frozen? ⟨g, j, none⟩ = false := by simp [World.frozen?, h]
theorem bxset {w : World} {g j : Nat} {cs : Array Value} {T : TypeId} (h : w.heap[g]? = some (.cells cs T (0, 0))) (x : Value) : (w.setCell ⟨g, j, none⟩ x).heap[g]? = some (.cells (cs.setIfInBounds j x) T (0, 0)) := by
 rw [heap_setCell_same _ _ _ _ _ _ h]
theorem two_boxes (w : World) (c1 c2 : Array Value) (T : TypeId) : ((w.alloc (.cells c1 T)).alloc (.cells c2 T)).heap[w.heap.size]? = some (.cells c1 T (0, 0)) ∧ ((w.alloc (.cells c1 T)).alloc (.cells c2 T)).heap[w.heap.size + 1]? = some (.cells c2 T (0, 0)) ∧ Below w.heap.size w ((w.alloc (.cells c1 T)).alloc (.cells c2 T)) := by
 have s1 : (w.alloc (.cells c1 T)).heap.size = w.heap.size + 1 := World.size_alloc _ _
 exact ⟨heap_kept _ _ (heap_alloc_new w _), by rw [← s1]; exact heap_alloc_new _ _, ((Below.refl _ _).alloc (Nat.le_refl _) _).alloc (by omega) _⟩
def Bx (W : World) (g : Nat) (cs : Array Value) (T : TypeId) : Prop := W.heap[g]? = some (.cells cs T (0, 0))
theorem Bx.new (w : World) (cs : Array Value) (T : TypeId) : Bx (w.alloc (.cells cs T)) w.heap.size cs T := heap_alloc_new w _
theorem Bx.lt {W : World} {g : Nat} {cs : Array Value} {T : TypeId} (h : Bx W g cs T) : g < W.heap.size := lt_of_some h
theorem Bx.past {W W' : World} {g : Nat} {cs : Array Value} {T : TypeId} (h : Bx W g cs T) (hb : Below W.heap.size W W') : Bx W' g cs T := (hb.block _ h.lt).trans h
theorem Bx.apart {W W' w0 : World} {g lo hi : Nat} {cs : Array Value} {T : TypeId} {d : Dat} {v : Value} {b : List Nat} (h : Bx W g cs T) (h' : OwB lo hi w0 d v b) (ht : Touch (fun x => x ∈ b) W W') (hd : g < lo ∨ hi ≤ g) : Bx W' g cs T :=
 (ht.block _ (fun hx => by have := h'.rng g hx; omega)).trans h
theorem Bx.cell {W : World} {g j : Nat} {cs : Array Value} {T : TypeId} {u : Value} (h : Bx W g cs T) (hu : cs[j]? = some u) : W.cell? ⟨g, j, none⟩ = some u := bxcell h hu
structure ToS (w : World) (c0 : Array Value) (T0 : TypeId) (c1 : Array Value) (T : TypeId) (c2 : Array Value) (W : World) : Prop where
 b0 : W.heap[w.heap.size]? = some (.cells c0 T0 (0, 0))
 b1 : W.heap[w.heap.size + 1]? = some (.cells c1 T (0, 0))
 b2 : W.heap[w.heap.size + 1 + 1]? = some (.cells c2 T (0, 0))
 bel : Below w.heap.size w W
theorem ToS.start (w : World) (c0 : Array Value) (T0 : TypeId) (c1 : Array Value) (T : TypeId) (c2 : Array Value) : ToS w c0 T0 c1 T c2 (((w.alloc (.cells c0 T0)).alloc (.cells c1 T)).alloc (.cells c2 T)) := by
 obtain ⟨W, rfl, hb, hs, k1, k2⟩ := three_new w (.cells c0 T0) (.cells c1 T) (.cells c2 T)
 exact ⟨heap_kept _ _ (heap_kept _ _ (heap_alloc_new w _)), k1, k2, hb⟩
theorem ToS.lt {w : World} {c0 : Array Value} {T0 : TypeId} {c1 : Array Value} {T : TypeId} {c2 : Array Value} {W : World} (h : ToS w c0 T0 c1 T c2 W) : w.heap.size + 1 + 1 < W.heap.size := lt_of_some h.b2
theorem ToS.past {w : World} {c0 : Array Value} {T0 : TypeId} {c1 : Array Value} {T : TypeId} {c2 : Array Value} {W W' : World} (h : ToS w c0 T0 c1 T c2 W) (hb : Below W.heap.size W W') : ToS w c0 T0 c1 T c2 W' := by
 have := h.lt
 exact ⟨(hb.block _ (by omega)).trans h.b0, (hb.block _ (by omega)).trans h.b1, (hb.block _ (by omega)).trans h.b2, h.bel.trans (hb.mono h.bel.size)⟩
theorem ToS.set {w : World} {c0 : Array Value} {T0 : TypeId} {c1 : Array Value} {T : TypeId} {c2 : Array Value} {W : World} (h : ToS w c0 T0 c1 T c2 W) (j : Nat) (x : Value) : ToS w c0 T0 c1 T (c2.setIfInBounds j x) (W.setCell ⟨w.heap.size + 1 + 1, j, none⟩ x) :=
 ⟨(Below.heap_setCell _ _ _ _ (by simp only; omega)).trans h.b0, (Below.heap_setCell _ _ _ _ (by simp only; omega)).trans h.b1, bxset h.b2 x, h.bel.setCell (p := ⟨w.heap.size + 1 + 1, j, none⟩) (by simp only; omega) x⟩
def totI (zs : List Int) : Nat := zs.length
def totP (ps : List Pt) : Nat := ps.length + signsIn ps
theorem smI_of {zs : List Int} (h : totI zs ≤ 1048576) : SmI zs := h
theorem smP_of {ps : List Pt} (h : totP ps ≤ 1048576) : SmP ps := by unfold totP at h; exact ⟨by omega, by omega⟩
structure En where
 client : Int
 seq : Int
 o : List Pt
def encEn (x : En) : List Dat := [.int x.client, .int x.seq, encPs x.o]
def datEn (x : En) : Dat := .agg (encEn x)
def encEns (l : List En) : Dat := .rows 32 3 (l.map encEn)
def totEn (x : En) : Nat := totP x.o
def SmEn (x : En) : Prop := totEn x ≤ 1048576
def totEns (l : List En) : Nat := l.length + sumN totEn l
def SmEns (l : List En) : Prop := totEns l ≤ 1048576
theorem smEns_of {l : List En} (h : totEns l ≤ 1048576) : SmEns l := h
theorem SmEns.len {l : List En} (h : SmEns l) : l.length ≤ 1048576 := by unfold SmEns totEns at h; omega
theorem SmEns.at_ {l : List En} (h : SmEns l) {x : En} (hx : x ∈ l) : SmEn x := by
 unfold SmEns totEns at h
 have := sumN_at (f := totEn) hx
 unfold SmEn
 omega
theorem SmEn.o {x : En} (h : SmEn x) : SmP x.o := smP_of (by unfold SmEn totEn at h; omega)
theorem aggEn {w : World} {B : Nat} {x : En} {v : Value} (h : RdC w B (datEn x) v) : ∃ (A2 : Option Addr) (c2 : Nat), v = .agg #[.int .i64 x.client, .int .i64 x.seq, .slice A2 x.o.length c2] ∧ RdC w B (encPs x.o) (.slice A2 x.o.length c2) := by
 obtain ⟨vs, rfl, v0, _, rfl, rfl, v1, _, rfl, rfl, v2, _, rfl, r2, rfl⟩ := h
 obtain ⟨A2, c2, rfl⟩ := sliceP r2
 exact ⟨A2, c2, rfl, r2⟩
theorem rdEn {w : World} {B : Nat} (x : En) {v2 : Value} (r2 : RdC w B (encPs x.o) v2) : RdC w B (datEn x) (.agg #[.int .i64 x.client, .int .i64 x.seq, v2]) := ⟨_, rfl, _, _, rfl, rfl, _, _, rfl, rfl, _, _, rfl, r2, rfl⟩
theorem sliceEns {w : World} {B : Nat} {l : List En} {v : Value} (h : RdC w B (encEns l) v) : ∃ A c, v = .slice A l.length c := by
 obtain ⟨A, c, hv, _⟩ := RdC.len h
 exact ⟨A, c, by simpa using hv⟩
theorem atEns {w : World} {B : Nat} {A : Option Addr} {m c i : Nat} {l : List En} (h : RdC w B (encEns l) (.slice A m c)) (hi : i < l.length) : ∃ (b off : Nat) (x : En) (A2 : Option Addr) (c2 : Nat), A = some ⟨b, off, none⟩ ∧ b < B ∧ l[i]? = some x ∧ w.cell? ⟨b, off + i * 3, none⟩ = some (.int .i64 x.client) ∧ w.cell? ⟨b, off + i * 3 + 1, none⟩ = some (.int .i64 x.seq) ∧ w.cell? ⟨b, off + i * 3 + 2, none⟩ = some (.slice A2 x.o.length c2) ∧ RdC w B (encPs x.o) (.slice A2 x.o.length c2) := by
 obtain ⟨ad, r, hA, hb, hs, hr, hl⟩ := RdC.at_ (ds := l.map encEn) h (by simpa using hi)
 rw [List.getElem?_map, List.getElem?_eq_getElem hi] at hr
 obtain rfl : encEn l[i] = r := by simpa using hr
 obtain ⟨b, off, spot⟩ := ad
 obtain rfl : spot = none := by
  rcases hs with hs | hs
  ·cases hs
  ·exact hs
 obtain ⟨⟨v0, x0, rfl⟩, ⟨v1, x1, rfl⟩, ⟨v2, x2, r2⟩, _⟩ := hl
 obtain ⟨A2, c2, rfl⟩ := sliceP r2
 rw [add_at] at x0 x1 x2
 exact ⟨b, off, l[i], A2, c2, hA, hb, List.getElem?_eq_getElem hi, by simpa [Nat.add_assoc] using x0, by simpa [Nat.add_assoc] using x1, by simpa [Nat.add_assoc] using x2, r2⟩
structure Ri where
 cap : Int
 next : Int
 out : Bool
 list : List En
def encRi (x : Ri) : List Dat := [.int x.cap, .int x.next, .bool x.out, encEns x.list]
def datRi (x : Ri) : Dat := .agg (encRi x)
def totRi (x : Ri) : Nat := totEns x.list
def SmRi (x : Ri) : Prop := totRi x ≤ 1048576
def totRis (l : List Ri) : Nat := l.length + sumN totRi l
def SmRis (l : List Ri) : Prop := totRis l ≤ 1048576
theorem SmRis.len {l : List Ri} (h : SmRis l) : l.length ≤ 1048576 := by unfold SmRis totRis at h; omega
theorem SmRis.at_ {l : List Ri} (h : SmRis l) {x : Ri} (hx : x ∈ l) : SmRi x := by
 unfold SmRis totRis at h
 have := sumN_at (f := totRi) hx
 unfold SmRi
 omega
theorem SmRi.list {x : Ri} (h : SmRi x) : SmEns x.list := smEns_of (by unfold SmRi totRi at h; omega)
theorem aggRi {w : World} {B : Nat} {x : Ri} {v : Value} (h : RdC w B (datRi x) v) : ∃ (A3 : Option Addr) (c3 : Nat), v = .agg #[.int .i64 x.cap, .int .i64 x.next, .bool x.out, .slice A3 x.list.length c3] ∧ RdC w B (encEns x.list) (.slice A3 x.list.length c3) := by
 obtain ⟨vs, rfl, v0, _, rfl, rfl, v1, _, rfl, rfl, v2, _, rfl, rfl, v3, _, rfl, r3, rfl⟩ := h
 obtain ⟨A3, c3, rfl⟩ := sliceEns r3
 exact ⟨A3, c3, rfl, r3⟩
theorem rdRi {w : World} {B : Nat} (x : Ri) {v3 : Value} (r3 : RdC w B (encEns x.list) v3) : RdC w B (datRi x) (.agg #[.int .i64 x.cap, .int .i64 x.next, .bool x.out, v3]) := ⟨_, rfl, _, _, rfl, rfl, _, _, rfl, rfl, _, _, rfl, rfl, _, _, rfl, r3, rfl⟩
structure Se where
 client : Int
 seq : Int
 rev : Int
def totSe (x : Se) : Nat := 0
def SmSe (x : Se) : Prop := totSe x ≤ 1048576
def totSes (l : List Se) : Nat := l.length + sumN totSe l
def SmSes (l : List Se) : Prop := totSes l ≤ 1048576
theorem smSes_of {l : List Se} (h : totSes l ≤ 1048576) : SmSes l := h
theorem SmSes.len {l : List Se} (h : SmSes l) : l.length ≤ 1048576 := by unfold SmSes totSes at h; omega
theorem SmSes.at_ {l : List Se} (h : SmSes l) {x : Se} (hx : x ∈ l) : SmSe x := by
 unfold SmSes totSes at h
 have := sumN_at (f := totSe) hx
 unfold SmSe
 omega
structure Do where
 name : ByteArray
 from_ : Int
 text : List Int
 list : List En
 seen : List Se
def totDo (x : Do) : Nat := x.name.size + totI x.text + totEns x.list + totSes x.seen
def SmDo (x : Do) : Prop := totDo x ≤ 1048576
def totDos (l : List Do) : Nat := l.length + sumN totDo l
def SmDos (l : List Do) : Prop := totDos l ≤ 1048576
theorem SmDos.len {l : List Do} (h : SmDos l) : l.length ≤ 1048576 := by unfold SmDos totDos at h; omega
theorem SmDos.at_ {l : List Do} (h : SmDos l) {x : Do} (hx : x ∈ l) : SmDo x := by
 unfold SmDos totDos at h
 have := sumN_at (f := totDo) hx
 unfold SmDo
 omega
theorem SmDo.text {x : Do} (h : SmDo x) : SmI x.text := smI_of (by unfold SmDo totDo at h; omega)
theorem SmDo.list {x : Do} (h : SmDo x) : SmEns x.list := smEns_of (by unfold SmDo totDo at h; omega)
theorem SmDo.seen {x : Do} (h : SmDo x) : SmSes x.seen := smSes_of (by unfold SmDo totDo at h; omega)
theorem ret_b {a b : Bool} (h : a = b) : Ending.returned (.bool a) = .returned (.bool b) := by rw [h]
def entryB (x : En) : Bool := inB x.client 1 8 && inB x.seq 1 1000000000 && isNormL x.o
def entrySameB (x y : En) : Bool := decide (x.client = y.client) && decide (x.seq = y.seq) && samePs x.o y.o
def headRevT (x : Do) : Int := wrap64 (x.from_ + (x.list.length : Int))
def seenGo (c : Int) : List Se → Option Se
 | [] => none
 | s :: l => if s.client = c then some s else seenGo c l
inductive It where
 | bx (g : Nat) (o : Obj)
 | dt (d : Dat) (v : Value) (b : List Nat)
 | rd (d : Dat) (v : Value) (b : List Nat)
def It.bs : It → List Nat
 | .bx g _ => [g]
 | .dt _ _ b => b
 | .rd _ _ b => b
def It.ok (W : World) : It → Prop
 | .bx g o => W.heap[g]? = some o
 | .dt d v b => OwC W d v b
 | .rd d v b => (∀ q ∈ b, q < W.heap.size) ∧ ∀ W' : World, (∀ q ∈ b, W'.heap[q]? = W.heap[q]?) → ∀ B, (∀ q ∈ b, q < B) → RdC W' B d v
theorem It.keep {W W' : World} {x : It} (h : x.ok W) (hk : ∀ q ∈ x.bs, W'.heap[q]? = W.heap[q]?) : x.ok W' := by
 cases x with
 | bx g o => exact (hk g (by simp [It.bs])).trans h
 | dt d v b => exact OwC.keep d v b h hk
 | rd d v b =>
  refine ⟨fun q hq => ?_, fun W2 h2 => h.2 W2 (fun q hq => (h2 q hq).trans (hk q hq))⟩
  have h1 := h.1 q hq
  rcases Nat.lt_or_ge q W'.heap.size with h3 | h3
  ·exact h3
  ·have h4 := hk q hq
   rw [Array.getElem?_eq_none h3, Array.getElem?_eq_getElem h1] at h4
   cases h4
theorem It.lt {W : World} {x : It} (h : x.ok W) {q : Nat} (hq : q ∈ x.bs) : q < W.heap.size := by
 cases x with
 | bx g o => obtain rfl : q = g := by simpa [It.bs] using hq
             exact lt_of_some h
 | dt d v b => exact OwC.lt d v b h q hq
 | rd d v b => exact h.1 q hq
structure Ms (w0 : World) (L : List It) (W : World) : Prop where
 ok : ∀ x ∈ L, x.ok W
 nd : (L.flatMap It.bs).Nodup
 rg : ∀ q ∈ L.flatMap It.bs, w0.heap.size ≤ q
 bl : Below w0.heap.size w0 W
section
variable {w0 W W' : World} {L L' : List It} {x y : It}
theorem Ms.start (w : World) : Ms w [] w := ⟨fun x hx => (by simp at hx), by simp, fun q hq => (by simp at hq), Below.refl _ _⟩
theorem Ms.size (h : Ms w0 L W) : w0.heap.size ≤ W.heap.size := h.bl.size
theorem Ms.blt (h : Ms w0 L W) : ∀ q ∈ L.flatMap It.bs, q < W.heap.size := fun q hq => by
 obtain ⟨x, hx, hq⟩ := List.mem_flatMap.1 hq
 exact It.lt (h.ok x hx) hq
theorem Ms.keep (h : Ms w0 L W) (hk : ∀ q ∈ L.flatMap It.bs, W'.heap[q]? = W.heap[q]?) (hb : Below w0.heap.size w0 W') : Ms w0 L W' :=
 ⟨fun x hx => It.keep (h.ok x hx) (fun q hq => hk q (List.mem_flatMap.2 ⟨x, hx, hq⟩)), h.nd, h.rg, hb⟩
theorem Ms.past (h : Ms w0 L W) (hb : Below W.heap.size W W') : Ms w0 L W' := h.keep (fun q hq => hb.block q (h.blt q hq)) (h.bl.trans (hb.mono h.size))
theorem Ms.drew (h : Ms w0 L W) : Ms w0 L W.drew := h.past (Below.refl _ _).drew
theorem Ms.drewN (h : Ms w0 L W) (n : Nat) : Ms w0 L (W.drewN n) := h.past ⟨rfl, rfl, rfl, Nat.le_refl _, fun _ _ => rfl⟩
theorem Ms.arg (h : Ms w0 L W) {d : Dat} {v : Value} (hr : RdC w0 w0.heap.size d v) : RdC W W.heap.size d v := hr.past h.bl
theorem Ms.perm (h : Ms w0 L W) (hp : L.Perm L') : Ms w0 L' W :=
 ⟨fun x hx => h.ok x (hp.mem_iff.2 hx), (hp.flatMap_right It.bs).nodup_iff.1 h.nd, fun q hq => h.rg q ((hp.flatMap_right It.bs).mem_iff.2 hq), h.bl⟩
theorem Ms.tail (h : Ms w0 (x :: L) W) : Ms w0 L W :=
 ⟨fun y hy => h.ok y (by simp [hy]), by have := h.nd; rw [List.flatMap_cons, List.nodup_append] at this; exact this.2.1, fun q hq => h.rg q (by rw [List.flatMap_cons]; exact List.mem_append_right _ hq), h.bl⟩
theorem erase_perm : ∀ {L : List It} {i : Nat} {x : It}, L[i]? = some x → L.Perm (x :: L.eraseIdx i)
 | [], i, x, h => by simp at h
 | y :: L, 0, x, h => by
  simp at h
  subst h
  exact List.Perm.refl _
 | y :: L, i + 1, x, h => by
  have ih := erase_perm (L := L) (i := i) (x := x) (by simpa using h)
  exact (ih.cons y).trans (List.Perm.swap x y _)
theorem Ms.pull (h : Ms w0 L W) {i : Nat} (hi : L[i]? = some x) (hL : x :: L.eraseIdx i = L') : Ms w0 L' W := by
 subst hL
 exact h.perm (erase_perm hi)
theorem Ms.drop (h : Ms w0 L W) (n : Nat) : Ms w0 (L.drop n) W := by
 induction n generalizing L with
 | zero => exact h
 | succ n ih =>
  cases L with
  | nil => exact h
  | cons x L => exact ih h.tail
theorem Ms.at_ (h : Ms w0 L W) {i : Nat} (hi : L[i]? = some x) : x.ok W := h.ok x (List.mem_of_getElem? hi)
theorem Ms.bsAt (h : Ms w0 L W) {i : Nat} (hi : L[i]? = some x) : ∀ q ∈ x.bs, w0.heap.size ≤ q ∧ q < W.heap.size := fun q hq =>
 ⟨h.rg q (List.mem_flatMap.2 ⟨x, List.mem_of_getElem? hi, hq⟩), It.lt (h.at_ hi) hq⟩
theorem Ms.ndAt (h : Ms w0 L W) {i : Nat} (hi : L[i]? = some x) : x.bs.Nodup := by
 have h2 := h.pull hi rfl
 have := h2.nd
 rw [List.flatMap_cons, List.nodup_append] at this
 exact this.1
theorem Ms.cell (h : Ms w0 L W) {i g j : Nat} {cs : Array Value} {T : TypeId} {u : Value} (hi : L[i]? = some (.bx g (.cells cs T (0, 0)))) (hu : cs[j]? = some u) : W.cell? ⟨g, j, none⟩ = some u := bxcell (h.at_ hi) hu
theorem Ms.free (h : Ms w0 L W) {i g j : Nat} {cs : Array Value} {T : TypeId} (hi : L[i]? = some (.bx g (.cells cs T (0, 0)))) : W.frozen? ⟨g, j, none⟩ = false := bxfree (h.at_ hi)
theorem Ms.glt (h : Ms w0 L W) {i g : Nat} {o : Obj} (hi : L[i]? = some (.bx g o)) : w0.heap.size ≤ g ∧ g < W.heap.size := h.bsAt hi g (by simp [It.bs])
theorem Ms.read (h : Ms w0 L W) {i : Nat} {d : Dat} {v : Value} {b : List Nat} (hi : L[i]? = some (.dt d v b)) : RdC W W.heap.size d v := OwC.read d v b (h.at_ hi) (fun q hq => (h.bsAt hi q hq).2)
theorem Ms.own (h : Ms w0 L W) {i : Nat} {d : Dat} {v : Value} {b : List Nat} (hi : L[i]? = some (.dt d v b)) : Own w0.heap.size W.heap.size W d v := ⟨b, h.at_ hi, h.ndAt hi, h.bsAt hi, Nat.le_refl _, h.size⟩
theorem Ms.owb (h : Ms w0 L W) {i : Nat} {d : Dat} {v : Value} {b : List Nat} (hi : L[i]? = some (.dt d v b)) : OwB w0.heap.size W.heap.size W d v b := ⟨h.at_ hi, h.ndAt hi, h.bsAt hi, Nat.le_refl _, h.size⟩
theorem Ms.cons (h : Ms w0 L W) (hb : Below W.heap.size W W') (hx : x.ok W') (hn : x.bs.Nodup) (hq : ∀ q ∈ x.bs, W.heap.size ≤ q) : Ms w0 (x :: L) W' := by
 have h' := h.past hb
 refine ⟨fun y hy => ?_, ?_, fun q hq' => ?_, h'.bl⟩
 ·rcases List.mem_cons.1 hy with rfl | hy
  ·exact hx
  ·exact h'.ok y hy
 ·rw [List.flatMap_cons, List.nodup_append]
  exact ⟨hn, h.nd, fun a ha b hb e => by subst e; have := hq a ha; have := h.blt a hb; omega⟩
 ·rw [List.flatMap_cons] at hq'
  rcases List.mem_append.1 hq' with hq' | hq'
  ·exact Nat.le_trans h.size (hq q hq')
  ·exact h.rg q hq'
theorem Ms.new (h : Ms w0 L W) (cs : Array Value) (T : TypeId) : Ms w0 (.bx W.heap.size (.cells cs T (0, 0)) :: L) (W.alloc (.cells cs T)) :=
 h.cons (alloc_below W _) (heap_alloc_new W _) (by simp [It.bs]) (fun q hq => by simp [It.bs] at hq; omega)
theorem Ms.got (h : Ms w0 L W) {d : Dat} {v : Value} (ho : Own W.heap.size W'.heap.size W' d v) (hb : Below W.heap.size W W') : ∃ b, Ms w0 (.dt d v b :: L) W' := by
 obtain ⟨b, h1, h2, h3, _, _⟩ := ho
 exact ⟨b, h.cons hb h1 h2 (fun q hq => (h3 q hq).1)⟩
theorem Ms.nil (h : Ms w0 L W) (e : TypeId) (sz : Nat) : Ms w0 (.dt (.rows e sz []) (.slice none 0 0) [] :: L) W :=
 h.cons (Below.refl _ _) ⟨[], [], World.ownsRow_nil _ _ _ _, ⟨rfl, rfl⟩, rfl⟩ (by simp [It.bs]) (fun q hq => by simp [It.bs] at hq)
theorem Ms.empty (h : Ms w0 L W) (e : TypeId) (sz : Nat) : Ms w0 (.dt (.rows e sz []) (.slice (some ⟨W.heap.size, 0, none⟩) 0 0) [W.heap.size] :: L) (W.alloc (.cells #[] e)) :=
 h.cons (alloc_below W _) ⟨[], [], ⟨by simp, .inr ⟨W.heap.size, 0, #[], rfl, Nat.zero_le _, heap_alloc_new W _, Nat.le_refl _, by unfold maxLen; omega, by simp, by simp⟩⟩, ⟨rfl, rfl⟩, rfl⟩ (by simp [It.bs]) (fun q hq => by simp [It.bs] at hq; omega)
theorem Ms.turn (h : Ms w0 (x :: L) W) (hs : W.heap.size ≤ W'.heap.size) (hk : ∀ q, q < W.heap.size → q ∉ x.bs → W'.heap[q]? = W.heap[q]?) (hb : Below w0.heap.size w0 W') (hy : y.ok W') (hn : y.bs.Nodup) (hq : ∀ q ∈ y.bs, q ∈ x.bs ∨ W.heap.size ≤ q) : Ms w0 (y :: L) W' := by
 have hnd := h.nd
 rw [List.flatMap_cons, List.nodup_append] at hnd
 have hlt := h.tail.blt
 refine ⟨fun z hz => ?_, ?_, fun q hq' => ?_, hb⟩
 ·rcases List.mem_cons.1 hz with rfl | hz
  ·exact hy
  ·exact It.keep (h.ok z (by simp [hz])) (fun q hq' => by
    have hm : q ∈ L.flatMap It.bs := List.mem_flatMap.2 ⟨z, hz, hq'⟩
    exact hk q (hlt q hm) (fun e => hnd.2.2 q e q hm rfl))
 ·rw [List.flatMap_cons, List.nodup_append]
  refine ⟨hn, hnd.2.1, fun a ha b hb e => ?_⟩
  subst e
  rcases hq a ha with h1 | h1
  ·exact hnd.2.2 a h1 a hb rfl
  ·have := hlt a hb; omega
 ·rw [List.flatMap_cons] at hq'
  rcases List.mem_append.1 hq' with hq' | hq'
  ·rcases hq q hq' with h1 | h1
   ·exact h.rg q (by rw [List.flatMap_cons]; exact List.mem_append_left _ h1)
   ·exact Nat.le_trans h.size h1
  ·exact h.tail.rg q hq'
theorem Ms.set {g j : Nat} {cs : Array Value} {T : TypeId} (h : Ms w0 (.bx g (.cells cs T (0, 0)) :: L) W) (u : Value) : Ms w0 (.bx g (.cells (cs.setIfInBounds j u) T (0, 0)) :: L) (W.setCell ⟨g, j, none⟩ u) := by
 have hg := h.glt (i := 0) rfl
 refine h.turn (by simp [World.setCell]) (fun q hq hn => Below.heap_setCell _ _ _ _ (fun e => hn (by simp [It.bs]; exact e))) (h.bl.setCell (p := ⟨g, j, none⟩) hg.1 u) (bxset (h.at_ (i := 0) rfl) u) (by simp [It.bs]) (fun q hq => .inl hq)
theorem Ms.pk0 (h : Ms w0 L W) : Ms w0 (.dt (.agg []) (.agg #[]) [] :: L) W := h.cons (Below.refl _ _) ⟨[], rfl, rfl, rfl⟩ (by simp [It.bs]) (fun q hq => by simp [It.bs] at hq)
theorem Ms.pkF {ds : List Dat} {vs : List Value} {b : List Nat} {d : Dat} {u : Value} (h : Ms w0 (.dt (.agg ds) (.agg vs.toArray) b :: L) W) (hf : d.flat = some u) : Ms w0 (.dt (.agg (d :: ds)) (.agg (u :: vs).toArray) b :: L) W := by
 refine h.turn (Nat.le_refl _) (fun _ _ _ => rfl) h.bl ?_ (show b.Nodup from h.ndAt (i := 0) (x := .dt (.agg ds) (.agg vs.toArray) b) rfl) (fun q hq => .inl hq)
 obtain ⟨xs, hx, ho⟩ : OwC W (.agg ds) (.agg vs.toArray) b := h.at_ (i := 0) rfl
 have e : vs = xs := by injection hx with hx; simpa using congrArg Array.toList hx
 subst e
 exact ⟨u :: vs, rfl, u, vs, [], b, rfl, rfl, OwC.of_flat hf, ho⟩
theorem Ms.pkO {ds : List Dat} {vs : List Value} {b c : List Nat} {d : Dat} {v : Value} (h : Ms w0 (.dt (.agg ds) (.agg vs.toArray) b :: .dt d v c :: L) W) : Ms w0 (.dt (.agg (d :: ds)) (.agg (v :: vs).toArray) (c ++ b) :: L) W := by
 have hnd := h.nd
 rw [List.flatMap_cons, List.flatMap_cons, List.nodup_append, List.nodup_append] at hnd
 obtain ⟨xs, hx, ho⟩ : OwC W (.agg ds) (.agg vs.toArray) b := h.at_ (i := 0) rfl
 have e : vs = xs := by injection hx with hx; simpa using congrArg Array.toList hx
 subst e
 have hc : OwC W d v c := h.at_ (i := 1) rfl
 have hrg := h.rg
 rw [List.flatMap_cons, List.flatMap_cons] at hrg
 refine ⟨fun z hz => ?_, ?_, fun q hq => ?_, h.bl⟩
 ·rcases List.mem_cons.1 hz with rfl | hz
  ·exact ⟨v :: vs, rfl, v, vs, c, b, rfl, rfl, hc, ho⟩
  ·exact h.ok z (by simp [hz])
 ·rw [List.flatMap_cons, List.nodup_append]
  refine ⟨?_, hnd.2.1.2.1, fun a ha a' ha' e => ?_⟩
  ·show (c ++ b).Nodup
   rw [List.nodup_append]
   exact ⟨hnd.2.1.1, hnd.1, fun a ha a' ha' e => hnd.2.2 a' ha' a (List.mem_append_left _ ha) e.symm⟩
  ·have ha : a ∈ c ++ b := ha
   rcases List.mem_append.1 ha with ha | ha
   ·exact hnd.2.1.2.2 a ha a' ha' e
   ·exact hnd.2.2 a ha a' (List.mem_append_right _ ha') e
 ·rw [List.flatMap_cons] at hq
  rcases List.mem_append.1 hq with hq | hq
  ·have hq : q ∈ c ++ b := hq
   rcases List.mem_append.1 hq with hq | hq
   ·exact hrg q (List.mem_append_right _ (List.mem_append_left _ hq))
   ·exact hrg q (List.mem_append_left _ hq)
  ·exact hrg q (List.mem_append_right _ (List.mem_append_right _ hq))
theorem Ms.un {ds : List Dat} {v : Value} {vs : List Value} {b : List Nat} {d : Dat} (h : Ms w0 (.dt (.agg (d :: ds)) (.agg (v :: vs).toArray) b :: L) W) : ∃ c c', Ms w0 (.dt d v c :: .dt (.agg ds) (.agg vs.toArray) c' :: L) W := by
 have hnd := h.nd
 have hrg := h.rg
 obtain ⟨xs, hx, x, xs', c, c', e1, e2, h1, h2⟩ : OwC W (.agg (d :: ds)) (.agg (v :: vs).toArray) b := h.at_ (i := 0) rfl
 have e : v :: vs = xs := by injection hx with hx; simpa using congrArg Array.toList hx
 subst e
 injection e1 with e3 e4
 subst e3 e4 e2
 refine ⟨c, c', fun z hz => ?_, ?_, fun q hq => ?_, h.bl⟩
 ·rcases List.mem_cons.1 hz with rfl | hz
  ·exact h1
  ·rcases List.mem_cons.1 hz with rfl | hz
   ·exact ⟨vs, rfl, h2⟩
   ·exact h.ok z (by simp [hz])
 ·rw [List.flatMap_cons, List.flatMap_cons, ← List.append_assoc]
  rw [List.flatMap_cons] at hnd
  exact hnd
 ·refine hrg q ?_
  rw [List.flatMap_cons]
  rw [List.flatMap_cons, List.flatMap_cons, ← List.append_assoc] at hq
  exact hq
end
section
variable {w0 W W' : World} {L Y : List It}
theorem Ms.grow {e : TypeId} {sz : Nat} {ds rs : List (List Dat)} {v : Value} {b c : List Nat} {news : List Value} (h : Ms w0 (.dt (.rows e sz ds) v b :: (Y ++ L)) W) (hr : OwR W sz rs news c) (hcn : c.Nodup) (hc : ∀ q ∈ c, q ∈ Y.flatMap It.bs) :
  ∃ xs, W.ownsRow 0 e sz v ds.length xs ∧ ∀ g n cap W', W'.ownsRow 0 e sz (.slice (some ⟨g, 0, none⟩) n cap) (ds ++ rs).length (xs ++ news) → W.grownBy W' v.ownBlock → (v.ownBlock = some g ∨ g = W.heap.size) → g < W'.heap.size → ∃ b', Ms w0 (.dt (.rows e sz (ds ++ rs)) (.slice (some ⟨g, 0, none⟩) n cap) b' :: L) W' := by
 have hnd := h.nd
 have hrg := h.rg
 have hlt' := h.blt
 rw [List.flatMap_cons, List.flatMap_append] at hnd hrg hlt'
 obtain ⟨xs, cs, ho, hor, hb⟩ : OwC W (.rows e sz ds) v b := h.at_ (i := 0) rfl
 refine ⟨xs, ho, fun g n cap W' hown hg hat hlt => ?_⟩
 have hbs : (It.dt (.rows e sz ds) v b).bs = v.ownBlock.toList ++ cs := hb
 rw [hbs] at hnd hrg hlt'
 obtain ⟨n1, n2, n3⟩ := List.nodup_append.1 hnd
 obtain ⟨m1, m2, m3⟩ := List.nodup_append.1 n1
 obtain ⟨k1, k2, k3⟩ := List.nodup_append.1 n2
 have inL : ∀ q ∈ L.flatMap It.bs, q < W.heap.size ∧ ¬ v.ownBlock = some q ∧ q ∉ cs ∧ q ∉ c := fun q hq => by
  have hm : q ∈ Y.flatMap It.bs ++ L.flatMap It.bs := List.mem_append_right _ hq
  refine ⟨hlt' q (List.mem_append_right _ hm), fun e => n3 q (List.mem_append_left _ (by rw [e]; simp)) q hm rfl, fun e => n3 q (List.mem_append_right _ e) q hm rfl, fun e => k3 q (hc q e) q hq rfl⟩
 have inc : ∀ q ∈ c, q < W.heap.size ∧ ¬ v.ownBlock = some q ∧ q ∉ cs := fun q hq => by
  have hm : q ∈ Y.flatMap It.bs ++ L.flatMap It.bs := List.mem_append_left _ (hc q hq)
  exact ⟨hlt' q (List.mem_append_right _ hm), fun e => n3 q (List.mem_append_left _ (by rw [e]; simp)) q hm rfl, fun e => n3 q (List.mem_append_right _ e) q hm rfl⟩
 have incs : ∀ q ∈ cs, q < W.heap.size ∧ ¬ v.ownBlock = some q := fun q hq => ⟨hlt' q (List.mem_append_left _ (List.mem_append_right _ hq)), fun e => m3 q (by rw [e]; simp) q hq rfl⟩
 have hkeep : ∀ q, q < W.heap.size → ¬ v.ownBlock = some q → W'.heap[q]? = W.heap[q]? := fun q h1 h2 => hg.block q h1 (fun e => h2 e.symm)
 have hor' := (OwR.keep sz _ _ _ hor (fun q hq => hkeep q (incs q hq).1 (incs q hq).2)).append (OwR.keep sz _ _ _ hr (fun q hq => hkeep q (inc q hq).1 (inc q hq).2.1))
 have gnew : ∀ q, q < W.heap.size → ¬ v.ownBlock = some q → ¬ g = q := fun q h1 h2 e => by
  subst e
  rcases hat with e | e
  ·exact h2 e
  ·omega
 have glo : w0.heap.size ≤ g := by
  rcases hat with e | e
  ·exact hrg g (List.mem_append_left _ (List.mem_append_left _ (by rw [e]; simp)))
  ·have := h.size; omega
 refine ⟨g :: (cs ++ c), fun z hz => ?_, ?_, fun q hq => ?_, h.bl.grown hg h.size (fun k hk => hrg k (List.mem_append_left _ (List.mem_append_left _ (by rw [hk]; simp))))⟩
 ·rcases List.mem_cons.1 hz with rfl | hz
  ·exact ⟨xs ++ news, cs ++ c, hown, hor', rfl⟩
  ·refine It.keep (h.ok z (by simp [hz])) (fun q hq => ?_)
   have hm : q ∈ L.flatMap It.bs := List.mem_flatMap.2 ⟨z, hz, hq⟩
   exact hkeep q (inL q hm).1 (inL q hm).2.1
 ·rw [List.flatMap_cons, List.nodup_append]
  refine ⟨?_, k2, fun a ha a' ha' e => ?_⟩
  ·show (g :: (cs ++ c)).Nodup
   refine List.nodup_cons.2 ⟨fun hq => ?_, List.nodup_append.2 ⟨m2, hcn, fun a ha a' ha' e => ?_⟩⟩
   ·rcases List.mem_append.1 hq with hq | hq
    ·exact gnew g (incs g hq).1 (incs g hq).2 rfl
    ·exact gnew g (inc g hq).1 (inc g hq).2.1 rfl
   ·subst e
    exact (inc a ha').2.2 ha
  ·subst e
   have ha : a ∈ g :: (cs ++ c) := ha
   rcases List.mem_cons.1 ha with rfl | ha
   ·exact gnew a (inL a ha').1 (inL a ha').2.1 rfl
   ·rcases List.mem_append.1 ha with ha | ha
    ·exact (inL a ha').2.2.1 ha
    ·exact (inL a ha').2.2.2 ha
 ·rw [List.flatMap_cons] at hq
  rcases List.mem_append.1 hq with hq | hq
  ·have hq : q ∈ g :: (cs ++ c) := hq
   rcases List.mem_cons.1 hq with rfl | hq
   ·exact glo
   ·rcases List.mem_append.1 hq with hq | hq
    ·exact hrg q (List.mem_append_left _ (List.mem_append_right _ hq))
    ·exact hrg q (List.mem_append_right _ (List.mem_append_left _ (hc q hq)))
  ·exact hrg q (List.mem_append_right _ (List.mem_append_right _ hq))
end
section
variable {w0 W W' : World} {L Y : List It}
theorem agg_inj {xs ys : List Value} (h : Value.agg xs.toArray = Value.agg ys.toArray) : xs = ys := by
 have h2 := congrArg (fun v => match v with | Value.agg a => a.toList | _ => []) h
 simpa using h2
theorem bytes_fit {n b : Nat} (h : n ≤ 2000001) (hb : b ≤ 100000) : n * b ≤ 140737488355328 := by
 have h1 : n * b ≤ n * 100000 := Nat.mul_le_mul_left n hb
 omega
def Elt (t e : TypeId) (z : Value) (sz bytes : Nat) : Prop := ∃ i, Try.prog.underlying t = some (.slice e) ∧ Try.prog.info? e = some i ∧ i.zero = some z ∧ i.size = sz ∧ i.bytes = bytes ∧ z.cells.size = sz ∧ 0 < sz ∧ bytes ≤ 100000
theorem wpList_ms1 {ops : Array Oper} {rest : List Oper} {o : Oper} {a : Act} {Q : Exit → Act → World → Prop} (hgd : o.guard = none) (s x : Operand) (t : TypeId)
  (ho : o.op = .call { callee := .builtin .append, args := #[s, x], argTypes := #[t, t] }) {e : TypeId} {z : Value} {sz bytes : Nat} (he : Elt t e z sz bytes) {ds : List (List Dat)} {r : List Dat} {v : Value} {ys : List Value} {b c : List Nat}
  (h : Ms w0 (.dt (.rows e sz ds) v b :: .dt (.agg r) (.agg ys.toArray) c :: L) W) (hs : a.eval s = v) (hlen : ds.length ≤ 2000000) (g0 c0 : Nat) (hx : a.eval x = .slice (some ⟨g0, 0, none⟩) 1 c0) (hcell : W.heap[g0]? = some (.cells ys.toArray e (0, 0))) (hl : ys.length = sz) (h1 : ∀ u ∈ ys, u.oneCell' = true)
  (K : ∀ A' c' W' b', Ms w0 (.dt (.rows e sz (ds ++ [r])) (.slice A' (ds.length + 1) c') b' :: L) W' → wpList Try.prog ops Q rest (a.put o.dst (.slice A' (ds.length + 1) c')) W') : wpList Try.prog ops Q (o :: rest) a W := by
 obtain ⟨i, ht, hi, hz, hsize, hby, hzs, hsz, hbm⟩ := he
 obtain ⟨ys', hy', hor⟩ : OwC W (.agg r) (.agg ys.toArray) c := h.at_ (i := 1) rfl
 obtain rfl : ys = ys' := agg_inj hy'
 obtain ⟨xs, hown, grow⟩ := Ms.grow (Y := [.dt (.agg r) (.agg ys.toArray) c]) h (OwR.one hor hl) (h.ndAt (i := 1) (x := .dt (.agg r) (.agg ys.toArray) c) rfl) (fun q hq => by simpa [It.bs] using hq)
 refine wpList_append_lies _ hgd s x t ho 0 e i z sz bytes ht hi hz hsize hby hzs hsz v ds.length xs hs hown ⟨g0, 0, none⟩ 1 c0 ys hx (by simp [hl]) (fun j u hu => ?_) h1 (by omega) (by unfold maxLen; omega) ?_ (Nat.zero_le _) _ rfl ?_
 ·rw [add_at, Nat.zero_add]
  exact bxcell hcell (by simpa using hu)
 ·exact bytes_fit (by omega) hbm
 ·intro g cap W' hown' hg hat hlt
  obtain ⟨b', hm⟩ := grow g (ds.length + 1) cap W' (by rw [List.length_append]; exact hown') hg hat hlt
  exact K _ cap W' b' hm
def FlatR (rs : List (List Dat)) (sz : Nat) : Prop := ∀ r ∈ rs, r.length = sz ∧ ∀ d ∈ r, ∃ u : Value, d.flat = some u ∧ u.oneCell' = true
theorem RdC.flatV {w : World} {B : Nat} {d : Dat} {u v : Value} (hf : d.flat = some u) (h : RdC w B d v) : v = u := by
 cases d with
 | int n => injection hf with hf; rw [← hf]; exact h
 | bool n => injection hf with hf; rw [← hf]; exact h
 | str n => injection hf with hf; rw [← hf]; exact h
 | rows e sz ds => cases hf
 | agg ds => cases hf
theorem RdL.flat {w : World} {B : Nat} {ad : Addr} : ∀ {r : List Dat} {o : Nat}, (∀ d ∈ r, ∃ u : Value, d.flat = some u ∧ u.oneCell' = true) → RdL w B ad o r → ∃ ys : List Value, ys.length = r.length ∧ OwL w r ys [] ∧ (∀ u ∈ ys, u.oneCell' = true) ∧ ∀ j u, ys[j]? = some u → w.cell? (ad.add (o + j)) = some u
 | [], o, _, _ => ⟨[], rfl, ⟨rfl, rfl⟩, by simp, fun j u h => by simp at h⟩
 | d :: r, o, hf, h => by
  obtain ⟨⟨v, hv, hd⟩, h2⟩ := h
  obtain ⟨u, hu, h1⟩ := hf d (by simp)
  obtain rfl := RdC.flatV hu hd
  obtain ⟨ys, k1, k2, k3, k4⟩ := RdL.flat (r := r) (o := o + 1) (fun d hd => hf d (by simp [hd])) h2
  refine ⟨v :: ys, by simp [k1], ⟨v, ys, [], [], rfl, rfl, OwC.of_flat hu, k2⟩, fun u hu => ?_, fun j u hj => ?_⟩
  ·rcases List.mem_cons.1 hu with rfl | hu
   ·exact h1
   ·exact k3 u hu
  ·cases j with
   | zero => simp at hj; subst hj; exact hv
   | succ j => have := k4 j u (by simpa using hj); rw [show o + (j + 1) = o + 1 + j by omega]; exact this
theorem RdR.flat {w : World} {B sz : Nat} {ad : Addr} : ∀ {rs : List (List Dat)} {o : Nat}, FlatR rs sz → RdR w B sz ad o rs → ∃ ys : List Value, ys.length = rs.length * sz ∧ OwR w sz rs ys [] ∧ (∀ u ∈ ys, u.oneCell' = true) ∧ ∀ j u, ys[j]? = some u → w.cell? (ad.add (o + j)) = some u
 | [], o, _, _ => ⟨[], by simp, ⟨rfl, rfl⟩, by simp, fun j u h => by simp at h⟩
 | r :: rs, o, hf, h => by
  obtain ⟨h1, h2⟩ := h
  have hl := (hf r (by simp)).1
  obtain ⟨y, k1, k2, k3, k4⟩ := RdL.flat (hf r (by simp)).2 h1
  obtain ⟨ys, l1, l2, l3, l4⟩ := RdR.flat (rs := rs) (o := o + sz) (fun q hq => hf q (by simp [hq])) h2
  refine ⟨y ++ ys, by rw [List.length_append, k1, l1, hl, List.length_cons, Nat.add_mul]; omega, ⟨y, ys, [], [], rfl, by rw [k1, hl], rfl, k2, l2⟩, fun u hu => ?_, fun j u hj => ?_⟩
  ·rcases List.mem_append.1 hu with hu | hu
   ·exact k3 u hu
   ·exact l3 u hu
  ·by_cases hlt : j < y.length
   ·rw [List.getElem?_append_left hlt] at hj
    exact k4 j u hj
   ·rw [List.getElem?_append_right (by omega)] at hj
    have := l4 _ u hj
    rw [show o + j = o + sz + (j - y.length) by omega]
    exact this
theorem wpList_msAll {ops : Array Oper} {rest : List Oper} {o : Oper} {a : Act} {Q : Exit → Act → World → Prop} (hgd : o.guard = none) (s x : Operand) (t : TypeId)
  (ho : o.op = .call { callee := .builtin .append, args := #[s, x], argTypes := #[t, t] }) {e : TypeId} {z : Value} {sz bytes : Nat} (he : Elt t e z sz bytes) {ds rs : List (List Dat)} {v : Value} {b : List Nat}
  (h : Ms w0 (.dt (.rows e sz ds) v b :: L) W) (hs : a.eval s = v) (A : Option Addr) (m c0 : Nat) (hx : a.eval x = .slice A m c0) (hrd : RdC W W.heap.size (.rows e sz rs) (.slice A m c0)) (hfl : FlatR rs sz) (hlen : ds.length + rs.length ≤ 2000000)
  (K : ∀ A' c' W' b', Ms w0 (.dt (.rows e sz (ds ++ rs)) (.slice A' (ds.length + m) c') b' :: L) W' → wpList Try.prog ops Q rest (a.put o.dst (.slice A' (ds.length + m) c')) W') : wpList Try.prog ops Q (o :: rest) a W := by
 obtain ⟨i, ht, hi, hz, hsize, hby, hzs, hsz, hbm⟩ := he
 obtain ⟨A', c', hv, hc, hrd⟩ := hrd
 injection hv with e1 e2 e3
 subst e1 e2 e3
 by_cases h0 : 0 < rs.length
 ·obtain ⟨ad, rfl, hbk, hsp, hrr⟩ := hrd h0
  obtain ⟨ys, k1, k2, k3, k4⟩ := RdR.flat hfl hrr
  obtain ⟨xs, hown, grow⟩ := Ms.grow (Y := []) h k2 (by simp) (by simp)
  refine wpList_append_lies _ hgd s x t ho 0 e i z sz bytes ht hi hz hsize hby hzs hsz v ds.length xs hs hown ad rs.length c0 ys hx k1 (fun j u hu => by have := k4 j u hu; simpa using this) k3 h0 (by unfold maxLen; omega) ?_ (Nat.zero_le _) _ rfl ?_
  ·exact bytes_fit (by omega) hbm
  ·intro g cap W' hown' hg hat hlt
   obtain ⟨b', hm⟩ := grow g (ds.length + rs.length) cap W' (by rw [List.length_append]; exact hown') hg hat hlt
   exact K _ cap W' b' hm
 ·obtain rfl : rs = [] := List.eq_nil_of_length_eq_zero (by omega)
  obtain ⟨xs, cs, hown, _⟩ : OwC W (.rows e sz ds) v b := h.at_ (i := 0) rfl
  refine wpList_append_zero hgd s x t ho 0 e i sz ht hi v ds.length xs hs hown A c0 hx ?_
  obtain ⟨Av, cv, rfl⟩ := own_form hown
  exact K Av cv W b (by simpa using h)
end
def Rng (n : Int) : Prop := -9223372036854775808 ≤ n ∧ n < 9223372036854775808
section
variable {w0 W W' : World} {L L' : List It} {x y : It}
theorem putRow_cells {g : Nat} {T : TypeId} : ∀ {ys : List Value} {cs : Array Value} {o : Nat} {W : World}, o + ys.length = cs.size → W.heap[g]? = some (.cells cs T (0, 0)) → (putRow W g o ys).heap[g]? = some (.cells (cs.toList.take o ++ ys).toArray T (0, 0))
 | [], cs, o, W, hl, h => by
  rw [putRow, h]
  have e : cs.toList.take o = cs.toList := List.take_of_length_le (by simp at hl; simp; omega)
  simp [e]
 | y :: ys, cs, o, W, hl, h => by
  rw [putRow]
  simp only [List.length_cons] at hl
  have h1 := putRow_cells (ys := ys) (cs := cs.setIfInBounds o y) (o := o + 1) (by rw [Array.size_setIfInBounds]; omega) (bxset h y)
  rw [h1]
  have e : (cs.setIfInBounds o y).toList.take (o + 1) = cs.toList.take o ++ [y] := by
   rw [Array.toList_setIfInBounds, List.take_add_one, List.take_set_of_le (Nat.le_refl o)]
   congr 1
   rw [List.getElem?_set_self (by simp; omega)]
   rfl
  rw [e, List.append_assoc]
  rfl
theorem Ms.putRow {g : Nat} {cs : Array Value} {T : TypeId} {ys : List Value} (h : Ms w0 (.bx g (.cells cs T (0, 0)) :: L) W) (hl : ys.length = cs.size) : Ms w0 (.bx g (.cells ys.toArray T (0, 0)) :: L) (low.putRow W g 0 ys) := by
 have hg := h.glt (i := 0) rfl
 have hk := putRow_cells (ys := ys) (o := 0) (by omega) (h.at_ (i := 0) (x := .bx g (.cells cs T (0, 0))) rfl)
 refine h.turn (Nat.le_of_eq (putRow_size g ys W 0).symm) (fun q hq hn => putRow_block g ys W 0 q (fun e => hn (by simp [It.bs]; exact e))) (putRow_below hg.1 ys W 0 h.bl) ?_ (by simp [It.bs]) (fun q hq => .inl hq)
 show (low.putRow W g 0 ys).heap[g]? = _
 simpa using hk
theorem Ms.ne (h : Ms w0 L W) {i j g g' : Nat} {o o' : Obj} (hi : L[i]? = some (.bx g o)) (hj : L[j]? = some (.bx g' o')) (hij : i < j) : ¬ g = g' ∧ ¬ g' = g := by
 have key : ∀ (L : List It) (i j : Nat), i < j → (L.flatMap It.bs).Nodup → L[i]? = some (.bx g o) → L[j]? = some (.bx g' o') → ¬ g = g' := by
  intro L
  induction L with
  | nil => intro i j _ _ hi; simp at hi
  | cons x L ih =>
   intro i j hij hnd hi hj
   rw [List.flatMap_cons, List.nodup_append] at hnd
   cases j with
   | zero => omega
   | succ j =>
    simp only [List.getElem?_cons_succ] at hj
    cases i with
    | zero =>
     simp only [List.getElem?_cons_zero, Option.some.injEq] at hi
     subst hi
     intro e
     subst e
     exact hnd.2.2 g (by simp [It.bs]) g (List.mem_flatMap.2 ⟨_, List.mem_of_getElem? hj, by simp [It.bs]⟩) rfl
    | succ i =>
     simp only [List.getElem?_cons_succ] at hi
     exact ih i j (by omega) hnd.2.1 hi hj
 have := key L i j hij h.nd hi hj
 exact ⟨this, fun e => this e.symm⟩
theorem Ms.pick (h : Ms w0 L W) : ∀ {ks : List Nat} {L' : List It}, ks.Nodup → ks.map (fun k => L[k]?) = L'.map some → Ms w0 L' W := fun {ks L'} hn hm => by
 have hmem : ∀ x ∈ L', x ∈ L := fun x hx => by
  have : some x ∈ ks.map (fun k => L[k]?) := by rw [hm]; exact List.mem_map_of_mem hx
  obtain ⟨k, _, hk⟩ := List.mem_map.1 this
  exact List.mem_of_getElem? hk
 refine ⟨fun x hx => h.ok x (hmem x hx), ?_, fun q hq => ?_, h.bl⟩
 ·have key : ∀ (L : List It) (ks : List Nat) (L' : List It), (L.flatMap It.bs).Nodup → ks.Nodup → ks.map (fun k => L[k]?) = L'.map some → (L'.flatMap It.bs).Nodup := by
   intro L ks
   induction ks with
   | nil => intro L' _ _ hm; cases L' with | nil => simp | cons _ _ => simp at hm
   | cons k ks ih =>
    intro L' hnd hn hm
    cases L' with
    | nil => simp at hm
    | cons x L' =>
     simp only [List.map_cons, List.cons.injEq] at hm
     obtain ⟨hk, hm⟩ := hm
     have hn' := List.nodup_cons.1 hn
     have ih' := ih L' hnd hn'.2 hm
     rw [List.flatMap_cons, List.nodup_append]
     have hp := erase_perm hk
     have hnd2 := (hp.flatMap_right It.bs).nodup_iff.1 hnd
     rw [List.flatMap_cons, List.nodup_append] at hnd2
     refine ⟨hnd2.1, ih', fun a ha b hb e => ?_⟩
     subst e
     obtain ⟨y, hy, hay⟩ := List.mem_flatMap.1 hb
     have : some y ∈ ks.map (fun k => L[k]?) := by rw [hm]; exact List.mem_map_of_mem hy
     obtain ⟨k2, hk2, hky⟩ := List.mem_map.1 this
     have hne : k2 ≠ k := fun e => hn'.1 (e ▸ hk2)
     have hmem2 : y ∈ L.eraseIdx k := by
      rw [List.mem_eraseIdx_iff_getElem?]
      exact ⟨k2, hne, hky⟩
     exact hnd2.2.2 a ha a (List.mem_flatMap.2 ⟨y, hmem2, hay⟩) rfl
  exact key L ks L' h.nd hn hm
 ·obtain ⟨x, hx, hq⟩ := List.mem_flatMap.1 hq
  exact h.rg q (List.mem_flatMap.2 ⟨x, hmem x hx, hq⟩)
theorem Ms.post {d : Dat} {v : Value} {b : List Nat} (h : Ms w0 (.dt d v b :: L) W) : OwnPost d w0 (.returned v) W := ⟨v, rfl, h.own (i := 0) rfl, h.bl⟩
theorem Ms.resB {d : Dat} {v : Value} {b : List Nat} (ok : Bool) (h : Ms w0 (.dt d v b :: L) W) : ResB d ok w0 (.returned (.tuple #[v, .bool ok])) W := ⟨v, rfl, h.own (i := 0) rfl, h.bl⟩
end
section
variable {P : Program} {ops : Array Oper} {Q : Exit → Act → World → Prop} {md : Region.Mode} {S : World → Prop} {fuel : Nat} {listed : Array Bool} {a : Act} {w : World}
theorem tk {v : Value} (i s : Nat) {o : Op} {t : TypeId} {p : String} {af : Array Edge} {gd : Option (Nat × Bool)} (hi : ops[i]? = some ⟨some s, o, t, p, af, gd⟩) (hy : ∀ w, S w → (execOp a.eval ⟨some s, o, t, p, af, gd⟩).run P w = .ok (.value v) w) (hS : S w)
  (h : wpAnyH P md ops Q S fuel (listed.setIfInBounds i true) (a.put (some s) v) w) (hs : Region.noSelect ops = true := by kernel_rfl) (hf : Region.free md ops listed i = true := by kernel_rfl) (hr : (Region.ready md ops listed).contains i = true := by kernel_rfl)
  (hq : ∀ c a w, Q (.panic c) (a.put (some s) v) w → Q (.panic c) a w := by exact fun _ _ _ h => h) (hw : Region.wanted ⟨some s, o, t, p, af, gd⟩ (yielded ops a.tmps) = true := by rfl) : wpAnyH P md ops Q S (fuel + 1) listed a w :=
 wpAnyH_take hi hs hf hr hq (.inl ⟨hw, hy⟩) hS h
theorem tu (i s : Nat) {o : Op} {t : TypeId} {p : String} {af : Array Edge} {gd : Option (Nat × Bool)} (hi : ops[i]? = some ⟨some s, o, t, p, af, gd⟩) (hS : S w)
  (h : wpAnyH P md ops Q S fuel (listed.setIfInBounds i true) (a.put (some s) undef) w) (hs : Region.noSelect ops = true := by kernel_rfl) (hf : Region.free md ops listed i = true := by kernel_rfl) (hr : (Region.ready md ops listed).contains i = true := by kernel_rfl)
  (hq : ∀ c a w, Q (.panic c) (a.put (some s) undef) w → Q (.panic c) a w := by exact fun _ _ _ h => h) (hw : Region.wanted ⟨some s, o, t, p, af, gd⟩ (yielded ops a.tmps) = false := by rfl) : wpAnyH P md ops Q S (fuel + 1) listed a w :=
 wpAnyH_take hi hs hf hr hq (.inr ⟨hw, rfl⟩) hS h
theorem r1 (i : Nat) (d : Option Nat) {o : Op} {t : TypeId} {p : String} {af : Array Edge} {gd : Option (Nat × Bool)} (hi : ops[i]? = some ⟨d, o, t, p, af, gd⟩)
  (h : ∀ K' : Act → World → Prop, Shut (∀ a w, S w → (S w → wpAnyH P md ops Q S fuel (listed.setIfInBounds i true) a w) → K' a w) → if Region.wanted ⟨d, o, t, p, af, gd⟩ (yielded ops a.tmps) = true then Oper.wp P ⟨d, o, t, p, af, gd⟩ a w K' Q else K' (a.put d undef) w)
  (hr : Region.ready md ops listed = [i] := by kernel_rfl) : wpAnyH P md ops Q S (fuel + 1) listed a w := wpAnyH_ready hr (by simp) (AllReadyH.cons hi h AllReadyH.nil)
theorem pa {α : Type} {l : List α} {i : Nat} {x : α} : l.toArray.setIfInBounds i x = (l.set i x).toArray := List.setIfInBounds_toArray ..
theorem pb {α : Type} {l : List α} {x y : α} : (y :: l).set 0 x = x :: l := rfl
theorem gz {α : Type} {l : List α} {x : α} : (x :: l)[0]? = some x := rfl
theorem gs {α : Type} {l : List α} {x : α} {i : Nat} : (x :: l)[i + 1]? = l[i]? := rfl
theorem pc {α : Type} {l : List α} {x y : α} {i : Nat} : (y :: l).set (i + 1) x = y :: l.set i x := rfl
end
section
variable {w0 W : World} {L : List It}
def pk (L : List It) : List Nat → List It
 | [] => []
 | k :: ks => match L[k]? with | some x => x :: pk L ks | none => pk L ks
theorem pk_ok {L : List It} : ∀ {ks : List Nat}, (∀ k ∈ ks, k < L.length) → ks.map (fun k => L[k]?) = (pk L ks).map some
 | [], _ => rfl
 | k :: ks, h => by
  have hk := h k (by simp)
  rw [pk, List.getElem?_eq_getElem hk]
  simp only [List.map_cons, List.getElem?_eq_getElem hk]
  rw [pk_ok (fun q hq => h q (by simp [hq]))]
theorem Ms.pk (h : Ms w0 L W) (ks : List Nat) (hn : ks.Nodup) (hl : ∀ k ∈ ks, k < L.length) : Ms w0 (low.pk L ks) W := h.pick hn (pk_ok hl)
theorem Ms.c1 {g : Nat} {T : TypeId} {a : Value} (h : Ms w0 L W) (i : Nat) (hi : L[i]? = some (.bx g (.cells #[a] T (0, 0)))) : W.cell? ⟨g, 0, none⟩ = some a := h.cell (j := 0) hi rfl
theorem Ms.f1 {g : Nat} {T : TypeId} {a : Value} (h : Ms w0 L W) (i : Nat) (hi : L[i]? = some (.bx g (.cells #[a] T (0, 0)))) : W.frozen? ⟨g, 0, none⟩ = false := h.free (j := 0) hi
theorem Ms.c2 {g : Nat} {T : TypeId} {a b : Value} (h : Ms w0 L W) (i : Nat) (hi : L[i]? = some (.bx g (.cells #[a, b] T (0, 0)))) : W.cell? ⟨g, 0, none⟩ = some a ∧ W.cell? ⟨g, 1, none⟩ = some b := ⟨h.cell (j := 0) hi rfl, h.cell (j := 1) hi rfl⟩
theorem Ms.f2 {g : Nat} {T : TypeId} {a b : Value} (h : Ms w0 L W) (i : Nat) (hi : L[i]? = some (.bx g (.cells #[a, b] T (0, 0)))) : W.frozen? ⟨g, 0, none⟩ = false ∧ W.frozen? ⟨g, 1, none⟩ = false := ⟨h.free (j := 0) hi, h.free (j := 1) hi⟩
theorem Ms.c3 {g : Nat} {T : TypeId} {a b c : Value} (h : Ms w0 L W) (i : Nat) (hi : L[i]? = some (.bx g (.cells #[a, b, c] T (0, 0)))) : W.cell? ⟨g, 0, none⟩ = some a ∧ W.cell? ⟨g, 1, none⟩ = some b ∧ W.cell? ⟨g, 2, none⟩ = some c := ⟨h.cell (j := 0) hi rfl, h.cell (j := 1) hi rfl, h.cell (j := 2) hi rfl⟩
theorem Ms.f3 {g : Nat} {T : TypeId} {a b c : Value} (h : Ms w0 L W) (i : Nat) (hi : L[i]? = some (.bx g (.cells #[a, b, c] T (0, 0)))) : W.frozen? ⟨g, 0, none⟩ = false ∧ W.frozen? ⟨g, 1, none⟩ = false ∧ W.frozen? ⟨g, 2, none⟩ = false := ⟨h.free (j := 0) hi, h.free (j := 1) hi, h.free (j := 2) hi⟩
theorem Ms.c4 {g : Nat} {T : TypeId} {a b c d : Value} (h : Ms w0 L W) (i : Nat) (hi : L[i]? = some (.bx g (.cells #[a, b, c, d] T (0, 0)))) : W.cell? ⟨g, 0, none⟩ = some a ∧ W.cell? ⟨g, 1, none⟩ = some b ∧ W.cell? ⟨g, 2, none⟩ = some c ∧ W.cell? ⟨g, 3, none⟩ = some d := ⟨h.cell (j := 0) hi rfl, h.cell (j := 1) hi rfl, h.cell (j := 2) hi rfl, h.cell (j := 3) hi rfl⟩
theorem Ms.f4 {g : Nat} {T : TypeId} {a b c d : Value} (h : Ms w0 L W) (i : Nat) (hi : L[i]? = some (.bx g (.cells #[a, b, c, d] T (0, 0)))) : W.frozen? ⟨g, 0, none⟩ = false ∧ W.frozen? ⟨g, 1, none⟩ = false ∧ W.frozen? ⟨g, 2, none⟩ = false ∧ W.frozen? ⟨g, 3, none⟩ = false := ⟨h.free (j := 0) hi, h.free (j := 1) hi, h.free (j := 2) hi, h.free (j := 3) hi⟩
theorem Ms.c5 {g : Nat} {T : TypeId} {a b c d e : Value} (h : Ms w0 L W) (i : Nat) (hi : L[i]? = some (.bx g (.cells #[a, b, c, d, e] T (0, 0)))) : W.cell? ⟨g, 0, none⟩ = some a ∧ W.cell? ⟨g, 1, none⟩ = some b ∧ W.cell? ⟨g, 2, none⟩ = some c ∧ W.cell? ⟨g, 3, none⟩ = some d ∧ W.cell? ⟨g, 4, none⟩ = some e := ⟨h.cell (j := 0) hi rfl, h.cell (j := 1) hi rfl, h.cell (j := 2) hi rfl, h.cell (j := 3) hi rfl, h.cell (j := 4) hi rfl⟩
theorem Ms.c6 {g : Nat} {T : TypeId} {a b c d e f : Value} (h : Ms w0 L W) (i : Nat) (hi : L[i]? = some (.bx g (.cells #[a, b, c, d, e, f] T (0, 0)))) : W.cell? ⟨g, 0, none⟩ = some a ∧ W.cell? ⟨g, 1, none⟩ = some b ∧ W.cell? ⟨g, 2, none⟩ = some c ∧ W.cell? ⟨g, 3, none⟩ = some d ∧ W.cell? ⟨g, 4, none⟩ = some e ∧ W.cell? ⟨g, 5, none⟩ = some f := ⟨h.cell (j := 0) hi rfl, h.cell (j := 1) hi rfl, h.cell (j := 2) hi rfl, h.cell (j := 3) hi rfl, h.cell (j := 4) hi rfl, h.cell (j := 5) hi rfl⟩
theorem Ms.apart (h : Ms w0 L W) {i j : Nat} {x y : It} (hi : L[i]? = some x) (hj : L[j]? = some y) (hij : ¬ i = j) {q : Nat} (hq : q ∈ x.bs) (hq' : q ∈ y.bs) : False := by
 have key : ∀ (L : List It) (i j : Nat) (x y : It), i < j → (L.flatMap It.bs).Nodup → L[i]? = some x → L[j]? = some y → q ∈ x.bs → q ∈ y.bs → False := by
  intro L
  induction L with
  | nil => intro i j x y _ _ hi; simp at hi
  | cons z L ih =>
   intro i j x y hij hnd hi hj hq hq'
   rw [List.flatMap_cons, List.nodup_append] at hnd
   cases j with
   | zero => omega
   | succ j =>
    simp only [List.getElem?_cons_succ] at hj
    cases i with
    | zero =>
     simp only [List.getElem?_cons_zero, Option.some.injEq] at hi
     subst hi
     exact hnd.2.2 q hq q (List.mem_flatMap.2 ⟨_, List.mem_of_getElem? hj, hq'⟩) rfl
    | succ i =>
     simp only [List.getElem?_cons_succ] at hi
     exact ih i j x y (by omega) hnd.2.1 hi hj hq hq'
 rcases Nat.lt_or_gt_of_ne hij with hlt | hlt
 ·exact key L i j x y hlt h.nd hi hj hq hq'
 ·exact key L j i y x hlt h.nd hj hi hq' hq
theorem Ms.name (h : Ms w0 L W) : ∃ W', W' = W ∧ Ms w0 L W' := ⟨W, rfl, h⟩
end
theorem SmDo.nameL {x : Do} (h : SmDo x) : x.name.size ≤ 1048576 := by unfold SmDo totDo at h; omega
structure SmD4 (x : Do) : Prop where
 nameL : x.name.size ≤ 1048576
 text : SmI x.text
 list : SmEns x.list
 seen : SmSes x.seen
def entriesB : List En → List En → Bool
 | [], [] => true
 | e :: l, e' :: l' => entrySameB e e' && entriesB l l'
 | _, _ => false
theorem entriesB_step {l l' : List En} {j : Nat} {e e' : En} (h : l[j]? = some e) (h' : l'[j]? = some e') : entriesB (l.drop j) (l'.drop j) = (entrySameB e e' && entriesB (l.drop (j + 1)) (l'.drop (j + 1))) := by
 obtain ⟨h1, e1⟩ := List.getElem?_eq_some_iff.1 h
 obtain ⟨h2, e2⟩ := List.getElem?_eq_some_iff.1 h'
 rw [List.drop_eq_getElem_cons h1, List.drop_eq_getElem_cons h2, e1, e2]
 rfl
theorem signs_put : ∀ {ps : List Pt}, okPs ps = true → (signsIn ps : Int) = sumOf putOf ps
 | [], _ => by simp [signsIn, sumOf]
 | p :: ps, h => by
  unfold okPs at h
  rw [List.all_cons, Bool.and_eq_true] at h
  have ih := signs_put (ps := ps) h.2
  have e1 : signsIn (p :: ps) = p.signs.length + signsIn ps := by simp [signsIn]
  have e2 : sumOf putOf (p :: ps) = putOf p + sumOf putOf ps := by simp [sumOf]
  rw [e1, e2, ← ih]
  have := of_okPt h.1
  unfold putOf
  split <;> omega
theorem op_800 {o : List Pt} (h : okOp o = true) : o.length + signsIn o ≤ 800 := by
 have hh := h
 unfold okOp at h
 rw [Bool.and_eq_true, Bool.and_eq_true] at h
 obtain ⟨⟨h1, _⟩, h3⟩ := h
 have h3 := of_decide_eq_true h3
 obtain ⟨t1, t2, _⟩ := sum_t h1
 unfold partsB at h1
 rw [Bool.and_eq_true] at h1
 have h4 := of_decide_eq_true h1.2
 have hb := sums_bd h1.1 h4
 have hs := signs_put h1.1
 rw [t1, t2] at h3
 omega
theorem isNorm_800 {o : List Pt} (h : isNormL o = true) : o.length + signsIn o ≤ 800 := by
 unfold isNormL at h
 rw [Bool.and_eq_true] at h
 exact op_800 h.1
structure DocIn (x : Do) : Prop where
 name : x.name.size ≤ 8
 from0 : 0 ≤ x.from_
 from1 : x.from_ ≤ 999999000
 text : x.text.length ≤ 200
 list : x.list.length ≤ 8
 ops : sumN totEn x.list ≤ 6400
 seen : x.seen.length ≤ 8
 head : headRevT x = x.from_ + (x.list.length : Int)
def noRi : Ri := ⟨0, 0, false, []⟩
def ringB (x : Ri) : Bool := x.list.all entryB && (inB x.cap 1 6 && (inB x.next 1 1000000000 && (decide ((x.list.length : Int) ≤ x.cap) && (!x.out || decide ((x.list.length : Int) = 0)))))
def ringNewB (room rev : Int) : Bool := inB room 1 6 && inB rev 0 999999999
def ringNewT (room rev : Int) : Ri := if ringNewB room rev = true then ⟨room, rev + 1, false, []⟩ else noRi
def ringPushT (x : Ri) (e : En) : Ri := if ringB x = true ∧ entryB e = true ∧ x.out = false then (if (x.list.length : Int) = x.cap then ⟨x.cap, x.next, true, []⟩ else ⟨x.cap, x.next, x.out, x.list ++ [e]⟩) else x
def ringPollC (x : Ri) (n : Int) : Int := if ringB x = false ∨ n < 1 then 1 else if x.out = true then 9 else 0
def takeN (x : Ri) (n : Int) : Nat := min n.toNat x.list.length
def ringPollT (x : Ri) (n : Int) : Ri := if ringPollC x n = 0 then ⟨x.cap, x.next + (takeN x n : Int), x.out, x.list.drop (takeN x n)⟩ else x
def ringPollL (x : Ri) (n : Int) : List En := if ringPollC x n = 0 then x.list.take (takeN x n) else []
def ringResyncB (x : Ri) (rev : Int) : Bool := ringB x && ringNewB x.cap rev
def ringResyncT (x : Ri) (rev : Int) : Ri := if ringResyncB x rev = true then ⟨x.cap, rev + 1, false, []⟩ else noRi
def ringLagT (x : Ri) : Int := if x.out = true then -1 else (x.list.length : Int)
def ringSameB (x y : Ri) : Bool := decide (x.cap = y.cap) && (decide (x.next = y.next) && (x.out == y.out && entriesB x.list y.list))
theorem ringB_of {x : Ri} (h : ringB x = true) : x.list.all entryB = true ∧ 1 ≤ x.cap ∧ x.cap ≤ 6 ∧ 1 ≤ x.next ∧ x.next ≤ 1000000000 ∧ (x.list.length : Int) ≤ x.cap ∧ (x.out = true → x.list = []) := by
 unfold ringB inB at h
 simp only [Bool.and_eq_true, decide_eq_true_eq, Bool.or_eq_true, Bool.not_eq_true'] at h
 obtain ⟨h1, h2, h3, h4, h5⟩ := h
 refine ⟨h1, by omega, by omega, by omega, by omega, h4, fun ho => ?_⟩
 rcases h5 with h5 | h5
 ·rw [ho] at h5; cases h5
 ·exact List.eq_nil_of_length_eq_zero (by omega)
theorem entry_800 {e : En} (h : entryB e = true) : totEn e ≤ 800 := by
 unfold entryB at h
 rw [Bool.and_eq_true] at h
 exact isNorm_800 h.2
theorem all_800 : ∀ {l : List En}, l.all entryB = true → sumN totEn l ≤ 800 * l.length
 | [], _ => by simp [sumN]
 | e :: l, h => by
  rw [List.all_cons, Bool.and_eq_true] at h
  have h1 := entry_800 h.1
  have h2 := all_800 h.2
  rw [sumN_cons, List.length_cons]
  omega
def Res2N (d d' : Dat) (n : Int) (w : World) (e : Ending) (w' : World) : Prop :=
 ∃ v v' b b', e = .returned (.tuple #[v, v', .int .i64 n]) ∧ OwB w.heap.size w'.heap.size w' d v b ∧ OwB w.heap.size w'.heap.size w' d' v' b' ∧ (∀ x ∈ b, x ∉ b') ∧ Below w.heap.size w w'
end Go.Proofs.Ytglklgnggkenhaa.low
namespace Go.Proofs.Ytglklgnggkenhaa.low
set_option linter.unusedVariables false
end Go.Proofs.Ytglklgnggkenhaa.low
namespace Go.Proofs.Ytglklgnggkenhaa.low
open Go.RowKit
set_option linter.unusedVariables false
theorem elt_of {t e : TypeId} {z : Value} {sz bytes : Nat} (hu : Try.prog.underlying t = some (.slice e)) (hi : (Try.prog.info? e).map (fun i => (i.zero, i.size, i.bytes)) = some (some z, sz, bytes)) (h1 : z.cells.size = sz) (h2 : 0 < sz) (h3 : bytes ≤ 100000) : Elt t e z sz bytes := by
 obtain ⟨i, k1, k2⟩ := Option.map_eq_some_iff.1 hi
 simp only [Prod.mk.injEq] at k2
 exact ⟨i, hu, k1, k2.1, k2.2.1, k2.2.2, h1, h2, h3⟩
theorem eltInt : Elt 91 3 (.int .i64 0) 1 8 := elt_of (by kernel_rfl) (by kernel_rfl) rfl (by omega) (by omega)
theorem eltEn : Elt 23 32 (.agg #[.int .i64 0, .int .i64 0, .slice none 0 0]) 3 40 := elt_of (by kernel_rfl) (by kernel_rfl) rfl (by omega) (by omega)
theorem flatI (zs : List Int) : FlatR (zs.map fun z => [.int z]) 1 := fun r hr => by
 obtain ⟨z, _, rfl⟩ := List.mem_map.1 hr
 exact ⟨rfl, fun d hd => by rw [List.mem_singleton] at hd; subst hd; exact ⟨_, rfl, rfl⟩⟩
theorem isNormL_nm {ps : List Pt} (h : okOp ps = true) : isNormL (normL ps) = true := by
 unfold isNormL
 rw [(norm_ok h).1, norm_norm, samePs_self]
 rfl
section
variable {w0 W W' : World} {L : List It} {g : Nat} {o : Obj}
theorem Ms.draw (h : Ms w0 (.bx g o :: L) W) (dc : DC w0.heap.size g W') (fr : Fr (fun q => q = g) W W') (bl : Below w0.heap.size W W') : ∃ o', Ms w0 (.bx g o' :: L) W' := by
 obtain ⟨A, c, zs, i, hh, hd, _⟩ := dc
 exact ⟨_, h.turn fr.size (fun q hq hn => fr.block q hq (fun e => hn (by simp [It.bs]; exact e))) (h.bl.trans bl) hd (by simp [It.bs]) (fun q hq => .inl hq)⟩
theorem Ms.drawD {d : Dat} {v : Value} {b : List Nat} (h : Ms w0 (.bx g o :: L) W) (ow : OwB W.heap.size W'.heap.size W' d v b) (dc : DC w0.heap.size g W') (fr : Fr (fun q => q = g) W W') (bl : Below w0.heap.size W W') : ∃ o', Ms w0 (.dt d v b :: .bx g o' :: L) W' := by
 obtain ⟨o', h2⟩ := h.draw dc fr bl
 have hlt := h.blt
 refine ⟨o', fun x hx => ?_, ?_, fun q hq => ?_, h2.bl⟩
 ·rcases List.mem_cons.1 hx with rfl | hx
  ·exact ow.ow
  ·exact h2.ok x hx
 ·rw [List.flatMap_cons, List.nodup_append]
  refine ⟨ow.nd, h2.nd, fun a ha b' hb e => ?_⟩
  subst e
  have h3 := (ow.rng a ha).1
  have h4 : a ∈ (It.bx g o :: L).flatMap It.bs := by simpa [It.bs] using hb
  have := hlt a h4
  omega
 ·rw [List.flatMap_cons] at hq
  rcases List.mem_append.1 hq with hq | hq
  ·exact Nat.le_trans h.size (ow.rng q hq).1
  ·exact h2.rg q hq
end
def EntP (B g : Nat) (w : World) (e : Ending) (w' : World) : Prop := ∃ x v b, e = .returned v ∧ entryB x = true ∧ OwB w.heap.size w'.heap.size w' (datEn x) v b ∧ DC B g w' ∧ Fr (fun q => q = g) w w' ∧ Below B w w'
theorem specEntry10_d (B g : Nat) (w : World) (h : DC B g w) : Calls Try.prog 31 #[.pointer (some ⟨g, 0, none⟩)] w (EntP B g w) := by
 have hBg := h.low
 have hgl := h.lt
 have bA := alloc_below w (.cells #[.int .i64 0, .int .i64 0, .slice none 0 0] 32)
 have bx := Bx.new w #[.int .i64 0, .int .i64 0, .slice none 0 0] 32
 have zA : (w.alloc (.cells #[.int .i64 0, .int .i64 0, .slice none 0 0] 32)).heap.size = w.heap.size + 1 := World.size_alloc _ _
 have dc := h.past bA
 have fr : Fr (fun q => q = g) w (w.alloc (.cells #[.int .i64 0, .int .i64 0, .slice none 0 0] 32)) := Fr.below bA
 have bl : Below B w (w.alloc (.cells #[.int .i64 0, .int .i64 0, .slice none 0 0] 32)) := bA.mono (by omega)
 go_enter Try.func31, Try.ntmps31
 go_wp2_with fail
 generalize w.alloc (.cells #[.int .i64 0, .int .i64 0, .slice none 0 0] 32) = w1 at *
 refine (specBelow_d B g 3 _ dc (by omega)).mono ?_
 rintro e w2 ⟨x, rfl, ⟨x0, x1, _⟩, dc2, fr2, bl2⟩
 replace x1 := x1 (by omega)
 have bx2 : Bx w2 w.heap.size _ _ := (fr2.block w.heap.size (by omega) (by omega)).trans bx
 have FR := fr.trans fr2
 have BL := bl.trans bl2
 have gx : IntKind.i64.wrap (1 + x) = 1 + x := IntWalk.i64_in _ (by omega)
 clear fr fr2 bl bl2 bx dc bA
 go_wp2_with fail
 refine (specBelow_d B g 9 _ dc2 (by omega)).mono ?_
 rintro e w3 ⟨y, rfl, ⟨y0, y1, _⟩, dc3, fr3, bl3⟩
 replace y1 := y1 (by omega)
 have z2 := fr3.size
 have zF := FR.size
 have bx3 : Bx w3 w.heap.size _ _ := (fr3.block w.heap.size bx2.lt (by omega)).trans bx2
 have FR := FR.trans fr3
 have BL := BL.trans bl3
 have gy : IntKind.i64.wrap (1 + y) = 1 + y := IntWalk.i64_in _ (by omega)
 clear fr3 bl3 bx2 dc2
 go_wp2_with fail
 refine (specBelow_d B g 4 _ dc3 (by omega)).mono ?_
 rintro e w4 ⟨n, rfl, ⟨n0, n1, _⟩, dc4, fr4, bl4⟩
 replace n1 := n1 (by omega)
 obtain ⟨m, rfl⟩ := Int.eq_ofNat_of_zero_le n0
 have bx4 : Bx w4 w.heap.size _ _ := (fr4.block w.heap.size bx3.lt (by omega)).trans bx3
 have FR := FR.trans fr4
 have BL := BL.trans bl4
 clear fr4 bl4 bx3 dc3
 go_wp2_with fail
 refine (specDraw_d B g m _ dc4 (by omega)).mono ?_
 rintro e w5 ⟨ps, vo, ko, rfl, oo, -, -, -, smo, owo, dc5, fr5, bl5⟩
 have bx5 : Bx w5 w.heap.size _ _ := (fr5.block w.heap.size bx4.lt (by omega)).trans bx4
 have z5 := bx4.lt
 have z6 := fr5.size
 have FR := FR.trans fr5
 have BL := BL.trans bl5
 obtain ⟨Ao, co, rfl, ro, _⟩ := parts_rd owo.read
 have HRD := Lib.hid owo.read
 clear fr5 bl5 bx4 dc4 owo ro
 go_wp2_with fail
 refine (specOpNorm_d _ ps _ HRD.out smo).mono ?_
 rintro e w6 ⟨vn, rfl, on, b6⟩
 obtain ⟨An, cn, rfl⟩ := sliceP on.read
 have z7 := b6.size
 have z8 := dc5.lt
 have bx6 := bx5.past b6
 have dc6 := dc5.past b6
 have FR := FR.trans (Fr.below b6)
 have BL := BL.trans (b6.mono (by omega))
 have k0 : w6.cell? ⟨w.heap.size, 0, none⟩ = some (.int .i64 0) := bx6.cell (j := 0) rfl
 have k1 : w6.cell? ⟨w.heap.size, 1, none⟩ = some (.int .i64 0) := bx6.cell (j := 1) rfl
 have k2 : w6.cell? ⟨w.heap.size, 2, none⟩ = some (.slice none 0 0) := bx6.cell (j := 2) rfl
 have f0 := bxfree (j := 0) bx6
 have f1 := bxfree (j := 1) bx6
 have f2 := bxfree (j := 2) bx6
 have HN := Lib.hid (isNormL_nm oo)
 clear HRD dc5 bx5
 go_wp2
 clear k0 k1 k2 f0 f1 f2
 have hx9 := putRow_cells (ys := [.int .i64 (1 + x), .int .i64 (1 + y), .slice An (normL ps).length cn]) (o := 0) rfl bx6
 have o9 := on.putRow (g := w.heap.size) (.inl (by omega)) [.int .i64 (1 + x), .int .i64 (1 + y), .slice An (normL ps).length cn] _ 0
 have b9 : Below B w6 (putRow w6 w.heap.size 0 [.int .i64 (1 + x), .int .i64 (1 + y), .slice An (normL ps).length cn]) := putRow_below (by omega) _ _ _ (Below.refl _ _)
 have z9 : (putRow w6 w.heap.size 0 [.int .i64 (1 + x), .int .i64 (1 + y), .slice An (normL ps).length cn]).heap.size = w6.heap.size := putRow_size _ _ _ _
 have fr9 : Fr (fun q => q = g) w (putRow w6 w.heap.size 0 [.int .i64 (1 + x), .int .i64 (1 + y), .slice An (normL ps).length cn]) := ⟨by have := FR.size; omega, fun b hb hn => (putRow_block _ _ _ _ _ (by omega)).trans (FR.block b hb hn)⟩
 have dc9 : DC B g (putRow w6 w.heap.size 0 [.int .i64 (1 + x), .int .i64 (1 + y), .slice An (normL ps).length cn]) := dc6.keep (putRow_block _ _ _ _ _ (by omega)) (fun p hp => b9.cell hp)
 simp only [putRow, Nat.zero_add, Nat.reduceAdd] at hx9 o9 b9 z9 fr9 dc9
 generalize (((w6.setCell ⟨w.heap.size, 0, none⟩ (.int .i64 (1 + x))).setCell ⟨w.heap.size, 1, none⟩ (.int .i64 (1 + y))).setCell ⟨w.heap.size, 2, none⟩ (.slice An (normL ps).length cn)) = w9 at hx9 o9 b9 z9 fr9 dc9 ⊢
 have q0 : w9.cell? ⟨w.heap.size, 0, none⟩ = some (.int .i64 (1 + x)) := bxcell (j := 0) hx9 rfl
 have q1 : w9.cell? ⟨w.heap.size, 1, none⟩ = some (.int .i64 (1 + y)) := bxcell (j := 1) hx9 rfl
 have q2 : w9.cell? ⟨w.heap.size, 2, none⟩ = some (.slice An (normL ps).length cn) := bxcell (j := 2) hx9 rfl
 have hown : Own w.heap.size w9.heap.size w9 (datEn ⟨1 + x, 1 + y, normL ps⟩) (.agg #[.int .i64 (1 + x), .int .i64 (1 + y), .slice An (normL ps).length cn]) := OwnL.agg (OwnL.flat rfl (OwnL.flat rfl (OwnL.own (lo := w.heap.size) (mid := w9.heap.size) (o9.wide (by omega) (by omega) (Nat.le_refl _)) (OwnL.nil (Nat.le_refl _) (Nat.le_refl _)))))
 obtain ⟨b, hb⟩ := hown.blocks
 refine bodyPost_ret (v := .agg #[.int .i64 (1 + x), .int .i64 (1 + y), .slice An (normL ps).length cn]) (by simp [results, Try.results31, go_sem, q0, q1, q2]) rfl ⟨⟨1 + x, 1 + y, normL ps⟩, _, b, rfl, ?_, hb, dc9, fr9, BL.trans b9⟩
 show (inB (1 + x) 1 8 && inB (1 + y) 1 1000000000 && isNormL (normL ps)) = true
 rw [inB_t (by omega), inB_t (by omega), HN.out]
 rfl
theorem DC.ms {w0 W W' : World} {L L' : List It} {g i j : Nat} {o : Obj} (h : DC w0.heap.size g W) (hm : Ms w0 L W) (hm' : Ms w0 L' W') (hi : L[i]? = some (.bx g o)) (hj : L'[j]? = some (.bx g o)) : DC w0.heap.size g W' :=
 h.keep ((show W'.heap[g]? = some o from hm'.at_ hj).trans (show W.heap[g]? = some o from hm.at_ hi).symm) (fun p hp => (hm'.bl.cell hp).trans (hm.bl.cell hp).symm)
theorem Ms.newC {w w1 : World} (dc : DC w.heap.size w.heap.size w1) (hb : Below w.heap.size w w1) : ∃ o, Ms w [.bx w.heap.size o] w1 := by
 obtain ⟨A, c, zs, i, hh, hd, _⟩ := dc
 exact ⟨_, (Ms.start w).cons hb hd (by simp [It.bs]) (fun q hq => by simp [It.bs] at hq; omega)⟩
def MEnts (w : World) (e : Ending) (w' : World) : Prop := ∃ l v, e = .returned v ∧ l.all entryB = true ∧ l.length ≤ 11 ∧ RdC w' w'.heap.size (encEns l) v ∧ Below w.heap.size w w'
theorem specMakeEntries_d (v : Value) (w : World) (h : Code8 w v) : Calls Try.prog 9 #[v] w (MEnts w) := by
 obtain ⟨A0, c0, zs0, rfl, _⟩ : ∃ A c zs, v = .slice A (List.length (α := Int) zs) c ∧ True := by obtain ⟨A, c, zs, e, _⟩ := h; exact ⟨A, c, zs, e, trivial⟩
 go_enter Try.func9, Try.ntmps9
 go_wp2_with fail
 refine (specNew_d _ w h).mono ?_
 rintro e w1 ⟨rfl, dc, b1⟩
 obtain ⟨ob, hm⟩ := Ms.newC dc b1
 have HM := Lib.hid hm
 clear hm
 have bA := alloc_below w1 (.cells #[] 32)
 have dcA := dc.past bA
 replace HM := Lib.hid (HM.out.empty 32 3)
 go_wp2_with fail
 generalize w1.heap.size = gl at HM ⊢
 generalize w1.alloc (.cells #[] 32) = w2 at HM dcA bA ⊢
 refine (specBelow_d w.heap.size w.heap.size 12 _ dcA (by omega)).mono ?_
 rintro e w3 ⟨n, rfl, ⟨n0, n1, _⟩, dc3, fr3, bl3⟩
 replace n1 := n1 (by omega)
 obtain ⟨m, rfl⟩ := Int.eq_ofNat_of_zero_le n0
 obtain ⟨o3, hm⟩ := (HM.out.perm (.swap _ _ _)).draw dc3 fr3 bl3
 replace HM := Lib.hid hm
 clear hm dcA bA dc fr3 bl3 b1
 go_wp2
 go_loopw [4, 5] (fun ov iv wr => ∃ (k : Nat) (l : List En) (A : Option Addr) (c : Nat) (bs : List Nat) (o : Obj), l.length + k ≤ 11 ∧ iv = .int .i64 (k : Int) ∧ ov = .slice A l.length c ∧ l.all entryB = true ∧ DC w.heap.size w.heap.size wr ∧ Ms w [.bx w.heap.size o, .dt (.rows 32 3 (l.map encEn)) (.slice A l.length c) bs] wr) (fun _ iv _ => (intOf iv).toNat)
 case atStart => exact ⟨m, [], _, _, _, o3, by simp; omega, rfl, rfl, rfl, dc3, HM.out⟩
 case round =>
  obtain ⟨k, l, A, c, bs, o, hk, rfl, rfl, hall, dcr, hm⟩ := hrel
  clear HM
  have HM := Lib.hid hm
  have HA := Lib.hid hall
  clear hm hall
  by_cases hk0 : 0 < k
  ·go_wp2_with fail
   refine (specEntry10_d w.heap.size w.heap.size _ dcr).mono ?_
   rintro e w5 ⟨x, vx, bx, rfl, hx, owx, dc5, fr5, bl5⟩
   obtain ⟨Ax, cx, rfl, -⟩ := aggEn owx.read
   obtain ⟨o5, hm⟩ := HM.out.drawD owx dc5 fr5 bl5
   replace HM := Lib.hid hm
   have HX := Lib.hid hx
   clear hm owx hx fr5 bl5 dcr
   have HM0 := HM
   replace HM := Lib.hid (HM.out.new #[.int .i64 x.client, .int .i64 x.seq, .slice Ax x.o.length cx] 32)
   have hm := HM.out.pk [3, 1, 0, 2] (by decide) (by simp)
   simp only [low.pk, low.gz, low.gs] at hm
   replace HM := Lib.hid hm
   clear hm
   have hll : l.length ≤ 11 := by omega
   go_wp2_with (at_builtin; refine wpList_ms1 rfl (.tmp 15) (.tmp 18) 23 rfl eltEn HM.out rfl (by simp; omega) w5.heap.size _ rfl (HM.out.at_ (i := 2) rfl) rfl (by simp [Value.oneCell']) ?_; intro A7 c7 w7 b7 hm)
   have e1 : (l.map encEn).length = l.length := by simp
   rw [e1] at hm
   try rw [e1]
   have HM7 := Lib.hid hm
   have DC7 := Lib.hid (dc5.ms (i := 1) (j := 2) HM0.out hm rfl rfl)
   clear hm e1 HM HM0 dc5
   go_wp2
   go_roundw
   case rel => exact ⟨k - 1, l ++ [x], A7, c7, b7, o5, by simp; omega, by go_num, by simp, by rw [List.all_append, HA.out]; simp [HX.out], DC7.out, by have hm := (show Ms w [.bx w.heap.size o5, .dt (.rows 32 3 (l.map encEn ++ [encEn x])) (.slice A7 (l.length + 1) c7) b7] _ from HM7.out.pick (ks := [2, 0]) (by decide) rfl); rw [show (l ++ [x]).map encEn = l.map encEn ++ [encEn x] by simp, show (l ++ [x]).length = l.length + 1 by simp]; exact hm⟩
   case measure => simp [intOf]; omega
  ·obtain rfl : k = 0 := by omega
   go_wp2
   go_ret
   exact ⟨l, _, rfl, HA.out, by omega, HM.out.read (i := 1) rfl, HM.out.bl⟩
def Raw (W : World) (g k : Nat) (raw : List Value) : Prop := ∃ cur T, W.heap[g]? = some (.cells cur T (0, 0)) ∧ ∀ t u, k ≤ t → raw[t]? = some u → cur[t]? = some u
theorem Raw.cell {W : World} {g k t : Nat} {raw : List Value} {u : Value} (h : Raw W g k raw) (hk : k ≤ t) (hu : raw[t]? = some u) : W.cell? ⟨g, t, none⟩ = some u := by
 obtain ⟨cur, T, hh, hc⟩ := h
 exact bxcell hh (hc t u hk hu)
theorem Raw.free {W : World} {g k t : Nat} {raw : List Value} (h : Raw W g k raw) : W.frozen? ⟨g, t, none⟩ = false := by
 obtain ⟨cur, T, hh, hc⟩ := h
 exact bxfree hh
theorem Raw.keep {W W' : World} {g k : Nat} {raw : List Value} (h : Raw W g k raw) (hk : W'.heap[g]? = W.heap[g]?) : Raw W' g k raw := by
 obtain ⟨cur, T, hh, hc⟩ := h
 exact ⟨cur, T, hk.trans hh, hc⟩
theorem Raw.lt {W : World} {g k : Nat} {raw : List Value} (h : Raw W g k raw) : g < W.heap.size := by
 obtain ⟨cur, T, hh, hc⟩ := h
 exact lt_of_some hh
theorem Raw.past {W W' : World} {g k : Nat} {raw : List Value} (h : Raw W g k raw) (hb : Below W.heap.size W W') : Raw W' g k raw := h.keep (hb.block g h.lt)
theorem Raw.set {W : World} {g k k' : Nat} {raw : List Value} (h : Raw W g k raw) (o : Nat) (u : Value) (h1 : k ≤ k') (h2 : o < k') : Raw (W.setCell ⟨g, o, none⟩ u) g k' raw := by
 obtain ⟨cur, T, hh, hc⟩ := h
 refine ⟨_, T, bxset (j := o) hh u, fun t v ht hv => ?_⟩
 rw [Array.getElem?_setIfInBounds_ne (by omega)]
 exact hc t v (by omega) hv
section
variable {w0 W : World} {L : List It}
theorem Ms.fill3 {g n cap : Nat} {e : TypeId} {ds : List (List Dat)} {d : Dat} {v : Value} {b c : List Nat} {x y : Int} {raw : List Value} (h : Ms w0 (.dt (.rows e 3 ds) (.slice (some ⟨g, 0, none⟩) n cap) b :: .dt d v c :: L) W) (hn : n = ds.length) (hcap : n < cap)
  (hr : Raw W g (n * 3) raw) (hx : raw[n * 3]? = some (.int .i64 x)) (hy : raw[n * 3 + 1]? = some (.int .i64 y)) :
  ∃ b', Ms w0 (.dt (.rows e 3 (ds ++ [[.int x, .int y, d]])) (.slice (some ⟨g, 0, none⟩) (n + 1) cap) b' :: L) (W.setCell ⟨g, n * 3 + 2, none⟩ v) := by
 subst hn
 have hd : OwC W d v c := h.at_ (i := 1) rfl
 have hrow : OwR W 3 [[.int x, .int y, d]] [.int .i64 x, .int .i64 y, v] c := OwR.one ⟨_, _, [], c, rfl, rfl, ⟨rfl, rfl⟩, _, _, [], c, rfl, rfl, ⟨rfl, rfl⟩, v, [], c, [], rfl, by simp, hd, rfl, rfl⟩ rfl
 obtain ⟨xs, hown, grow⟩ := Ms.grow (Y := [.dt d v c]) h hrow (h.ndAt (i := 1) (x := .dt d v c) rfl) (fun q hq => by simpa [It.bs] using hq)
 obtain ⟨hxs, hcase⟩ := hown
 rcases hcase with ⟨h0, _⟩ | ⟨g', cap', cur, hv, _, hh, hnc, hcm, hcs, htk⟩
 ·cases h0
 injection hv with hv1 _ hv3
 injection hv1 with hv1
 injection hv1 with hv1 _ _
 subst hv1 hv3
 obtain ⟨cur', T', hh', hc'⟩ := hr
 rw [hh] at hh'
 injection hh' with hh'
 injection hh' with e1 e2 _
 subst e1 e2
 have q0 := hc' _ _ (Nat.le_refl _) hx
 have q1 := hc' _ _ (by omega) hy
 have hb := Below.heap_setCell W ⟨g, ds.length * 3 + 2, none⟩ v
 refine grow g (ds.length + 1) cap _ ?_ ⟨rfl, rfl, rfl, by simp [World.setCell], fun k hk hne => Below.heap_setCell _ _ _ _ (fun e => hne (by rw [e]; rfl))⟩ (.inl rfl) (by simp only [World.setCell, Array.size_modify]; exact lt_of_some hh)
 refine ⟨by simp [hxs]; omega, .inr ⟨g, cap, cur.setIfInBounds (ds.length * 3 + 2) v, by simp, Nat.zero_le _, bxset hh v, by simp; omega, hcm, by simpa using hcs, ?_⟩⟩
 have hsz : ds.length * 3 + 3 ≤ cur.toList.length := by
  have e : cur.toList.length = cap * 3 := by rw [Array.length_toList]; exact hcs
  rw [e]
  have : (ds.length + 1) * 3 ≤ cap * 3 := Nat.mul_le_mul_right 3 hcap
  omega
 rw [Array.toList_setIfInBounds, List.length_append, List.length_singleton, Nat.add_mul, Nat.one_mul]
 have l0 : cur.toList[ds.length * 3]? = some (.int .i64 x) := by rw [Array.getElem?_toList]; exact q0
 have l1 : cur.toList[ds.length * 3 + 1]? = some (.int .i64 y) := by rw [Array.getElem?_toList]; exact q1
 apply List.ext_getElem?
 intro t
 rw [List.getElem?_take]
 by_cases ht : t < ds.length * 3
 ·rw [if_pos (by omega), List.getElem?_set_ne (by omega), List.getElem?_append_left (by rw [hxs]; exact ht), ← htk, List.getElem?_take, if_pos ht]
 ·rw [List.getElem?_append_right (by rw [hxs]; omega), hxs]
  by_cases h3 : t < ds.length * 3 + 3
  ·rw [if_pos h3]
   obtain ⟨k, rfl⟩ : ∃ k, t = ds.length * 3 + k := ⟨t - ds.length * 3, by omega⟩
   rw [Nat.add_sub_cancel_left]
   have hk : k = 0 ∨ k = 1 ∨ k = 2 := by omega
   rcases hk with rfl | rfl | rfl
   ·rw [List.getElem?_set_ne (by omega), Nat.add_zero, l0]
    rfl
   ·rw [List.getElem?_set_ne (by omega), l1]
    rfl
   ·rw [List.getElem?_set_self (by omega)]
    rfl
  ·rw [if_neg h3, List.getElem?_eq_none (by simp; omega)]
end
theorem RdL.vals {w : World} {B : Nat} {ad : Addr} : ∀ {r : List Dat} {o : Nat}, RdL w B ad o r → ∃ ys : List Value, ys.length = r.length ∧ RdV w B r ys ∧ ∀ j u, ys[j]? = some u → w.cell? (ad.add (o + j)) = some u
 | [], o, _ => ⟨[], rfl, rfl, fun j u h => by simp at h⟩
 | d :: r, o, h => by
  obtain ⟨⟨v, hv, hd⟩, h2⟩ := h
  obtain ⟨ys, h3, h4, h5⟩ := RdL.vals h2
  refine ⟨v :: ys, by simp [h3], ⟨v, ys, rfl, hd, h4⟩, fun j u hu => ?_⟩
  cases j with
  | zero => simp at hu; subst hu; exact hv
  | succ j =>
   have := h5 j u (by simpa using hu)
   rwa [show o + (j + 1) = o + 1 + j by omega]
theorem RdR.vals {w : World} {B sz : Nat} {ad : Addr} : ∀ {rs : List (List Dat)} {o : Nat}, (∀ r ∈ rs, r.length = sz) → RdR w B sz ad o rs → ∃ ys : List Value, ys.length = rs.length * sz ∧ (∀ i r, rs[i]? = some r → ∃ y, RdV w B r y ∧ y.length = sz ∧ ∀ k u, y[k]? = some u → ys[i * sz + k]? = some u) ∧ ∀ j u, ys[j]? = some u → w.cell? (ad.add (o + j)) = some u
 | [], o, _, _ => ⟨[], by simp, fun i r h => by simp at h, fun j u h => by simp at h⟩
 | r :: rs, o, hl, h => by
  obtain ⟨y, y1, y2, y3⟩ := RdL.vals h.1
  obtain ⟨ys, h3, h4, h5⟩ := RdR.vals (rs := rs) (fun q hq => hl q (by simp [hq])) h.2
  have hy : y.length = sz := by rw [y1]; exact hl r (by simp)
  refine ⟨y ++ ys, by rw [List.length_append, hy, h3, List.length_cons, Nat.add_mul]; omega, fun i q hq => ?_, fun j u hu => ?_⟩
  ·cases i with
   | zero =>
    simp at hq
    subst hq
    refine ⟨y, y2, hy, fun k u hu => ?_⟩
    rw [Nat.zero_mul, Nat.zero_add, List.getElem?_append_left (idx_lt hu)]
    exact hu
   | succ i =>
    obtain ⟨z, z1, z2, z3⟩ := h4 i q (by simpa using hq)
    refine ⟨z, z1, z2, fun k u hu => ?_⟩
    rw [List.getElem?_append_right (by rw [hy, Nat.add_mul]; omega), hy, show (i + 1) * sz + k - sz = i * sz + k by rw [Nat.add_mul]; omega]
    exact z3 k u hu
  ·by_cases hj : j < sz
   ·rw [List.getElem?_append_left (by omega)] at hu
    exact y3 j u hu
   ·rw [List.getElem?_append_right (by omega), hy] at hu
    have := h5 (j - sz) u hu
    rwa [show o + sz + (j - sz) = o + j by omega] at this
def Dat.one : Dat → Bool
 | .agg _ => false
 | _ => true
theorem RdC.oneCell {w : World} {B : Nat} {d : Dat} {v : Value} (h : RdC w B d v) (hd : d.one = true) : v.oneCell' = true := by
 cases d with
 | int n => have h : v = .int .i64 n := h; rw [h]; rfl
 | bool b => have h : v = .bool b := h; rw [h]; rfl
 | str s => have h : v = .string s := h; rw [h]; rfl
 | rows e sz ds => obtain ⟨A, c, rfl, _⟩ := h; rfl
 | agg ds => cases hd
theorem RdV.ones {w : World} {B : Nat} : ∀ {r : List Dat} {ys : List Value}, (∀ d ∈ r, d.one = true) → RdV w B r ys → ∀ u ∈ ys, u.oneCell' = true
 | [], ys, _, h, u, hu => by
  have h : ys = [] := h
  subst h
  simp at hu
 | d :: r, ys, hd, h, u, hu => by
  obtain ⟨x, xs, rfl, h1, h2⟩ := h
  rcases List.mem_cons.1 hu with rfl | hu
  ·exact h1.oneCell (hd d (by simp))
  ·exact RdV.ones (fun q hq => hd q (by simp [hq])) h2 u hu
theorem RdR.ones {w : World} {B sz : Nat} {ad : Addr} : ∀ {rs : List (List Dat)} {o : Nat}, (∀ r ∈ rs, r.length = sz ∧ ∀ d ∈ r, d.one = true) → RdR w B sz ad o rs → ∃ ys : List Value, ys.length = rs.length * sz ∧ (∀ i r, rs[i]? = some r → ∃ y, RdV w B r y ∧ y.length = sz ∧ ∀ k u, y[k]? = some u → ys[i * sz + k]? = some u) ∧ (∀ u ∈ ys, u.oneCell' = true) ∧ ∀ j u, ys[j]? = some u → w.cell? (ad.add (o + j)) = some u
 | [], o, _, _ => ⟨[], by simp, fun i r h => by simp at h, by simp, fun j u h => by simp at h⟩
 | r :: rs, o, hl, h => by
  obtain ⟨y, y1, y2, y3⟩ := RdL.vals h.1
  obtain ⟨ys, h3, h4, h5, h6⟩ := RdR.ones (rs := rs) (fun q hq => hl q (by simp [hq])) h.2
  have hy : y.length = sz := by rw [y1]; exact (hl r (by simp)).1
  refine ⟨y ++ ys, by rw [List.length_append, hy, h3, List.length_cons, Nat.add_mul]; omega, fun i q hq => ?_, fun u hu => ?_, fun j u hu => ?_⟩
  ·cases i with
   | zero =>
    simp at hq
    subst hq
    refine ⟨y, y2, hy, fun k u hu => ?_⟩
    rw [Nat.zero_mul, Nat.zero_add, List.getElem?_append_left (idx_lt hu)]
    exact hu
   | succ i =>
    obtain ⟨z, z1, z2, z3⟩ := h4 i q (by simpa using hq)
    refine ⟨z, z1, z2, fun k u hu => ?_⟩
    rw [List.getElem?_append_right (by rw [hy, Nat.add_mul]; omega), hy, show (i + 1) * sz + k - sz = i * sz + k by rw [Nat.add_mul]; omega]
    exact z3 k u hu
  ·rcases List.mem_append.1 hu with hu | hu
   ·exact RdV.ones (hl r (by simp)).2 y2 u hu
   ·exact h5 u hu
  ·by_cases hj : j < sz
   ·rw [List.getElem?_append_left (by omega)] at hu
    exact y3 j u hu
   ·rw [List.getElem?_append_right (by omega), hy] at hu
    have := h6 (j - sz) u hu
    rwa [show o + sz + (j - sz) = o + j by omega] at this
def Cells (w : World) (rs : List (List Dat)) (ys : List Value) : Prop := ∀ i r, rs[i]? = some r → ∃ y, RdV w w.heap.size r y ∧ y.length = 3 ∧ ∀ k u, y[k]? = some u → ys[i * 3 + k]? = some u
section
variable {w0 W : World} {L : List It}
theorem wpList_raw {ops : Array Oper} {rest : List Oper} {o : Oper} {a : Act} {Q : Exit → Act → World → Prop} (hgd : o.guard = none) (s x : Operand) (t : TypeId)
  (ho : o.op = .call { callee := .builtin .append, args := #[s, x], argTypes := #[t, t] }) {e : TypeId} {z : Value} {bytes : Nat} (he : Elt t e z 3 bytes) {rs : List (List Dat)} {g0 c1 : Nat} {b : List Nat}
  (h : Ms w0 (.dt (.rows e 3 []) (.slice (some ⟨g0, 0, none⟩) 0 c1) b :: L) W) (hs : a.eval s = .slice (some ⟨g0, 0, none⟩) 0 c1) (A : Option Addr) (m c0 : Nat) (hx : a.eval x = .slice A m c0) (hrd : RdC w0 w0.heap.size (.rows e 3 rs) (.slice A m c0)) (hone : ∀ r ∈ rs, r.length = 3 ∧ ∀ d ∈ r, d.one = true) (hlen : rs.length ≤ 2000000)
  (K : ∀ g cap W' b' ys, m ≤ cap → Ms w0 (.dt (.rows e 3 []) (.slice (some ⟨g, 0, none⟩) 0 cap) b' :: L) W' → Raw W' g 0 ys → Cells w0 rs ys → wpList Try.prog ops Q rest (a.put o.dst (.slice (some ⟨g, 0, none⟩) m cap)) W') : wpList Try.prog ops Q (o :: rest) a W := by
 obtain ⟨i, ht, hi, hz, hsize, hby, hzs, hsz, hbm⟩ := he
 obtain ⟨A', c', hv, hc, hrd⟩ := hrd
 injection hv with e1 e2 e3
 subst e1 e2 e3
 by_cases h0 : 0 < rs.length
 ·obtain ⟨ad, rfl, hbk, hsp, hrr⟩ := hrd h0
  obtain ⟨ys, k1, k2, k3, k4⟩ := RdR.ones hone hrr
  obtain ⟨xs, hown, grow⟩ := Ms.grow (Y := []) (rs := []) (news := []) (c := []) h ⟨rfl, rfl⟩ (by simp) (by simp)
  have hx0 : xs = [] := List.eq_nil_of_length_eq_zero (by rw [hown.1]; simp)
  subst hx0
  refine wpList_append_lies _ hgd s x t ho 0 e i z 3 bytes ht hi hz hsize hby hzs hsz _ 0 [] hs hown ad rs.length c0 ys hx k1 (fun j u hu => by have := k4 j u hu; rw [Nat.zero_add] at this; exact (h.bl.cell (p := ad.add j) (by rw [block_of_add]; exact hbk)).trans this) k3 h0 (by unfold maxLen; omega) ?_ (Nat.zero_le _) _ rfl ?_
  ·exact bytes_fit (by omega) hbm
  ·intro g cap W' hown' hg hat hlt
   rw [Nat.zero_add, List.nil_append] at hown'
   rcases hown'.2 with ⟨e0, _⟩ | ⟨g', cap', cur, e0, q1, q2, q3, q4, q5, q6⟩
   ·cases e0
   injection e0 with e1 _ e3
   injection e1 with e1
   injection e1 with e1
   subst e1 e3
   obtain ⟨b', hm⟩ := grow g 0 cap W' ⟨by simp, .inr ⟨g, cap, cur, rfl, Nat.zero_le _, q2, Nat.zero_le _, q4, q5, by simp⟩⟩ hg hat hlt
   have hraw : Raw W' g 0 ys := by
    refine ⟨cur, e, q2, fun t u _ hu => ?_⟩
    rw [← q6, List.getElem?_take] at hu
    split at hu
    ·rwa [Array.getElem?_toList] at hu
    ·cases hu
   rw [Nat.zero_add]
   exact K g cap W' b' ys q3 (by simpa using hm) hraw k2
 ·obtain rfl : rs = [] := List.eq_nil_of_length_eq_zero (by omega)
  obtain ⟨xs, cs, hown, _⟩ : OwC W (.rows e 3 []) (.slice (some ⟨g0, 0, none⟩) 0 c1) b := h.at_ (i := 0) rfl
  refine wpList_append_zero hgd s x t ho 0 e i 3 ht hi _ 0 xs hs hown A c0 hx ?_
  rcases hown.2 with ⟨e0, _⟩ | ⟨g', cap', cur, e0, q1, q2, q3⟩
  ·cases e0
  injection e0 with e1 _ e3
  injection e1 with e1
  injection e1 with e1
  subst e1 e3
  exact K g0 c1 W b [] (Nat.zero_le _) h ⟨cur, e, q2, fun t u _ hu => by simp at hu⟩ (fun i r hr => by simp at hr)
end
def RawPost (e : TypeId) (rs : List (List Dat)) (w : World) (E : Ending) (w' : World) : Prop := (rs = [] ∧ E = .returned (.slice none 0 0) ∧ w = w') ∨
 ∃ g cap ys, E = .returned (.slice (some ⟨g, 0, none⟩) rs.length cap) ∧ rs.length ≤ cap ∧ Own w.heap.size w'.heap.size w' (.rows e 3 []) (.slice (some ⟨g, 0, none⟩) 0 cap) ∧ Raw w' g 0 ys ∧ Cells w rs ys ∧ Below w.heap.size w w'
end Go.Proofs.Ytglklgnggkenhaa.low
