/-
  Texts that the proofs over this seat rest on, one behind the other (5 of 5).
-/
import Derived.Test.YtgfbcpcfdlnbhabGreatM2
import Derived.Test.YtgfbcpcfdlnbhabGreatM4
import Derived.IntWalk
import Derived.Test.YtgfbcpcfdlnbhabGreatM3
import Derived.Lib.SliceRun

/-
  The program's side: contracts of impl.TextOk, impl.applies and of the reader's next.
-/
namespace Go.Proofs.YtgfbcpcfdlnbhabGreat.low
open Go.RowKit
set_option linter.unusedVariables false

set_option maxHeartbeats 800000 in
theorem implTextOk_d (v : Value) (t : List Int) (w : World) (h : RdC w w.heap.size (encInts t) v) (hs : SmI t) : Calls Tryz.prog 71 #[v] w (Tells (okText t) w) := by
  obtain ⟨A, c, rfl, hr, _⟩ := ints_rd h
  have hl : t.length ≤ 1048576 := hs
  by_cases h2 : t.length ≤ 200
  · have HS := Lib.hid (show okText t = allB t by unfold okText; rw [decide_eq_true h2, Bool.and_true])
    go_enter Tryz.func71, Tryz.ntmps71
    go_wp2_with fail
    refine (implSignsOk_any A c t _ hr (by omega)).mono ?_
    rintro e w1 ⟨rfl, rfl⟩
    generalize allB t = q at *
    go_wp2
    go_ret
    exact ⟨ret_bool (by rw [HS.out]), Below.refl _ _⟩
  · have HS := Lib.hid (show okText t = false by unfold okText; rw [decide_eq_false h2, Bool.and_false])
    go_enter Tryz.func71, Tryz.ntmps71
    go_wp2
    go_ret
    exact ⟨ret_bool (by rw [HS.out]), Below.refl _ _⟩

set_option maxHeartbeats 1600000 in
theorem implFits_d (v v' : Value) (ps : List Pt) (t : List Int) (w : World) (h : RdC w w.heap.size (encPs ps) v) (h' : RdC w w.heap.size (encInts t) v') (hs : SmP ps) (hs' : SmI t) : Calls Tryz.prog 88 #[v, v'] w (Tells (fitsB ps t) w) := by
  obtain ⟨A, c, rfl, hr, _⟩ := parts_rd h
  obtain ⟨A', c', rfl, hr', _⟩ := ints_rd h'
  have hl := hs.1
  cases ho : okOp ps
  · have HS := Lib.hid (show fitsB ps t = false by unfold fitsB; rw [ho]; rfl)
    go_enter Tryz.func88, Tryz.ntmps88
    go_wp2_with fail
    refine (implOpOk_any A c ps _ hr (by omega) hs.all4).mono ?_
    rintro e w1 ⟨rfl, b1⟩
    rw [ho]
    go_wp2
    go_ret
    exact ⟨ret_bool (by rw [HS.out]), b1⟩
  · cases ht : okText t
    · have HS := Lib.hid (show fitsB ps t = false by unfold fitsB; rw [ho, ht]; rfl)
      go_enter Tryz.func88, Tryz.ntmps88
      go_wp2_with fail
      refine (implOpOk_any A c ps _ hr (by omega) hs.all4).mono ?_
      rintro e w1 ⟨rfl, b1⟩
      rw [ho]
      go_wp2_with fail
      refine (implTextOk_d _ t _ (h'.past b1) hs').mono ?_
      rintro e w2 ⟨rfl, b2⟩
      rw [ht]
      go_wp2
      go_ret
      exact ⟨ret_bool (by rw [HS.out]), b1.trans (b2.mono b1.size)⟩
    · have HS := Lib.hid (show fitsB ps t = (sumK ps + sumD ps == (t.length : Int)) by unfold fitsB; rw [ho, ht, Bool.true_and]; cases hq : (sumK ps + sumD ps == (t.length : Int)) <;> simp_all)
      go_enter Tryz.func88, Tryz.ntmps88
      go_wp2_with fail
      refine (implOpOk_any A c ps _ hr (by omega) hs.all4).mono ?_
      rintro e w1 ⟨rfl, b1⟩
      rw [ho]
      go_wp2_with fail
      refine (implTextOk_d _ t _ (h'.past b1) hs').mono ?_
      rintro e w2 ⟨rfl, b2⟩
      rw [ht]
      have d2 := b1.trans (b2.mono b1.size)
      go_wp2_with fail
      refine (implOpFrom_any A c ps _ (hr.past d2) (by omega) hs.all4).mono ?_
      rintro e w3 ⟨rfl, b3⟩
      generalize sumK ps + sumD ps = q at *
      go_wp2
      go_ret
      exact ⟨ret_bool (by rw [HS.out]), d2.trans (b3.mono d2.size)⟩

/-- the reader at block g: zs is left of the text, which lies in blocks below B -/
def Rdr (B g : Nat) (w : World) (zs : List Int) : Prop := ∃ A c, w.heap[g]? = some (.cells #[.slice A zs.length c] 109 (0, 0)) ∧ zs.length ≤ c ∧ Row (Value.int .i64) w B A zs ∧ B ≤ g
theorem Rdr.keep {B g : Nat} {w w' : World} {zs : List Int} (h : Rdr B g w zs) (hg : w'.heap[g]? = w.heap[g]?) (hk : ∀ p : Addr, p.block < B → w'.cell? p = w.cell? p) : Rdr B g w' zs := by
  obtain ⟨A, c, h1, h2, h3, h4⟩ := h
  exact ⟨A, c, hg.trans h1, h2, h3.keep hk, h4⟩
theorem Rdr.lt {B g : Nat} {w : World} {zs : List Int} (h : Rdr B g w zs) : g < w.heap.size := by
  obtain ⟨A, c, h1, _⟩ := h
  exact lt_of_some h1
theorem Rdr.past {B g : Nat} {w w' : World} {zs : List Int} (h : Rdr B g w zs) (hb : Below w.heap.size w w') : Rdr B g w' zs := by
  have hlt := h.lt
  have hB : B ≤ g := by obtain ⟨_, _, _, _, _, h4⟩ := h; exact h4
  exact h.keep (hb.block g hlt) (fun p hp => hb.cell (by omega))
theorem Rdr.touch {B g : Nat} {w w' : World} {zs : List Int} {T : Nat → Prop} (h : Rdr B g w zs) (ht : Touch T w w') (hT : ∀ b, T b → B ≤ b ∧ ¬ b = g) : Rdr B g w' zs :=
  h.keep (ht.block g (fun e => (hT g e).2 rfl)) (fun p hp => ht.cell (fun e => by have := (hT _ e).1; omega))
/-- next gives the first n numbers, and the reader goes on behind them -/
def NextP (B g : Nat) (zs : List Int) (n : Nat) (w : World) (e : Ending) (w' : World) : Prop := ∃ A, e = .returned (.slice A n n) ∧ Row (Value.int .i64) w' B A (zs.take n) ∧ Rdr B g w' (zs.drop n) ∧ Touch (fun b => b = g) w w'

theorem addr_add_add (p : Addr) (i j : Nat) : (p.add i).add j = p.add (i + j) := by
  unfold Addr.add
  by_cases hi : i = 0
  · subst hi; simp
  · by_cases hj : j = 0
    · subst hj; simp [hi]
    · simp [hi, hj, Nat.add_assoc]
theorem Row.init {w : World} {B : Nat} {A : Option Addr} {zs : List Int} (h : Row (Value.int .i64) w B A zs) (n : Nat) : Row (Value.int .i64) w B A (zs.take n) := fun hn => by
  have h0 : 0 < zs.length := by rw [List.length_take] at hn; omega
  obtain ⟨ad, e, hb, hc⟩ := h h0
  refine ⟨ad, e, hb, fun k z hz => ?_⟩
  rw [List.getElem?_take] at hz
  split at hz
  · exact hc k z hz
  · cases hz
theorem Row.tail {w : World} {B : Nat} {ad : Addr} {zs : List Int} (h : Row (Value.int .i64) w B (some ad) zs) (n : Nat) : Row (Value.int .i64) w B (some (ad.add n)) (zs.drop n) := fun hn => by
  have h0 : 0 < zs.length := by rw [List.length_drop] at hn; omega
  obtain ⟨ad', e, hb, hc⟩ := h h0
  injection e with e
  subst e
  refine ⟨_, rfl, by rw [block_of_add]; exact hb, fun k z hz => ?_⟩
  rw [List.getElem?_drop] at hz
  rw [addr_add_add]
  exact hc (n + k) z hz
theorem heap_set0 {w : World} {g : Nat} {T : TypeId} {u v : Value} (h : w.heap[g]? = some (.cells #[u] T (0, 0))) : (w.setCell ⟨g, 0, none⟩ v).heap[g]? = some (.cells #[v] T (0, 0)) := by
  rw [heap_setCell_same _ _ _ _ _ _ h]
  rfl

set_option maxHeartbeats 1600000 in
theorem implNext (B g n : Nat) (zs : List Int) (w : World) (h : Rdr B g w zs) (hn : n ≤ zs.length) (hz : zs.length ≤ 1000000) : Calls Tryz.prog 90 #[.pointer (some ⟨g, 0, none⟩), .int .i64 n] w (NextP B g zs n w) := by
  obtain ⟨A, c, h1, h2, h3, h4⟩ := h
  have hcell : w.cell? ⟨g, 0, none⟩ = some (.slice A zs.length c) := cell_of_row _ _ 0 _ _ _ h1
  have hfree : w.frozen? ⟨g, 0, none⟩ = false := by simp [World.frozen?, h1]
  have H1 := Lib.hid h1
  clear h1
  cases A with
  | none =>
    have h0 : zs = [] := by
      rcases Nat.eq_zero_or_pos zs.length with h | h
      · exact List.eq_nil_of_length_eq_zero h
      · obtain ⟨_, hn, _⟩ := h3 h
        cases hn
    subst h0
    obtain rfl : n = 0 := by simpa using hn
    go_enter Tryz.func90, Tryz.ntmps90
    go_wp2
    all_goals
      go_ret
      refine ⟨none, rfl, Row.nil, ⟨none, _, heap_set0 H1.out, ?_, Row.nil, h4⟩, (Touch.refl (fun b => b = g) _).setCell (p := ⟨g, 0, none⟩) rfl _⟩
      simp
  | some ad =>
    by_cases hc : n = c
    · obtain rfl : n = c := hc
      obtain rfl : n = zs.length := by omega
      go_enter Tryz.func90, Tryz.ntmps90
      have hd : zs.drop zs.length = [] := List.drop_length
      have HD := Lib.hid hd
      clear hd
      go_wp2
      go_ret
      refine ⟨some ad, rfl, (h3.init _).keep (fun p hp => ?_), ?_, (Touch.refl (fun b => b = g) _).setCell (p := ⟨g, 0, none⟩) rfl _⟩
      · exact ((Touch.refl (fun b => b = g) _).setCell (p := ⟨g, 0, none⟩) rfl _).cell (fun e => by omega)
      · rw [HD.out]
        exact ⟨some ad, 0, heap_set0 H1.out, Nat.le_refl _, Row.nil, h4⟩
    · go_enter Tryz.func90, Tryz.ntmps90
      go_wp2
      go_ret
      have hk : ∀ p : Addr, p.block < B → (w.setCell ⟨g, 0, none⟩ (.slice (some (ad.add n)) (zs.length - n) (c - n))).cell? p = w.cell? p := fun p hp => ((Touch.refl (fun b => b = g) w).setCell (p := ⟨g, 0, none⟩) rfl _).cell (fun e => by omega)
      refine ⟨some ad, rfl, (h3.init _).keep hk, ⟨some (ad.add n), c - n, ?_, by rw [List.length_drop]; omega, (h3.tail n).keep hk, h4⟩, (Touch.refl (fun b => b = g) _).setCell (p := ⟨g, 0, none⟩) rfl _⟩
      rw [List.length_drop]
      exact heap_set0 H1.out
end Go.Proofs.YtgfbcpcfdlnbhabGreat.low


/-
  The program's side: contract of impl.Apply.
-/
namespace Go.Proofs.YtgfbcpcfdlnbhabGreat.low
open Go.RowKit
set_option linter.unusedVariables false

theorem Rdr.drew {B g : Nat} {w : World} {zs : List Int} (h : Rdr B g w zs) : Rdr B g w.drew zs := h.keep rfl (fun _ _ => rfl)
theorem int_size : (Tryz.prog.info? 3).map (·.size) = some 1 := by kernel_rfl
theorem made_zero (n : Nat) : (madeCells (Value.cells (Value.int .i64 0)) (n * 1)).toList = fillR n [] := by
  unfold fillR
  simp [madeCells, Value.cells, Nat.mod_one, List.map_const']
theorem Row.src {w : World} {B : Nat} {A : Option Addr} {ys : List Int} (h : Row (Value.int .i64) w B A ys) (hp : 0 < (ys.map (Value.int .i64)).length) : ∃ ad, A = some ad ∧ ∀ j v, (ys.map (Value.int .i64))[j]? = some v → w.cell? (ad.add j) = some v := by
  obtain ⟨ad, e, _, hc⟩ := h (by simpa using hp)
  refine ⟨ad, e, fun j v hv => ?_⟩
  rw [List.getElem?_map] at hv
  obtain ⟨z, hz, rfl⟩ := Option.map_eq_some_iff.1 hv
  exact hc j z hz
theorem ints_one (ys : List Int) : ∀ v ∈ ys.map (Value.int .i64), v.oneCell' = true := by
  intro v hv
  obtain ⟨z, _, rfl⟩ := List.mem_map.1 hv
  rfl

set_option maxRecDepth 100000 in
set_option maxHeartbeats 3200000 in
theorem implApply_d (v v' : Value) (ps : List Pt) (t : List Int) (w : World) (h : RdC w w.heap.size (encPs ps) v) (h' : RdC w w.heap.size (encInts t) v') (hs : SmP ps) (hs' : SmI t) : Calls Tryz.prog 72 #[v, v'] w (ResB (encInts (applyT ps t)) (fitsB ps t) w) := by
  obtain ⟨A, c, rfl, hr, _⟩ := parts_rd h
  obtain ⟨A', c', rfl, hr', hcap⟩ := ints_rd h'
  obtain ⟨i0, hi0, hz0, hz1, hz2⟩ := info_parts ints_info
  cases hf : fitsB ps t
  · have e1 : applyT ps t = [] := by simp [applyT, hf]
    rw [e1]
    go_enter Tryz.func72, Tryz.ntmps72
    go_wp2_with fail
    refine (implFits_d _ _ ps t _ h h' hs hs').mono ?_
    rintro e w1 ⟨rfl, b1⟩
    rw [hf]
    go_wp2
    go_ret2
    exact ⟨_, rfl, ⟨[], ⟨[], [], World.ownsRow_nil _ _ _ _, ⟨rfl, rfl⟩, rfl⟩, by simp, fun b hb => by simp at hb, Nat.le_refl _, b1.size⟩, b1⟩
  · have e1 : applyT ps t = (foldA t ps).2 := by simp [applyT, hf]
    rw [e1]
    have HF := Lib.hid hf
    have HFO := Lib.hid (fits_of hf)
    have hl := HFO.out.2.1
    have ht := HFO.out.2.2.2.2.2.1
    obtain ⟨n, hn, hn2⟩ := fits_n hf
    have HN := Lib.hid hn
    clear hn
    have hl1 := hs.1
    go_enter Tryz.func72, Tryz.ntmps72
    go_wp2_with fail
    refine (implFits_d _ _ ps t _ h h' hs hs').mono ?_
    rintro e w1 ⟨rfl, b1⟩
    rw [hf]
    clear hf e1
    go_wp2_with fail
    have hrd : Rdr w.heap.size w1.heap.size (w1.alloc (.cells #[.slice A' t.length c'] 109)) t := ⟨A', c', heap_alloc_new w1 _, hcap, (hr'.below b1).keep (fun p hp => (alloc_below w1 _).cell (Nat.lt_of_lt_of_le hp b1.size)), b1.size⟩
    have hb2 := b1.trans ((alloc_below w1 (.cells #[.slice A' t.length c'] 109)).mono b1.size)
    generalize w1.alloc (.cells #[.slice A' t.length c'] 109) = w2 at *
    have hwg := b1.size
    generalize w1.heap.size = g at *
    clear b1
    refine (implOpTo_any A c ps w2 (hr.past hb2) (by omega) hs.all4).mono ?_
    rintro e w3 ⟨rfl, b3⟩
    rw [HN.out]
    have hrd3 := hrd.past b3
    have hb3 := hb2.trans (b3.mono hb2.size)
    clear hrd hb2 b3
    go_wp2_with (at_make; refine wpList_make_full _ rfl _ _ 22 rfl w3.heap.size 3 i0 (.int .i64 0) 1 Tryz.underlying22 hi0 hz0 hz1 _ _ _ _ n rfl rfl (by omega) (by omega) (by rw [hz2]; omega) (by unfold maxLen; omega) (Nat.le_refl _) ?_; intro w4 hown hg4)
    have hb4 := (Below.refl w3.heap.size w3).grown hg4 (Nat.le_refl _) (fun _ h => by cases h)
    rw [made_zero] at hown
    have hrow := (own_full hown).1
    have hrd4 := hrd3.past hb4
    have hgr := hrd3.lt
    have hbw := hb3.trans (hb4.mono hb3.size)
    have hwr := hb3.size
    generalize w3.heap.size = r at *
    have HRW := Lib.hid hrow
    have HRD := Lib.hid hrd4
    clear hown hg4 hb4 hrow hrd4 hrd3 hb3
    go_loopw [8, 23] (fun a i wr => ∃ k : Nat, k ≤ ps.length ∧ i = .int .i64 k ∧ a = .int .i64 ((foldA t (ps.take k)).2.length : Int) ∧ wr.heap[r]? = some (.cells (fillR n (foldA t (ps.take k)).2).toArray 3 (0, 0)) ∧ Rdr w.heap.size g wr (t.drop (foldA t (ps.take k)).1) ∧ Below w.heap.size w wr) (fun _ i _ => ps.length - (intOf i).toNat)
    case atStart => exact ⟨0, Nat.zero_le _, rfl, rfl, HRW.out, HRD.out, hbw⟩
    case round =>
      obtain ⟨k, hk, rfl, rfl, hrow, hrd, hbel⟩ := hrel
      clear HRW HRD hbw
      have hout := foldA_upto HF.out HN.out k hk
      have hfit := Lib.hid (foldA_fit (t := t) HFO.out.1 k hk)
      by_cases hlt : k < ps.length
      · obtain ⟨b, off, p, rfl, hb, hp, hc⟩ := hr.at_ hlt
        obtain ⟨x0, x1, A1, e1, x2, r1⟩ := hc.keep (w' := wr) hb (fun _ hq => hbel.cell hq)
        have hokp := okPs_at hp HFO.out.1
        have hok := of_okPt hokp
        have hout1 := foldA_upto HF.out HN.out (k + 1) hlt
        have hin := foldA_in HF.out hp
        rw [foldA_snoc (t := t) hp] at hout1
        have K1 := Lib.hid (foldA_snoc (t := t) hp)
        have hsl := hs.all p (List.mem_of_getElem? hp)
        clear hp hc
        have hat : (foldA t (ps.take k)).1 ≤ 200 := by
          have f := hfit.out
          have a1 := sumOf_take (f := keepOf) (ps := ps) (fun q hq => (ok_bd (okPs_mem' HFO.out.1 hq)).1.1) k
          have a3 := sumOf_take (f := dropOf) (ps := ps) (fun q hq => (ok_bd (okPs_mem' HFO.out.1 hq)).2.2.1) k
          have g1 := HFO.out.2.2.1
          omega
        generalize foldA t (ps.take k) = st at *
        obtain ⟨at_, out⟩ := st
        obtain ⟨pk, pn, pz⟩ := p
        simp only at x0 x1 x2 hok r1 hin hrow hrd hat hout
        rcases (show pk = 1 ∨ pk = 2 ∨ pk = 3 by omega) with rfl | rfl | rfl
        · have hn1 : 0 ≤ pn := by omega
          have hn2 : pn ≤ 200 := by omega
          have hin' := hin (.inl rfl)
          obtain ⟨m, rfl⟩ := Int.eq_ofNat_of_zero_le hn1
          have hlen : ((t.drop at_).take m).length = m := piece_len (by omega)
          have K2 := Lib.hid (show stepA t (at_, out) ⟨1, (m : Int), pz⟩ = (at_ + m, out ++ (t.drop at_).take m) by simp [stepA])
          rw [K2.out] at hout1
          have HY := Lib.hid (show (t.drop at_).take ((t.drop at_).take m).length = (t.drop at_).take m by rw [hlen])
          generalize (t.drop at_).take m = ys at *
          obtain rfl : ys.length = m := hlen
          have hn3 : out.length + ys.length ≤ n := by simpa using hout1
          clear hok hin hout1
          have bA := alloc_below wr (.cells #[.int .i64 1, .int .i64 (ys.length : Int), .slice A1 pz.length e1] 88)
          have HRD := Lib.hid (hrd.past bA)
          have hrl := lt_of_some hrow
          have HRW := Lib.hid ((bA.block r hrl).trans hrow)
          clear hrd hrow r1
          have hb0 := hbel.trans (bA.mono hbel.size)
          clear bA
          have hfl : (ys.map (Value.int .i64)).length = Nat.min ys.length (n - out.length) := by rw [List.length_map]; exact (Nat.min_eq_left (by omega)).symm
          have HFL := Lib.hid hfl
          clear hfl
          have hdst : 0 < (ys.map (Value.int .i64)).length → (if n = out.length then some (⟨r, 0, none⟩ : Addr) else some ⟨r, out.length, none⟩) = some ⟨r, out.length, none⟩ := fun hp => if_neg (by rw [List.length_map] at hp; omega)
          have HDST := Lib.hid hdst
          clear hdst
          have hz1 : ys.length ≤ (t.drop at_).length := by rw [List.length_drop]; omega
          have hz2' : (t.drop at_).length ≤ 1000000 := by rw [List.length_drop]; omega
          have HZ1 := Lib.hid hz1
          have HZ2 := Lib.hid hz2'
          clear hz1 hz2'
          have hw1 : IntKind.i64.wrap ((out.length : Int) + (ys.length : Int)) = (out.length : Int) + (ys.length : Int) := IntWalk.i64_in _ (by omega)
          go_wp2
          go_region_law (first | (refine step_copy_splice rfl (.tmp 34) (.tmp 38) 22 22 rfl 3 Tryz.underlying22 int_size (if n = out.length then some (⟨r, 0, none⟩ : Addr) else some ⟨r, out.length, none⟩) A4 (n - out.length) (n - out.length) ys.length ys.length rfl rfl r out.length (fillR n out) 3 (by exact hrw4.out) (ys.map (Value.int .i64)) (by exact HFL.out) (fun hp => ⟨HDST.out hp, r4.out.src hp⟩) (by rw [fill_len _ _ hout]; simpa using hn3) (ints_one _) r _ (Below.refl _ _) (Nat.le_refl _) ?_; intro w5 hg5 hb5) | (go_simp; go_at_call 90; refine (implNext w.heap.size g ys.length (t.drop at_) _ (by exact HRD.out.drew) (by exact HZ1.out) (by exact HZ2.out)).mono ?_; rintro e w4 ⟨A4, rfl, r4, rd4, t4⟩; rw [HY.out] at r4; replace r4 := Lib.hid r4; have HR4 := Lib.hid rd4; have hrw4 := Lib.hid ((t4.block r (by omega)).trans HRW.out); clear rd4))
          have hb4' : Below w.heap.size w w4 := hb0.drew.trans (t4.below (fun b hb => by have hb' : b = g := hb; omega))
          have hb5' : Below w.heap.size w w5 := hb4'.trans (hb5.mono hwr)
          have HR5 := Lib.hid (show w5.heap[r]? = some (.cells (fillR n (out ++ ys)).toArray 3 (0, 0)) by rw [hg5.out, fill_splice _ _ _ hn3])
          have HD5 := Lib.hid (HR4.out.keep (hb5.block g hgr) (fun p hp => hb5.cell (by omega)))
          clear hg5 hb5 HDST HFL hb4' t4
          go_wp2
          go_roundw
          case rel => exact ⟨k + 1, by omega, by go_num, by rw [K1.out, K2.out]; simp, by rw [K1.out, K2.out]; exact HR5.out, by rw [K1.out, K2.out]; have := HD5.out; rw [List.drop_drop] at this; exact this, hb5'⟩
          case measure => simp [intOf]; omega
        · have hn3 : out.length + pz.length ≤ n := by
            have := hout1
            simp [stepA] at this
            exact this
          clear hok hin hout1
          have bA := alloc_below wr (.cells #[.int .i64 2, .int .i64 pn, .slice A1 pz.length e1] 88)
          have HRD := Lib.hid (hrd.past bA)
          have hrl := lt_of_some hrow
          have HRW := Lib.hid ((bA.block r hrl).trans hrow)
          have hpc := Lib.hid (Row.past_alloc (r1.more hbel.size) (.cells #[.int .i64 2, .int .i64 pn, .slice A1 pz.length e1] 88))
          clear hrd hrow r1
          have hb0 := hbel.trans (bA.mono hbel.size)
          clear bA
          have hfl : (pz.map (Value.int .i64)).length = Nat.min pz.length (n - out.length) := by rw [List.length_map]; exact (Nat.min_eq_left (by omega)).symm
          have HFL := Lib.hid hfl
          clear hfl
          have hw1 : IntKind.i64.wrap ((out.length : Int) + (pz.length : Int)) = (out.length : Int) + (pz.length : Int) := IntWalk.i64_in _ (by omega)
          have hdst : 0 < (pz.map (Value.int .i64)).length → (if n = out.length then some (⟨r, 0, none⟩ : Addr) else some ⟨r, out.length, none⟩) = some ⟨r, out.length, none⟩ := fun hp => if_neg (by rw [List.length_map] at hp; omega)
          have HDST := Lib.hid hdst
          clear hdst
          go_wp2
          go_region_law (refine step_copy_splice rfl (.tmp 46) (.tmp 48) 22 22 rfl 3 Tryz.underlying22 int_size (if n = out.length then some (⟨r, 0, none⟩ : Addr) else some ⟨r, out.length, none⟩) A1 (n - out.length) (n - out.length) pz.length e1 rfl rfl r out.length (fillR n out) 3 (by exact HRW.out) (pz.map (Value.int .i64)) (by exact HFL.out) (fun hp => ⟨HDST.out hp, hpc.out.src hp⟩) (by rw [fill_len _ _ hout]; simpa using hn3) (ints_one _) r _ (Below.refl _ _) (Nat.le_refl _) ?_; intro w5 hg5 hb5)
          have hb5' : Below w.heap.size w w5 := hb0.drew.trans (hb5.mono hwr)
          have HR5 := Lib.hid (show w5.heap[r]? = some (.cells (fillR n (out ++ pz)).toArray 3 (0, 0)) by rw [hg5.out, fill_splice _ _ _ hn3])
          have HD5 := Lib.hid (HRD.out.drew.keep (hb5.block g hgr) (fun p hp => hb5.cell (by omega)))
          clear hg5 hb5 HDST HFL
          go_wp2
          go_roundw
          case rel => exact ⟨k + 1, by omega, by go_num, by rw [K1.out]; simp [stepA], by rw [K1.out]; exact HR5.out, by rw [K1.out]; exact HD5.out, hb5'⟩
          case measure => simp [intOf]; omega
        · have hn1 : 0 ≤ pn := by omega
          have hn2 : pn ≤ 200 := by omega
          have hin' := hin (.inr rfl)
          clear hok hin hout1
          obtain ⟨m, rfl⟩ := Int.eq_ofNat_of_zero_le hn1
          have bA := alloc_below wr (.cells #[.int .i64 3, .int .i64 (m : Int), .slice A1 pz.length e1] 88)
          have HRD := Lib.hid (hrd.past bA)
          have hrl := lt_of_some hrow
          have HRW := Lib.hid ((bA.block r hrl).trans hrow)
          clear hrd hrow
          have hb0 := hbel.trans (bA.mono hbel.size)
          clear bA
          go_wp2_with fail
          refine (implNext w.heap.size g m (t.drop at_) _ HRD.out (by rw [List.length_drop]; omega) (by rw [List.length_drop]; omega)).mono ?_
          rintro e w4 ⟨A4, rfl, r4, rd4, t4⟩
          have HR4 := Lib.hid rd4
          have hrw4 := Lib.hid ((t4.block r (by omega)).trans HRW.out)
          have hb4 := hb0.trans (t4.below (fun b hb => by have := hb; omega))
          clear r4 rd4 t4
          go_wp2
          go_roundw
          case rel => exact ⟨k + 1, by omega, by go_num, by rw [K1.out]; rfl, by rw [K1.out]; exact hrw4.out, by rw [K1.out]; have := HR4.out; rw [List.drop_drop] at this; simpa [stepA] using this, hb4⟩
          case measure => simp [intOf]; omega
      · have hke : ps.take k = ps := List.take_of_length_le (by omega)
        rw [hke] at hrow hrd ⊢
        have hall := foldA_all HF.out HN.out
        rw [fill_all _ _ hall] at hrow
        have HO := Lib.hid (full_own (base := w.heap.size) hrow hwr (by simpa using hall) (by omega))
        have HL := Lib.hid hall
        clear hrow hrd hall hke hout
        generalize (foldA t ps).2 = out at *
        go_wp2
        go_ret2
        have HO2 := HO.out
        rw [← HL.out] at HO2 ⊢
        exact ⟨_, rfl, ⟨_, ow_ints HO2, by simp [Value.ownBlock], fun b hb => by
          have hb' : b = r := by simpa [Value.ownBlock] using hb
          subst hb'
          exact ⟨hwr, own_in HO2 rfl⟩, Nat.le_refl _, hbel.size⟩, hbel⟩
end Go.Proofs.YtgfbcpcfdlnbhabGreat.low


/-
  The program's side: contracts of impl.ApplyAll and impl.Idle.
-/
namespace Go.Proofs.YtgfbcpcfdlnbhabGreat.low
open Go.RowKit
set_option linter.unusedVariables false

set_option maxRecDepth 100000 in
set_option maxHeartbeats 3200000 in
theorem implApplyAll_d (v v' : Value) (l : List (List Pt)) (t : List Int) (w : World) (h : RdC w w.heap.size (encPss l) v) (h' : RdC w w.heap.size (encInts t) v') (hs : SmPP l) (hs' : SmI t) : Calls Tryz.prog 49 #[v, v'] w (ResB (encInts (applyAllT l t)) (applyAllB l t) w) := by
  obtain ⟨A, c, rfl⟩ := pss_len h
  obtain ⟨A', c', rfl, hr', _⟩ := ints_rd h'
  obtain ⟨i0, hi0, hz0, hz1, hz2⟩ := info_parts ints_info
  have hl := hs.1
  have ht : t.length ≤ 1048576 := hs'
  cases htx : okText t
  · have HN := Lib.hid (show applyAllB l t = false ∧ applyAllT l t = [] by
      have e1 : applyAllB l t = false := by unfold applyAllB; rw [htx, Bool.and_false]
      exact ⟨e1, by unfold applyAllT; rw [e1]; rfl⟩)
    go_enter Tryz.func49, Tryz.ntmps49
    go_wp2_with fail
    refine (implTextOk_d _ t _ h' hs').mono ?_
    rintro e w1 ⟨rfl, b1⟩
    rw [htx]
    go_wp2
    go_ret2
    rw [HN.out.1, HN.out.2]
    exact ⟨_, rfl, nilOwn _ _ rfl b1.size, b1⟩
  · have HTX := Lib.hid htx
    have hsrc : Nat.min t.length t.length = t.length := Nat.min_self _
    have hfl : (t.map (Value.int .i64)).length = Nat.min t.length t.length := by rw [List.length_map, hsrc]
    have HFL := Lib.hid hfl
    clear hfl hsrc
    go_enter Tryz.func49, Tryz.ntmps49
    go_wp2_with fail
    refine (implTextOk_d _ t _ h' hs').mono ?_
    rintro e w1 ⟨rfl, b1⟩
    rw [htx]
    clear htx
    go_wp2_with (first | (at_make; refine wpList_make_full _ rfl _ _ 22 rfl w1.heap.size 3 i0 (.int .i64 0) 1 Tryz.underlying22 hi0 hz0 hz1 _ _ _ _ t.length rfl rfl (by omega) (by omega) (by rw [hz2]; omega) (by unfold maxLen; omega) (Nat.le_refl _) ?_; intro w2 hown hg2; rw [made_zero] at hown; have HROW := Lib.hid (own_full hown).1; have hb2 := (Below.refl w1.heap.size w1).grown hg2 (Nat.le_refl _) (fun _ h => by cases h); have hsr := Lib.hid ((hr'.past b1).past hb2); clear hown hg2) | (refine wpList_copy_splice (o := ⟨some 19, _, _, _, _, _⟩) rfl (.tmp 17) (.tmp 18) 22 22 rfl 3 Tryz.underlying22 int_size (some ⟨w1.heap.size, 0, none⟩) A' t.length t.length t.length c' rfl rfl w1.heap.size 0 (fillR t.length []) 3 HROW.out (t.map (Value.int .i64)) HFL.out (fun hp => ⟨rfl, hsr.out.src hp⟩) (by rw [fill_len _ _ (Nat.zero_le _)]; simp) (ints_one _) w1.heap.size _ (Below.refl _ _) (Nat.le_refl _) ?_; intro w3 hg3 hb3))
    have hbn := b1.trans ((hb2.trans hb3).mono b1.size)
    have hrow3 : w3.heap[w1.heap.size]? = some (.cells (t.map (Value.int .i64)).toArray 3 (0, 0)) := by
      have e := fill_splice t.length [] t (by simp)
      rw [List.nil_append, List.length_nil] at e
      rw [hg3.out, e, fill_all _ _ rfl]
    have HON := Lib.hid (ownInts (full_own (base := w.heap.size) hrow3 b1.size (by simp) (by omega)) hbn.size)
    clear hrow3 hg3 hb3 hb2 b1 HROW hsr HFL
    generalize w1.heap.size = r at *
    go_loopw [6, 22] (fun o i wr => ∃ (k : Nat) (cur : List Int), k ≤ l.length ∧ i = .int .i64 k ∧ foldAll (l.take k) t = some cur ∧ Own w.heap.size wr.heap.size wr (encInts cur) o ∧ Below w.heap.size w wr) (fun _ i _ => l.length - (intOf i).toNat)
    case atStart => exact ⟨0, t, Nat.zero_le _, rfl, rfl, HON.out, hbn⟩
    case round =>
      obtain ⟨k, cur, hk, rfl, hf, ho, hbel⟩ := hrel
      clear HON hbn
      have HF := Lib.hid hf
      have hcl := foldAll_len hk hf
      clear hf
      by_cases hlt : k < l.length
      · obtain ⟨ad, ps, A1, c1, rfl, hb, hp, hc, hpr⟩ := pss_at (h.below hbel) hlt
        have K1 := Lib.hid (foldAll_snoc (t := t) hp)
        rw [HF.out] at K1
        have hsp := hs.all ps (List.mem_of_getElem? hp)
        clear hp
        obtain ⟨Ao, co, rfl⟩ := sliceI ho.read
        have HO := Lib.hid ho
        have HPR := Lib.hid (RdC.more hbel.size _ _ hpr)
        clear ho hpr
        have hsc : SmI cur := by unfold SmI; omega
        go_wp2_with fail
        refine (implApply_d _ _ ps cur _ HPR.out HO.out.read hsp hsc).mono ?_
        rintro e w1 ⟨v1, rfl, o1, b1⟩
        obtain ⟨A3, c3, rfl⟩ := sliceI o1.read
        have HO1 := Lib.hid o1
        clear o1
        cases hfit : fitsB ps cur
        · have HN := Lib.hid (show applyAllB l t = false ∧ applyAllT l t = [] by
            have : foldAll l t = none := foldAll_none (k := k + 1) (by rw [K1.out]; simp [stepAll, hfit])
            have e1 : applyAllB l t = false := by unfold applyAllB; rw [this]; rfl
            exact ⟨e1, by unfold applyAllT; rw [e1]; rfl⟩)
          go_wp2
          go_ret2
          rw [HN.out.1, HN.out.2]
          exact ⟨_, rfl, nilOwn _ _ rfl (hbel.trans (b1.mono hbel.size)).size, hbel.trans (b1.mono hbel.size)⟩
        · have K2 := Lib.hid (show foldAll (l.take (k + 1)) t = some (applyT ps cur) by rw [K1.out]; simp [stepAll, hfit])
          go_wp2
          go_roundw
          case rel => exact ⟨k + 1, applyT ps cur, by omega, by go_num, K2.out, HO1.out.wide hbel.size (Nat.le_refl _) (Nat.le_refl _), hbel.trans (b1.mono hbel.size)⟩
          case measure => simp [intOf]; omega

      · have hke : l.take k = l := List.take_of_length_le (by omega)
        have HF2 := Lib.hid (show foldAll l t = some cur by rw [← HF.out, hke])
        obtain ⟨Ao, co, rfl⟩ := sliceI ho.read
        have HO := Lib.hid ho
        clear ho
        have HN := Lib.hid (show applyAllB l t = true ∧ applyAllT l t = cur by
          have e1 : applyAllB l t = true := by unfold applyAllB; rw [HTX.out, HF2.out]; rfl
          exact ⟨e1, by unfold applyAllT; rw [if_pos e1, HF2.out]; rfl⟩)
        go_wp2
        go_ret2
        rw [HN.out.1, HN.out.2]
        exact ⟨_, rfl, HO.out, hbel⟩
end Go.Proofs.YtgfbcpcfdlnbhabGreat.low


/-
  Contracts of impl.DocOk, DocNew, stores, TextAt, HeadText and OpsSince. Written by mkimp8d.py.
-/
namespace Go.Proofs.YtgfbcpcfdlnbhabGreat.low
open Go.RowKit
set_option linter.unusedVariables false

theorem strClone_any (s : ByteArray) (w : World) (hs : s.size ≤ 1048576) : Calls Tryz.prog 23 #[.string s] w fun e w' => e = .returned (.string s) ∧ Below w.heap.size w w' := by
  go_enter Tryz.func23, Tryz.ntmps23
  go_wp2_with fail
  refine (Tryz.stringslite_Clone s _ (by omega)).mono ?_
  rintro e w' ⟨rfl, hb⟩
  go_wp2
  go_ret
  exact ⟨rfl, hb⟩
theorem bulk_mapI : ∀ l : List En, bulk (l.map En.o) = sumN totEn l
  | [] => rfl
  | e :: l => by
    have ih := bulk_mapI l
    rw [sumN_cons, ← ih]
    simp [bulk, totEn, totP]
theorem smEns_pp {l : List En} (h : SmEns l) : SmPP (l.map En.o) := by
  have h1 := h.len
  unfold SmEns totEns at h
  exact ⟨by simp; omega, by rw [bulk_mapI]; omega⟩
theorem rdEns_dropN {w : World} {B c m : Nat} {A : Option Addr} {l : List En} (h : l.length - m = 0) : RdC w B (encEns (l.drop m)) (.slice A (l.length - m) c) := by
  rw [h]
  exact rdEns_drop0 h
theorem smEns_take {l : List En} (h : SmEns l) (m : Nat) : SmEns (l.take m) := by
  have h1 := sumN_take totEn l m
  have h2 : (l.take m).length ≤ l.length := by simp; omega
  unfold SmEns totEns at *
  omega
set_option maxRecDepth 100000 in
set_option maxHeartbeats 3200000 in
theorem implDocOk_w (v : Value) (x : Do) (w : World) (h : RdC w w.heap.size (datDo x) v) (hs : SmD4 x) : Calls Tryz.prog 21 #[v] w (Tells (docB x) w) := by
  have HR := Lib.hid h
  obtain ⟨A2, c2, A3, c3, A4, c4, rfl, r2, r3, r4⟩ := aggDo h
  have R2 := Lib.hid r2
  have R3 := Lib.hid r3
  have R4 := Lib.hid r4
  have HD := Lib.hid (doc_eq x)
  clear h r2 r3 r4
  have HM := Lib.hid (Ms.start w)
  replace HM := Lib.hid (HM.out.new #[.string x.name, .int .i64 x.from_, .slice A2 x.text.length c2, .slice A3 x.list.length c3, .slice A4 x.seen.length c4] 31)
  go_enter Tryz.func21, Tryz.ntmps21
  go_wp2_with fail
  obtain ⟨W1, hW, hm⟩ := HM.out.name
  rw [← hW]
  replace HM := Lib.hid hm
  clear hm hW
  refine (implNameOk_d x.name _ hs.nameL).mono ?_
  rintro e' W2 ⟨rfl, b'⟩
  replace HM := Lib.hid (HM.out.past b')
  clear b'
  cases hn : nameB x.name
  · go_wp2
    go_ret
    exact ⟨ret_b (by rw [HD.out, hn]; rfl), HM.out.bl⟩
  obtain ⟨kx0, kx1, kx2, kx3, kx4⟩ := HM.out.c5 0 rfl
  by_cases hf1 : x.from_ < 0
  · have H9 := Lib.hid (show inB x.from_ 0 999999000 = false from inB_f (by omega))
    have g1 : decide (x.from_ < 0) = true := decide_eq_true hf1
    go_wp2
    go_ret
    exact ⟨ret_b (by rw [HD.out, hn, H9.out]; rfl), HM.out.bl⟩
  have g1 : decide (x.from_ < 0) = false := decide_eq_false hf1
  by_cases hf2 : 999999000 < x.from_
  · have H9 := Lib.hid (show inB x.from_ 0 999999000 = false from inB_f (by omega))
    have g2 : decide (999999000 < x.from_) = true := decide_eq_true hf2
    go_wp2
    go_ret
    exact ⟨ret_b (by rw [HD.out, hn, H9.out]; rfl), HM.out.bl⟩
  have g2 : decide (999999000 < x.from_) = false := decide_eq_false hf2
  have HF := Lib.hid (show inB x.from_ 0 999999000 = true from inB_t (by omega))
  go_wp2
  clear kx0 kx1 kx2 kx3 kx4 g1 g2
  cases he : entriesIB x.list
  · replace HM := Lib.hid (HM.out.drew)
    refine wp_region_held_drew (S := fun W => Ms w [.bx w.heap.size (.cells #[.string x.name, .int .i64 x.from_, .slice A2 x.text.length c2, .slice A3 x.list.length c3, .slice A4 x.seen.length c4] 31 (0, 0))] W) (by kernel_rfl) (HM.out.pick (ks := [0]) (by decide) rfl) (fun hS => ?_)
    generalize W2.drew = W3 at HM hS  ⊢
    refine tk (v := ?_) 0 19 rfl (fun w' hS' => ?_) hS ?_
    rotate_left
    · go_simp; all_goals (with_reducible rfl)
    try simp only [Act.put, pa, pb, pc]
    refine tk (v := ?_) 1 20 rfl (fun w' hS' => ?_) hS ?_
    rotate_left
    · (try dsimp only at hS'); obtain ⟨q0, q1, q2, q3, q4⟩ := hS'.c5 0 rfl; go_simp; all_goals (with_reducible rfl)
    try simp only [Act.put, pa, pb, pc]
    refine r1 2 (some 21) rfl (fun K hK => ?_)
    go_simp
    refine (implEntriesOk_d _ x.list _ (HM.out.arg R3.out) hs.list).mono ?_
    rw [he]
    rintro e' W4 ⟨rfl, b'⟩
    replace HM := Lib.hid (HM.out.past b')
    clear b'
    clear hS
    refine hK.out _ _ (HM.out.pick (ks := [0]) (by decide) rfl) (fun hS => ?_)
    clear hK K
    try simp only [Act.put, pa, pb, pc]
    refine tk (v := ?_) 3 22 rfl (fun w' hS' => ?_) hS ?_
    rotate_left
    · go_simp; all_goals (with_reducible rfl)
    try simp only [Act.put, pa, pb, pc]
    refine tk (v := ?_) 4 23 rfl (fun w' hS' => ?_) hS ?_
    rotate_left
    · go_simp; all_goals (with_reducible rfl)
    try simp only [Act.put, pa, pb, pc]
    refine tu 5 24 rfl hS ?_
    try simp only [Act.put, pa, pb, pc]
    refine tu 6 25 rfl hS ?_
    try simp only [Act.put, pa, pb, pc]
    refine tu 7 26 rfl hS ?_
    try simp only [Act.put, pa, pb, pc]
    refine tu 8 27 rfl hS ?_
    try simp only [Act.put, pa, pb, pc]
    refine tu 9 28 rfl hS ?_
    try simp only [Act.put, pa, pb, pc]
    refine tu 10 29 rfl hS ?_
    try simp only [Act.put, pa, pb, pc]
    refine tk (v := ?_) 11 30 rfl (fun w' hS' => ?_) hS ?_
    rotate_left
    · go_simp; all_goals (with_reducible rfl)
    try simp only [Act.put, pa, pb, pc]
    refine wpAnyH_done (by kernel_rfl) ?_ _
    clear hS
    go_wp2
    go_ret
    exact ⟨ret_b (by rw [HD.out, hn, HF.out, he]; rfl), HM.out.bl⟩
  cases hse : seenIB (headRevT x) x.seen
  · replace HM := Lib.hid (HM.out.drew)
    refine wp_region_held_drew (S := fun W => Ms w [.bx w.heap.size (.cells #[.string x.name, .int .i64 x.from_, .slice A2 x.text.length c2, .slice A3 x.list.length c3, .slice A4 x.seen.length c4] 31 (0, 0))] W) (by kernel_rfl) (HM.out.pick (ks := [0]) (by decide) rfl) (fun hS => ?_)
    generalize W2.drew = W5 at HM hS  ⊢
    refine tk (v := ?_) 0 19 rfl (fun w' hS' => ?_) hS ?_
    rotate_left
    · go_simp; all_goals (with_reducible rfl)
    try simp only [Act.put, pa, pb, pc]
    refine tk (v := ?_) 1 20 rfl (fun w' hS' => ?_) hS ?_
    rotate_left
    · (try dsimp only at hS'); obtain ⟨q0, q1, q2, q3, q4⟩ := hS'.c5 0 rfl; go_simp; all_goals (with_reducible rfl)
    try simp only [Act.put, pa, pb, pc]
    refine r1 2 (some 21) rfl (fun K hK => ?_)
    go_simp
    refine (implEntriesOk_d _ x.list _ (HM.out.arg R3.out) hs.list).mono ?_
    rw [he]
    rintro e' W6 ⟨rfl, b'⟩
    replace HM := Lib.hid (HM.out.past b')
    clear b'
    clear hS
    refine hK.out _ _ (HM.out.pick (ks := [0]) (by decide) rfl) (fun hS => ?_)
    clear hK K
    try simp only [Act.put, pa, pb, pc]
    refine tk (v := ?_) 3 22 rfl (fun w' hS' => ?_) hS ?_
    rotate_left
    · go_simp; all_goals (with_reducible rfl)
    try simp only [Act.put, pa, pb, pc]
    refine tk (v := ?_) 4 23 rfl (fun w' hS' => ?_) hS ?_
    rotate_left
    · go_simp; all_goals (with_reducible rfl)
    try simp only [Act.put, pa, pb, pc]
    first | refine tu 5 24 rfl hS ?_ | (refine tk (v := ?_) 5 24 rfl (fun w' hS' => ?_) hS ?_; rotate_left; · (go_simp; all_goals (with_reducible rfl)))
    try simp only [Act.put, pa, pb, pc]
    first | refine tu 6 25 rfl hS ?_ | (refine tk (v := ?_) 6 25 rfl (fun w' hS' => ?_) hS ?_; rotate_left; · ((try dsimp only at hS'); obtain ⟨q0, q1, q2, q3, q4⟩ := hS'.c5 0 rfl; go_simp; all_goals (with_reducible rfl)))
    try simp only [Act.put, pa, pb, pc]
    first | refine tu 7 26 rfl hS ?_ | (refine tk (v := ?_) 7 26 rfl (fun w' hS' => ?_) hS ?_; rotate_left; · ((try dsimp only at hS'); obtain ⟨q0, q1, q2, q3, q4⟩ := hS'.c5 0 rfl; go_simp; all_goals (with_reducible rfl)))
    try simp only [Act.put, pa, pb, pc]
    refine r1 8 (some 27) rfl (fun K hK => ?_)
    go_simp
    refine (implHeadRev_w _ x _ (HM.out.arg HR.out)).mono ?_
    rintro e' W7 ⟨rfl, b'⟩
    replace HM := Lib.hid (HM.out.past b')
    clear b'
    clear hS
    refine hK.out _ _ (HM.out.pick (ks := [0]) (by decide) rfl) (fun hS => ?_)
    clear hK K
    try simp only [Act.put, pa, pb, pc]
    refine r1 9 (some 28) rfl (fun K hK => ?_)
    go_simp
    refine (implSeenOk_d _ x.seen (headRevT x) _ (HM.out.arg R4.out) hs.seen).mono ?_
    rw [hse]
    rintro e' W8 ⟨rfl, b'⟩
    replace HM := Lib.hid (HM.out.past b')
    clear b'
    clear hS
    refine hK.out _ _ (HM.out.pick (ks := [0]) (by decide) rfl) (fun hS => ?_)
    clear hK K
    try simp only [Act.put, pa, pb, pc]
    first | refine tu 10 29 rfl hS ?_ | (refine tk (v := ?_) 10 29 rfl (fun w' hS' => ?_) hS ?_; rotate_left; · (go_simp; all_goals (with_reducible rfl)))
    try simp only [Act.put, pa, pb, pc]
    refine tk (v := ?_) 11 30 rfl (fun w' hS' => ?_) hS ?_
    rotate_left
    · go_simp; all_goals (with_reducible rfl)
    try simp only [Act.put, pa, pb, pc]
    refine wpAnyH_done (by kernel_rfl) ?_ _
    clear hS
    go_wp2
    go_ret
    exact ⟨ret_b (by rw [HD.out, hn, HF.out, he, hse]; rfl), HM.out.bl⟩
  replace HM := Lib.hid (HM.out.drew)
  refine wp_region_held_drew (S := fun W => Ms w [.bx w.heap.size (.cells #[.string x.name, .int .i64 x.from_, .slice A2 x.text.length c2, .slice A3 x.list.length c3, .slice A4 x.seen.length c4] 31 (0, 0))] W) (by kernel_rfl) (HM.out.pick (ks := [0]) (by decide) rfl) (fun hS => ?_)
  generalize W2.drew = W9 at HM hS  ⊢
  refine tk (v := ?_) 0 19 rfl (fun w' hS' => ?_) hS ?_
  rotate_left
  · go_simp; all_goals (with_reducible rfl)
  try simp only [Act.put, pa, pb, pc]
  refine tk (v := ?_) 1 20 rfl (fun w' hS' => ?_) hS ?_
  rotate_left
  · (try dsimp only at hS'); obtain ⟨q0, q1, q2, q3, q4⟩ := hS'.c5 0 rfl; go_simp; all_goals (with_reducible rfl)
  try simp only [Act.put, pa, pb, pc]
  refine r1 2 (some 21) rfl (fun K hK => ?_)
  go_simp
  refine (implEntriesOk_d _ x.list _ (HM.out.arg R3.out) hs.list).mono ?_
  rw [he]
  rintro e' W10 ⟨rfl, b'⟩
  replace HM := Lib.hid (HM.out.past b')
  clear b'
  clear hS
  refine hK.out _ _ (HM.out.pick (ks := [0]) (by decide) rfl) (fun hS => ?_)
  clear hK K
  try simp only [Act.put, pa, pb, pc]
  refine tk (v := ?_) 3 22 rfl (fun w' hS' => ?_) hS ?_
  rotate_left
  · go_simp; all_goals (with_reducible rfl)
  try simp only [Act.put, pa, pb, pc]
  refine tk (v := ?_) 4 23 rfl (fun w' hS' => ?_) hS ?_
  rotate_left
  · go_simp; all_goals (with_reducible rfl)
  try simp only [Act.put, pa, pb, pc]
  first | refine tu 5 24 rfl hS ?_ | (refine tk (v := ?_) 5 24 rfl (fun w' hS' => ?_) hS ?_; rotate_left; · (go_simp; all_goals (with_reducible rfl)))
  try simp only [Act.put, pa, pb, pc]
  first | refine tu 6 25 rfl hS ?_ | (refine tk (v := ?_) 6 25 rfl (fun w' hS' => ?_) hS ?_; rotate_left; · ((try dsimp only at hS'); obtain ⟨q0, q1, q2, q3, q4⟩ := hS'.c5 0 rfl; go_simp; all_goals (with_reducible rfl)))
  try simp only [Act.put, pa, pb, pc]
  first | refine tu 7 26 rfl hS ?_ | (refine tk (v := ?_) 7 26 rfl (fun w' hS' => ?_) hS ?_; rotate_left; · ((try dsimp only at hS'); obtain ⟨q0, q1, q2, q3, q4⟩ := hS'.c5 0 rfl; go_simp; all_goals (with_reducible rfl)))
  try simp only [Act.put, pa, pb, pc]
  refine r1 8 (some 27) rfl (fun K hK => ?_)
  go_simp
  refine (implHeadRev_w _ x _ (HM.out.arg HR.out)).mono ?_
  rintro e' W11 ⟨rfl, b'⟩
  replace HM := Lib.hid (HM.out.past b')
  clear b'
  clear hS
  refine hK.out _ _ (HM.out.pick (ks := [0]) (by decide) rfl) (fun hS => ?_)
  clear hK K
  try simp only [Act.put, pa, pb, pc]
  refine r1 9 (some 28) rfl (fun K hK => ?_)
  go_simp
  refine (implSeenOk_d _ x.seen (headRevT x) _ (HM.out.arg R4.out) hs.seen).mono ?_
  rw [hse]
  rintro e' W12 ⟨rfl, b'⟩
  replace HM := Lib.hid (HM.out.past b')
  clear b'
  clear hS
  refine hK.out _ _ (HM.out.pick (ks := [0]) (by decide) rfl) (fun hS => ?_)
  clear hK K
  try simp only [Act.put, pa, pb, pc]
  first | refine tu 10 29 rfl hS ?_ | (refine tk (v := ?_) 10 29 rfl (fun w' hS' => ?_) hS ?_; rotate_left; · (go_simp; all_goals (with_reducible rfl)))
  try simp only [Act.put, pa, pb, pc]
  refine tk (v := ?_) 11 30 rfl (fun w' hS' => ?_) hS ?_
  rotate_left
  · go_simp; all_goals (with_reducible rfl)
  try simp only [Act.put, pa, pb, pc]
  refine wpAnyH_done (by kernel_rfl) ?_ _
  clear hS
  go_wp2
  replace HM := Lib.hid (HM.out.drew)
  refine wp_region_held_drew (S := fun W => Ms w [.bx w.heap.size (.cells #[.string x.name, .int .i64 x.from_, .slice A2 x.text.length c2, .slice A3 x.list.length c3, .slice A4 x.seen.length c4] 31 (0, 0))] W) (by kernel_rfl) (HM.out.pick (ks := [0]) (by decide) rfl) (fun hS => ?_)
  generalize W12.drew = W13 at HM hS  ⊢
  refine tk (v := ?_) 0 32 rfl (fun w' hS' => ?_) hS ?_
  rotate_left
  · go_simp; all_goals (with_reducible rfl)
  try simp only [Act.put, pa, pb, pc]
  refine tk (v := ?_) 1 33 rfl (fun w' hS' => ?_) hS ?_
  rotate_left
  · (try dsimp only at hS'); obtain ⟨q0, q1, q2, q3, q4⟩ := hS'.c5 0 rfl; go_simp; all_goals (with_reducible rfl)
  try simp only [Act.put, pa, pb, pc]
  refine tk (v := ?_) 3 35 rfl (fun w' hS' => ?_) hS ?_
  rotate_left
  · go_simp; all_goals (with_reducible rfl)
  try simp only [Act.put, pa, pb, pc]
  refine tk (v := ?_) 4 36 rfl (fun w' hS' => ?_) hS ?_
  rotate_left
  · (try dsimp only at hS'); obtain ⟨q0, q1, q2, q3, q4⟩ := hS'.c5 0 rfl; go_simp; all_goals (with_reducible rfl)
  try simp only [Act.put, pa, pb, pc]
  refine r1 2 (some 34) rfl (fun K hK => ?_)
  go_simp
  refine (implOpsOf_d _ x.list _ (HM.out.arg R3.out) hs.list).mono ?_
  rintro e' W14 ⟨v', rfl, o', b'⟩
  obtain ⟨Al, nl, cl, rfl⟩ := sliceV o'.read
  obtain ⟨bl, hm⟩ := HM.out.got o' b'
  clear o' b'
  replace HM := Lib.hid hm
  clear hm
  clear hS
  refine hK.out _ _ (HM.out.pick (ks := [1]) (by decide) rfl) (fun hS => ?_)
  clear hK K
  try simp only [Act.put, pa, pb, pc]
  refine r1 5 (some 37) rfl (fun K hK => ?_)
  go_simp
  refine (implApplyAll_d _ _ (x.list.map En.o) x.text _ (HM.out.read (i := 0) rfl) (HM.out.arg R2.out) (smEns_pp hs.list) hs.text).mono ?_
  rintro e' W15 ⟨v', rfl, o', b'⟩
  clear o'
  replace HM := Lib.hid (HM.out.past b')
  clear b'
  clear hS
  refine hK.out _ _ (HM.out.pick (ks := [1]) (by decide) rfl) (fun hS => ?_)
  clear hK K
  try simp only [Act.put, pa, pb, pc]
  refine tk (v := ?_) 6 31 rfl (fun w' hS' => ?_) hS ?_
  rotate_left
  · go_simp; all_goals (with_reducible rfl)
  try simp only [Act.put, pa, pb, pc]
  refine tk (v := ?_) 7 38 rfl (fun w' hS' => ?_) hS ?_
  rotate_left
  · go_simp; all_goals (with_reducible rfl)
  try simp only [Act.put, pa, pb, pc]
  refine tk (v := ?_) 8 39 rfl (fun w' hS' => ?_) hS ?_
  rotate_left
  · go_simp; all_goals (with_reducible rfl)
  try simp only [Act.put, pa, pb, pc]
  refine tk (v := ?_) 9 3 rfl (fun w' hS' => ?_) hS ?_
  rotate_left
  · go_simp; all_goals (with_reducible rfl)
  try simp only [Act.put, pa, pb, pc]
  refine tk (v := ?_) 10 4 rfl (fun w' hS' => ?_) hS ?_
  rotate_left
  · go_simp; all_goals (with_reducible rfl)
  try simp only [Act.put, pa, pb, pc]
  refine wpAnyH_done (by kernel_rfl) ?_ _
  clear hS
  go_wp2
  go_ret
  exact ⟨ret_b (by rw [HD.out, hn, HF.out, he, hse]; rfl), HM.out.bl⟩
theorem implDocOk_d (v : Value) (x : Do) (w : World) (h : RdC w w.heap.size (datDo x) v) (hs : SmDo x) : Calls Tryz.prog 21 #[v] w (Tells (docB x) w) := implDocOk_w v x w h hs.four
set_option maxRecDepth 100000 in
set_option maxHeartbeats 3200000 in
theorem implStores_d (v : Value) (x : Do) (r : Int) (w : World) (h : RdC w w.heap.size (datDo x) v) (hs : SmDo x) : Calls Tryz.prog 51 #[v, .int .i64 r] w (Tells (textAtB x r) w) := by
  have HR := Lib.hid h
  obtain ⟨A2, c2, A3, c3, A4, c4, rfl, -, -, -⟩ := aggDo h
  have HD := Lib.hid (show textAtB x r = (docB x && inB r x.from_ (headRevT x)) from rfl)
  clear h
  have HM := Lib.hid (Ms.start w)
  replace HM := Lib.hid (HM.out.new #[.string x.name, .int .i64 x.from_, .slice A2 x.text.length c2, .slice A3 x.list.length c3, .slice A4 x.seen.length c4] 31)
  go_enter Tryz.func51, Tryz.ntmps51
  go_wp2_with fail
  obtain ⟨W1, hW, hm⟩ := HM.out.name
  rw [← hW]
  replace HM := Lib.hid hm
  clear hm hW
  refine (implDocOk_d _ x _ (HM.out.arg HR.out) hs).mono ?_
  rintro e' W2 ⟨rfl, b'⟩
  replace HM := Lib.hid (HM.out.past b')
  clear b'
  cases hd : docB x
  · go_wp2
    go_ret
    exact ⟨ret_b (by rw [HD.out, hd]; rfl), HM.out.bl⟩
  obtain ⟨kx0, kx1, kx2, kx3, kx4⟩ := HM.out.c5 0 rfl
  by_cases h1 : x.from_ ≤ r
  rotate_left
  · have H9 := Lib.hid (show inB r x.from_ (headRevT x) = false from inB_f (by omega))
    have g1 : decide (x.from_ ≤ r) = false := decide_eq_false h1
    go_wp2
    go_ret
    exact ⟨ret_b (by rw [HD.out, hd, H9.out]; rfl), HM.out.bl⟩
  have g1 : decide (x.from_ ≤ r) = true := decide_eq_true h1
  go_wp2_with fail
  clear kx0 kx1 kx2 kx3 kx4
  refine (implHeadRev_w _ x _ (HM.out.arg HR.out)).mono ?_
  rintro e' W3 ⟨rfl, b'⟩
  replace HM := Lib.hid (HM.out.past b')
  clear b'
  by_cases h2 : r ≤ headRevT x
  · have H9 := Lib.hid (show inB r x.from_ (headRevT x) = true from inB_t ⟨h1, h2⟩)
    have g2 : decide (r ≤ headRevT x) = true := decide_eq_true h2
    go_wp2
    go_ret
    exact ⟨ret_b (by rw [HD.out, hd, H9.out]; rfl), HM.out.bl⟩
  · have H9 := Lib.hid (show inB r x.from_ (headRevT x) = false from inB_f (by omega))
    have g2 : decide (r ≤ headRevT x) = false := decide_eq_false h2
    go_wp2
    go_ret
    exact ⟨ret_b (by rw [HD.out, hd, H9.out]; rfl), HM.out.bl⟩
set_option maxRecDepth 100000 in
set_option maxHeartbeats 3200000 in
theorem implTextAt_d (v : Value) (x : Do) (r : Int) (w : World) (h : RdC w w.heap.size (datDo x) v) (hs : SmDo x) : Calls Tryz.prog 22 #[v, .int .i64 r] w (ResB (encInts (textAtT x r)) (textAtB x r) w) := by
  have HR := Lib.hid h
  obtain ⟨A2, c2, A3, c3, A4, c4, rfl, r2, r3, -⟩ := aggDo h
  have R2 := Lib.hid r2
  have R3 := Lib.hid r3
  have hl := hs.list.len
  have hcl : x.list.length ≤ c3 := RdC.cap_le r3
  clear h r2 r3
  have HM := Lib.hid (Ms.start w)
  replace HM := Lib.hid (HM.out.new #[.string x.name, .int .i64 x.from_, .slice A2 x.text.length c2, .slice A3 x.list.length c3, .slice A4 x.seen.length c4] 31)
  go_enter Tryz.func22, Tryz.ntmps22
  go_wp2_with fail
  obtain ⟨W1, hW, hm⟩ := HM.out.name
  rw [← hW]
  replace HM := Lib.hid hm
  clear hm hW
  refine (implStores_d _ x r _ (HM.out.arg HR.out) hs).mono ?_
  rintro e' W2 ⟨rfl, b'⟩
  replace HM := Lib.hid (HM.out.past b')
  clear b'
  cases hT : textAtB x r
  · have HN := Lib.hid (textAt_f hT)
    go_wp2
    go_ret2
    rw [HN.out.1, HN.out.2]
    exact (HM.out.nil 3 1).resB false
  have hT2 := hT
  unfold textAtB at hT2
  rw [Bool.and_eq_true] at hT2
  obtain ⟨hd, hi⟩ := hT2
  obtain ⟨f0, f1, f2, f3⟩ := docB_of hd
  unfold inB at hi
  have hi1 := of_decide_eq_true hi
  rw [f3] at hi1
  obtain ⟨m, hm⟩ : ∃ m : Nat, r = x.from_ + (m : Int) := ⟨(r - x.from_).toNat, by omega⟩
  subst hm
  have hm1 : m ≤ x.list.length := by omega
  have HDD := Lib.hid hd
  have HTT := Lib.hid hT
  clear f3 hi hi1 hd hT
  have g1 : IntKind.i64.wrap (m : Int) = (m : Int) := IntWalk.i64_in _ (by omega)
  have g3 : x.from_ + (m : Int) - x.from_ = (m : Int) := by omega
  obtain ⟨k1, k2⟩ := doc_text HDD.out m
  have K1 := Lib.hid k1
  have K2 := Lib.hid (show textAtT x (x.from_ + (m : Int)) = applyAllT ((x.list.take m).map En.o) x.text by rw [k2]; unfold textAtT; rw [if_pos HTT.out, g3]; rfl)
  clear k1 k2
  have hmc : m ≤ c3 := by omega
  have G1 := Lib.hid g1
  clear g1
  go_wp2
  have g1 := G1.out
  have g4 : ((m : Int)).toNat = m := Int.toNat_natCast m
  have g5 : (0 : Int) ≤ (m : Int) := by omega
  replace HM := Lib.hid (HM.out.drew)
  refine wp_region_held_drew (S := fun W => Ms w [.bx w.heap.size (.cells #[.string x.name, .int .i64 x.from_, .slice A2 x.text.length c2, .slice A3 x.list.length c3, .slice A4 x.seen.length c4] 31 (0, 0))] W) (by kernel_rfl) (HM.out.pick (ks := [0]) (by decide) rfl) (fun hS => ?_)
  generalize W2.drew = W3 at HM hS  ⊢
  refine tk (v := ?_) 0 10 rfl (fun w' hS' => ?_) hS ?_
  rotate_left
  · go_simp; all_goals (with_reducible rfl)
  try simp only [Act.put, pa, pb, pc]
  refine tk (v := ?_) 1 11 rfl (fun w' hS' => ?_) hS ?_
  rotate_left
  · (try dsimp only at hS'); obtain ⟨q0, q1, q2, q3, q4⟩ := hS'.c5 0 rfl; go_simp; all_goals (with_reducible rfl)
  try simp only [Act.put, pa, pb, pc]
  refine tk (v := ?_) 2 12 rfl (fun w' hS' => ?_) hS ?_
  rotate_left
  · go_simp; all_goals (with_reducible rfl)
  try simp only [Act.put, pa, pb, pc]
  refine tk (v := ?_) 3 13 rfl (fun w' hS' => ?_) hS ?_
  rotate_left
  · go_simp; all_goals (with_reducible rfl)
  try simp only [Act.put, pa, pb, pc]
  refine tk (v := ?_) 4 14 rfl (fun w' hS' => ?_) hS ?_
  rotate_left
  · (try dsimp only at hS'); obtain ⟨q0, q1, q2, q3, q4⟩ := hS'.c5 0 rfl; go_simp; all_goals (with_reducible rfl)
  try simp only [Act.put, pa, pb, pc]
  refine tk (v := ?_) 5 15 rfl (fun w' hS' => ?_) hS ?_
  rotate_left
  · go_simp; all_goals (with_reducible rfl)
  try simp only [Act.put, pa, pb, pc]
  refine tk (v := ?_) 6 16 rfl (fun w' hS' => ?_) hS ?_
  rotate_left
  · go_simp; all_goals (with_reducible rfl)
  try simp only [Act.put, pa, pb, pc]
  refine tk (v := ?_) 8 18 rfl (fun w' hS' => ?_) hS ?_
  rotate_left
  · go_simp; all_goals (with_reducible rfl)
  try simp only [Act.put, pa, pb, pc]
  refine tk (v := ?_) 9 19 rfl (fun w' hS' => ?_) hS ?_
  rotate_left
  · (try dsimp only at hS'); obtain ⟨q0, q1, q2, q3, q4⟩ := hS'.c5 0 rfl; go_simp; all_goals (with_reducible rfl)
  try simp only [Act.put, pa, pb, pc]
  refine r1 7 (some 17) rfl (fun K hK => ?_)
  go_simp
  refine (implOpsOf_d _ (x.list.take m) _ (HM.out.arg (by have h := RdC.take_ R3.out (m := m) (by simpa using hm1); rw [← List.map_take] at h; exact h)) (smEns_take hs.list m)).mono ?_
  rintro e' W4 ⟨v', rfl, o', b'⟩
  obtain ⟨Al, nl, cl, rfl⟩ := sliceV o'.read
  obtain ⟨bl, hm⟩ := HM.out.got o' b'
  clear o' b'
  replace HM := Lib.hid hm
  clear hm
  clear hS
  refine hK.out _ _ (HM.out.pick (ks := [1]) (by decide) rfl) (fun hS => ?_)
  clear hK K
  try simp only [Act.put, pa, pb, pc]
  refine r1 10 (some 20) rfl (fun K hK => ?_)
  go_simp
  refine (implApplyAll_d _ _ ((x.list.take m).map En.o) x.text _ (HM.out.read (i := 0) rfl) (HM.out.arg R2.out) (smEns_pp (smEns_take hs.list m)) hs.text).mono ?_
  rw [K1.out]
  rintro e' W5 ⟨v', rfl, o', b'⟩
  obtain ⟨At, nt, ct, rfl⟩ := sliceV o'.read
  obtain ⟨bt, hm⟩ := HM.out.got o' b'
  clear o' b'
  replace HM := Lib.hid hm
  clear hm
  clear hS
  refine hK.out _ _ (HM.out.pick (ks := [2]) (by decide) rfl) (fun hS => ?_)
  clear hK K
  try simp only [Act.put, pa, pb, pc]
  refine tk (v := ?_) 11 21 rfl (fun w' hS' => ?_) hS ?_
  rotate_left
  · go_simp; all_goals (with_reducible rfl)
  try simp only [Act.put, pa, pb, pc]
  refine tk (v := ?_) 12 22 rfl (fun w' hS' => ?_) hS ?_
  rotate_left
  · go_simp; all_goals (with_reducible rfl)
  try simp only [Act.put, pa, pb, pc]
  refine tk (v := ?_) 13 4 rfl (fun w' hS' => ?_) hS ?_
  rotate_left
  · go_simp; all_goals (with_reducible rfl)
  try simp only [Act.put, pa, pb, pc]
  refine tk (v := ?_) 14 5 rfl (fun w' hS' => ?_) hS ?_
  rotate_left
  · go_simp; all_goals (with_reducible rfl)
  try simp only [Act.put, pa, pb, pc]
  refine wpAnyH_done (by kernel_rfl) ?_ _
  clear hS
  go_wp2
  go_ret2
  rw [K2.out, HTT.out]
  exact HM.out.resB true
end Go.Proofs.YtgfbcpcfdlnbhabGreat.low


/-
  Contracts of impl.copyEntries and clones of rows of clients. Written by mkimp8c.py.
-/
namespace Go.Proofs.YtgfbcpcfdlnbhabGreat.low
open Go.RowKit
set_option linter.unusedVariables false

set_option maxRecDepth 100000 in
set_option maxHeartbeats 3200000 in
theorem cloneSe_d (v : Value) (l : List Se) (w : World) (h : RdC w w.heap.size (encSes l) v) (hs : l.length ≤ 1048576) : Calls Tryz.prog 25 #[v] w (OwnPost (encSes l) w) := by
  obtain ⟨A, c, rfl⟩ := sliceSes h
  have hq : ∀ (w : World) (A : Option Addr) (n c n' c' : Nat), (binOp .eql 29 (.slice A n c) (.slice none n' c')).run Tryz.prog w = .ok (.bool A.isNone) w := fun w A n c n' c' => Lib.run_eql_slice_nil w _ _ A n c n' c' Tryz.underlying29
  cases A with
  | none =>
    obtain rfl : l = [] := by
      obtain ⟨A9, c9, hv, _, h9⟩ := h
      injection hv with e1 e2 e3
      by_cases h0 : 0 < l.length
      · obtain ⟨ad, e4, _⟩ := h9 (by simpa using h0)
        rw [← e1] at e4
        cases e4
      · exact List.eq_nil_of_length_eq_zero (by omega)
    clear h
    go_enter Tryz.func25, Tryz.ntmps25
    go_wp2
    go_ret
    exact ((Ms.start w).nil 52 3).post
  | some ad =>
    have HR := Lib.hid h
    clear h
    have HM := Lib.hid (Ms.start w)
    replace HM := Lib.hid (HM.out.empty 52 3)
    go_enter Tryz.func25, Tryz.ntmps25
    go_wp2_with (at_builtin; refine wpList_msAll rfl (.tmp 5) (.tmp 6) 29 rfl eltSe HM.out rfl (some ad) l.length c rfl (HM.out.arg HR.out) (flatSe _) (by simp; omega) ?_; intro A1 c1 w1 b1 hm)
    simp only [List.nil_append, List.length_nil, Nat.zero_add] at hm ⊢
    have HM1 := Lib.hid hm
    clear hm HM
    go_wp2
    go_ret
    exact (show Ms w (.dt (encSes l) _ _ :: _) _ from HM1.out).post
set_option maxRecDepth 100000 in
set_option maxHeartbeats 3200000 in
theorem cloneEns_d (v : Value) (l : List En) (w : World) (h : RdC w w.heap.size (encEns l) v) (hs : l.length ≤ 1048576) : Calls Tryz.prog 53 #[v] w (RawPost 67 (l.map encEn) w) := by
  obtain ⟨A, c, rfl⟩ := sliceEns h
  have hq : ∀ (w : World) (A : Option Addr) (n c n' c' : Nat), (binOp .eql 28 (.slice A n c) (.slice none n' c')).run Tryz.prog w = .ok (.bool A.isNone) w := fun w A n c n' c' => Lib.run_eql_slice_nil w _ _ A n c n' c' Tryz.underlying28
  cases A with
  | none =>
    obtain rfl : l = [] := by
      obtain ⟨A9, c9, hv, _, h9⟩ := h
      injection hv with e1 e2 e3
      by_cases h0 : 0 < l.length
      · obtain ⟨ad, e4, _⟩ := h9 (by simpa using h0)
        rw [← e1] at e4
        cases e4
      · exact List.eq_nil_of_length_eq_zero (by omega)
    clear h
    go_enter Tryz.func53, Tryz.ntmps53
    go_wp2
    go_ret
    exact .inl ⟨rfl, rfl, rfl⟩
  | some ad =>
    have HR := Lib.hid h
    clear h
    have e0 : (l.map encEn).length = l.length := List.length_map _
    have E0 := Lib.hid e0
    clear e0
    have HM := Lib.hid (Ms.start w)
    replace HM := Lib.hid (HM.out.empty 67 3)
    go_enter Tryz.func53, Tryz.ntmps53
    go_wp2_with (at_builtin; refine wpList_raw (rs := l.map encEn) rfl (.tmp 5) (.tmp 6) 28 rfl eltEn HM.out rfl (some ad) l.length c rfl HR.out (fun r hr => by obtain ⟨q, _, rfl⟩ := List.mem_map.1 hr; exact ⟨rfl, fun d hd => by simp only [encEn, List.mem_cons, List.not_mem_nil, or_false] at hd; rcases hd with rfl | rfl | rfl <;> rfl⟩) (by rw [E0.out]; omega) ?_; intro g cap w1 b1 ys hcap hm hraw hcells)
    have HM1 := Lib.hid hm
    have HX := Lib.hid (And.intro hraw (And.intro hcells hcap))
    clear hm HM hraw hcells hcap
    go_wp2
    go_ret
    exact .inr ⟨g, cap, ys, by rw [E0.out]; rfl, by rw [E0.out]; exact HX.out.2.2, HM1.out.own (i := 0) rfl, HX.out.1, HX.out.2.1, HM1.out.bl⟩
set_option maxRecDepth 100000 in
set_option maxHeartbeats 3200000 in
theorem implCopyEntries_d (v : Value) (l : List En) (w : World) (h : RdC w w.heap.size (encEns l) v) (hs : SmEns l) : Calls Tryz.prog 24 #[v] w (OwnPost (encEns l) w) := by
  obtain ⟨A, c, rfl⟩ := sliceEns h
  have hl : l.length ≤ 1048576 := by have := hs.len; omega
  have HR := Lib.hid h
  clear h
  have HM := Lib.hid (Ms.start w)
  go_enter Tryz.func24, Tryz.ntmps24
  go_wp2_with fail
  refine (cloneEns_d _ l _ HR.out hl).mono ?_
  rintro e' W1 (⟨h0, rfl, rfl⟩ | ⟨g, cap, ys, rfl, hcap, o', hraw, hcells, b'⟩)
  · obtain rfl : l = [] := List.map_eq_nil_iff.1 h0
    go_wp2
    refine wp_loop_rounds 1 ?_
    rw [rounds_succ]
    go_wp2
    go_ret
    exact (HM.out.nil 67 3).post
  · rw [show (l.map encEn).length = l.length from List.length_map _] at hcap ⊢
    have HW := Lib.hid hraw
    have HC := Lib.hid hcells
    clear hraw hcells
    obtain ⟨bp, hm⟩ := HM.out.got o' b'
    clear o' b'
    replace HM := Lib.hid hm
    clear hm
    go_wp2
    go_loopw [10] (fun i wr => ∃ (j : Nat) (bs : List Nat), j ≤ l.length ∧ i = .int .i64 (j : Int) ∧ Ms w [.dt (.rows 67 3 ((l.take j).map encEn)) (.slice (some ⟨g, 0, none⟩) j cap) bs] wr ∧ Raw wr g (j * 3) ys) (fun i _ => l.length - (intOf i).toNat)
    case atStart => exact ⟨0, _, Nat.zero_le _, rfl, HM.out, by simpa using HW.out⟩
    case round =>
      obtain ⟨j, bs, hj, rfl, hm, hw⟩ := hrel
      clear HM HW
      have HM := Lib.hid hm
      have HW := Lib.hid hw
      clear hm hw
      by_cases hlt : j < l.length
      · obtain ⟨p, hp⟩ : ∃ p, l[j]? = some p := ⟨_, List.getElem?_eq_getElem hlt⟩
        obtain ⟨y, hy, hyl, hyk⟩ := HC.out j (encEn p) (by rw [List.getElem?_map, hp]; rfl)
        obtain ⟨_, _, rfl, rfl, _, _, rfl, rfl, v2, _, rfl, hr2, rfl⟩ := hy
        obtain ⟨A5, c5, rfl⟩ := sliceP hr2
        have x0 : wr.cell? ⟨g, j * 3, none⟩ = some (.int .i64 p.client) := HW.out.cell (Nat.le_refl _) (hyk 0 _ rfl)
        have x1 : wr.cell? ⟨g, j * 3 + 1, none⟩ = some (.int .i64 p.seq) := HW.out.cell (by omega) (hyk 1 _ rfl)
        have x2 : wr.cell? ⟨g, j * 3 + 2, none⟩ = some (.slice A5 p.o.length c5) := HW.out.cell (by omega) (hyk 2 _ rfl)
        have HY := Lib.hid (show ys[j * 3]? = some (.int .i64 p.client) ∧ ys[j * 3 + 1]? = some (.int .i64 p.seq) from ⟨hyk 0 _ rfl, hyk 1 _ rfl⟩)
        have x3 : ys[j * 3 + 2]? = some (.slice A5 p.o.length c5) := hyk 2 _ rfl
        have X3 := Lib.hid x3
        have HR2 := Lib.hid hr2
        have HT := Lib.hid (show (l.take (j + 1)).map encEn = (l.take j).map encEn ++ [[.int p.client, .int p.seq, encPs p.o]] by rw [List.take_add_one, hp]; simp [encEn])
        have hsm := (hs.at_ (List.mem_of_getElem? hp)).o
        have hlj : j < cap := by omega
        have hlen : ((l.take j).map encEn).length = j := by simp; omega
        have HLN := Lib.hid hlen
        clear hyk hyl hr2 x3 hp hlen
        have HW := Lib.hid (HW.out.past (alloc_below wr (.cells #[.int .i64 p.client, .int .i64 p.seq, .slice A5 p.o.length c5] 67)))
        replace HM := Lib.hid (HM.out.new #[.int .i64 p.client, .int .i64 p.seq, .slice A5 p.o.length c5] 67)
        go_wp2_with fail
        generalize (wr.alloc (.cells #[.int .i64 p.client, .int .i64 p.seq, .slice A5 p.o.length c5] 67)) = W2 at HM HW ⊢
        refine (implCopyOp_d _ p.o _ (HM.out.arg HR2.out) hsm).mono ?_
        rintro e' W3 ⟨v', rfl, o', b'⟩
        obtain ⟨A6, c6, rfl⟩ := sliceP o'.read
        have HW := Lib.hid (HW.out.past b')
        obtain ⟨b6, hm⟩ := HM.out.got o' b'
        clear o' b'
        replace HM := Lib.hid hm
        clear hm
        have y2 : W3.cell? ⟨g, j * 3 + 2, none⟩ = some (.slice A5 p.o.length c5) := HW.out.cell (by omega) X3.out
        have f2 : W3.frozen? ⟨g, j * 3 + 2, none⟩ = false := HW.out.free
        clear x0 x1 x2
        have hm := HM.out.pk [2, 0, 1] (by decide) (by simp)
        simp only [low.pk, List.getElem?_cons_zero, List.getElem?_cons_succ] at hm
        replace HM := Lib.hid hm
        clear hm
        obtain ⟨b8, hm⟩ := HM.out.fill3 HLN.out.symm hlj HW.out HY.out.1 HY.out.2
        rw [← HT.out] at hm
        have HM8 := Lib.hid hm
        have HW8 := Lib.hid (HW.out.set (k' := (j + 1) * 3) (j * 3 + 2) (.slice A6 p.o.length c6) (by omega) (by omega))
        clear hm HM HW HY X3 HT HR2
        go_wp2
        go_roundw
        case rel => exact ⟨j + 1, b8, by omega, by go_num, HM8.out.pick (ks := [0]) (by decide) rfl, HW8.out⟩
        case measure => simp [intOf]; omega
      · obtain rfl : j = l.length := by omega
        have hm := HM.out
        rw [List.take_length] at hm
        have HM7 := Lib.hid hm
        clear hm HM
        go_wp2
        go_ret
        exact (show Ms w [.dt (encEns l) _ _] _ from HM7.out).post
end Go.Proofs.YtgfbcpcfdlnbhabGreat.low


/-
  Contract of impl.Forget. Written by mkimp8f.py.
-/
namespace Go.Proofs.YtgfbcpcfdlnbhabGreat.low
open Go.RowKit
set_option linter.unusedVariables false

theorem textAt_first {x : Do} (h : docB x = true) : textAtT x x.from_ = x.text ∧ textAtB x x.from_ = true := by
  obtain ⟨f0, f1, f2, f3⟩ := docB_of h
  have e : textAtB x x.from_ = true := by
    unfold textAtB
    rw [h, inB_t (by omega)]
    rfl
  refine ⟨?_, e⟩
  unfold textAtT
  rw [if_pos e, Int.sub_self]
  rfl
/-- forgetting, said at the place where the list is cut -/
theorem forget_at {x : Do} {n : Int} {m : Nat} (hd : docB x = true) (h0 : 0 ≤ n) (hm : (m : Int) = max 0 ((x.list.length : Int) - n)) : forgetB x n = true ∧ forgetT x n = ⟨x.name, x.from_ + (m : Int), textAtT x (x.from_ + (m : Int)), x.list.drop m, x.seen⟩ := by
  have hF : forgetB x n = true := by
    unfold forgetB
    rw [hd]
    simp
    omega
  refine ⟨hF, ?_⟩
  unfold forgetT
  rw [if_pos hF]
  split
  · obtain rfl : m = 0 := by omega
    have e := (textAt_first hd).1
    simp [e]
  · have e : (x.list.length : Int) - n = (m : Int) := by omega
    rw [e]
    simp
set_option maxRecDepth 100000 in
set_option maxHeartbeats 3200000 in
theorem implForget_a (v : Value) (x : Do) (n : Int) (w : World) (h : RdC w w.heap.size (datDo x) v) (hs : SmDo x) (hn : n < 9223372036854775808) (hd : docB x = false) : Calls Tryz.prog 7 #[v, .int .i64 n] w (ResB (datDo (forgetT x n)) (forgetB x n) w) := by
  have HR := Lib.hid h
  obtain ⟨A2, c2, A3, c3, A4, c4, rfl, r2, r3, r4⟩ := aggDo h
  have R3 := Lib.hid r3
  have R4 := Lib.hid r4
  have hl := hs.list.len
  have hcl : x.list.length ≤ c3 := RdC.cap_le r3
  clear h r2 r3 r4
  have HN := Lib.hid (forget_f (show forgetB x n = false from by unfold forgetB; simp [hd]))
  have HM := Lib.hid (Ms.start w)
  replace HM := Lib.hid (HM.out.new #[.string x.name, .int .i64 x.from_, .slice A2 x.text.length c2, .slice A3 x.list.length c3, .slice A4 x.seen.length c4] 31)
  have hm := HM.out.new #[.string ⟨#[]⟩, .int .i64 0, .slice none 0 0, .slice none 0 0, .slice none 0 0] 31
  simp only [World.size_alloc] at hm
  replace HM := Lib.hid hm
  clear hm
  go_enter Tryz.func7, Tryz.ntmps7
  go_wp2_with fail
  obtain ⟨W1, hW, hm⟩ := HM.out.name
  rw [← hW]
  replace HM := Lib.hid hm
  clear hm hW
  refine (implDocOk_d _ x _ (HM.out.arg HR.out) hs).mono ?_
  rw [hd]
  rintro e' W2 ⟨rfl, b'⟩
  replace HM := Lib.hid (HM.out.past b')
  clear b'
  obtain ⟨kr0, kr1, kr2, kr3, kr4⟩ := HM.out.c5 0 rfl
  obtain ⟨fr0, fr1, fr2, fr3, fr4⟩ := HM.out.f5 0 rfl
  go_wp2
  clear kr0 kr1 kr2 kr3 kr4 fr0 fr1 fr2 fr3 fr4
  have hm := HM.out.putRow (ys := [.string ⟨#[]⟩, .int .i64 0, .slice none 0 0, .slice none 0 0, .slice none 0 0]) rfl
  simp only [low.putRow, Nat.zero_add, Nat.reduceAdd] at hm
  replace HM := Lib.hid hm
  clear hm
  obtain ⟨W3, hW, hm⟩ := HM.out.name
  rw [← hW]
  replace HM := Lib.hid hm
  clear hm hW
  obtain ⟨kr0, kr1, kr2, kr3, kr4⟩ := HM.out.c5 0 rfl
  rw [HN.out.1, HN.out.2]
  exact bodyPost_ret (v := .tuple #[.agg #[.string ⟨#[]⟩, .int .i64 0, .slice none 0 0, .slice none 0 0, .slice none 0 0], .bool false]) (by simp [results, Tryz.results7, go_sem, kr0, kr1, kr2, kr3, kr4]) rfl (HM.out.noDo.resB false)
set_option maxRecDepth 100000 in
set_option maxHeartbeats 3200000 in
theorem implForget_b (v : Value) (x : Do) (n : Int) (w : World) (h : RdC w w.heap.size (datDo x) v) (hs : SmDo x) (hn : n < 9223372036854775808) (hd : docB x = true) (hneg : n < 0) : Calls Tryz.prog 7 #[v, .int .i64 n] w (ResB (datDo (forgetT x n)) (forgetB x n) w) := by
  have HR := Lib.hid h
  obtain ⟨A2, c2, A3, c3, A4, c4, rfl, r2, r3, r4⟩ := aggDo h
  have R3 := Lib.hid r3
  have R4 := Lib.hid r4
  have hl := hs.list.len
  have hcl : x.list.length ≤ c3 := RdC.cap_le r3
  clear h r2 r3 r4
  have HN := Lib.hid (forget_f (show forgetB x n = false from by unfold forgetB; simp [hneg]))
  have hneg : decide (n < 0) = true := decide_eq_true hneg
  have HM := Lib.hid (Ms.start w)
  replace HM := Lib.hid (HM.out.new #[.string x.name, .int .i64 x.from_, .slice A2 x.text.length c2, .slice A3 x.list.length c3, .slice A4 x.seen.length c4] 31)
  have hm := HM.out.new #[.string ⟨#[]⟩, .int .i64 0, .slice none 0 0, .slice none 0 0, .slice none 0 0] 31
  simp only [World.size_alloc] at hm
  replace HM := Lib.hid hm
  clear hm
  go_enter Tryz.func7, Tryz.ntmps7
  go_wp2_with fail
  obtain ⟨W1, hW, hm⟩ := HM.out.name
  rw [← hW]
  replace HM := Lib.hid hm
  clear hm hW
  refine (implDocOk_d _ x _ (HM.out.arg HR.out) hs).mono ?_
  rw [hd]
  rintro e' W2 ⟨rfl, b'⟩
  replace HM := Lib.hid (HM.out.past b')
  clear b'
  obtain ⟨kr0, kr1, kr2, kr3, kr4⟩ := HM.out.c5 0 rfl
  obtain ⟨fr0, fr1, fr2, fr3, fr4⟩ := HM.out.f5 0 rfl
  go_wp2
  clear kr0 kr1 kr2 kr3 kr4 fr0 fr1 fr2 fr3 fr4
  have hm := HM.out.putRow (ys := [.string ⟨#[]⟩, .int .i64 0, .slice none 0 0, .slice none 0 0, .slice none 0 0]) rfl
  simp only [low.putRow, Nat.zero_add, Nat.reduceAdd] at hm
  replace HM := Lib.hid hm
  clear hm
  obtain ⟨W3, hW, hm⟩ := HM.out.name
  rw [← hW]
  replace HM := Lib.hid hm
  clear hm hW
  obtain ⟨kr0, kr1, kr2, kr3, kr4⟩ := HM.out.c5 0 rfl
  rw [HN.out.1, HN.out.2]
  exact bodyPost_ret (v := .tuple #[.agg #[.string ⟨#[]⟩, .int .i64 0, .slice none 0 0, .slice none 0 0, .slice none 0 0], .bool false]) (by simp [results, Tryz.results7, go_sem, kr0, kr1, kr2, kr3, kr4]) rfl (HM.out.noDo.resB false)
set_option maxRecDepth 100000 in
set_option maxHeartbeats 3200000 in
theorem implForget_c (v : Value) (x : Do) (n : Int) (w : World) (h : RdC w w.heap.size (datDo x) v) (hs : SmDo x) (hn : n < 9223372036854775808) (hd : docB x = true) (h0 : 0 ≤ n) (hc : 0 < n ∧ 0 < (x.list.length : Int)) : Calls Tryz.prog 7 #[v, .int .i64 n] w (ResB (datDo (forgetT x n)) (forgetB x n) w) := by
  have HR := Lib.hid h
  obtain ⟨A2, c2, A3, c3, A4, c4, rfl, r2, r3, r4⟩ := aggDo h
  have R3 := Lib.hid r3
  have R4 := Lib.hid r4
  have hl := hs.list.len
  have hcl : x.list.length ≤ c3 := RdC.cap_le r3
  clear h r2 r3 r4
  obtain ⟨m, hm⟩ : ∃ m : Nat, (m : Int) = max 0 ((x.list.length : Int) - n) := ⟨(max 0 ((x.list.length : Int) - n)).toNat, by omega⟩
  have HN := Lib.hid (forget_at hd h0 hm)
  obtain ⟨f0, f1, f2, f3⟩ := docB_of hd
  have hneg : decide (n < 0) = false := by simp; omega
  have hm1 : m ≤ x.list.length := by omega
  have HMX := Lib.hid hm.symm
  have HT := Lib.hid (show textAtB x (x.from_ + (m : Int)) = true by unfold textAtB; rw [hd, f3, inB_t (by omega)]; rfl)
  clear f3
  have hlt : m < x.list.length := by omega
  obtain ⟨b0, off0, e0, A50, c50, rfl, -, -, -⟩ := atEns R3.out (i := 0) (by omega)
  have hcap : ¬ m = c3 := by omega
  have hcap2 : ¬ c3 = m := fun e => hcap e.symm
  clear hm hc
  have HM := Lib.hid (Ms.start w)
  replace HM := Lib.hid (HM.out.new #[.string x.name, .int .i64 x.from_, .slice A2 x.text.length c2, .slice (some ⟨b0, off0, none⟩) x.list.length c3, .slice A4 x.seen.length c4] 31)
  have hm := HM.out.new #[.string ⟨#[]⟩, .int .i64 0, .slice none 0 0, .slice none 0 0, .slice none 0 0] 31
  simp only [World.size_alloc] at hm
  replace HM := Lib.hid hm
  clear hm
  go_enter Tryz.func7, Tryz.ntmps7
  go_wp2_with fail
  obtain ⟨W1, hW, hm⟩ := HM.out.name
  rw [← hW]
  replace HM := Lib.hid hm
  clear hm hW
  refine (implDocOk_d _ x _ (HM.out.arg HR.out) hs).mono ?_
  rw [hd]
  rintro e' W2 ⟨rfl, b'⟩
  replace HM := Lib.hid (HM.out.past b')
  clear b'
  obtain ⟨kx0, kx1, kx2, kx3, kx4⟩ := HM.out.c5 1 rfl
  go_wp2_with fail
  try rw [HMX.out]
  clear kx0 kx1 kx2 kx3 kx4
  refine (implTextAt_d _ x (x.from_ + (m : Int)) _ (HM.out.arg HR.out) hs).mono ?_
  rw [HT.out]
  rintro e' W3 ⟨v', rfl, o', b'⟩
  obtain ⟨At, nt, ct, rfl⟩ := sliceV o'.read
  obtain ⟨bt, hm⟩ := HM.out.got o' b'
  clear o' b'
  replace HM := Lib.hid hm
  clear hm
  go_wp2
  replace HM := Lib.hid (HM.out.drew)
  refine wp_region_held_drew (S := fun W => Ms w [.bx w.heap.size (.cells #[.string x.name, .int .i64 x.from_, .slice A2 x.text.length c2, .slice (some ⟨b0, off0, none⟩) x.list.length c3, .slice A4 x.seen.length c4] 31 (0, 0))] W) (by kernel_rfl) (HM.out.pick (ks := [2]) (by decide) rfl) (fun hS => ?_)
  generalize W3.drew = W4 at HM hS  ⊢
  refine tk (v := ?_) 0 34 rfl (fun w' hS' => ?_) hS ?_
  rotate_left
  · go_simp; all_goals (with_reducible rfl)
  try simp only [Act.put, pa, pb, pc]
  refine tk (v := ?_) 1 35 rfl (fun w' hS' => ?_) hS ?_
  rotate_left
  · (try dsimp only at hS'); obtain ⟨q0, q1, q2, q3, q4⟩ := hS'.c5 0 rfl; go_simp; all_goals (with_reducible rfl)
  try simp only [Act.put, pa, pb, pc]
  refine tk (v := ?_) 3 37 rfl (fun w' hS' => ?_) hS ?_
  rotate_left
  · go_simp; all_goals (with_reducible rfl)
  try simp only [Act.put, pa, pb, pc]
  refine tk (v := ?_) 4 38 rfl (fun w' hS' => ?_) hS ?_
  rotate_left
  · go_simp; all_goals (with_reducible rfl)
  try simp only [Act.put, pa, pb, pc]
  refine tk (v := ?_) 5 39 rfl (fun w' hS' => ?_) hS ?_
  rotate_left
  · go_simp; all_goals (with_reducible rfl)
  try simp only [Act.put, pa, pb, pc]
  refine tk (v := ?_) 6 40 rfl (fun w' hS' => ?_) hS ?_
  rotate_left
  · (try dsimp only at hS'); obtain ⟨q0, q1, q2, q3, q4⟩ := hS'.c5 0 rfl; go_simp; all_goals (with_reducible rfl)
  try simp only [Act.put, pa, pb, pc]
  refine tk (v := ?_) 7 41 rfl (fun w' hS' => ?_) hS ?_
  rotate_left
  · go_simp; all_goals (with_reducible rfl)
  try simp only [Act.put, pa, pb, pc]
  refine tk (v := ?_) 8 42 rfl (fun w' hS' => ?_) hS ?_
  rotate_left
  · go_simp; all_goals (with_reducible rfl)
  try simp only [Act.put, pa, pb, pc]
  refine tk (v := ?_) 10 44 rfl (fun w' hS' => ?_) hS ?_
  rotate_left
  · go_simp; all_goals (with_reducible rfl)
  try simp only [Act.put, pa, pb, pc]
  refine tk (v := ?_) 11 45 rfl (fun w' hS' => ?_) hS ?_
  rotate_left
  · (try dsimp only at hS'); obtain ⟨q0, q1, q2, q3, q4⟩ := hS'.c5 0 rfl; go_simp; all_goals (with_reducible rfl)
  try simp only [Act.put, pa, pb, pc]
  refine r1 2 (some 36) rfl (fun K hK => ?_)
  go_simp
  refine (strClone_any x.name _ hs.nameL).mono ?_
  rintro e' W5 ⟨rfl, b'⟩
  replace HM := Lib.hid (HM.out.past b')
  clear b'
  clear hS
  refine hK.out _ _ (HM.out.pick (ks := [2]) (by decide) rfl) (fun hS => ?_)
  clear hK K
  try simp only [Act.put, pa, pb, pc]
  refine r1 9 (some 43) rfl (fun K hK => ?_)
  go_simp
  refine (implCopyEntries_d _ (x.list.drop m) _ (HM.out.arg (by have h := RdC.drop_ m R3.out; rw [← List.map_drop] at h; exact h)) (smEns_drop hs.list m)).mono ?_
  rintro e' W6 ⟨v', rfl, o', b'⟩
  obtain ⟨Al, nl, cl, rfl⟩ := sliceV o'.read
  obtain ⟨bl, hm⟩ := HM.out.got o' b'
  clear o' b'
  replace HM := Lib.hid hm
  clear hm
  clear hS
  refine hK.out _ _ (HM.out.pick (ks := [3]) (by decide) rfl) (fun hS => ?_)
  clear hK K
  try simp only [Act.put, pa, pb, pc]
  refine r1 12 (some 46) rfl (fun K hK => ?_)
  go_simp
  refine (cloneSe_d _ x.seen _ (HM.out.arg R4.out) hs.seen.len).mono ?_
  rintro e' W7 ⟨v', rfl, o', b'⟩
  obtain ⟨As, cs, rfl⟩ := sliceSes o'.read
  obtain ⟨bs, hm⟩ := HM.out.got o' b'
  clear o' b'
  replace HM := Lib.hid hm
  clear hm
  clear hS
  refine hK.out _ _ (HM.out.pick (ks := [4]) (by decide) rfl) (fun hS => ?_)
  clear hK K
  try simp only [Act.put, pa, pb, pc]
  refine tk (v := ?_) 13 47 rfl (fun w' hS' => ?_) hS ?_
  rotate_left
  · go_simp; all_goals (with_reducible rfl)
  try simp only [Act.put, pa, pb, pc]
  refine r1 14 none rfl (fun K hK => ?_)
  obtain ⟨kr0, kr1, kr2, kr3, kr4⟩ := HM.out.c5 3 rfl
  obtain ⟨fr0, fr1, fr2, fr3, fr4⟩ := HM.out.f5 3 rfl
  go_simp
  clear hS kr0 kr1 kr2 kr3 kr4 fr0 fr1 fr2 fr3 fr4
  have hm := HM.out.pk [3, 0, 1, 2, 4] (by decide) (by simp)
  simp only [low.pk, List.getElem?_cons_zero, List.getElem?_cons_succ] at hm
  replace HM := Lib.hid hm
  clear hm
  have hm := HM.out.putRow (ys := [.string x.name, .int .i64 (x.from_ + (m : Int)), .slice At nt ct, .slice Al nl cl, .slice As x.seen.length cs]) rfl
  simp only [low.putRow, Nat.zero_add, Nat.reduceAdd] at hm
  replace HM := Lib.hid hm
  clear hm
  obtain ⟨W8, hW, hm⟩ := HM.out.name
  rw [← hW]
  replace HM := Lib.hid hm
  clear hm hW
  refine hK.out _ _ (HM.out.pick (ks := [4]) (by decide) rfl) (fun hS => ?_)
  clear hK K
  try simp only [Act.put, pa, pb, pc]
  refine tk (v := ?_) 15 5 rfl (fun w' hS' => ?_) hS ?_
  rotate_left
  · go_simp; all_goals (with_reducible rfl)
  try simp only [Act.put, pa, pb, pc]
  refine wpAnyH_done (by kernel_rfl) ?_ _
  clear hS
  go_wp2
  obtain ⟨kr0, kr1, kr2, kr3, kr4⟩ := HM.out.c5 0 rfl
  have hm := HM.out.pk [1, 2, 3, 0, 4] (by decide) (by simp)
  simp only [low.pk, List.getElem?_cons_zero, List.getElem?_cons_succ] at hm
  replace HM := Lib.hid hm
  clear hm
  rw [HN.out.1, HN.out.2]
  exact bodyPost_ret (v := .tuple #[.agg #[.string x.name, .int .i64 (x.from_ + (m : Int)), .slice At nt ct, .slice Al nl cl, .slice As x.seen.length cs], .bool true]) (by simp [results, Tryz.results7, go_sem, kr0, kr1, kr2, kr3, kr4]) rfl ((show Ms w (.dt (datDo (⟨x.name, x.from_ + (m : Int), textAtT x (x.from_ + (m : Int)), x.list.drop m, x.seen⟩ : Do)) (.agg #[.string x.name, .int .i64 (x.from_ + (m : Int)), .slice At nt ct, .slice Al nl cl, .slice As x.seen.length cs]) _ :: _) _ from (HM.out.pk0.pkO.pkO.pkO.pkF rfl).pkF rfl).resB true)
set_option maxRecDepth 100000 in
set_option maxHeartbeats 3200000 in
theorem implForget_d1 (v : Value) (x : Do) (n : Int) (w : World) (h : RdC w w.heap.size (datDo x) v) (hs : SmDo x) (hn : n < 9223372036854775808) (hd : docB x = true) (h0 : 0 ≤ n) (hc : ¬ (0 < n ∧ 0 < (x.list.length : Int))) (hc2 : (x.list.length : Int) = capOf v) : Calls Tryz.prog 7 #[v, .int .i64 n] w (ResB (datDo (forgetT x n)) (forgetB x n) w) := by
  have HR := Lib.hid h
  obtain ⟨A2, c2, A3, c3, A4, c4, rfl, r2, r3, r4⟩ := aggDo h
  have R3 := Lib.hid r3
  have R4 := Lib.hid r4
  have hl := hs.list.len
  have hcl : x.list.length ≤ c3 := RdC.cap_le r3
  clear h r2 r3 r4
  obtain ⟨m, hm⟩ : ∃ m : Nat, (m : Int) = max 0 ((x.list.length : Int) - n) := ⟨(max 0 ((x.list.length : Int) - n)).toNat, by omega⟩
  have HN := Lib.hid (forget_at hd h0 hm)
  obtain ⟨f0, f1, f2, f3⟩ := docB_of hd
  have hneg : decide (n < 0) = false := by simp; omega
  have hm1 : m ≤ x.list.length := by omega
  have HMX := Lib.hid hm.symm
  have HT := Lib.hid (show textAtB x (x.from_ + (m : Int)) = true by unfold textAtB; rw [hd, f3, inB_t (by omega)]; rfl)
  clear f3
  have hcap : m = c3 := by have e9 : capOf (.agg #[.string x.name, .int .i64 x.from_, .slice A2 x.text.length c2, .slice A3 x.list.length c3, .slice A4 x.seen.length c4]) = c3 := rfl; rw [e9] at hc2; omega
  have h00 : x.list.length - m = 0 := by omega
  have H0 := Lib.hid h00
  clear h00
  obtain rfl : m = c3 := hcap
  clear hm hc hc2
  have HM := Lib.hid (Ms.start w)
  replace HM := Lib.hid (HM.out.new #[.string x.name, .int .i64 x.from_, .slice A2 x.text.length c2, .slice A3 x.list.length m, .slice A4 x.seen.length c4] 31)
  have hm := HM.out.new #[.string ⟨#[]⟩, .int .i64 0, .slice none 0 0, .slice none 0 0, .slice none 0 0] 31
  simp only [World.size_alloc] at hm
  replace HM := Lib.hid hm
  clear hm
  go_enter Tryz.func7, Tryz.ntmps7
  go_wp2_with fail
  obtain ⟨W1, hW, hm⟩ := HM.out.name
  rw [← hW]
  replace HM := Lib.hid hm
  clear hm hW
  refine (implDocOk_d _ x _ (HM.out.arg HR.out) hs).mono ?_
  rw [hd]
  rintro e' W2 ⟨rfl, b'⟩
  replace HM := Lib.hid (HM.out.past b')
  clear b'
  obtain ⟨kx0, kx1, kx2, kx3, kx4⟩ := HM.out.c5 1 rfl
  go_wp2_with fail
  try rw [HMX.out]
  clear kx0 kx1 kx2 kx3 kx4
  refine (implTextAt_d _ x (x.from_ + (m : Int)) _ (HM.out.arg HR.out) hs).mono ?_
  rw [HT.out]
  rintro e' W3 ⟨v', rfl, o', b'⟩
  obtain ⟨At, nt, ct, rfl⟩ := sliceV o'.read
  obtain ⟨bt, hm⟩ := HM.out.got o' b'
  clear o' b'
  replace HM := Lib.hid hm
  clear hm
  go_wp2
  replace HM := Lib.hid (HM.out.drew)
  refine wp_region_held_drew (S := fun W => Ms w [.bx w.heap.size (.cells #[.string x.name, .int .i64 x.from_, .slice A2 x.text.length c2, .slice A3 x.list.length m, .slice A4 x.seen.length c4] 31 (0, 0))] W) (by kernel_rfl) (HM.out.pick (ks := [2]) (by decide) rfl) (fun hS => ?_)
  generalize W3.drew = W4 at HM hS  ⊢
  refine tk (v := ?_) 0 34 rfl (fun w' hS' => ?_) hS ?_
  rotate_left
  · go_simp; all_goals (with_reducible rfl)
  try simp only [Act.put, pa, pb, pc]
  refine tk (v := ?_) 1 35 rfl (fun w' hS' => ?_) hS ?_
  rotate_left
  · (try dsimp only at hS'); obtain ⟨q0, q1, q2, q3, q4⟩ := hS'.c5 0 rfl; go_simp; all_goals (with_reducible rfl)
  try simp only [Act.put, pa, pb, pc]
  refine tk (v := ?_) 3 37 rfl (fun w' hS' => ?_) hS ?_
  rotate_left
  · go_simp; all_goals (with_reducible rfl)
  try simp only [Act.put, pa, pb, pc]
  refine tk (v := ?_) 4 38 rfl (fun w' hS' => ?_) hS ?_
  rotate_left
  · go_simp; all_goals (with_reducible rfl)
  try simp only [Act.put, pa, pb, pc]
  refine tk (v := ?_) 5 39 rfl (fun w' hS' => ?_) hS ?_
  rotate_left
  · go_simp; all_goals (with_reducible rfl)
  try simp only [Act.put, pa, pb, pc]
  refine tk (v := ?_) 6 40 rfl (fun w' hS' => ?_) hS ?_
  rotate_left
  · (try dsimp only at hS'); obtain ⟨q0, q1, q2, q3, q4⟩ := hS'.c5 0 rfl; go_simp; all_goals (with_reducible rfl)
  try simp only [Act.put, pa, pb, pc]
  refine tk (v := ?_) 7 41 rfl (fun w' hS' => ?_) hS ?_
  rotate_left
  · go_simp; all_goals (with_reducible rfl)
  try simp only [Act.put, pa, pb, pc]
  refine tk (v := ?_) 8 42 rfl (fun w' hS' => ?_) hS ?_
  rotate_left
  · go_simp; all_goals (with_reducible rfl)
  try simp only [Act.put, pa, pb, pc]
  refine tk (v := ?_) 10 44 rfl (fun w' hS' => ?_) hS ?_
  rotate_left
  · go_simp; all_goals (with_reducible rfl)
  try simp only [Act.put, pa, pb, pc]
  refine tk (v := ?_) 11 45 rfl (fun w' hS' => ?_) hS ?_
  rotate_left
  · (try dsimp only at hS'); obtain ⟨q0, q1, q2, q3, q4⟩ := hS'.c5 0 rfl; go_simp; all_goals (with_reducible rfl)
  try simp only [Act.put, pa, pb, pc]
  refine r1 2 (some 36) rfl (fun K hK => ?_)
  go_simp
  refine (strClone_any x.name _ hs.nameL).mono ?_
  rintro e' W5 ⟨rfl, b'⟩
  replace HM := Lib.hid (HM.out.past b')
  clear b'
  clear hS
  refine hK.out _ _ (HM.out.pick (ks := [2]) (by decide) rfl) (fun hS => ?_)
  clear hK K
  try simp only [Act.put, pa, pb, pc]
  refine r1 9 (some 43) rfl (fun K hK => ?_)
  go_simp
  try rw [H0.out]
  refine (implCopyEntries_d _ (x.list.drop m) _ (HM.out.arg (rdEns_drop0 H0.out)) (smEns_drop hs.list m)).mono ?_
  rintro e' W6 ⟨v', rfl, o', b'⟩
  obtain ⟨Al, nl, cl, rfl⟩ := sliceV o'.read
  obtain ⟨bl, hm⟩ := HM.out.got o' b'
  clear o' b'
  replace HM := Lib.hid hm
  clear hm
  clear hS
  refine hK.out _ _ (HM.out.pick (ks := [3]) (by decide) rfl) (fun hS => ?_)
  clear hK K
  try simp only [Act.put, pa, pb, pc]
  refine r1 12 (some 46) rfl (fun K hK => ?_)
  go_simp
  refine (cloneSe_d _ x.seen _ (HM.out.arg R4.out) hs.seen.len).mono ?_
  rintro e' W7 ⟨v', rfl, o', b'⟩
  obtain ⟨As, cs, rfl⟩ := sliceSes o'.read
  obtain ⟨bs, hm⟩ := HM.out.got o' b'
  clear o' b'
  replace HM := Lib.hid hm
  clear hm
  clear hS
  refine hK.out _ _ (HM.out.pick (ks := [4]) (by decide) rfl) (fun hS => ?_)
  clear hK K
  try simp only [Act.put, pa, pb, pc]
  refine tk (v := ?_) 13 47 rfl (fun w' hS' => ?_) hS ?_
  rotate_left
  · go_simp; all_goals (with_reducible rfl)
  try simp only [Act.put, pa, pb, pc]
  refine r1 14 none rfl (fun K hK => ?_)
  obtain ⟨kr0, kr1, kr2, kr3, kr4⟩ := HM.out.c5 3 rfl
  obtain ⟨fr0, fr1, fr2, fr3, fr4⟩ := HM.out.f5 3 rfl
  go_simp
  clear hS kr0 kr1 kr2 kr3 kr4 fr0 fr1 fr2 fr3 fr4
  have hm := HM.out.pk [3, 0, 1, 2, 4] (by decide) (by simp)
  simp only [low.pk, List.getElem?_cons_zero, List.getElem?_cons_succ] at hm
  replace HM := Lib.hid hm
  clear hm
  have hm := HM.out.putRow (ys := [.string x.name, .int .i64 (x.from_ + (m : Int)), .slice At nt ct, .slice Al nl cl, .slice As x.seen.length cs]) rfl
  simp only [low.putRow, Nat.zero_add, Nat.reduceAdd] at hm
  replace HM := Lib.hid hm
  clear hm
  obtain ⟨W8, hW, hm⟩ := HM.out.name
  rw [← hW]
  replace HM := Lib.hid hm
  clear hm hW
  refine hK.out _ _ (HM.out.pick (ks := [4]) (by decide) rfl) (fun hS => ?_)
  clear hK K
  try simp only [Act.put, pa, pb, pc]
  refine tk (v := ?_) 15 5 rfl (fun w' hS' => ?_) hS ?_
  rotate_left
  · go_simp; all_goals (with_reducible rfl)
  try simp only [Act.put, pa, pb, pc]
  refine wpAnyH_done (by kernel_rfl) ?_ _
  clear hS
  go_wp2
  obtain ⟨kr0, kr1, kr2, kr3, kr4⟩ := HM.out.c5 0 rfl
  have hm := HM.out.pk [1, 2, 3, 0, 4] (by decide) (by simp)
  simp only [low.pk, List.getElem?_cons_zero, List.getElem?_cons_succ] at hm
  replace HM := Lib.hid hm
  clear hm
  rw [HN.out.1, HN.out.2]
  exact bodyPost_ret (v := .tuple #[.agg #[.string x.name, .int .i64 (x.from_ + (m : Int)), .slice At nt ct, .slice Al nl cl, .slice As x.seen.length cs], .bool true]) (by simp [results, Tryz.results7, go_sem, kr0, kr1, kr2, kr3, kr4]) rfl ((show Ms w (.dt (datDo (⟨x.name, x.from_ + (m : Int), textAtT x (x.from_ + (m : Int)), x.list.drop m, x.seen⟩ : Do)) (.agg #[.string x.name, .int .i64 (x.from_ + (m : Int)), .slice At nt ct, .slice Al nl cl, .slice As x.seen.length cs]) _ :: _) _ from (HM.out.pk0.pkO.pkO.pkO.pkF rfl).pkF rfl).resB true)
set_option maxRecDepth 100000 in
set_option maxHeartbeats 3200000 in
theorem implForget_d2 (v : Value) (x : Do) (n : Int) (w : World) (h : RdC w w.heap.size (datDo x) v) (hs : SmDo x) (hn : n < 9223372036854775808) (hd : docB x = true) (h0 : 0 ≤ n) (hc : ¬ (0 < n ∧ 0 < (x.list.length : Int))) (hc2 : ¬ (x.list.length : Int) = capOf v) : Calls Tryz.prog 7 #[v, .int .i64 n] w (ResB (datDo (forgetT x n)) (forgetB x n) w) := by
  have HR := Lib.hid h
  obtain ⟨A2, c2, A3, c3, A4, c4, rfl, r2, r3, r4⟩ := aggDo h
  have R3 := Lib.hid r3
  have R4 := Lib.hid r4
  have hl := hs.list.len
  have hcl : x.list.length ≤ c3 := RdC.cap_le r3
  clear h r2 r3 r4
  obtain ⟨m, hm⟩ : ∃ m : Nat, (m : Int) = max 0 ((x.list.length : Int) - n) := ⟨(max 0 ((x.list.length : Int) - n)).toNat, by omega⟩
  have HN := Lib.hid (forget_at hd h0 hm)
  obtain ⟨f0, f1, f2, f3⟩ := docB_of hd
  have hneg : decide (n < 0) = false := by simp; omega
  have hm1 : m ≤ x.list.length := by omega
  have HMX := Lib.hid hm.symm
  have HT := Lib.hid (show textAtB x (x.from_ + (m : Int)) = true by unfold textAtB; rw [hd, f3, inB_t (by omega)]; rfl)
  clear f3
  have hcap : ¬ m = c3 := by have e9 : capOf (.agg #[.string x.name, .int .i64 x.from_, .slice A2 x.text.length c2, .slice A3 x.list.length c3, .slice A4 x.seen.length c4]) = c3 := rfl; rw [e9] at hc2; omega
  have hcap2 : ¬ c3 = m := fun e => hcap e.symm
  have h00 : x.list.length - m = 0 := by omega
  have H0 := Lib.hid h00
  clear h00
  clear hm hc hc2
  have HM := Lib.hid (Ms.start w)
  replace HM := Lib.hid (HM.out.new #[.string x.name, .int .i64 x.from_, .slice A2 x.text.length c2, .slice A3 x.list.length c3, .slice A4 x.seen.length c4] 31)
  have hm := HM.out.new #[.string ⟨#[]⟩, .int .i64 0, .slice none 0 0, .slice none 0 0, .slice none 0 0] 31
  simp only [World.size_alloc] at hm
  replace HM := Lib.hid hm
  clear hm
  go_enter Tryz.func7, Tryz.ntmps7
  go_wp2_with fail
  obtain ⟨W1, hW, hm⟩ := HM.out.name
  rw [← hW]
  replace HM := Lib.hid hm
  clear hm hW
  refine (implDocOk_d _ x _ (HM.out.arg HR.out) hs).mono ?_
  rw [hd]
  rintro e' W2 ⟨rfl, b'⟩
  replace HM := Lib.hid (HM.out.past b')
  clear b'
  obtain ⟨kx0, kx1, kx2, kx3, kx4⟩ := HM.out.c5 1 rfl
  go_wp2_with fail
  try rw [HMX.out]
  clear kx0 kx1 kx2 kx3 kx4
  refine (implTextAt_d _ x (x.from_ + (m : Int)) _ (HM.out.arg HR.out) hs).mono ?_
  rw [HT.out]
  rintro e' W3 ⟨v', rfl, o', b'⟩
  obtain ⟨At, nt, ct, rfl⟩ := sliceV o'.read
  obtain ⟨bt, hm⟩ := HM.out.got o' b'
  clear o' b'
  replace HM := Lib.hid hm
  clear hm
  go_wp2
  replace HM := Lib.hid (HM.out.drew)
  refine wp_region_held_drew (S := fun W => Ms w [.bx w.heap.size (.cells #[.string x.name, .int .i64 x.from_, .slice A2 x.text.length c2, .slice A3 x.list.length c3, .slice A4 x.seen.length c4] 31 (0, 0))] W) (by kernel_rfl) (HM.out.pick (ks := [2]) (by decide) rfl) (fun hS => ?_)
  generalize W3.drew = W4 at HM hS  ⊢
  refine tk (v := ?_) 0 34 rfl (fun w' hS' => ?_) hS ?_
  rotate_left
  · go_simp; all_goals (with_reducible rfl)
  try simp only [Act.put, pa, pb, pc]
  refine tk (v := ?_) 1 35 rfl (fun w' hS' => ?_) hS ?_
  rotate_left
  · (try dsimp only at hS'); obtain ⟨q0, q1, q2, q3, q4⟩ := hS'.c5 0 rfl; go_simp; all_goals (with_reducible rfl)
  try simp only [Act.put, pa, pb, pc]
  refine tk (v := ?_) 3 37 rfl (fun w' hS' => ?_) hS ?_
  rotate_left
  · go_simp; all_goals (with_reducible rfl)
  try simp only [Act.put, pa, pb, pc]
  refine tk (v := ?_) 4 38 rfl (fun w' hS' => ?_) hS ?_
  rotate_left
  · go_simp; all_goals (with_reducible rfl)
  try simp only [Act.put, pa, pb, pc]
  refine tk (v := ?_) 5 39 rfl (fun w' hS' => ?_) hS ?_
  rotate_left
  · go_simp; all_goals (with_reducible rfl)
  try simp only [Act.put, pa, pb, pc]
  refine tk (v := ?_) 6 40 rfl (fun w' hS' => ?_) hS ?_
  rotate_left
  · (try dsimp only at hS'); obtain ⟨q0, q1, q2, q3, q4⟩ := hS'.c5 0 rfl; go_simp; all_goals (with_reducible rfl)
  try simp only [Act.put, pa, pb, pc]
  refine tk (v := ?_) 7 41 rfl (fun w' hS' => ?_) hS ?_
  rotate_left
  · go_simp; all_goals (with_reducible rfl)
  try simp only [Act.put, pa, pb, pc]
  refine tk (v := ?_) 8 42 rfl (fun w' hS' => ?_) hS ?_
  rotate_left
  · go_simp; all_goals (with_reducible rfl)
  try simp only [Act.put, pa, pb, pc]
  refine tk (v := ?_) 10 44 rfl (fun w' hS' => ?_) hS ?_
  rotate_left
  · go_simp; all_goals (with_reducible rfl)
  try simp only [Act.put, pa, pb, pc]
  refine tk (v := ?_) 11 45 rfl (fun w' hS' => ?_) hS ?_
  rotate_left
  · (try dsimp only at hS'); obtain ⟨q0, q1, q2, q3, q4⟩ := hS'.c5 0 rfl; go_simp; all_goals (with_reducible rfl)
  try simp only [Act.put, pa, pb, pc]
  refine r1 2 (some 36) rfl (fun K hK => ?_)
  go_simp
  refine (strClone_any x.name _ hs.nameL).mono ?_
  rintro e' W5 ⟨rfl, b'⟩
  replace HM := Lib.hid (HM.out.past b')
  clear b'
  clear hS
  refine hK.out _ _ (HM.out.pick (ks := [2]) (by decide) rfl) (fun hS => ?_)
  clear hK K
  try simp only [Act.put, pa, pb, pc]
  refine r1 9 (some 43) rfl (fun K hK => ?_)
  go_simp
  refine (implCopyEntries_d _ (x.list.drop m) _ (HM.out.arg (rdEns_dropN H0.out)) (smEns_drop hs.list m)).mono ?_
  rintro e' W6 ⟨v', rfl, o', b'⟩
  obtain ⟨Al, nl, cl, rfl⟩ := sliceV o'.read
  obtain ⟨bl, hm⟩ := HM.out.got o' b'
  clear o' b'
  replace HM := Lib.hid hm
  clear hm
  clear hS
  refine hK.out _ _ (HM.out.pick (ks := [3]) (by decide) rfl) (fun hS => ?_)
  clear hK K
  try simp only [Act.put, pa, pb, pc]
  refine r1 12 (some 46) rfl (fun K hK => ?_)
  go_simp
  refine (cloneSe_d _ x.seen _ (HM.out.arg R4.out) hs.seen.len).mono ?_
  rintro e' W7 ⟨v', rfl, o', b'⟩
  obtain ⟨As, cs, rfl⟩ := sliceSes o'.read
  obtain ⟨bs, hm⟩ := HM.out.got o' b'
  clear o' b'
  replace HM := Lib.hid hm
  clear hm
  clear hS
  refine hK.out _ _ (HM.out.pick (ks := [4]) (by decide) rfl) (fun hS => ?_)
  clear hK K
  try simp only [Act.put, pa, pb, pc]
  refine tk (v := ?_) 13 47 rfl (fun w' hS' => ?_) hS ?_
  rotate_left
  · go_simp; all_goals (with_reducible rfl)
  try simp only [Act.put, pa, pb, pc]
  refine r1 14 none rfl (fun K hK => ?_)
  obtain ⟨kr0, kr1, kr2, kr3, kr4⟩ := HM.out.c5 3 rfl
  obtain ⟨fr0, fr1, fr2, fr3, fr4⟩ := HM.out.f5 3 rfl
  go_simp
  clear hS kr0 kr1 kr2 kr3 kr4 fr0 fr1 fr2 fr3 fr4
  have hm := HM.out.pk [3, 0, 1, 2, 4] (by decide) (by simp)
  simp only [low.pk, List.getElem?_cons_zero, List.getElem?_cons_succ] at hm
  replace HM := Lib.hid hm
  clear hm
  have hm := HM.out.putRow (ys := [.string x.name, .int .i64 (x.from_ + (m : Int)), .slice At nt ct, .slice Al nl cl, .slice As x.seen.length cs]) rfl
  simp only [low.putRow, Nat.zero_add, Nat.reduceAdd] at hm
  replace HM := Lib.hid hm
  clear hm
  obtain ⟨W8, hW, hm⟩ := HM.out.name
  rw [← hW]
  replace HM := Lib.hid hm
  clear hm hW
  refine hK.out _ _ (HM.out.pick (ks := [4]) (by decide) rfl) (fun hS => ?_)
  clear hK K
  try simp only [Act.put, pa, pb, pc]
  refine tk (v := ?_) 15 5 rfl (fun w' hS' => ?_) hS ?_
  rotate_left
  · go_simp; all_goals (with_reducible rfl)
  try simp only [Act.put, pa, pb, pc]
  refine wpAnyH_done (by kernel_rfl) ?_ _
  clear hS
  go_wp2
  obtain ⟨kr0, kr1, kr2, kr3, kr4⟩ := HM.out.c5 0 rfl
  have hm := HM.out.pk [1, 2, 3, 0, 4] (by decide) (by simp)
  simp only [low.pk, List.getElem?_cons_zero, List.getElem?_cons_succ] at hm
  replace HM := Lib.hid hm
  clear hm
  rw [HN.out.1, HN.out.2]
  exact bodyPost_ret (v := .tuple #[.agg #[.string x.name, .int .i64 (x.from_ + (m : Int)), .slice At nt ct, .slice Al nl cl, .slice As x.seen.length cs], .bool true]) (by simp [results, Tryz.results7, go_sem, kr0, kr1, kr2, kr3, kr4]) rfl ((show Ms w (.dt (datDo (⟨x.name, x.from_ + (m : Int), textAtT x (x.from_ + (m : Int)), x.list.drop m, x.seen⟩ : Do)) (.agg #[.string x.name, .int .i64 (x.from_ + (m : Int)), .slice At nt ct, .slice Al nl cl, .slice As x.seen.length cs]) _ :: _) _ from (HM.out.pk0.pkO.pkO.pkO.pkF rfl).pkF rfl).resB true)
theorem implForget_d (v : Value) (x : Do) (n : Int) (w : World) (h : RdC w w.heap.size (datDo x) v) (hs : SmDo x) (hr : Rng n) : Calls Tryz.prog 7 #[v, .int .i64 n] w (ResB (datDo (forgetT x n)) (forgetB x n) w) := by
  have hn := hr.2
  cases hd : docB x
  · exact implForget_a v x n w h hs hn hd
  by_cases hneg : n < 0
  · exact implForget_b v x n w h hs hn hd hneg
  by_cases hk : 0 < n ∧ 0 < (x.list.length : Int)
  · exact implForget_c v x n w h hs hn hd (by omega) hk
  by_cases hc : (x.list.length : Int) = capOf v
  · exact implForget_d1 v x n w h hs hn hd (by omega) hk hc
  · exact implForget_d2 v x n w h hs hn hd (by omega) hk hc
end Go.Proofs.YtgfbcpcfdlnbhabGreat.low

