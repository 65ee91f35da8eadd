
/-
  The program's side: contract of impl.Invert.
-/
import Derived.Test.YtemhhjagdfkmfaaSpecInvert
import Derived.Test.YtemhhjagdfkmfaaImplAll
import Derived.Test.YtemhhjagdfkmfaaImplBld
namespace Go.Proofs.Ytemhhjagdfkmfaa.low
open Go.RowKit
set_option linter.unusedVariables false

theorem implOpNorm_d (v : Value) (ps : List Pt) (w : World) (h : RdC w w.heap.size (encPs ps) v) (hs : SmP ps) : Calls Try.prog 48 #[v] w (OwnPost (encPs (normL ps)) w) := by
  obtain ⟨A, c, rfl, hr, _⟩ := parts_rd h
  have hl := hs.1
  refine (implOpNorm_any A c ps w hr (by omega) hs.all4 hs.2).mono ?_
  rintro e w1 ⟨v1, rfl, p1, b1⟩
  exact ⟨v1, rfl, own_parts p1, b1⟩

/-- the state of Invert's loop: the reader at gr, the builder at g with its blocks O, the normal form in blocks from z2 to z3 -/
structure InvS (B gr g z2 z3 : Nat) (t : List Int) (qs : List Pt) (Qv : Value) (bq : List Nat) (O : Nat → Prop) (at_ : Nat) (L : List Pt) (w0 wr : World) : Prop where
  rd : Rdr B gr wr (t.drop at_)
  bd : Bld O B g 70 wr L
  far : ∀ x, O x → (x < z2 ∨ z3 ≤ x) ∧ ¬ x = gr
  ow : OwB z2 z3 wr (encPs qs) Qv bq
  low : gr < z2
  bel : Below B w0 wr
theorem InvS.base {B gr g z2 z3 : Nat} {t : List Int} {qs : List Pt} {Qv : Value} {bq : List Nat} {O : Nat → Prop} {at_ : Nat} {L : List Pt} {w0 wr : World} (h : InvS B gr g z2 z3 t qs Qv bq O at_ L w0 wr) : B ≤ gr := by
  obtain ⟨_, _, _, _, _, h4⟩ := h.rd
  exact h4
theorem InvS.past {B gr g z2 z3 : Nat} {t : List Int} {qs : List Pt} {Qv : Value} {bq : List Nat} {O : Nat → Prop} {at_ : Nat} {L : List Pt} {w0 wr w' : World} (h : InvS B gr g z2 z3 t qs Qv bq O at_ L w0 wr) (hb : Below wr.heap.size wr w') (hB : B ≤ wr.heap.size) : InvS B gr g z2 z3 t qs Qv bq O at_ L w0 w' :=
  ⟨h.rd.past hb, h.bd.past hb, h.far, h.ow.past hb, h.low, h.bel.trans (hb.mono hB)⟩
/-- the reader goes on -/
theorem InvS.next {B gr g z2 z3 : Nat} {t : List Int} {qs : List Pt} {Qv : Value} {bq : List Nat} {O : Nat → Prop} {at_ m : Nat} {L : List Pt} {w0 wr w' : World} (h : InvS B gr g z2 z3 t qs Qv bq O at_ L w0 wr) (hr : Rdr B gr w' ((t.drop at_).drop m)) (ht : Touch (fun b => b = gr) wr w') : InvS B gr g z2 z3 t qs Qv bq O (at_ + m) L w0 w' := by
  have hB := h.base
  have hl := h.low
  exact ⟨by rw [List.drop_drop] at hr; exact hr, h.bd.keep (by rw [ht.size]; exact Nat.le_refl _) (fun b _ hO => ht.block b (h.far b hO).2), h.far, h.ow.touch ht (fun x hx e => by have := h.ow.rng x hx; have e' : x = gr := e; omega), h.low, h.bel.trans (ht.below (fun b hb => by have e' : b = gr := hb; omega))⟩
/-- the builder has grown -/
theorem InvS.grow {B gr g z2 z3 : Nat} {t : List Int} {qs : List Pt} {Qv : Value} {bq : List Nat} {O O' : Nat → Prop} {at_ : Nat} {L L' : List Pt} {w0 wr w' : World} (h : InvS B gr g z2 z3 t qs Qv bq O at_ L w0 wr) (hb : Bld O' B g 70 w' L') (b : Below B wr w') (hg : Grew O O' wr w') : InvS B gr g z2 z3 t qs Qv bq O' at_ L' w0 w' := by
  have hlt := h.rd.lt
  refine ⟨h.rd.keep (hg.block gr hlt (fun ho => (h.far gr ho).2 rfl)) (fun p hp => b.cell hp), hb, fun x hx => ?_, h.ow.grew hg (fun x hx => (h.far x hx).1), h.low, h.bel.trans b⟩
  rcases hg.more x hx with h1 | h1
  · exact h.far x h1
  · exact ⟨.inr (Nat.le_trans h.ow.top h1), by omega⟩

set_option maxRecDepth 100000 in
set_option maxHeartbeats 3200000 in
theorem implInvert_d (v v' : Value) (ps : List Pt) (t : List Int) (w : World) (h : RdC w w.heap.size (encPs ps) v) (h' : RdC w w.heap.size (encInts t) v') (hs : SmP ps) (hs' : SmI t) : Calls Try.prog 22 #[v, v'] w (ResB (encPs (invertT ps t)) (fitsB ps t) w) := by
  obtain ⟨A, c, rfl⟩ := sliceP h
  obtain ⟨A', c', rfl, hr', hcap⟩ := ints_rd h'
  cases hf : fitsB ps t
  · have e1 : invertT ps t = [] := by simp [invertT, hf]
    rw [e1]
    go_enter Try.func22, Try.ntmps22
    go_wp2_with fail
    refine (implFits_d _ _ ps t _ h h' hs hs').mono ?_
    rintro e w1 ⟨rfl, b1⟩
    rw [hf]
    go_wp2
    go_ret2
    exact ⟨_, rfl, nilOwn _ _ rfl b1.size, b1⟩
  · have e1 : invertT ps t = doneN (foldN (foldI t (normL ps)).2) := by simp [invertT, hf]
    rw [e1]
    have HFN := Lib.hid (fits_norm hf)
    have ht := (fits_of hf).2.2.2.2.2.1
    go_enter Try.func22, Try.ntmps22
    go_wp2_with fail
    refine (implFits_d _ _ ps t _ h h' hs hs').mono ?_
    rintro e w1 ⟨rfl, b1⟩
    rw [hf]
    clear hf e1
    go_wp2_with fail
    have hrd : Rdr w.heap.size w1.heap.size (w1.alloc (.cells #[.slice A' t.length c'] 57)) t := ⟨A', c', heap_alloc_new w1 _, hcap, (hr'.below b1).keep (fun p hp => (alloc_below w1 _).cell (Nat.lt_of_lt_of_le hp b1.size)), b1.size⟩
    have hb2 := b1.trans ((alloc_below w1 (.cells #[.slice A' t.length c'] 57)).mono b1.size)
    have hsz2 : (w1.alloc (.cells #[.slice A' t.length c'] 57)).heap.size = w1.heap.size + 1 := by simp
    generalize hW2 : w1.alloc (.cells #[.slice A' t.length c'] 57) = w2 at *
    have hnew := Bld.new w.heap.size 70 w2 hb2.size
    have bN := alloc_below w2 (.cells #[.slice none 0 0, .slice none 0 0, .int .i64 0] 70)
    have hb3 := hb2.trans (bN.mono hb2.size)
    have hrd3 := hrd.past bN
    have hlt3 := hrd3.lt
    clear hrd bN b1 hb2
    rw [hsz2] at hnew
    try rw [hsz2]
    generalize w2.alloc (.cells #[.slice none 0 0, .slice none 0 0, .int .i64 0] 70) = w3 at *
    have hne : ∀ x, x = w1.heap.size + 1 → ¬ x = w1.heap.size := fun x hx => by omega
    have hold := hnew.old
    clear hsz2 hW2
    generalize w1.heap.size = gr at *
    generalize gr + 1 = g at *
    refine (implOpNorm_d _ ps w3 (h.past hb3) hs).mono ?_
    rintro e w4 ⟨v3, rfl, o3, b4⟩
    have hn2 := HFN.out.2.1
    generalize normL ps = qs at *
    obtain ⟨bq, oq⟩ := o3.blocks
    obtain ⟨Q, cq, rfl⟩ := sliceP oq.read
    have HS0 : InvS w.heap.size gr g w3.heap.size w4.heap.size t qs (.slice Q qs.length cq) bq (fun b => b = g) 0 [] w w4 := ⟨hrd3.past b4, hnew.past b4, fun x hx => ⟨.inl (hold x hx), hne x hx⟩, oq, hlt3, hb3.trans (b4.mono hb3.size)⟩
    replace HS0 := Lib.hid HS0
    clear hnew hrd3 hold hne oq o3 b4 hlt3 hb3
    generalize w3.heap.size = z2 at *
    generalize w4.heap.size = z3 at *
    go_wp2
    go_loopw [22] (fun i wr => ∃ (k : Nat) (O : Nat → Prop), k ≤ qs.length ∧ i = .int .i64 k ∧ InvS w.heap.size gr g z2 z3 t qs (.slice Q qs.length cq) bq O (foldI t (qs.take k)).1 (foldI t (qs.take k)).2 w wr) (fun i _ => qs.length - (intOf i).toNat)
    case atStart => exact ⟨0, _, Nat.zero_le _, rfl, HS0.out⟩
    case round =>
      obtain ⟨k, O, hk, rfl, hst⟩ := hrel
      clear HS0
      have hfit := Lib.hid (foldI_fit (t := t) HFN.out.1 k hk)
      have hat := foldI_at (t := t) HFN.out.1 HFN.out.2.2 hk
      have hLk : (foldI t (qs.take k)).2.length = k := hfit.out.2.1
      obtain ⟨Q', cq', eQ, hq, _⟩ := parts_rd hst.ow.read
      obtain ⟨rfl, rfl⟩ : Q' = Q ∧ cq' = cq := by injection eQ with e1 _ e3; exact ⟨e1.symm, e3.symm⟩
      clear eQ
      have hBs := hst.bel.size
      by_cases hlt : k < qs.length
      · obtain ⟨b, off, p, rfl, hb, hp, hc⟩ := hq.at_ hlt
        obtain ⟨x0, x1, A1, e1, x2, r1⟩ := hc
        have hok := of_okPt (okPs_at hp HFN.out.1)
        have K1 := Lib.hid (foldI_snoc (t := t) hp)
        have hin := foldI_in (t := t) HFN.out.1 HFN.out.2.2 hp
        clear hp hfit
        generalize foldI t (qs.take k) = st at *
        obtain ⟨at_, L⟩ := st
        obtain ⟨pk, pn, pz⟩ := p
        simp only at x0 x1 x2 hok r1 hin hst hLk hat
        have HL := Lib.hid (show L.length ≤ 600 by omega)
        have hL1 : L.length < 100000 := by omega
        clear hLk hq
        rcases (show pk = 1 ∨ pk = 2 ∨ pk = 3 by omega) with rfl | rfl | rfl
        · have hn1 : 0 ≤ pn := by omega
          have hn2 : pn ≤ 200 := by omega
          have hin' := hin (.inl rfl)
          clear hok hin
          obtain ⟨m, rfl⟩ := Int.eq_ofNat_of_zero_le hn1
          have hcx := cell_of_row (wr.alloc (.cells #[.int .i64 1, .int .i64 (m : Int), .slice A1 pz.length e1] 53)) wr.heap.size 1 _ _ _ (heap_alloc_new wr _)
          have hrl := hst.rd.lt
          have HST := Lib.hid (hst.past (alloc_below wr (.cells #[.int .i64 1, .int .i64 (m : Int), .slice A1 pz.length e1] 53)) hBs)
          clear hst
          go_wp2_with fail
          refine (implNext w.heap.size gr m (t.drop at_) _ HST.out.rd (by rw [List.length_drop]; omega) (by rw [List.length_drop]; omega)).mono ?_
          rintro e w4 ⟨A4, rfl, r4, rd4, t4⟩
          have HS4 := Lib.hid (HST.out.next rd4 t4)
          have hcx4 : w4.cell? ⟨wr.heap.size, 1, none⟩ = some (.int .i64 (m : Int)) := (t4.cell (p := ⟨wr.heap.size, 1, none⟩) (fun e => by have e' : wr.heap.size = gr := e; omega)).trans hcx
          clear r4 rd4 t4 hcx HST
          go_wp2_with fail
          refine (implKeepB O w.heap.size g L (m : Int) _ HS4.out.bd hn1 hn2 hL1).mono ?_
          rintro e w5 ⟨rfl, O', hb5, b5, g5⟩
          have HS5 := Lib.hid (HS4.out.grow hb5 b5 g5)
          clear hb5 b5 g5 HS4 hcx4
          go_wp2
          go_roundw
          case rel => exact ⟨k + 1, O', by omega, by go_num, by rw [K1.out]; exact HS5.out⟩
          case measure => simp [intOf]; omega
        · have hn3 : pz.length ≤ 200 := by omega
          clear hok hin
          have HST := Lib.hid (hst.past (alloc_below wr (.cells #[.int .i64 2, .int .i64 pn, .slice A1 pz.length e1] 53)) hBs)
          clear hst
          go_wp2_with fail
          refine (implDropB O w.heap.size g L (pz.length : Int) _ HST.out.bd (by omega) (by omega) hL1).mono ?_
          rintro e w5 ⟨rfl, O', hb5, b5, g5⟩
          have HS5 := Lib.hid (HST.out.grow hb5 b5 g5)
          clear hb5 b5 g5 HST
          go_wp2
          go_roundw
          case rel => exact ⟨k + 1, O', by omega, by go_num, by rw [K1.out]; exact HS5.out⟩
          case measure => simp [intOf]; omega
        · have hn1 : 0 ≤ pn := by omega
          have hn2 : pn ≤ 200 := by omega
          have hin' := hin (.inr rfl)
          clear hok hin
          obtain ⟨m, rfl⟩ := Int.eq_ofNat_of_zero_le hn1
          have HST := Lib.hid (hst.past (alloc_below wr (.cells #[.int .i64 3, .int .i64 (m : Int), .slice A1 pz.length e1] 53)) hBs)
          clear hst
          go_wp2_with fail
          refine (implNext w.heap.size gr m (t.drop at_) _ HST.out.rd (by rw [List.length_drop]; omega) (by rw [List.length_drop]; omega)).mono ?_
          rintro e w4 ⟨A4, rfl, r4, rd4, t4⟩
          have HS4 := Lib.hid (HST.out.next rd4 t4)
          have R4 := Lib.hid (r4.more HS4.out.bel.size)
          have hlen : ((t.drop at_).take m).length = m := piece_len (by omega)
          have HLN := Lib.hid hlen
          clear r4 rd4 t4 HST hlen
          go_wp2_with fail
          refine (implPutB O w.heap.size g L A4 _ m ((t.drop at_).take m) _ HS4.out.bd R4.out HLN.out (by rw [HLN.out]; omega) hL1).mono ?_
          rintro e w5 ⟨rfl, O', hb5, b5, g5⟩
          have HS5 := Lib.hid (HS4.out.grow hb5 b5 g5)
          clear hb5 b5 g5 HS4
          go_wp2
          go_roundw
          case rel => exact ⟨k + 1, O', by omega, by go_num, by rw [K1.out]; exact HS5.out⟩
          case measure => simp [intOf]; omega
      · have hke : qs.take k = qs := List.take_of_length_le (by omega)
        rw [hke] at hst hfit
        have HST := Lib.hid hst
        clear hst hq hke hLk hat hfit
        go_wp2_with fail
        refine (implDoneB O w.heap.size g _ _ HST.out.bd).mono ?_
        rintro e w8 ⟨v8, b8, rfl, o8, _, bl8, _⟩
        obtain ⟨A8, c8, rfl⟩ := sliceP o8.read
        have H8 := Lib.hid o8
        clear o8
        go_wp2
        go_ret2
        exact ⟨_, rfl, ⟨b8, H8.out.ow, H8.out.nd, H8.out.rng, H8.out.top, H8.out.le⟩, HST.out.bel.trans bl8⟩
end Go.Proofs.Ytemhhjagdfkmfaa.low
