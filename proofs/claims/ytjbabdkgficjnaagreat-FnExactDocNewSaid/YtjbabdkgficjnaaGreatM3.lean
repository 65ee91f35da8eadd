/-
  Texts that the proofs over this seat rest on, one behind the other (3 of 4).
-/
import Derived.Test.YtjbabdkgficjnaaGreatM2
import Derived.Deep.AppendLies
import Derived.Test.YtjbabdkgficjnaaGreatM1
set_option maxHeartbeats 12800000
set_option maxRecDepth 1000000
namespace Go.Proofs.YtjbabdkgficjnaaGreat.low
open Go.RowKit
set_option linter.unusedVariables false
def chainGo : List En → List Int → Bool
 | [], _ => true
 | e :: l, t => fitsB e.o t && entryB e && okText (applyT e.o t) && chainGo l (applyT e.o t)
theorem chainGo_step {l : List En} {j : Nat} {e : En} (h : l[j]? = some e) (t : List Int) : chainGo (l.drop j) t = (fitsB e.o t && entryB e && okText (applyT e.o t) && chainGo (l.drop (j + 1)) (applyT e.o t)) := by
 obtain ⟨hlt, e'⟩ := List.getElem?_eq_some_iff.1 h
 rw [List.drop_eq_getElem_cons hlt, e']
 rfl
def seenOneB (h : Int) (prev : Option Int) (s : Se) : Bool := inB s.client 1 8 && inB s.seq 1 1000000000 && inB s.rev 1 h && (match prev with | none => true | some p => decide (p < s.client))
def seenAllB (h : Int) : Option Int → List Se → Bool
 | _, [] => true
 | prev, s :: l => seenOneB h prev s && seenAllB h (some s.client) l
def prevOf (l : List Se) : Nat → Option Int
 | 0 => none
 | k + 1 => (l[k]?).map Se.client
theorem seenAllB_step {h : Int} {l : List Se} {j : Nat} {s : Se} (hs : l[j]? = some s) : seenAllB h (prevOf l j) (l.drop j) = (seenOneB h (prevOf l j) s && seenAllB h (prevOf l (j + 1)) (l.drop (j + 1))) := by
 obtain ⟨hlt, e'⟩ := List.getElem?_eq_some_iff.1 hs
 rw [List.drop_eq_getElem_cons hlt, e']
 have : prevOf l (j + 1) = some s.client := by rw [prevOf, hs]; rfl
 rw [this]
 rfl
def docB (x : Do) : Bool := nameB x.name && inB x.from_ 0 999999000 && okText x.text && decide (x.list.length ≤ 8) && chainGo x.list x.text && seenAllB (headRevT x) none x.seen
theorem okText_small {t : List Int} (h : okText t = true) : SmI t := by
 unfold okText at h
 rw [Bool.and_eq_true] at h
 have := of_decide_eq_true h.2
 unfold SmI
 omega
theorem SmDo.nameL {x : Do} (h : SmDo x) : x.name.size ≤ 1048576 := by unfold SmDo totDo at h; omega
structure SmD4 (x : Do) : Prop where
 nameL : x.name.size ≤ 1048576
 text : SmI x.text
 list : SmEns x.list
 seen : SmSes x.seen
theorem SmDo.four {x : Do} (h : SmDo x) : SmD4 x := ⟨h.nameL, h.text, h.list, h.seen⟩
theorem specDocOk_w (v : Value) (x : Do) (w : World) (h : RdC w w.heap.size (datDo x) v) (hs : SmD4 x) : Calls Tryz.prog 9 #[v] w (Tells (docB x) w) := by
 have HR := Lib.hid h
 obtain ⟨A2, c2, A3, c3, A4, c4, rfl, r2, r3, r4⟩ := aggDo h
 have hl3 := hs.list.len
 have hl4 := hs.seen.len
 have HD := Lib.hid (show docB x = (nameB x.name && inB x.from_ 0 999999000 && okText x.text && decide (x.list.length ≤ 8) && chainGo x.list x.text && seenAllB (headRevT x) none x.seen) from rfl)
 have b0 := alloc_below w (.cells #[.string x.name, .int .i64 x.from_, .slice A2 x.text.length c2, .slice A3 x.list.length c3, .slice A4 x.seen.length c4] 32)
 have bx := Bx.new w #[.string x.name, .int .i64 x.from_, .slice A2 x.text.length c2, .slice A3 x.list.length c3, .slice A4 x.seen.length c4] 32
 go_enter Tryz.func9, Tryz.ntmps9
 go_wp2_with fail
 generalize w.alloc (.cells #[.string x.name, .int .i64 x.from_, .slice A2 x.text.length c2, .slice A3 x.list.length c3, .slice A4 x.seen.length c4] 32) = W0 at b0 bx ⊢
 refine (specNameOk_d x.name _ hs.nameL).mono ?_
 rintro e w1 ⟨rfl, k1⟩
 have bx := bx.past k1
 have d1 := b0.trans (k1.mono b0.size)
 clear k1
 cases hn : nameB x.name
 ·go_wp2
  go_ret
  exact ⟨ret_b (by rw [HD.out, hn]; rfl), d1⟩
 have y1 : w1.cell? ⟨w.heap.size, 1, none⟩ = some (.int .i64 x.from_) := bx.cell rfl
 go_wp2_with fail
 refine (in_any _ _ _ _).mono ?_
 rintro e w' ⟨rfl, rfl⟩
 cases hf : inB x.from_ 0 999999000
 ·go_wp2
  go_ret
  exact ⟨ret_b (by rw [HD.out, hn, hf]; rfl), d1⟩
 have y2 : w1.cell? ⟨w.heap.size, 2, none⟩ = some (.slice A2 x.text.length c2) := bx.cell rfl
 go_wp2_with fail
 refine (specTextOk_d _ x.text _ (r2.past d1) hs.text).mono ?_
 rintro e w2 ⟨rfl, k2⟩
 have bx := bx.past k2
 have d2 := d1.trans (k2.mono d1.size)
 clear k2 y1 y2
 cases ht : okText x.text
 ·go_wp2
  go_ret
  exact ⟨ret_b (by rw [HD.out, hn, hf, ht]; rfl), d2⟩
 have y3 : w2.cell? ⟨w.heap.size, 3, none⟩ = some (.slice A3 x.list.length c3) := bx.cell rfl
 by_cases hw : 8 < x.list.length
 ·go_wp2
  go_ret
  exact ⟨ret_b (by rw [HD.out, hn, hf, ht, decide_eq_false (by omega)]; rfl), d2⟩
 have HD2 := Lib.hid (show docB x = (chainGo x.list x.text && seenAllB (headRevT x) none x.seen) by rw [HD.out, hn, hf, ht, decide_eq_true (by omega)]; rfl)
 have hst := okText_small ht
 have y2 : w2.cell? ⟨w.heap.size, 2, none⟩ = some (.slice A2 x.text.length c2) := bx.cell rfl
 have BX := Lib.hid bx
 have R2 := Lib.hid (r2.past d2)
 clear bx hn hf ht HD r2
 go_wp2
 go_loopw [3, 37] (fun tv i wr => ∃ (j : Nat) (t : List Int) (A : Option Addr) (c : Nat), j ≤ x.list.length ∧ i = .int .i64 (j : Int) ∧ tv = .slice A t.length c ∧ RdC wr wr.heap.size (encInts t) tv ∧ SmI t ∧ chainGo x.list x.text = chainGo (x.list.drop j) t ∧ Bx wr w.heap.size #[.string x.name, .int .i64 x.from_, .slice A2 x.text.length c2, .slice A3 x.list.length c3, .slice A4 x.seen.length c4] 32 ∧ Below w.heap.size w wr) (fun _ i _ => x.list.length - (intOf i).toNat)
 case atStart => exact ⟨0, x.text, A2, c2, Nat.zero_le _, rfl, rfl, R2.out, hst, by simp, BX.out, d2⟩
 case round =>
  obtain ⟨j, t, A, c, hj, rfl, rfl, hrt, hst, hch, hbx, hbel⟩ := hrel
  clear BX R2 y2 y3 d2
  have HCH := Lib.hid hch
  have HBX := Lib.hid hbx
  have HRT := Lib.hid hrt
  clear hch hbx hrt
  by_cases hlt : j < x.list.length
  ·obtain ⟨b, off, e, A5, c5, rfl, hbb, hp, z0, z1, z2, q2⟩ := atEns (r3.below hbel) hlt
   have HS := Lib.hid (chainGo_step hp t)
   have hse := hs.list.at_ (List.mem_of_getElem? hp)
   clear hp
   have bA := alloc_below wr (.cells #[.int .i64 e.client, .int .i64 e.seq, .slice A5 e.o.length c5] 59)
   have bxE := Bx.new wr #[.int .i64 e.client, .int .i64 e.seq, .slice A5 e.o.length c5] 59
   have q2 := RdC.more hbel.size _ _ q2
   go_wp2_with fail
   generalize wr.alloc (.cells #[.int .i64 e.client, .int .i64 e.seq, .slice A5 e.o.length c5] 59) = W1 at bA bxE ⊢
   refine (specApply_d _ _ e.o t _ (q2.past bA) (HRT.out.past bA) hse.o hst).mono ?_
   rintro e' w3 ⟨v3, rfl, o3, b3⟩
   obtain ⟨A6, c6, rfl⟩ := sliceI o3.read
   have bxE := bxE.past b3
   have d3 := bA.trans (b3.mono bA.size)
   have R3 := Lib.hid o3.read
   clear o3 b3 bA
   cases hfit : fitsB e.o t
   ·go_wp2
    go_ret
    exact ⟨ret_b (by rw [HD2.out, HCH.out, HS.out, hfit]; rfl), hbel.trans (d3.mono hbel.size)⟩
   have x0 : w3.cell? ⟨wr.heap.size, 0, none⟩ = some (.int .i64 e.client) := bxE.cell rfl
   have x1 : w3.cell? ⟨wr.heap.size, 1, none⟩ = some (.int .i64 e.seq) := bxE.cell rfl
   have x2 : w3.cell? ⟨wr.heap.size, 2, none⟩ = some (.slice A5 e.o.length c5) := bxE.cell rfl
   go_wp2_with fail
   refine (specEntryOk_d _ e _ (rdEn e (q2.past d3)) hse).mono ?_
   rintro e' w4 ⟨rfl, b4⟩
   have d4 := d3.trans (b4.mono d3.size)
   cases hent : entryB e
   ·go_wp2
    go_ret
    exact ⟨ret_b (by rw [HD2.out, HCH.out, HS.out, hfit, hent]; rfl), hbel.trans (d4.mono hbel.size)⟩
   have hs6 : SmI (applyT e.o t) := apply_small hse.o hst
   go_wp2_with fail
   refine (specTextOk_d _ (applyT e.o t) _ (R3.out.past b4) hs6).mono ?_
   rintro e' w5 ⟨rfl, b5⟩
   have d5 := d4.trans (b5.mono d4.size)
   cases hok : okText (applyT e.o t)
   ·go_wp2
    go_ret
    exact ⟨ret_b (by rw [HD2.out, HCH.out, HS.out, hfit, hent, hok]; rfl), hbel.trans (d5.mono hbel.size)⟩
   ·have HN := Lib.hid (show chainGo x.list x.text = chainGo (x.list.drop (j + 1)) (applyT e.o t) by rw [HCH.out, HS.out, hfit, hent, hok]; rfl)
    go_wp2
    go_roundw
    case rel => exact ⟨j + 1, applyT e.o t, A6, c6, by omega, by go_num, rfl, (R3.out.past b4).past b5, okText_small hok, HN.out, HBX.out.past d5, hbel.trans (d5.mono hbel.size)⟩
    case measure => simp [intOf]; omega
  ·have HD3 := Lib.hid (show docB x = seenAllB (headRevT x) none x.seen by rw [HD2.out, HCH.out, List.drop_eq_nil_of_le (by omega)]; rfl)
   have y4 : wr.cell? ⟨w.heap.size, 4, none⟩ = some (.slice A4 x.seen.length c4) := HBX.out.cell rfl
   have HBE := Lib.hid hbel
   clear HRT
   go_wp2
   go_loopw [65] (fun i wq => ∃ j : Nat, j ≤ x.seen.length ∧ i = .int .i64 (j : Int) ∧ docB x = seenAllB (headRevT x) (prevOf x.seen j) (x.seen.drop j) ∧ Bx wq w.heap.size #[.string x.name, .int .i64 x.from_, .slice A2 x.text.length c2, .slice A3 x.list.length c3, .slice A4 x.seen.length c4] 32 ∧ Below w.heap.size w wq) (fun i _ => x.seen.length - (intOf i).toNat)
   case atStart => exact ⟨0, Nat.zero_le _, rfl, by simpa [prevOf] using HD3.out, HBX.out, HBE.out⟩
   case round =>
    obtain ⟨j, hj, rfl, hdc, hbx, hbel⟩ := hrel
    clear HBX HBE HD3 y4
    have HDC := Lib.hid hdc
    have HBX := Lib.hid hbx
    clear hdc hbx
    by_cases hlt : j < x.seen.length
    ·obtain ⟨b, off, s, rfl, hbb, hp, z0, z1, z2⟩ := atSes (r4.below hbel) hlt
     have HS := Lib.hid (seenAllB_step (h := headRevT x) hp)
     have HP := Lib.hid hp
     clear hp
     -- round2
     have bA := alloc_below wr (.cells #[.int .i64 s.client, .int .i64 s.seq, .int .i64 s.rev] 63)
     have bxS := Bx.new wr #[.int .i64 s.client, .int .i64 s.seq, .int .i64 s.rev] 63
     have bxD := HBX.out.past bA
     have hbq : b < wr.heap.size := Nat.lt_of_lt_of_le hbb hbel.size
     cases h1 : inB s.client 1 8
     ·go_wp2
      generalize wr.alloc (.cells #[.int .i64 s.client, .int .i64 s.seq, .int .i64 s.rev] 63) = W1 at bA bxS bxD ⊢
      have y0 : W1.cell? ⟨wr.heap.size, 0, none⟩ = some (.int .i64 s.client) := bxS.cell rfl
      have y1 : W1.cell? ⟨wr.heap.size, 1, none⟩ = some (.int .i64 s.seq) := bxS.cell rfl
      have y2 : W1.cell? ⟨wr.heap.size, 2, none⟩ = some (.int .i64 s.rev) := bxS.cell rfl
      have y3 : W1.cell? ⟨w.heap.size, 0, none⟩ = some (.string x.name) := bxD.cell rfl
      have y4 : W1.cell? ⟨w.heap.size, 1, none⟩ = some (.int .i64 x.from_) := bxD.cell rfl
      have y5 : W1.cell? ⟨w.heap.size, 2, none⟩ = some (.slice A2 x.text.length c2) := bxD.cell rfl
      have y6 : W1.cell? ⟨w.heap.size, 3, none⟩ = some (.slice A3 x.list.length c3) := bxD.cell rfl
      have y7 : W1.cell? ⟨w.heap.size, 4, none⟩ = some (.slice (some ⟨b, off, none⟩) x.seen.length c4) := bxD.cell rfl
      have lS := bxS.lt
      have lD := bxD.lt
      have SX := Lib.hid (show ∀ (W W' : World), (W.cell? ⟨wr.heap.size, 0, none⟩ = some (.int .i64 s.client) ∧ W.cell? ⟨wr.heap.size, 1, none⟩ = some (.int .i64 s.seq) ∧ W.cell? ⟨wr.heap.size, 2, none⟩ = some (.int .i64 s.rev) ∧ W.cell? ⟨w.heap.size, 0, none⟩ = some (.string x.name) ∧ W.cell? ⟨w.heap.size, 1, none⟩ = some (.int .i64 x.from_) ∧ W.cell? ⟨w.heap.size, 2, none⟩ = some (.slice A2 x.text.length c2) ∧ W.cell? ⟨w.heap.size, 3, none⟩ = some (.slice A3 x.list.length c3) ∧ W.cell? ⟨w.heap.size, 4, none⟩ = some (.slice (some ⟨b, off, none⟩) x.seen.length c4) ∧ KS W1 W) → Below W.heap.size W W' → (W'.cell? ⟨wr.heap.size, 0, none⟩ = some (.int .i64 s.client) ∧ W'.cell? ⟨wr.heap.size, 1, none⟩ = some (.int .i64 s.seq) ∧ W'.cell? ⟨wr.heap.size, 2, none⟩ = some (.int .i64 s.rev) ∧ W'.cell? ⟨w.heap.size, 0, none⟩ = some (.string x.name) ∧ W'.cell? ⟨w.heap.size, 1, none⟩ = some (.int .i64 x.from_) ∧ W'.cell? ⟨w.heap.size, 2, none⟩ = some (.slice A2 x.text.length c2) ∧ W'.cell? ⟨w.heap.size, 3, none⟩ = some (.slice A3 x.list.length c3) ∧ W'.cell? ⟨w.heap.size, 4, none⟩ = some (.slice (some ⟨b, off, none⟩) x.seen.length c4) ∧ KS W1 W') from fun W W' h hb => by have hk := h.2.2.2.2.2.2.2.2; have hkk : KS W1 W' := hk.trans (hb.mono hk.size); exact ⟨(hkk.cell (p := ⟨wr.heap.size, 0, none⟩) lS).trans y0, (hkk.cell (p := ⟨wr.heap.size, 1, none⟩) lS).trans y1, (hkk.cell (p := ⟨wr.heap.size, 2, none⟩) lS).trans y2, (hkk.cell (p := ⟨w.heap.size, 0, none⟩) lD).trans y3, (hkk.cell (p := ⟨w.heap.size, 1, none⟩) lD).trans y4, (hkk.cell (p := ⟨w.heap.size, 2, none⟩) lD).trans y5, (hkk.cell (p := ⟨w.heap.size, 3, none⟩) lD).trans y6, (hkk.cell (p := ⟨w.heap.size, 4, none⟩) lD).trans y7, hkk⟩)
      have RD := Lib.hid (show ∀ W : World, (W.cell? ⟨wr.heap.size, 0, none⟩ = some (.int .i64 s.client) ∧ W.cell? ⟨wr.heap.size, 1, none⟩ = some (.int .i64 s.seq) ∧ W.cell? ⟨wr.heap.size, 2, none⟩ = some (.int .i64 s.rev) ∧ W.cell? ⟨w.heap.size, 0, none⟩ = some (.string x.name) ∧ W.cell? ⟨w.heap.size, 1, none⟩ = some (.int .i64 x.from_) ∧ W.cell? ⟨w.heap.size, 2, none⟩ = some (.slice A2 x.text.length c2) ∧ W.cell? ⟨w.heap.size, 3, none⟩ = some (.slice A3 x.list.length c3) ∧ W.cell? ⟨w.heap.size, 4, none⟩ = some (.slice (some ⟨b, off, none⟩) x.seen.length c4) ∧ KS W1 W) → RdC W W.heap.size (datDo x) (.agg #[.string x.name, .int .i64 x.from_, .slice A2 x.text.length c2, .slice A3 x.list.length c3, .slice (some ⟨b, off, none⟩) x.seen.length c4]) from fun W h => by have hk : Below W1.heap.size W1 W := h.2.2.2.2.2.2.2.2; exact (HR.out.past (hbel.trans (bA.mono hbel.size))).past hk)
      have hS0 : W1.drew.cell? ⟨wr.heap.size, 0, none⟩ = some (.int .i64 s.client) ∧ W1.drew.cell? ⟨wr.heap.size, 1, none⟩ = some (.int .i64 s.seq) ∧ W1.drew.cell? ⟨wr.heap.size, 2, none⟩ = some (.int .i64 s.rev) ∧ W1.drew.cell? ⟨w.heap.size, 0, none⟩ = some (.string x.name) ∧ W1.drew.cell? ⟨w.heap.size, 1, none⟩ = some (.int .i64 x.from_) ∧ W1.drew.cell? ⟨w.heap.size, 2, none⟩ = some (.slice A2 x.text.length c2) ∧ W1.drew.cell? ⟨w.heap.size, 3, none⟩ = some (.slice A3 x.list.length c3) ∧ W1.drew.cell? ⟨w.heap.size, 4, none⟩ = some (.slice (some ⟨b, off, none⟩) x.seen.length c4) ∧ KS W1 W1.drew := ⟨y0, y1, y2, y3, y4, y5, y6, y7, KS.start _⟩
      clear y0 y1 y2 y3 y4 y5 y6 y7
      refine wp_region_held_drew (S := fun W => W.cell? ⟨wr.heap.size, 0, none⟩ = some (.int .i64 s.client) ∧ W.cell? ⟨wr.heap.size, 1, none⟩ = some (.int .i64 s.seq) ∧ W.cell? ⟨wr.heap.size, 2, none⟩ = some (.int .i64 s.rev) ∧ W.cell? ⟨w.heap.size, 0, none⟩ = some (.string x.name) ∧ W.cell? ⟨w.heap.size, 1, none⟩ = some (.int .i64 x.from_) ∧ W.cell? ⟨w.heap.size, 2, none⟩ = some (.slice A2 x.text.length c2) ∧ W.cell? ⟨w.heap.size, 3, none⟩ = some (.slice A3 x.list.length c3) ∧ W.cell? ⟨w.heap.size, 4, none⟩ = some (.slice (some ⟨b, off, none⟩) x.seen.length c4) ∧ KS W1 W) (by kernel_rfl) hS0 (fun hS => ?_)
      clear hS0
      refine tk (v := .pointer (some ⟨wr.heap.size, 0, none⟩)) 0 70 rfl (fun w' hS' => ?_) hS ?_
      ·(try dsimp only at hS'); go_simp
      try simp only [Act.put, pa, pb, pc]
      refine tk (v := .int .i64 s.client) 1 71 rfl (fun w' hS' => ?_) hS ?_
      ·(try dsimp only at hS'); go_simp
      try simp only [Act.put, pa, pb, pc]
      refine r1 2 (some 72) rfl (fun K hK => ?_)
      go_simp
      refine (in_any _ _ _ _).mono ?_
      rw [h1]
      rintro e w2 ⟨rfl, rfl⟩
      refine hK.out _ _ hS (fun hS => ?_)
      clear hK K
      try simp only [Act.put, pa, pb, pc]
      refine tk (v := .bool true) 3 73 rfl (fun w' hS' => ?_) hS ?_
      ·(try dsimp only at hS'); go_simp
      try simp only [Act.put, pa, pb, pc]
      refine tk (v := .bool true) 4 74 rfl (fun w' hS' => ?_) hS ?_
      ·(try dsimp only at hS'); go_simp
      try simp only [Act.put, pa, pb, pc]
      refine tu 5 75 rfl hS ?_
      try simp only [Act.put, pa, pb, pc]
      refine tu 6 76 rfl hS ?_
      try simp only [Act.put, pa, pb, pc]
      refine tu 7 77 rfl hS ?_
      try simp only [Act.put, pa, pb, pc]
      refine tu 8 78 rfl hS ?_
      try simp only [Act.put, pa, pb, pc]
      refine tk (v := .bool true) 9 79 rfl (fun w' hS' => ?_) hS ?_
      ·(try dsimp only at hS'); go_simp
      try simp only [Act.put, pa, pb, pc]
      refine tk (v := .bool true) 10 80 rfl (fun w' hS' => ?_) hS ?_
      ·(try dsimp only at hS'); go_simp
      try simp only [Act.put, pa, pb, pc]
      refine tu 11 81 rfl hS ?_
      try simp only [Act.put, pa, pb, pc]
      refine tu 12 82 rfl hS ?_
      try simp only [Act.put, pa, pb, pc]
      refine tu 13 83 rfl hS ?_
      try simp only [Act.put, pa, pb, pc]
      refine tu 14 84 rfl hS ?_
      try simp only [Act.put, pa, pb, pc]
      refine tu 15 85 rfl hS ?_
      try simp only [Act.put, pa, pb, pc]
      refine tu 16 86 rfl hS ?_
      try simp only [Act.put, pa, pb, pc]
      refine tk (v := .bool true) 17 87 rfl (fun w' hS' => ?_) hS ?_
      ·(try dsimp only at hS'); go_simp
      try simp only [Act.put, pa, pb, pc]
      refine tk (v := .bool true) 18 88 rfl (fun w' hS' => ?_) hS ?_
      ·(try dsimp only at hS'); go_simp
      try simp only [Act.put, pa, pb, pc]
      refine tu 19 89 rfl hS ?_
      try simp only [Act.put, pa, pb, pc]
      refine tu 20 90 rfl hS ?_
      try simp only [Act.put, pa, pb, pc]
      refine tu 21 91 rfl hS ?_
      try simp only [Act.put, pa, pb, pc]
      refine tu 22 92 rfl hS ?_
      try simp only [Act.put, pa, pb, pc]
      refine tu 23 93 rfl hS ?_
      try simp only [Act.put, pa, pb, pc]
      refine tu 24 94 rfl hS ?_
      try simp only [Act.put, pa, pb, pc]
      refine tu 25 95 rfl hS ?_
      try simp only [Act.put, pa, pb, pc]
      refine tu 26 96 rfl hS ?_
      try simp only [Act.put, pa, pb, pc]
      refine tu 27 97 rfl hS ?_
      try simp only [Act.put, pa, pb, pc]
      refine tu 28 98 rfl hS ?_
      try simp only [Act.put, pa, pb, pc]
      refine tu 29 99 rfl hS ?_
      try simp only [Act.put, pa, pb, pc]
      refine tu 30 100 rfl hS ?_
      try simp only [Act.put, pa, pb, pc]
      refine tu 31 101 rfl hS ?_
      try simp only [Act.put, pa, pb, pc]
      refine tu 32 102 rfl hS ?_
      try simp only [Act.put, pa, pb, pc]
      refine tk (v := .bool true) 33 103 rfl (fun w' hS' => ?_) hS ?_
      ·(try dsimp only at hS'); go_simp
      try simp only [Act.put, pa, pb, pc]
      refine wpAnyH_done (by kernel_rfl) ?_ _
      have HK : Below w.heap.size w _ := hbel.trans ((bA.trans (hS.2.2.2.2.2.2.2.2.mono bA.size)).mono hbel.size)
      have HBX2 := Lib.hid (bxD.past hS.2.2.2.2.2.2.2.2)
      have HKH := Lib.hid HK
      clear hS SX RD HK
      go_wp2
      go_ret
      exact ⟨ret_b (by rw [HDC.out, HS.out]; rw [show seenOneB (headRevT x) (prevOf x.seen j) s = false by unfold seenOneB; rw [h1]; simp]; rfl), HKH.out⟩
     cases h2 : inB s.seq 1 1000000000
     ·go_wp2
      generalize wr.alloc (.cells #[.int .i64 s.client, .int .i64 s.seq, .int .i64 s.rev] 63) = W1 at bA bxS bxD ⊢
      have y0 : W1.cell? ⟨wr.heap.size, 0, none⟩ = some (.int .i64 s.client) := bxS.cell rfl
      have y1 : W1.cell? ⟨wr.heap.size, 1, none⟩ = some (.int .i64 s.seq) := bxS.cell rfl
      have y2 : W1.cell? ⟨wr.heap.size, 2, none⟩ = some (.int .i64 s.rev) := bxS.cell rfl
      have y3 : W1.cell? ⟨w.heap.size, 0, none⟩ = some (.string x.name) := bxD.cell rfl
      have y4 : W1.cell? ⟨w.heap.size, 1, none⟩ = some (.int .i64 x.from_) := bxD.cell rfl
      have y5 : W1.cell? ⟨w.heap.size, 2, none⟩ = some (.slice A2 x.text.length c2) := bxD.cell rfl
      have y6 : W1.cell? ⟨w.heap.size, 3, none⟩ = some (.slice A3 x.list.length c3) := bxD.cell rfl
      have y7 : W1.cell? ⟨w.heap.size, 4, none⟩ = some (.slice (some ⟨b, off, none⟩) x.seen.length c4) := bxD.cell rfl
      have lS := bxS.lt
      have lD := bxD.lt
      have SX := Lib.hid (show ∀ (W W' : World), (W.cell? ⟨wr.heap.size, 0, none⟩ = some (.int .i64 s.client) ∧ W.cell? ⟨wr.heap.size, 1, none⟩ = some (.int .i64 s.seq) ∧ W.cell? ⟨wr.heap.size, 2, none⟩ = some (.int .i64 s.rev) ∧ W.cell? ⟨w.heap.size, 0, none⟩ = some (.string x.name) ∧ W.cell? ⟨w.heap.size, 1, none⟩ = some (.int .i64 x.from_) ∧ W.cell? ⟨w.heap.size, 2, none⟩ = some (.slice A2 x.text.length c2) ∧ W.cell? ⟨w.heap.size, 3, none⟩ = some (.slice A3 x.list.length c3) ∧ W.cell? ⟨w.heap.size, 4, none⟩ = some (.slice (some ⟨b, off, none⟩) x.seen.length c4) ∧ KS W1 W) → Below W.heap.size W W' → (W'.cell? ⟨wr.heap.size, 0, none⟩ = some (.int .i64 s.client) ∧ W'.cell? ⟨wr.heap.size, 1, none⟩ = some (.int .i64 s.seq) ∧ W'.cell? ⟨wr.heap.size, 2, none⟩ = some (.int .i64 s.rev) ∧ W'.cell? ⟨w.heap.size, 0, none⟩ = some (.string x.name) ∧ W'.cell? ⟨w.heap.size, 1, none⟩ = some (.int .i64 x.from_) ∧ W'.cell? ⟨w.heap.size, 2, none⟩ = some (.slice A2 x.text.length c2) ∧ W'.cell? ⟨w.heap.size, 3, none⟩ = some (.slice A3 x.list.length c3) ∧ W'.cell? ⟨w.heap.size, 4, none⟩ = some (.slice (some ⟨b, off, none⟩) x.seen.length c4) ∧ KS W1 W') from fun W W' h hb => by have hk := h.2.2.2.2.2.2.2.2; have hkk : KS W1 W' := hk.trans (hb.mono hk.size); exact ⟨(hkk.cell (p := ⟨wr.heap.size, 0, none⟩) lS).trans y0, (hkk.cell (p := ⟨wr.heap.size, 1, none⟩) lS).trans y1, (hkk.cell (p := ⟨wr.heap.size, 2, none⟩) lS).trans y2, (hkk.cell (p := ⟨w.heap.size, 0, none⟩) lD).trans y3, (hkk.cell (p := ⟨w.heap.size, 1, none⟩) lD).trans y4, (hkk.cell (p := ⟨w.heap.size, 2, none⟩) lD).trans y5, (hkk.cell (p := ⟨w.heap.size, 3, none⟩) lD).trans y6, (hkk.cell (p := ⟨w.heap.size, 4, none⟩) lD).trans y7, hkk⟩)
      have RD := Lib.hid (show ∀ W : World, (W.cell? ⟨wr.heap.size, 0, none⟩ = some (.int .i64 s.client) ∧ W.cell? ⟨wr.heap.size, 1, none⟩ = some (.int .i64 s.seq) ∧ W.cell? ⟨wr.heap.size, 2, none⟩ = some (.int .i64 s.rev) ∧ W.cell? ⟨w.heap.size, 0, none⟩ = some (.string x.name) ∧ W.cell? ⟨w.heap.size, 1, none⟩ = some (.int .i64 x.from_) ∧ W.cell? ⟨w.heap.size, 2, none⟩ = some (.slice A2 x.text.length c2) ∧ W.cell? ⟨w.heap.size, 3, none⟩ = some (.slice A3 x.list.length c3) ∧ W.cell? ⟨w.heap.size, 4, none⟩ = some (.slice (some ⟨b, off, none⟩) x.seen.length c4) ∧ KS W1 W) → RdC W W.heap.size (datDo x) (.agg #[.string x.name, .int .i64 x.from_, .slice A2 x.text.length c2, .slice A3 x.list.length c3, .slice (some ⟨b, off, none⟩) x.seen.length c4]) from fun W h => by have hk : Below W1.heap.size W1 W := h.2.2.2.2.2.2.2.2; exact (HR.out.past (hbel.trans (bA.mono hbel.size))).past hk)
      have hS0 : W1.drew.cell? ⟨wr.heap.size, 0, none⟩ = some (.int .i64 s.client) ∧ W1.drew.cell? ⟨wr.heap.size, 1, none⟩ = some (.int .i64 s.seq) ∧ W1.drew.cell? ⟨wr.heap.size, 2, none⟩ = some (.int .i64 s.rev) ∧ W1.drew.cell? ⟨w.heap.size, 0, none⟩ = some (.string x.name) ∧ W1.drew.cell? ⟨w.heap.size, 1, none⟩ = some (.int .i64 x.from_) ∧ W1.drew.cell? ⟨w.heap.size, 2, none⟩ = some (.slice A2 x.text.length c2) ∧ W1.drew.cell? ⟨w.heap.size, 3, none⟩ = some (.slice A3 x.list.length c3) ∧ W1.drew.cell? ⟨w.heap.size, 4, none⟩ = some (.slice (some ⟨b, off, none⟩) x.seen.length c4) ∧ KS W1 W1.drew := ⟨y0, y1, y2, y3, y4, y5, y6, y7, KS.start _⟩
      clear y0 y1 y2 y3 y4 y5 y6 y7
      refine wp_region_held_drew (S := fun W => W.cell? ⟨wr.heap.size, 0, none⟩ = some (.int .i64 s.client) ∧ W.cell? ⟨wr.heap.size, 1, none⟩ = some (.int .i64 s.seq) ∧ W.cell? ⟨wr.heap.size, 2, none⟩ = some (.int .i64 s.rev) ∧ W.cell? ⟨w.heap.size, 0, none⟩ = some (.string x.name) ∧ W.cell? ⟨w.heap.size, 1, none⟩ = some (.int .i64 x.from_) ∧ W.cell? ⟨w.heap.size, 2, none⟩ = some (.slice A2 x.text.length c2) ∧ W.cell? ⟨w.heap.size, 3, none⟩ = some (.slice A3 x.list.length c3) ∧ W.cell? ⟨w.heap.size, 4, none⟩ = some (.slice (some ⟨b, off, none⟩) x.seen.length c4) ∧ KS W1 W) (by kernel_rfl) hS0 (fun hS => ?_)
      clear hS0
      refine tk (v := .pointer (some ⟨wr.heap.size, 0, none⟩)) 0 70 rfl (fun w' hS' => ?_) hS ?_
      ·(try dsimp only at hS'); go_simp
      try simp only [Act.put, pa, pb, pc]
      refine tk (v := .int .i64 s.client) 1 71 rfl (fun w' hS' => ?_) hS ?_
      ·(try dsimp only at hS'); go_simp
      try simp only [Act.put, pa, pb, pc]
      refine r1 2 (some 72) rfl (fun K hK => ?_)
      go_simp
      refine (in_any _ _ _ _).mono ?_
      rw [h1]
      rintro e w2 ⟨rfl, rfl⟩
      refine hK.out _ _ hS (fun hS => ?_)
      clear hK K
      try simp only [Act.put, pa, pb, pc]
      refine tk (v := .bool false) 3 73 rfl (fun w' hS' => ?_) hS ?_
      ·(try dsimp only at hS'); go_simp
      try simp only [Act.put, pa, pb, pc]
      refine tk (v := .bool false) 4 74 rfl (fun w' hS' => ?_) hS ?_
      ·(try dsimp only at hS'); go_simp
      try simp only [Act.put, pa, pb, pc]
      refine tk (v := .pointer (some ⟨wr.heap.size, 1, none⟩)) 5 75 rfl (fun w' hS' => ?_) hS ?_
      ·(try dsimp only at hS'); go_simp
      try simp only [Act.put, pa, pb, pc]
      refine tk (v := .int .i64 s.seq) 6 76 rfl (fun w' hS' => ?_) hS ?_
      ·(try dsimp only at hS'); go_simp
      try simp only [Act.put, pa, pb, pc]
      refine r1 7 (some 77) rfl (fun K hK => ?_)
      go_simp
      refine (in_any _ _ _ _).mono ?_
      rw [h2]
      rintro e w2 ⟨rfl, rfl⟩
      refine hK.out _ _ hS (fun hS => ?_)
      clear hK K
      try simp only [Act.put, pa, pb, pc]
      refine tk (v := .bool true) 8 78 rfl (fun w' hS' => ?_) hS ?_
      ·(try dsimp only at hS'); go_simp
      try simp only [Act.put, pa, pb, pc]
      refine tk (v := .bool true) 9 79 rfl (fun w' hS' => ?_) hS ?_
      ·(try dsimp only at hS'); go_simp
      try simp only [Act.put, pa, pb, pc]
      refine tk (v := .bool true) 10 80 rfl (fun w' hS' => ?_) hS ?_
      ·(try dsimp only at hS'); go_simp
      try simp only [Act.put, pa, pb, pc]
      refine tu 11 81 rfl hS ?_
      try simp only [Act.put, pa, pb, pc]
      refine tu 12 82 rfl hS ?_
      try simp only [Act.put, pa, pb, pc]
      refine tu 13 83 rfl hS ?_
      try simp only [Act.put, pa, pb, pc]
      refine tu 14 84 rfl hS ?_
      try simp only [Act.put, pa, pb, pc]
      refine tu 15 85 rfl hS ?_
      try simp only [Act.put, pa, pb, pc]
      refine tu 16 86 rfl hS ?_
      try simp only [Act.put, pa, pb, pc]
      refine tk (v := .bool true) 17 87 rfl (fun w' hS' => ?_) hS ?_
      ·(try dsimp only at hS'); go_simp
      try simp only [Act.put, pa, pb, pc]
      refine tk (v := .bool true) 18 88 rfl (fun w' hS' => ?_) hS ?_
      ·(try dsimp only at hS'); go_simp
      try simp only [Act.put, pa, pb, pc]
      refine tu 19 89 rfl hS ?_
      try simp only [Act.put, pa, pb, pc]
      refine tu 20 90 rfl hS ?_
      try simp only [Act.put, pa, pb, pc]
      refine tu 21 91 rfl hS ?_
      try simp only [Act.put, pa, pb, pc]
      refine tu 22 92 rfl hS ?_
      try simp only [Act.put, pa, pb, pc]
      refine tu 23 93 rfl hS ?_
      try simp only [Act.put, pa, pb, pc]
      refine tu 24 94 rfl hS ?_
      try simp only [Act.put, pa, pb, pc]
      refine tu 25 95 rfl hS ?_
      try simp only [Act.put, pa, pb, pc]
      refine tu 26 96 rfl hS ?_
      try simp only [Act.put, pa, pb, pc]
      refine tu 27 97 rfl hS ?_
      try simp only [Act.put, pa, pb, pc]
      refine tu 28 98 rfl hS ?_
      try simp only [Act.put, pa, pb, pc]
      refine tu 29 99 rfl hS ?_
      try simp only [Act.put, pa, pb, pc]
      refine tu 30 100 rfl hS ?_
      try simp only [Act.put, pa, pb, pc]
      refine tu 31 101 rfl hS ?_
      try simp only [Act.put, pa, pb, pc]
      refine tu 32 102 rfl hS ?_
      try simp only [Act.put, pa, pb, pc]
      refine tk (v := .bool true) 33 103 rfl (fun w' hS' => ?_) hS ?_
      ·(try dsimp only at hS'); go_simp
      try simp only [Act.put, pa, pb, pc]
      refine wpAnyH_done (by kernel_rfl) ?_ _
      have HK : Below w.heap.size w _ := hbel.trans ((bA.trans (hS.2.2.2.2.2.2.2.2.mono bA.size)).mono hbel.size)
      have HBX2 := Lib.hid (bxD.past hS.2.2.2.2.2.2.2.2)
      have HKH := Lib.hid HK
      clear hS SX RD HK
      go_wp2
      go_ret
      exact ⟨ret_b (by rw [HDC.out, HS.out]; rw [show seenOneB (headRevT x) (prevOf x.seen j) s = false by unfold seenOneB; rw [h1, h2]; simp]; rfl), HKH.out⟩
     cases h3 : inB s.rev 1 (headRevT x)
     ·go_wp2
      generalize wr.alloc (.cells #[.int .i64 s.client, .int .i64 s.seq, .int .i64 s.rev] 63) = W1 at bA bxS bxD ⊢
      have y0 : W1.cell? ⟨wr.heap.size, 0, none⟩ = some (.int .i64 s.client) := bxS.cell rfl
      have y1 : W1.cell? ⟨wr.heap.size, 1, none⟩ = some (.int .i64 s.seq) := bxS.cell rfl
      have y2 : W1.cell? ⟨wr.heap.size, 2, none⟩ = some (.int .i64 s.rev) := bxS.cell rfl
      have y3 : W1.cell? ⟨w.heap.size, 0, none⟩ = some (.string x.name) := bxD.cell rfl
      have y4 : W1.cell? ⟨w.heap.size, 1, none⟩ = some (.int .i64 x.from_) := bxD.cell rfl
      have y5 : W1.cell? ⟨w.heap.size, 2, none⟩ = some (.slice A2 x.text.length c2) := bxD.cell rfl
      have y6 : W1.cell? ⟨w.heap.size, 3, none⟩ = some (.slice A3 x.list.length c3) := bxD.cell rfl
      have y7 : W1.cell? ⟨w.heap.size, 4, none⟩ = some (.slice (some ⟨b, off, none⟩) x.seen.length c4) := bxD.cell rfl
      have lS := bxS.lt
      have lD := bxD.lt
      have SX := Lib.hid (show ∀ (W W' : World), (W.cell? ⟨wr.heap.size, 0, none⟩ = some (.int .i64 s.client) ∧ W.cell? ⟨wr.heap.size, 1, none⟩ = some (.int .i64 s.seq) ∧ W.cell? ⟨wr.heap.size, 2, none⟩ = some (.int .i64 s.rev) ∧ W.cell? ⟨w.heap.size, 0, none⟩ = some (.string x.name) ∧ W.cell? ⟨w.heap.size, 1, none⟩ = some (.int .i64 x.from_) ∧ W.cell? ⟨w.heap.size, 2, none⟩ = some (.slice A2 x.text.length c2) ∧ W.cell? ⟨w.heap.size, 3, none⟩ = some (.slice A3 x.list.length c3) ∧ W.cell? ⟨w.heap.size, 4, none⟩ = some (.slice (some ⟨b, off, none⟩) x.seen.length c4) ∧ KS W1 W) → Below W.heap.size W W' → (W'.cell? ⟨wr.heap.size, 0, none⟩ = some (.int .i64 s.client) ∧ W'.cell? ⟨wr.heap.size, 1, none⟩ = some (.int .i64 s.seq) ∧ W'.cell? ⟨wr.heap.size, 2, none⟩ = some (.int .i64 s.rev) ∧ W'.cell? ⟨w.heap.size, 0, none⟩ = some (.string x.name) ∧ W'.cell? ⟨w.heap.size, 1, none⟩ = some (.int .i64 x.from_) ∧ W'.cell? ⟨w.heap.size, 2, none⟩ = some (.slice A2 x.text.length c2) ∧ W'.cell? ⟨w.heap.size, 3, none⟩ = some (.slice A3 x.list.length c3) ∧ W'.cell? ⟨w.heap.size, 4, none⟩ = some (.slice (some ⟨b, off, none⟩) x.seen.length c4) ∧ KS W1 W') from fun W W' h hb => by have hk := h.2.2.2.2.2.2.2.2; have hkk : KS W1 W' := hk.trans (hb.mono hk.size); exact ⟨(hkk.cell (p := ⟨wr.heap.size, 0, none⟩) lS).trans y0, (hkk.cell (p := ⟨wr.heap.size, 1, none⟩) lS).trans y1, (hkk.cell (p := ⟨wr.heap.size, 2, none⟩) lS).trans y2, (hkk.cell (p := ⟨w.heap.size, 0, none⟩) lD).trans y3, (hkk.cell (p := ⟨w.heap.size, 1, none⟩) lD).trans y4, (hkk.cell (p := ⟨w.heap.size, 2, none⟩) lD).trans y5, (hkk.cell (p := ⟨w.heap.size, 3, none⟩) lD).trans y6, (hkk.cell (p := ⟨w.heap.size, 4, none⟩) lD).trans y7, hkk⟩)
      have RD := Lib.hid (show ∀ W : World, (W.cell? ⟨wr.heap.size, 0, none⟩ = some (.int .i64 s.client) ∧ W.cell? ⟨wr.heap.size, 1, none⟩ = some (.int .i64 s.seq) ∧ W.cell? ⟨wr.heap.size, 2, none⟩ = some (.int .i64 s.rev) ∧ W.cell? ⟨w.heap.size, 0, none⟩ = some (.string x.name) ∧ W.cell? ⟨w.heap.size, 1, none⟩ = some (.int .i64 x.from_) ∧ W.cell? ⟨w.heap.size, 2, none⟩ = some (.slice A2 x.text.length c2) ∧ W.cell? ⟨w.heap.size, 3, none⟩ = some (.slice A3 x.list.length c3) ∧ W.cell? ⟨w.heap.size, 4, none⟩ = some (.slice (some ⟨b, off, none⟩) x.seen.length c4) ∧ KS W1 W) → RdC W W.heap.size (datDo x) (.agg #[.string x.name, .int .i64 x.from_, .slice A2 x.text.length c2, .slice A3 x.list.length c3, .slice (some ⟨b, off, none⟩) x.seen.length c4]) from fun W h => by have hk : Below W1.heap.size W1 W := h.2.2.2.2.2.2.2.2; exact (HR.out.past (hbel.trans (bA.mono hbel.size))).past hk)
      have hS0 : W1.drew.cell? ⟨wr.heap.size, 0, none⟩ = some (.int .i64 s.client) ∧ W1.drew.cell? ⟨wr.heap.size, 1, none⟩ = some (.int .i64 s.seq) ∧ W1.drew.cell? ⟨wr.heap.size, 2, none⟩ = some (.int .i64 s.rev) ∧ W1.drew.cell? ⟨w.heap.size, 0, none⟩ = some (.string x.name) ∧ W1.drew.cell? ⟨w.heap.size, 1, none⟩ = some (.int .i64 x.from_) ∧ W1.drew.cell? ⟨w.heap.size, 2, none⟩ = some (.slice A2 x.text.length c2) ∧ W1.drew.cell? ⟨w.heap.size, 3, none⟩ = some (.slice A3 x.list.length c3) ∧ W1.drew.cell? ⟨w.heap.size, 4, none⟩ = some (.slice (some ⟨b, off, none⟩) x.seen.length c4) ∧ KS W1 W1.drew := ⟨y0, y1, y2, y3, y4, y5, y6, y7, KS.start _⟩
      clear y0 y1 y2 y3 y4 y5 y6 y7
      refine wp_region_held_drew (S := fun W => W.cell? ⟨wr.heap.size, 0, none⟩ = some (.int .i64 s.client) ∧ W.cell? ⟨wr.heap.size, 1, none⟩ = some (.int .i64 s.seq) ∧ W.cell? ⟨wr.heap.size, 2, none⟩ = some (.int .i64 s.rev) ∧ W.cell? ⟨w.heap.size, 0, none⟩ = some (.string x.name) ∧ W.cell? ⟨w.heap.size, 1, none⟩ = some (.int .i64 x.from_) ∧ W.cell? ⟨w.heap.size, 2, none⟩ = some (.slice A2 x.text.length c2) ∧ W.cell? ⟨w.heap.size, 3, none⟩ = some (.slice A3 x.list.length c3) ∧ W.cell? ⟨w.heap.size, 4, none⟩ = some (.slice (some ⟨b, off, none⟩) x.seen.length c4) ∧ KS W1 W) (by kernel_rfl) hS0 (fun hS => ?_)
      clear hS0
      refine tk (v := .pointer (some ⟨wr.heap.size, 0, none⟩)) 0 70 rfl (fun w' hS' => ?_) hS ?_
      ·(try dsimp only at hS'); go_simp
      try simp only [Act.put, pa, pb, pc]
      refine tk (v := .int .i64 s.client) 1 71 rfl (fun w' hS' => ?_) hS ?_
      ·(try dsimp only at hS'); go_simp
      try simp only [Act.put, pa, pb, pc]
      refine r1 2 (some 72) rfl (fun K hK => ?_)
      go_simp
      refine (in_any _ _ _ _).mono ?_
      rw [h1]
      rintro e w2 ⟨rfl, rfl⟩
      refine hK.out _ _ hS (fun hS => ?_)
      clear hK K
      try simp only [Act.put, pa, pb, pc]
      refine tk (v := .bool false) 3 73 rfl (fun w' hS' => ?_) hS ?_
      ·(try dsimp only at hS'); go_simp
      try simp only [Act.put, pa, pb, pc]
      refine tk (v := .bool false) 4 74 rfl (fun w' hS' => ?_) hS ?_
      ·(try dsimp only at hS'); go_simp
      try simp only [Act.put, pa, pb, pc]
      refine tk (v := .pointer (some ⟨wr.heap.size, 1, none⟩)) 5 75 rfl (fun w' hS' => ?_) hS ?_
      ·(try dsimp only at hS'); go_simp
      try simp only [Act.put, pa, pb, pc]
      refine tk (v := .int .i64 s.seq) 6 76 rfl (fun w' hS' => ?_) hS ?_
      ·(try dsimp only at hS'); go_simp
      try simp only [Act.put, pa, pb, pc]
      refine r1 7 (some 77) rfl (fun K hK => ?_)
      go_simp
      refine (in_any _ _ _ _).mono ?_
      rw [h2]
      rintro e w2 ⟨rfl, rfl⟩
      refine hK.out _ _ hS (fun hS => ?_)
      clear hK K
      try simp only [Act.put, pa, pb, pc]
      refine tk (v := .bool false) 8 78 rfl (fun w' hS' => ?_) hS ?_
      ·(try dsimp only at hS'); go_simp
      try simp only [Act.put, pa, pb, pc]
      refine tk (v := .bool false) 9 79 rfl (fun w' hS' => ?_) hS ?_
      ·(try dsimp only at hS'); go_simp
      try simp only [Act.put, pa, pb, pc]
      refine tk (v := .bool false) 10 80 rfl (fun w' hS' => ?_) hS ?_
      ·(try dsimp only at hS'); go_simp
      try simp only [Act.put, pa, pb, pc]
      refine tk (v := .pointer (some ⟨wr.heap.size, 2, none⟩)) 11 81 rfl (fun w' hS' => ?_) hS ?_
      ·(try dsimp only at hS'); go_simp
      try simp only [Act.put, pa, pb, pc]
      refine tk (v := .int .i64 s.rev) 12 82 rfl (fun w' hS' => ?_) hS ?_
      ·(try dsimp only at hS'); go_simp
      try simp only [Act.put, pa, pb, pc]
      refine tk (v := .agg #[.string x.name, .int .i64 x.from_, .slice A2 x.text.length c2, .slice A3 x.list.length c3, .slice (some ⟨b, off, none⟩) x.seen.length c4]) 13 83 rfl (fun w' hS' => ?_) hS ?_
      ·(try dsimp only at hS'); go_simp
      try simp only [Act.put, pa, pb, pc]
      refine r1 14 (some 84) rfl (fun K hK => ?_)
      go_simp
      refine (specHeadRev_w _ x _ (RD.out _ hS)).mono ?_
      rintro e w2 ⟨rfl, b2⟩
      refine hK.out _ _ (SX.out _ _ hS b2) (fun hS => ?_)
      clear hK K
      try simp only [Act.put, pa, pb, pc]
      refine r1 15 (some 85) rfl (fun K hK => ?_)
      go_simp
      refine (in_any _ _ _ _).mono ?_
      rw [h3]
      rintro e w2 ⟨rfl, rfl⟩
      refine hK.out _ _ hS (fun hS => ?_)
      clear hK K
      try simp only [Act.put, pa, pb, pc]
      refine tk (v := .bool true) 16 86 rfl (fun w' hS' => ?_) hS ?_
      ·(try dsimp only at hS'); go_simp
      try simp only [Act.put, pa, pb, pc]
      refine tk (v := .bool true) 17 87 rfl (fun w' hS' => ?_) hS ?_
      ·(try dsimp only at hS'); go_simp
      try simp only [Act.put, pa, pb, pc]
      refine tk (v := .bool true) 18 88 rfl (fun w' hS' => ?_) hS ?_
      ·(try dsimp only at hS'); go_simp
      try simp only [Act.put, pa, pb, pc]
      refine tu 19 89 rfl hS ?_
      try simp only [Act.put, pa, pb, pc]
      refine tu 20 90 rfl hS ?_
      try simp only [Act.put, pa, pb, pc]
      refine tu 21 91 rfl hS ?_
      try simp only [Act.put, pa, pb, pc]
      refine tu 22 92 rfl hS ?_
      try simp only [Act.put, pa, pb, pc]
      refine tu 23 93 rfl hS ?_
      try simp only [Act.put, pa, pb, pc]
      refine tu 24 94 rfl hS ?_
      try simp only [Act.put, pa, pb, pc]
      refine tu 25 95 rfl hS ?_
      try simp only [Act.put, pa, pb, pc]
      refine tu 26 96 rfl hS ?_
      try simp only [Act.put, pa, pb, pc]
      refine tu 27 97 rfl hS ?_
      try simp only [Act.put, pa, pb, pc]
      refine tu 28 98 rfl hS ?_
      try simp only [Act.put, pa, pb, pc]
      refine tu 29 99 rfl hS ?_
      try simp only [Act.put, pa, pb, pc]
      refine tu 30 100 rfl hS ?_
      try simp only [Act.put, pa, pb, pc]
      refine tu 31 101 rfl hS ?_
      try simp only [Act.put, pa, pb, pc]
      refine tu 32 102 rfl hS ?_
      try simp only [Act.put, pa, pb, pc]
      refine tk (v := .bool true) 33 103 rfl (fun w' hS' => ?_) hS ?_
      ·(try dsimp only at hS'); go_simp
      try simp only [Act.put, pa, pb, pc]
      refine wpAnyH_done (by kernel_rfl) ?_ _
      have HK : Below w.heap.size w _ := hbel.trans ((bA.trans (hS.2.2.2.2.2.2.2.2.mono bA.size)).mono hbel.size)
      have HBX2 := Lib.hid (bxD.past hS.2.2.2.2.2.2.2.2)
      have HKH := Lib.hid HK
      clear hS SX RD HK
      go_wp2
      go_ret
      exact ⟨ret_b (by rw [HDC.out, HS.out]; rw [show seenOneB (headRevT x) (prevOf x.seen j) s = false by unfold seenOneB; rw [h1, h2, h3]; simp]; rfl), HKH.out⟩
     cases j with
     | zero =>
      have HN := Lib.hid (show docB x = seenAllB (headRevT x) (prevOf x.seen (0 + 1)) (x.seen.drop (0 + 1)) by rw [HDC.out, HS.out, show seenOneB (headRevT x) (prevOf x.seen 0) s = true by unfold seenOneB prevOf; rw [h1, h2, h3]; rfl]; rfl)
      rw [Nat.zero_mul, Nat.add_zero] at z0
      rw [Nat.zero_mul, Nat.add_zero] at z1
      rw [Nat.zero_mul, Nat.add_zero] at z2
      go_wp2
      generalize wr.alloc (.cells #[.int .i64 s.client, .int .i64 s.seq, .int .i64 s.rev] 63) = W1 at bA bxS bxD ⊢
      have y0 : W1.cell? ⟨wr.heap.size, 0, none⟩ = some (.int .i64 s.client) := bxS.cell rfl
      have y1 : W1.cell? ⟨wr.heap.size, 1, none⟩ = some (.int .i64 s.seq) := bxS.cell rfl
      have y2 : W1.cell? ⟨wr.heap.size, 2, none⟩ = some (.int .i64 s.rev) := bxS.cell rfl
      have y3 : W1.cell? ⟨w.heap.size, 0, none⟩ = some (.string x.name) := bxD.cell rfl
      have y4 : W1.cell? ⟨w.heap.size, 1, none⟩ = some (.int .i64 x.from_) := bxD.cell rfl
      have y5 : W1.cell? ⟨w.heap.size, 2, none⟩ = some (.slice A2 x.text.length c2) := bxD.cell rfl
      have y6 : W1.cell? ⟨w.heap.size, 3, none⟩ = some (.slice A3 x.list.length c3) := bxD.cell rfl
      have y7 : W1.cell? ⟨w.heap.size, 4, none⟩ = some (.slice (some ⟨b, off, none⟩) x.seen.length c4) := bxD.cell rfl
      have lS := bxS.lt
      have lD := bxD.lt
      have SX := Lib.hid (show ∀ (W W' : World), (W.cell? ⟨wr.heap.size, 0, none⟩ = some (.int .i64 s.client) ∧ W.cell? ⟨wr.heap.size, 1, none⟩ = some (.int .i64 s.seq) ∧ W.cell? ⟨wr.heap.size, 2, none⟩ = some (.int .i64 s.rev) ∧ W.cell? ⟨w.heap.size, 0, none⟩ = some (.string x.name) ∧ W.cell? ⟨w.heap.size, 1, none⟩ = some (.int .i64 x.from_) ∧ W.cell? ⟨w.heap.size, 2, none⟩ = some (.slice A2 x.text.length c2) ∧ W.cell? ⟨w.heap.size, 3, none⟩ = some (.slice A3 x.list.length c3) ∧ W.cell? ⟨w.heap.size, 4, none⟩ = some (.slice (some ⟨b, off, none⟩) x.seen.length c4) ∧ KS W1 W) → Below W.heap.size W W' → (W'.cell? ⟨wr.heap.size, 0, none⟩ = some (.int .i64 s.client) ∧ W'.cell? ⟨wr.heap.size, 1, none⟩ = some (.int .i64 s.seq) ∧ W'.cell? ⟨wr.heap.size, 2, none⟩ = some (.int .i64 s.rev) ∧ W'.cell? ⟨w.heap.size, 0, none⟩ = some (.string x.name) ∧ W'.cell? ⟨w.heap.size, 1, none⟩ = some (.int .i64 x.from_) ∧ W'.cell? ⟨w.heap.size, 2, none⟩ = some (.slice A2 x.text.length c2) ∧ W'.cell? ⟨w.heap.size, 3, none⟩ = some (.slice A3 x.list.length c3) ∧ W'.cell? ⟨w.heap.size, 4, none⟩ = some (.slice (some ⟨b, off, none⟩) x.seen.length c4) ∧ KS W1 W') from fun W W' h hb => by have hk := h.2.2.2.2.2.2.2.2; have hkk : KS W1 W' := hk.trans (hb.mono hk.size); exact ⟨(hkk.cell (p := ⟨wr.heap.size, 0, none⟩) lS).trans y0, (hkk.cell (p := ⟨wr.heap.size, 1, none⟩) lS).trans y1, (hkk.cell (p := ⟨wr.heap.size, 2, none⟩) lS).trans y2, (hkk.cell (p := ⟨w.heap.size, 0, none⟩) lD).trans y3, (hkk.cell (p := ⟨w.heap.size, 1, none⟩) lD).trans y4, (hkk.cell (p := ⟨w.heap.size, 2, none⟩) lD).trans y5, (hkk.cell (p := ⟨w.heap.size, 3, none⟩) lD).trans y6, (hkk.cell (p := ⟨w.heap.size, 4, none⟩) lD).trans y7, hkk⟩)
      have RD := Lib.hid (show ∀ W : World, (W.cell? ⟨wr.heap.size, 0, none⟩ = some (.int .i64 s.client) ∧ W.cell? ⟨wr.heap.size, 1, none⟩ = some (.int .i64 s.seq) ∧ W.cell? ⟨wr.heap.size, 2, none⟩ = some (.int .i64 s.rev) ∧ W.cell? ⟨w.heap.size, 0, none⟩ = some (.string x.name) ∧ W.cell? ⟨w.heap.size, 1, none⟩ = some (.int .i64 x.from_) ∧ W.cell? ⟨w.heap.size, 2, none⟩ = some (.slice A2 x.text.length c2) ∧ W.cell? ⟨w.heap.size, 3, none⟩ = some (.slice A3 x.list.length c3) ∧ W.cell? ⟨w.heap.size, 4, none⟩ = some (.slice (some ⟨b, off, none⟩) x.seen.length c4) ∧ KS W1 W) → RdC W W.heap.size (datDo x) (.agg #[.string x.name, .int .i64 x.from_, .slice A2 x.text.length c2, .slice A3 x.list.length c3, .slice (some ⟨b, off, none⟩) x.seen.length c4]) from fun W h => by have hk : Below W1.heap.size W1 W := h.2.2.2.2.2.2.2.2; exact (HR.out.past (hbel.trans (bA.mono hbel.size))).past hk)
      have hS0 : W1.drew.cell? ⟨wr.heap.size, 0, none⟩ = some (.int .i64 s.client) ∧ W1.drew.cell? ⟨wr.heap.size, 1, none⟩ = some (.int .i64 s.seq) ∧ W1.drew.cell? ⟨wr.heap.size, 2, none⟩ = some (.int .i64 s.rev) ∧ W1.drew.cell? ⟨w.heap.size, 0, none⟩ = some (.string x.name) ∧ W1.drew.cell? ⟨w.heap.size, 1, none⟩ = some (.int .i64 x.from_) ∧ W1.drew.cell? ⟨w.heap.size, 2, none⟩ = some (.slice A2 x.text.length c2) ∧ W1.drew.cell? ⟨w.heap.size, 3, none⟩ = some (.slice A3 x.list.length c3) ∧ W1.drew.cell? ⟨w.heap.size, 4, none⟩ = some (.slice (some ⟨b, off, none⟩) x.seen.length c4) ∧ KS W1 W1.drew := ⟨y0, y1, y2, y3, y4, y5, y6, y7, KS.start _⟩
      clear y0 y1 y2 y3 y4 y5 y6 y7
      refine wp_region_held_drew (S := fun W => W.cell? ⟨wr.heap.size, 0, none⟩ = some (.int .i64 s.client) ∧ W.cell? ⟨wr.heap.size, 1, none⟩ = some (.int .i64 s.seq) ∧ W.cell? ⟨wr.heap.size, 2, none⟩ = some (.int .i64 s.rev) ∧ W.cell? ⟨w.heap.size, 0, none⟩ = some (.string x.name) ∧ W.cell? ⟨w.heap.size, 1, none⟩ = some (.int .i64 x.from_) ∧ W.cell? ⟨w.heap.size, 2, none⟩ = some (.slice A2 x.text.length c2) ∧ W.cell? ⟨w.heap.size, 3, none⟩ = some (.slice A3 x.list.length c3) ∧ W.cell? ⟨w.heap.size, 4, none⟩ = some (.slice (some ⟨b, off, none⟩) x.seen.length c4) ∧ KS W1 W) (by kernel_rfl) hS0 (fun hS => ?_)
      clear hS0
      refine tk (v := .pointer (some ⟨wr.heap.size, 0, none⟩)) 0 70 rfl (fun w' hS' => ?_) hS ?_
      ·(try dsimp only at hS'); go_simp
      try simp only [Act.put, pa, pb, pc]
      refine tk (v := .int .i64 s.client) 1 71 rfl (fun w' hS' => ?_) hS ?_
      ·(try dsimp only at hS'); go_simp
      try simp only [Act.put, pa, pb, pc]
      refine r1 2 (some 72) rfl (fun K hK => ?_)
      go_simp
      refine (in_any _ _ _ _).mono ?_
      rw [h1]
      rintro e w2 ⟨rfl, rfl⟩
      refine hK.out _ _ hS (fun hS => ?_)
      clear hK K
      try simp only [Act.put, pa, pb, pc]
      refine tk (v := .bool false) 3 73 rfl (fun w' hS' => ?_) hS ?_
      ·(try dsimp only at hS'); go_simp
      try simp only [Act.put, pa, pb, pc]
      refine tk (v := .bool false) 4 74 rfl (fun w' hS' => ?_) hS ?_
      ·(try dsimp only at hS'); go_simp
      try simp only [Act.put, pa, pb, pc]
      refine tk (v := .pointer (some ⟨wr.heap.size, 1, none⟩)) 5 75 rfl (fun w' hS' => ?_) hS ?_
      ·(try dsimp only at hS'); go_simp
      try simp only [Act.put, pa, pb, pc]
      refine tk (v := .int .i64 s.seq) 6 76 rfl (fun w' hS' => ?_) hS ?_
      ·(try dsimp only at hS'); go_simp
      try simp only [Act.put, pa, pb, pc]
      refine r1 7 (some 77) rfl (fun K hK => ?_)
      go_simp
      refine (in_any _ _ _ _).mono ?_
      rw [h2]
      rintro e w2 ⟨rfl, rfl⟩
      refine hK.out _ _ hS (fun hS => ?_)
      clear hK K
      try simp only [Act.put, pa, pb, pc]
      refine tk (v := .bool false) 8 78 rfl (fun w' hS' => ?_) hS ?_
      ·(try dsimp only at hS'); go_simp
      try simp only [Act.put, pa, pb, pc]
      refine tk (v := .bool false) 9 79 rfl (fun w' hS' => ?_) hS ?_
      ·(try dsimp only at hS'); go_simp
      try simp only [Act.put, pa, pb, pc]
      refine tk (v := .bool false) 10 80 rfl (fun w' hS' => ?_) hS ?_
      ·(try dsimp only at hS'); go_simp
      try simp only [Act.put, pa, pb, pc]
      refine tk (v := .pointer (some ⟨wr.heap.size, 2, none⟩)) 11 81 rfl (fun w' hS' => ?_) hS ?_
      ·(try dsimp only at hS'); go_simp
      try simp only [Act.put, pa, pb, pc]
      refine tk (v := .int .i64 s.rev) 12 82 rfl (fun w' hS' => ?_) hS ?_
      ·(try dsimp only at hS'); go_simp
      try simp only [Act.put, pa, pb, pc]
      refine tk (v := .agg #[.string x.name, .int .i64 x.from_, .slice A2 x.text.length c2, .slice A3 x.list.length c3, .slice (some ⟨b, off, none⟩) x.seen.length c4]) 13 83 rfl (fun w' hS' => ?_) hS ?_
      ·(try dsimp only at hS'); go_simp
      try simp only [Act.put, pa, pb, pc]
      refine r1 14 (some 84) rfl (fun K hK => ?_)
      go_simp
      refine (specHeadRev_w _ x _ (RD.out _ hS)).mono ?_
      rintro e w2 ⟨rfl, b2⟩
      refine hK.out _ _ (SX.out _ _ hS b2) (fun hS => ?_)
      clear hK K
      try simp only [Act.put, pa, pb, pc]
      refine r1 15 (some 85) rfl (fun K hK => ?_)
      go_simp
      refine (in_any _ _ _ _).mono ?_
      rw [h3]
      rintro e w2 ⟨rfl, rfl⟩
      refine hK.out _ _ hS (fun hS => ?_)
      clear hK K
      try simp only [Act.put, pa, pb, pc]
      refine tk (v := .bool false) 16 86 rfl (fun w' hS' => ?_) hS ?_
      ·(try dsimp only at hS'); go_simp
      try simp only [Act.put, pa, pb, pc]
      refine tk (v := .bool false) 17 87 rfl (fun w' hS' => ?_) hS ?_
      ·(try dsimp only at hS'); go_simp
      try simp only [Act.put, pa, pb, pc]
      refine tk (v := .bool false) 18 88 rfl (fun w' hS' => ?_) hS ?_
      ·(try dsimp only at hS'); go_simp
      try simp only [Act.put, pa, pb, pc]
      refine tk (v := .int .i64 (0 : Int)) 19 89 rfl (fun w' hS' => ?_) hS ?_
      ·(try dsimp only at hS'); go_simp
      try simp only [Act.put, pa, pb, pc]
      refine tk (v := .bool false) 20 90 rfl (fun w' hS' => ?_) hS ?_
      ·(try dsimp only at hS'); go_simp
      try simp only [Act.put, pa, pb, pc]
      refine tk (v := .bool false) 21 91 rfl (fun w' hS' => ?_) hS ?_
      ·(try dsimp only at hS'); go_simp
      try simp only [Act.put, pa, pb, pc]
      refine tu 22 92 rfl hS ?_
      try simp only [Act.put, pa, pb, pc]
      refine tu 23 93 rfl hS ?_
      try simp only [Act.put, pa, pb, pc]
      refine tu 24 94 rfl hS ?_
      try simp only [Act.put, pa, pb, pc]
      refine tu 25 95 rfl hS ?_
      try simp only [Act.put, pa, pb, pc]
      refine tu 26 96 rfl hS ?_
      try simp only [Act.put, pa, pb, pc]
      refine tu 27 97 rfl hS ?_
      try simp only [Act.put, pa, pb, pc]
      refine tu 28 98 rfl hS ?_
      try simp only [Act.put, pa, pb, pc]
      refine tu 29 99 rfl hS ?_
      try simp only [Act.put, pa, pb, pc]
      refine tu 30 100 rfl hS ?_
      try simp only [Act.put, pa, pb, pc]
      refine tu 31 101 rfl hS ?_
      try simp only [Act.put, pa, pb, pc]
      refine tk (v := .bool false) 32 102 rfl (fun w' hS' => ?_) hS ?_
      ·(try dsimp only at hS'); go_simp
      try simp only [Act.put, pa, pb, pc]
      refine tk (v := .bool false) 33 103 rfl (fun w' hS' => ?_) hS ?_
      ·(try dsimp only at hS'); go_simp
      try simp only [Act.put, pa, pb, pc]
      refine wpAnyH_done (by kernel_rfl) ?_ _
      have HK : Below w.heap.size w _ := hbel.trans ((bA.trans (hS.2.2.2.2.2.2.2.2.mono bA.size)).mono hbel.size)
      have HBX2 := Lib.hid (bxD.past hS.2.2.2.2.2.2.2.2)
      have HKH := Lib.hid HK
      clear hS SX RD HK
      go_wp2
      go_roundw
      case rel => exact ⟨0 + 1, by omega, by go_num, HN.out, HBX2.out, HKH.out⟩
      case measure => simp [intOf]; omega
     | succ k =>
      obtain ⟨p, hpk⟩ : ∃ p, x.seen[k]? = some p := ⟨_, List.getElem?_eq_getElem (by omega)⟩
      obtain ⟨b', off', p', e1, _, hp', zp, _, _⟩ := atSes (r4.below hbel) (i := k) (by omega)
      obtain ⟨rfl, rfl⟩ : b = b' ∧ off = off' := by injection e1 with e1; injection e1 with e1 e2; exact ⟨e1, e2⟩
      obtain rfl : p = p' := by rw [hpk] at hp'; injection hp'
      have HPV := Lib.hid (show prevOf x.seen (k + 1) = some p.client by rw [prevOf, hpk]; rfl)
      clear e1 hp' hpk
      have gw2 : IntKind.i64.wrap (k : Int) = (k : Int) := IntWalk.i64_in _ (by omega)
      have gw3 : (0 : Int) ≤ (k : Int) := by omega
      have gw4 : (k : Int) < (x.seen.length : Int) := by omega
      have gj2 : decide ((0 : Int) < (k : Int) + 1) = true := decide_eq_true (by omega)
      by_cases hpc : s.client ≤ p.client
      ·have gp : decide (s.client ≤ p.client) = true := decide_eq_true hpc
       go_wp2
       generalize wr.alloc (.cells #[.int .i64 s.client, .int .i64 s.seq, .int .i64 s.rev] 63) = W1 at bA bxS bxD ⊢
       have y0 : W1.cell? ⟨wr.heap.size, 0, none⟩ = some (.int .i64 s.client) := bxS.cell rfl
       have y1 : W1.cell? ⟨wr.heap.size, 1, none⟩ = some (.int .i64 s.seq) := bxS.cell rfl
       have y2 : W1.cell? ⟨wr.heap.size, 2, none⟩ = some (.int .i64 s.rev) := bxS.cell rfl
       have y3 : W1.cell? ⟨w.heap.size, 0, none⟩ = some (.string x.name) := bxD.cell rfl
       have y4 : W1.cell? ⟨w.heap.size, 1, none⟩ = some (.int .i64 x.from_) := bxD.cell rfl
       have y5 : W1.cell? ⟨w.heap.size, 2, none⟩ = some (.slice A2 x.text.length c2) := bxD.cell rfl
       have y6 : W1.cell? ⟨w.heap.size, 3, none⟩ = some (.slice A3 x.list.length c3) := bxD.cell rfl
       have y7 : W1.cell? ⟨w.heap.size, 4, none⟩ = some (.slice (some ⟨b, off, none⟩) x.seen.length c4) := bxD.cell rfl
       have y8 : W1.cell? ⟨b, off + k * 3, none⟩ = some (.int .i64 p.client) := (bA.cell (p := ⟨b, off + k * 3, none⟩) hbq).trans zp
       have lS := bxS.lt
       have lD := bxD.lt
       have lP : b < W1.heap.size := Nat.lt_of_lt_of_le hbq bA.size
       have SX := Lib.hid (show ∀ (W W' : World), (W.cell? ⟨wr.heap.size, 0, none⟩ = some (.int .i64 s.client) ∧ W.cell? ⟨wr.heap.size, 1, none⟩ = some (.int .i64 s.seq) ∧ W.cell? ⟨wr.heap.size, 2, none⟩ = some (.int .i64 s.rev) ∧ W.cell? ⟨w.heap.size, 0, none⟩ = some (.string x.name) ∧ W.cell? ⟨w.heap.size, 1, none⟩ = some (.int .i64 x.from_) ∧ W.cell? ⟨w.heap.size, 2, none⟩ = some (.slice A2 x.text.length c2) ∧ W.cell? ⟨w.heap.size, 3, none⟩ = some (.slice A3 x.list.length c3) ∧ W.cell? ⟨w.heap.size, 4, none⟩ = some (.slice (some ⟨b, off, none⟩) x.seen.length c4) ∧ W.cell? ⟨b, off + k * 3, none⟩ = some (.int .i64 p.client) ∧ KS W1 W) → Below W.heap.size W W' → (W'.cell? ⟨wr.heap.size, 0, none⟩ = some (.int .i64 s.client) ∧ W'.cell? ⟨wr.heap.size, 1, none⟩ = some (.int .i64 s.seq) ∧ W'.cell? ⟨wr.heap.size, 2, none⟩ = some (.int .i64 s.rev) ∧ W'.cell? ⟨w.heap.size, 0, none⟩ = some (.string x.name) ∧ W'.cell? ⟨w.heap.size, 1, none⟩ = some (.int .i64 x.from_) ∧ W'.cell? ⟨w.heap.size, 2, none⟩ = some (.slice A2 x.text.length c2) ∧ W'.cell? ⟨w.heap.size, 3, none⟩ = some (.slice A3 x.list.length c3) ∧ W'.cell? ⟨w.heap.size, 4, none⟩ = some (.slice (some ⟨b, off, none⟩) x.seen.length c4) ∧ W'.cell? ⟨b, off + k * 3, none⟩ = some (.int .i64 p.client) ∧ KS W1 W') from fun W W' h hb => by have hk := h.2.2.2.2.2.2.2.2.2; have hkk : KS W1 W' := hk.trans (hb.mono hk.size); exact ⟨(hkk.cell (p := ⟨wr.heap.size, 0, none⟩) lS).trans y0, (hkk.cell (p := ⟨wr.heap.size, 1, none⟩) lS).trans y1, (hkk.cell (p := ⟨wr.heap.size, 2, none⟩) lS).trans y2, (hkk.cell (p := ⟨w.heap.size, 0, none⟩) lD).trans y3, (hkk.cell (p := ⟨w.heap.size, 1, none⟩) lD).trans y4, (hkk.cell (p := ⟨w.heap.size, 2, none⟩) lD).trans y5, (hkk.cell (p := ⟨w.heap.size, 3, none⟩) lD).trans y6, (hkk.cell (p := ⟨w.heap.size, 4, none⟩) lD).trans y7, (hkk.cell (p := ⟨b, off + k * 3, none⟩) lP).trans y8, hkk⟩)
       have RD := Lib.hid (show ∀ W : World, (W.cell? ⟨wr.heap.size, 0, none⟩ = some (.int .i64 s.client) ∧ W.cell? ⟨wr.heap.size, 1, none⟩ = some (.int .i64 s.seq) ∧ W.cell? ⟨wr.heap.size, 2, none⟩ = some (.int .i64 s.rev) ∧ W.cell? ⟨w.heap.size, 0, none⟩ = some (.string x.name) ∧ W.cell? ⟨w.heap.size, 1, none⟩ = some (.int .i64 x.from_) ∧ W.cell? ⟨w.heap.size, 2, none⟩ = some (.slice A2 x.text.length c2) ∧ W.cell? ⟨w.heap.size, 3, none⟩ = some (.slice A3 x.list.length c3) ∧ W.cell? ⟨w.heap.size, 4, none⟩ = some (.slice (some ⟨b, off, none⟩) x.seen.length c4) ∧ W.cell? ⟨b, off + k * 3, none⟩ = some (.int .i64 p.client) ∧ KS W1 W) → RdC W W.heap.size (datDo x) (.agg #[.string x.name, .int .i64 x.from_, .slice A2 x.text.length c2, .slice A3 x.list.length c3, .slice (some ⟨b, off, none⟩) x.seen.length c4]) from fun W h => by have hk : Below W1.heap.size W1 W := h.2.2.2.2.2.2.2.2.2; exact (HR.out.past (hbel.trans (bA.mono hbel.size))).past hk)
       have hS0 : W1.drew.cell? ⟨wr.heap.size, 0, none⟩ = some (.int .i64 s.client) ∧ W1.drew.cell? ⟨wr.heap.size, 1, none⟩ = some (.int .i64 s.seq) ∧ W1.drew.cell? ⟨wr.heap.size, 2, none⟩ = some (.int .i64 s.rev) ∧ W1.drew.cell? ⟨w.heap.size, 0, none⟩ = some (.string x.name) ∧ W1.drew.cell? ⟨w.heap.size, 1, none⟩ = some (.int .i64 x.from_) ∧ W1.drew.cell? ⟨w.heap.size, 2, none⟩ = some (.slice A2 x.text.length c2) ∧ W1.drew.cell? ⟨w.heap.size, 3, none⟩ = some (.slice A3 x.list.length c3) ∧ W1.drew.cell? ⟨w.heap.size, 4, none⟩ = some (.slice (some ⟨b, off, none⟩) x.seen.length c4) ∧ W1.drew.cell? ⟨b, off + k * 3, none⟩ = some (.int .i64 p.client) ∧ KS W1 W1.drew := ⟨y0, y1, y2, y3, y4, y5, y6, y7, y8, KS.start _⟩
       clear y0 y1 y2 y3 y4 y5 y6 y7 y8
       refine wp_region_held_drew (S := fun W => W.cell? ⟨wr.heap.size, 0, none⟩ = some (.int .i64 s.client) ∧ W.cell? ⟨wr.heap.size, 1, none⟩ = some (.int .i64 s.seq) ∧ W.cell? ⟨wr.heap.size, 2, none⟩ = some (.int .i64 s.rev) ∧ W.cell? ⟨w.heap.size, 0, none⟩ = some (.string x.name) ∧ W.cell? ⟨w.heap.size, 1, none⟩ = some (.int .i64 x.from_) ∧ W.cell? ⟨w.heap.size, 2, none⟩ = some (.slice A2 x.text.length c2) ∧ W.cell? ⟨w.heap.size, 3, none⟩ = some (.slice A3 x.list.length c3) ∧ W.cell? ⟨w.heap.size, 4, none⟩ = some (.slice (some ⟨b, off, none⟩) x.seen.length c4) ∧ W.cell? ⟨b, off + k * 3, none⟩ = some (.int .i64 p.client) ∧ KS W1 W) (by kernel_rfl) hS0 (fun hS => ?_)
       clear hS0
       refine tk (v := .pointer (some ⟨wr.heap.size, 0, none⟩)) 0 70 rfl (fun w' hS' => ?_) hS ?_
       ·(try dsimp only at hS'); go_simp
       try simp only [Act.put, pa, pb, pc]
       refine tk (v := .int .i64 s.client) 1 71 rfl (fun w' hS' => ?_) hS ?_
       ·(try dsimp only at hS'); go_simp
       try simp only [Act.put, pa, pb, pc]
       refine r1 2 (some 72) rfl (fun K hK => ?_)
       go_simp
       refine (in_any _ _ _ _).mono ?_
       rw [h1]
       rintro e w2 ⟨rfl, rfl⟩
       refine hK.out _ _ hS (fun hS => ?_)
       clear hK K
       try simp only [Act.put, pa, pb, pc]
       refine tk (v := .bool false) 3 73 rfl (fun w' hS' => ?_) hS ?_
       ·(try dsimp only at hS'); go_simp
       try simp only [Act.put, pa, pb, pc]
       refine tk (v := .bool false) 4 74 rfl (fun w' hS' => ?_) hS ?_
       ·(try dsimp only at hS'); go_simp
       try simp only [Act.put, pa, pb, pc]
       refine tk (v := .pointer (some ⟨wr.heap.size, 1, none⟩)) 5 75 rfl (fun w' hS' => ?_) hS ?_
       ·(try dsimp only at hS'); go_simp
       try simp only [Act.put, pa, pb, pc]
       refine tk (v := .int .i64 s.seq) 6 76 rfl (fun w' hS' => ?_) hS ?_
       ·(try dsimp only at hS'); go_simp
       try simp only [Act.put, pa, pb, pc]
       refine r1 7 (some 77) rfl (fun K hK => ?_)
       go_simp
       refine (in_any _ _ _ _).mono ?_
       rw [h2]
       rintro e w2 ⟨rfl, rfl⟩
       refine hK.out _ _ hS (fun hS => ?_)
       clear hK K
       try simp only [Act.put, pa, pb, pc]
       refine tk (v := .bool false) 8 78 rfl (fun w' hS' => ?_) hS ?_
       ·(try dsimp only at hS'); go_simp
       try simp only [Act.put, pa, pb, pc]
       refine tk (v := .bool false) 9 79 rfl (fun w' hS' => ?_) hS ?_
       ·(try dsimp only at hS'); go_simp
       try simp only [Act.put, pa, pb, pc]
       refine tk (v := .bool false) 10 80 rfl (fun w' hS' => ?_) hS ?_
       ·(try dsimp only at hS'); go_simp
       try simp only [Act.put, pa, pb, pc]
       refine tk (v := .pointer (some ⟨wr.heap.size, 2, none⟩)) 11 81 rfl (fun w' hS' => ?_) hS ?_
       ·(try dsimp only at hS'); go_simp
       try simp only [Act.put, pa, pb, pc]
       refine tk (v := .int .i64 s.rev) 12 82 rfl (fun w' hS' => ?_) hS ?_
       ·(try dsimp only at hS'); go_simp
       try simp only [Act.put, pa, pb, pc]
       refine tk (v := .agg #[.string x.name, .int .i64 x.from_, .slice A2 x.text.length c2, .slice A3 x.list.length c3, .slice (some ⟨b, off, none⟩) x.seen.length c4]) 13 83 rfl (fun w' hS' => ?_) hS ?_
       ·(try dsimp only at hS'); go_simp
       try simp only [Act.put, pa, pb, pc]
       refine r1 14 (some 84) rfl (fun K hK => ?_)
       go_simp
       refine (specHeadRev_w _ x _ (RD.out _ hS)).mono ?_
       rintro e w2 ⟨rfl, b2⟩
       refine hK.out _ _ (SX.out _ _ hS b2) (fun hS => ?_)
       clear hK K
       try simp only [Act.put, pa, pb, pc]
       refine r1 15 (some 85) rfl (fun K hK => ?_)
       go_simp
       refine (in_any _ _ _ _).mono ?_
       rw [h3]
       rintro e w2 ⟨rfl, rfl⟩
       refine hK.out _ _ hS (fun hS => ?_)
       clear hK K
       try simp only [Act.put, pa, pb, pc]
       refine tk (v := .bool false) 16 86 rfl (fun w' hS' => ?_) hS ?_
       ·(try dsimp only at hS'); go_simp
       try simp only [Act.put, pa, pb, pc]
       refine tk (v := .bool false) 17 87 rfl (fun w' hS' => ?_) hS ?_
       ·(try dsimp only at hS'); go_simp
       try simp only [Act.put, pa, pb, pc]
       refine tk (v := .bool false) 18 88 rfl (fun w' hS' => ?_) hS ?_
       ·(try dsimp only at hS'); go_simp
       try simp only [Act.put, pa, pb, pc]
       refine tk (v := .int .i64 ((k : Int) + 1)) 19 89 rfl (fun w' hS' => ?_) hS ?_
       ·(try dsimp only at hS'); go_simp
       try simp only [Act.put, pa, pb, pc]
       refine tk (v := .bool true) 20 90 rfl (fun w' hS' => ?_) hS ?_
       ·(try dsimp only at hS'); go_simp
       try simp only [Act.put, pa, pb, pc]
       refine tk (v := .bool true) 21 91 rfl (fun w' hS' => ?_) hS ?_
       ·(try dsimp only at hS'); go_simp
       try simp only [Act.put, pa, pb, pc]
       refine tk (v := .pointer (some ⟨w.heap.size, 4, none⟩)) 22 92 rfl (fun w' hS' => ?_) hS ?_
       ·(try dsimp only at hS'); go_simp
       try simp only [Act.put, pa, pb, pc]
       refine tk (v := .slice (some ⟨b, off, none⟩) x.seen.length c4) 23 93 rfl (fun w' hS' => ?_) hS ?_
       ·(try dsimp only at hS'); go_simp
       try simp only [Act.put, pa, pb, pc]
       refine tk (v := .int .i64 ((k : Int) + 1)) 24 94 rfl (fun w' hS' => ?_) hS ?_
       ·(try dsimp only at hS'); go_simp
       try simp only [Act.put, pa, pb, pc]
       refine tk (v := .int .i64 (k : Int)) 25 95 rfl (fun w' hS' => ?_) hS ?_
       ·(try dsimp only at hS'); go_simp
       try simp only [Act.put, pa, pb, pc]
       refine tk (v := .pointer (some ⟨b, off + k * 3, none⟩)) 26 96 rfl (fun w' hS' => ?_) hS ?_
       ·(try dsimp only at hS'); go_simp
       try simp only [Act.put, pa, pb, pc]
       refine tk (v := .pointer (some ⟨b, off + k * 3, none⟩)) 27 97 rfl (fun w' hS' => ?_) hS ?_
       ·(try dsimp only at hS'); go_simp
       try simp only [Act.put, pa, pb, pc]
       refine tk (v := .int .i64 p.client) 28 98 rfl (fun w' hS' => ?_) hS ?_
       ·(try dsimp only at hS'); go_simp
       try simp only [Act.put, pa, pb, pc]
       refine tk (v := .pointer (some ⟨wr.heap.size, 0, none⟩)) 29 99 rfl (fun w' hS' => ?_) hS ?_
       ·(try dsimp only at hS'); go_simp
       try simp only [Act.put, pa, pb, pc]
       refine tk (v := .int .i64 s.client) 30 100 rfl (fun w' hS' => ?_) hS ?_
       ·(try dsimp only at hS'); go_simp
       try simp only [Act.put, pa, pb, pc]
       refine tk (v := .bool true) 31 101 rfl (fun w' hS' => ?_) hS ?_
       ·(try dsimp only at hS'); go_simp
       try simp only [Act.put, pa, pb, pc]
       refine tk (v := .bool true) 32 102 rfl (fun w' hS' => ?_) hS ?_
       ·(try dsimp only at hS'); go_simp
       try simp only [Act.put, pa, pb, pc]
       refine tk (v := .bool true) 33 103 rfl (fun w' hS' => ?_) hS ?_
       ·(try dsimp only at hS'); go_simp
       try simp only [Act.put, pa, pb, pc]
       refine wpAnyH_done (by kernel_rfl) ?_ _
       have HK : Below w.heap.size w _ := hbel.trans ((bA.trans (hS.2.2.2.2.2.2.2.2.2.mono bA.size)).mono hbel.size)
       have HBX2 := Lib.hid (bxD.past hS.2.2.2.2.2.2.2.2.2)
       have HKH := Lib.hid HK
       clear hS SX RD HK
       go_wp2
       go_ret
       exact ⟨ret_b (by rw [HDC.out, HS.out]; rw [show seenOneB (headRevT x) (prevOf x.seen (k + 1)) s = false by unfold seenOneB; rw [h1, h2, h3, HPV.out]; simp; omega]; rfl), HKH.out⟩
      ·have gp : decide (s.client ≤ p.client) = false := decide_eq_false hpc
       have HN := Lib.hid (show docB x = seenAllB (headRevT x) (prevOf x.seen (k + 1 + 1)) (x.seen.drop (k + 1 + 1)) by rw [HDC.out, HS.out, show seenOneB (headRevT x) (prevOf x.seen (k + 1)) s = true by unfold seenOneB; rw [h1, h2, h3, HPV.out]; simp; omega]; rfl)
       go_wp2
       generalize wr.alloc (.cells #[.int .i64 s.client, .int .i64 s.seq, .int .i64 s.rev] 63) = W1 at bA bxS bxD ⊢
       have y0 : W1.cell? ⟨wr.heap.size, 0, none⟩ = some (.int .i64 s.client) := bxS.cell rfl
       have y1 : W1.cell? ⟨wr.heap.size, 1, none⟩ = some (.int .i64 s.seq) := bxS.cell rfl
       have y2 : W1.cell? ⟨wr.heap.size, 2, none⟩ = some (.int .i64 s.rev) := bxS.cell rfl
       have y3 : W1.cell? ⟨w.heap.size, 0, none⟩ = some (.string x.name) := bxD.cell rfl
       have y4 : W1.cell? ⟨w.heap.size, 1, none⟩ = some (.int .i64 x.from_) := bxD.cell rfl
       have y5 : W1.cell? ⟨w.heap.size, 2, none⟩ = some (.slice A2 x.text.length c2) := bxD.cell rfl
       have y6 : W1.cell? ⟨w.heap.size, 3, none⟩ = some (.slice A3 x.list.length c3) := bxD.cell rfl
       have y7 : W1.cell? ⟨w.heap.size, 4, none⟩ = some (.slice (some ⟨b, off, none⟩) x.seen.length c4) := bxD.cell rfl
       have y8 : W1.cell? ⟨b, off + k * 3, none⟩ = some (.int .i64 p.client) := (bA.cell (p := ⟨b, off + k * 3, none⟩) hbq).trans zp
       have lS := bxS.lt
       have lD := bxD.lt
       have lP : b < W1.heap.size := Nat.lt_of_lt_of_le hbq bA.size
       have SX := Lib.hid (show ∀ (W W' : World), (W.cell? ⟨wr.heap.size, 0, none⟩ = some (.int .i64 s.client) ∧ W.cell? ⟨wr.heap.size, 1, none⟩ = some (.int .i64 s.seq) ∧ W.cell? ⟨wr.heap.size, 2, none⟩ = some (.int .i64 s.rev) ∧ W.cell? ⟨w.heap.size, 0, none⟩ = some (.string x.name) ∧ W.cell? ⟨w.heap.size, 1, none⟩ = some (.int .i64 x.from_) ∧ W.cell? ⟨w.heap.size, 2, none⟩ = some (.slice A2 x.text.length c2) ∧ W.cell? ⟨w.heap.size, 3, none⟩ = some (.slice A3 x.list.length c3) ∧ W.cell? ⟨w.heap.size, 4, none⟩ = some (.slice (some ⟨b, off, none⟩) x.seen.length c4) ∧ W.cell? ⟨b, off + k * 3, none⟩ = some (.int .i64 p.client) ∧ KS W1 W) → Below W.heap.size W W' → (W'.cell? ⟨wr.heap.size, 0, none⟩ = some (.int .i64 s.client) ∧ W'.cell? ⟨wr.heap.size, 1, none⟩ = some (.int .i64 s.seq) ∧ W'.cell? ⟨wr.heap.size, 2, none⟩ = some (.int .i64 s.rev) ∧ W'.cell? ⟨w.heap.size, 0, none⟩ = some (.string x.name) ∧ W'.cell? ⟨w.heap.size, 1, none⟩ = some (.int .i64 x.from_) ∧ W'.cell? ⟨w.heap.size, 2, none⟩ = some (.slice A2 x.text.length c2) ∧ W'.cell? ⟨w.heap.size, 3, none⟩ = some (.slice A3 x.list.length c3) ∧ W'.cell? ⟨w.heap.size, 4, none⟩ = some (.slice (some ⟨b, off, none⟩) x.seen.length c4) ∧ W'.cell? ⟨b, off + k * 3, none⟩ = some (.int .i64 p.client) ∧ KS W1 W') from fun W W' h hb => by have hk := h.2.2.2.2.2.2.2.2.2; have hkk : KS W1 W' := hk.trans (hb.mono hk.size); exact ⟨(hkk.cell (p := ⟨wr.heap.size, 0, none⟩) lS).trans y0, (hkk.cell (p := ⟨wr.heap.size, 1, none⟩) lS).trans y1, (hkk.cell (p := ⟨wr.heap.size, 2, none⟩) lS).trans y2, (hkk.cell (p := ⟨w.heap.size, 0, none⟩) lD).trans y3, (hkk.cell (p := ⟨w.heap.size, 1, none⟩) lD).trans y4, (hkk.cell (p := ⟨w.heap.size, 2, none⟩) lD).trans y5, (hkk.cell (p := ⟨w.heap.size, 3, none⟩) lD).trans y6, (hkk.cell (p := ⟨w.heap.size, 4, none⟩) lD).trans y7, (hkk.cell (p := ⟨b, off + k * 3, none⟩) lP).trans y8, hkk⟩)
       have RD := Lib.hid (show ∀ W : World, (W.cell? ⟨wr.heap.size, 0, none⟩ = some (.int .i64 s.client) ∧ W.cell? ⟨wr.heap.size, 1, none⟩ = some (.int .i64 s.seq) ∧ W.cell? ⟨wr.heap.size, 2, none⟩ = some (.int .i64 s.rev) ∧ W.cell? ⟨w.heap.size, 0, none⟩ = some (.string x.name) ∧ W.cell? ⟨w.heap.size, 1, none⟩ = some (.int .i64 x.from_) ∧ W.cell? ⟨w.heap.size, 2, none⟩ = some (.slice A2 x.text.length c2) ∧ W.cell? ⟨w.heap.size, 3, none⟩ = some (.slice A3 x.list.length c3) ∧ W.cell? ⟨w.heap.size, 4, none⟩ = some (.slice (some ⟨b, off, none⟩) x.seen.length c4) ∧ W.cell? ⟨b, off + k * 3, none⟩ = some (.int .i64 p.client) ∧ KS W1 W) → RdC W W.heap.size (datDo x) (.agg #[.string x.name, .int .i64 x.from_, .slice A2 x.text.length c2, .slice A3 x.list.length c3, .slice (some ⟨b, off, none⟩) x.seen.length c4]) from fun W h => by have hk : Below W1.heap.size W1 W := h.2.2.2.2.2.2.2.2.2; exact (HR.out.past (hbel.trans (bA.mono hbel.size))).past hk)
       have hS0 : W1.drew.cell? ⟨wr.heap.size, 0, none⟩ = some (.int .i64 s.client) ∧ W1.drew.cell? ⟨wr.heap.size, 1, none⟩ = some (.int .i64 s.seq) ∧ W1.drew.cell? ⟨wr.heap.size, 2, none⟩ = some (.int .i64 s.rev) ∧ W1.drew.cell? ⟨w.heap.size, 0, none⟩ = some (.string x.name) ∧ W1.drew.cell? ⟨w.heap.size, 1, none⟩ = some (.int .i64 x.from_) ∧ W1.drew.cell? ⟨w.heap.size, 2, none⟩ = some (.slice A2 x.text.length c2) ∧ W1.drew.cell? ⟨w.heap.size, 3, none⟩ = some (.slice A3 x.list.length c3) ∧ W1.drew.cell? ⟨w.heap.size, 4, none⟩ = some (.slice (some ⟨b, off, none⟩) x.seen.length c4) ∧ W1.drew.cell? ⟨b, off + k * 3, none⟩ = some (.int .i64 p.client) ∧ KS W1 W1.drew := ⟨y0, y1, y2, y3, y4, y5, y6, y7, y8, KS.start _⟩
       clear y0 y1 y2 y3 y4 y5 y6 y7 y8
       refine wp_region_held_drew (S := fun W => W.cell? ⟨wr.heap.size, 0, none⟩ = some (.int .i64 s.client) ∧ W.cell? ⟨wr.heap.size, 1, none⟩ = some (.int .i64 s.seq) ∧ W.cell? ⟨wr.heap.size, 2, none⟩ = some (.int .i64 s.rev) ∧ W.cell? ⟨w.heap.size, 0, none⟩ = some (.string x.name) ∧ W.cell? ⟨w.heap.size, 1, none⟩ = some (.int .i64 x.from_) ∧ W.cell? ⟨w.heap.size, 2, none⟩ = some (.slice A2 x.text.length c2) ∧ W.cell? ⟨w.heap.size, 3, none⟩ = some (.slice A3 x.list.length c3) ∧ W.cell? ⟨w.heap.size, 4, none⟩ = some (.slice (some ⟨b, off, none⟩) x.seen.length c4) ∧ W.cell? ⟨b, off + k * 3, none⟩ = some (.int .i64 p.client) ∧ KS W1 W) (by kernel_rfl) hS0 (fun hS => ?_)
       clear hS0
       refine tk (v := .pointer (some ⟨wr.heap.size, 0, none⟩)) 0 70 rfl (fun w' hS' => ?_) hS ?_
       ·(try dsimp only at hS'); go_simp
       try simp only [Act.put, pa, pb, pc]
       refine tk (v := .int .i64 s.client) 1 71 rfl (fun w' hS' => ?_) hS ?_
       ·(try dsimp only at hS'); go_simp
       try simp only [Act.put, pa, pb, pc]
       refine r1 2 (some 72) rfl (fun K hK => ?_)
       go_simp
       refine (in_any _ _ _ _).mono ?_
       rw [h1]
       rintro e w2 ⟨rfl, rfl⟩
       refine hK.out _ _ hS (fun hS => ?_)
       clear hK K
       try simp only [Act.put, pa, pb, pc]
       refine tk (v := .bool false) 3 73 rfl (fun w' hS' => ?_) hS ?_
       ·(try dsimp only at hS'); go_simp
       try simp only [Act.put, pa, pb, pc]
       refine tk (v := .bool false) 4 74 rfl (fun w' hS' => ?_) hS ?_
       ·(try dsimp only at hS'); go_simp
       try simp only [Act.put, pa, pb, pc]
       refine tk (v := .pointer (some ⟨wr.heap.size, 1, none⟩)) 5 75 rfl (fun w' hS' => ?_) hS ?_
       ·(try dsimp only at hS'); go_simp
       try simp only [Act.put, pa, pb, pc]
       refine tk (v := .int .i64 s.seq) 6 76 rfl (fun w' hS' => ?_) hS ?_
       ·(try dsimp only at hS'); go_simp
       try simp only [Act.put, pa, pb, pc]
       refine r1 7 (some 77) rfl (fun K hK => ?_)
       go_simp
       refine (in_any _ _ _ _).mono ?_
       rw [h2]
       rintro e w2 ⟨rfl, rfl⟩
       refine hK.out _ _ hS (fun hS => ?_)
       clear hK K
       try simp only [Act.put, pa, pb, pc]
       refine tk (v := .bool false) 8 78 rfl (fun w' hS' => ?_) hS ?_
       ·(try dsimp only at hS'); go_simp
       try simp only [Act.put, pa, pb, pc]
       refine tk (v := .bool false) 9 79 rfl (fun w' hS' => ?_) hS ?_
       ·(try dsimp only at hS'); go_simp
       try simp only [Act.put, pa, pb, pc]
       refine tk (v := .bool false) 10 80 rfl (fun w' hS' => ?_) hS ?_
       ·(try dsimp only at hS'); go_simp
       try simp only [Act.put, pa, pb, pc]
       refine tk (v := .pointer (some ⟨wr.heap.size, 2, none⟩)) 11 81 rfl (fun w' hS' => ?_) hS ?_
       ·(try dsimp only at hS'); go_simp
       try simp only [Act.put, pa, pb, pc]
       refine tk (v := .int .i64 s.rev) 12 82 rfl (fun w' hS' => ?_) hS ?_
       ·(try dsimp only at hS'); go_simp
       try simp only [Act.put, pa, pb, pc]
       refine tk (v := .agg #[.string x.name, .int .i64 x.from_, .slice A2 x.text.length c2, .slice A3 x.list.length c3, .slice (some ⟨b, off, none⟩) x.seen.length c4]) 13 83 rfl (fun w' hS' => ?_) hS ?_
       ·(try dsimp only at hS'); go_simp
       try simp only [Act.put, pa, pb, pc]
       refine r1 14 (some 84) rfl (fun K hK => ?_)
       go_simp
       refine (specHeadRev_w _ x _ (RD.out _ hS)).mono ?_
       rintro e w2 ⟨rfl, b2⟩
       refine hK.out _ _ (SX.out _ _ hS b2) (fun hS => ?_)
       clear hK K
       try simp only [Act.put, pa, pb, pc]
       refine r1 15 (some 85) rfl (fun K hK => ?_)
       go_simp
       refine (in_any _ _ _ _).mono ?_
       rw [h3]
       rintro e w2 ⟨rfl, rfl⟩
       refine hK.out _ _ hS (fun hS => ?_)
       clear hK K
       try simp only [Act.put, pa, pb, pc]
       refine tk (v := .bool false) 16 86 rfl (fun w' hS' => ?_) hS ?_
       ·(try dsimp only at hS'); go_simp
       try simp only [Act.put, pa, pb, pc]
       refine tk (v := .bool false) 17 87 rfl (fun w' hS' => ?_) hS ?_
       ·(try dsimp only at hS'); go_simp
       try simp only [Act.put, pa, pb, pc]
       refine tk (v := .bool false) 18 88 rfl (fun w' hS' => ?_) hS ?_
       ·(try dsimp only at hS'); go_simp
       try simp only [Act.put, pa, pb, pc]
       refine tk (v := .int .i64 ((k : Int) + 1)) 19 89 rfl (fun w' hS' => ?_) hS ?_
       ·(try dsimp only at hS'); go_simp
       try simp only [Act.put, pa, pb, pc]
       refine tk (v := .bool true) 20 90 rfl (fun w' hS' => ?_) hS ?_
       ·(try dsimp only at hS'); go_simp
       try simp only [Act.put, pa, pb, pc]
       refine tk (v := .bool true) 21 91 rfl (fun w' hS' => ?_) hS ?_
       ·(try dsimp only at hS'); go_simp
       try simp only [Act.put, pa, pb, pc]
       refine tk (v := .pointer (some ⟨w.heap.size, 4, none⟩)) 22 92 rfl (fun w' hS' => ?_) hS ?_
       ·(try dsimp only at hS'); go_simp
       try simp only [Act.put, pa, pb, pc]
       refine tk (v := .slice (some ⟨b, off, none⟩) x.seen.length c4) 23 93 rfl (fun w' hS' => ?_) hS ?_
       ·(try dsimp only at hS'); go_simp
       try simp only [Act.put, pa, pb, pc]
       refine tk (v := .int .i64 ((k : Int) + 1)) 24 94 rfl (fun w' hS' => ?_) hS ?_
       ·(try dsimp only at hS'); go_simp
       try simp only [Act.put, pa, pb, pc]
       refine tk (v := .int .i64 (k : Int)) 25 95 rfl (fun w' hS' => ?_) hS ?_
       ·(try dsimp only at hS'); go_simp
       try simp only [Act.put, pa, pb, pc]
       refine tk (v := .pointer (some ⟨b, off + k * 3, none⟩)) 26 96 rfl (fun w' hS' => ?_) hS ?_
       ·(try dsimp only at hS'); go_simp
       try simp only [Act.put, pa, pb, pc]
       refine tk (v := .pointer (some ⟨b, off + k * 3, none⟩)) 27 97 rfl (fun w' hS' => ?_) hS ?_
       ·(try dsimp only at hS'); go_simp
       try simp only [Act.put, pa, pb, pc]
       refine tk (v := .int .i64 p.client) 28 98 rfl (fun w' hS' => ?_) hS ?_
       ·(try dsimp only at hS'); go_simp
       try simp only [Act.put, pa, pb, pc]
       refine tk (v := .pointer (some ⟨wr.heap.size, 0, none⟩)) 29 99 rfl (fun w' hS' => ?_) hS ?_
       ·(try dsimp only at hS'); go_simp
       try simp only [Act.put, pa, pb, pc]
       refine tk (v := .int .i64 s.client) 30 100 rfl (fun w' hS' => ?_) hS ?_
       ·(try dsimp only at hS'); go_simp
       try simp only [Act.put, pa, pb, pc]
       refine tk (v := .bool false) 31 101 rfl (fun w' hS' => ?_) hS ?_
       ·(try dsimp only at hS'); go_simp
       try simp only [Act.put, pa, pb, pc]
       refine tk (v := .bool false) 32 102 rfl (fun w' hS' => ?_) hS ?_
       ·(try dsimp only at hS'); go_simp
       try simp only [Act.put, pa, pb, pc]
       refine tk (v := .bool false) 33 103 rfl (fun w' hS' => ?_) hS ?_
       ·(try dsimp only at hS'); go_simp
       try simp only [Act.put, pa, pb, pc]
       refine wpAnyH_done (by kernel_rfl) ?_ _
       have HK : Below w.heap.size w _ := hbel.trans ((bA.trans (hS.2.2.2.2.2.2.2.2.2.mono bA.size)).mono hbel.size)
       have HBX2 := Lib.hid (bxD.past hS.2.2.2.2.2.2.2.2.2)
       have HKH := Lib.hid HK
       clear hS SX RD HK
       go_wp2
       go_roundw
       case rel => exact ⟨k + 1 + 1, by omega, by go_num, HN.out, HBX2.out, HKH.out⟩
       case measure => simp [intOf]; omega
     -- end2
    ·have HE := Lib.hid (show docB x = true by rw [HDC.out, List.drop_eq_nil_of_le (by omega)]; rfl)
     go_wp2
     go_ret
     exact ⟨ret_b HE.out.symm, hbel⟩
theorem specDocOk_d (v : Value) (x : Do) (w : World) (h : RdC w w.heap.size (datDo x) v) (hs : SmDo x) : Calls Tryz.prog 9 #[v] w (Tells (docB x) w) := specDocOk_w v x w h hs.four
def endT (l : List En) (t : List Int) : List Int := l.foldl (fun t e => applyT e.o t) t
theorem endT_snoc {l : List En} {j : Nat} {e : En} (h : l[j]? = some e) (t : List Int) : endT (l.take (j + 1)) t = applyT e.o (endT (l.take j) t) := by
 unfold endT
 rw [List.take_add_one, h]
 simp
def textAtB (x : Do) (r : Int) : Bool := docB x && inB r x.from_ (headRevT x)
def textAtT (x : Do) (r : Int) : List Int := if textAtB x r = true then endT (x.list.take (r - x.from_).toNat) x.text else []
theorem textAt_f {x : Do} {r : Int} (h : textAtB x r = false) : textAtB x r = false ∧ textAtT x r = [] := ⟨h, by unfold textAtT; rw [h]; rfl⟩
theorem docB_of {x : Do} (h : docB x = true) : 0 ≤ x.from_ ∧ x.from_ ≤ 999999000 ∧ x.list.length ≤ 8 ∧ headRevT x = x.from_ + (x.list.length : Int) := by
 unfold docB at h
 simp only [Bool.and_eq_true] at h
 have h1 := of_decide_eq_true h.1.1.1.1.2
 have h2 := of_decide_eq_true h.1.1.2
 refine ⟨h1.1, h1.2, h2, ?_⟩
 unfold headRevT
 exact IntWalk.wrap64_in _ (by omega)
theorem endT_small {l : List En} {t : List Int} (hl : ∀ e ∈ l, SmP e.o) (ht : SmI t) : SmI (endT l t) := by
 induction l generalizing t with
 | nil => exact ht
 | cons e l ih => exact ih (fun q hq => hl q (by simp [hq])) (apply_small (hl e (by simp)) ht)
theorem textAt_small {x : Do} {r : Int} (hs : SmDo x) : SmI (textAtT x r) := by
 unfold textAtT
 split
 ·exact endT_small (fun e he => (hs.list.at_ (List.mem_of_mem_take he)).o) hs.text
 ·unfold SmI; simp
theorem specTextAt_d (v : Value) (x : Do) (r : Int) (w : World) (h : RdC w w.heap.size (datDo x) v) (hs : SmDo x) : Calls Tryz.prog 20 #[v, .int .i64 r] w (ResB (encInts (textAtT x r)) (textAtB x r) w) := by
 have HR := Lib.hid h
 obtain ⟨A2, c2, A3, c3, A4, c4, rfl, r2, r3, r4⟩ := aggDo h
 have hl3 := hs.list.len
 have b0 := alloc_below w (.cells #[.string x.name, .int .i64 x.from_, .slice A2 x.text.length c2, .slice A3 x.list.length c3, .slice A4 x.seen.length c4] 32)
 have bx := Bx.new w #[.string x.name, .int .i64 x.from_, .slice A2 x.text.length c2, .slice A3 x.list.length c3, .slice A4 x.seen.length c4] 32
 cases hd : docB x
 ·have HN := Lib.hid (show textAtB x r = false ∧ textAtT x r = [] from textAt_f (by unfold textAtB; rw [hd]; rfl))
  go_enter Tryz.func20, Tryz.ntmps20
  go_wp2
  generalize w.alloc (.cells #[.string x.name, .int .i64 x.from_, .slice A2 x.text.length c2, .slice A3 x.list.length c3, .slice A4 x.seen.length c4] 32) = W1 at b0 bx ⊢
  have y0 : W1.cell? ⟨w.heap.size, 0, none⟩ = some (.string x.name) := bx.cell rfl
  have y1 : W1.cell? ⟨w.heap.size, 1, none⟩ = some (.int .i64 x.from_) := bx.cell rfl
  have y2 : W1.cell? ⟨w.heap.size, 2, none⟩ = some (.slice A2 x.text.length c2) := bx.cell rfl
  have y3 : W1.cell? ⟨w.heap.size, 3, none⟩ = some (.slice A3 x.list.length c3) := bx.cell rfl
  have y4 : W1.cell? ⟨w.heap.size, 4, none⟩ = some (.slice A4 x.seen.length c4) := bx.cell rfl
  have lD := bx.lt
  have SX := Lib.hid (show ∀ (W W' : World), (W.cell? ⟨w.heap.size, 0, none⟩ = some (.string x.name) ∧ W.cell? ⟨w.heap.size, 1, none⟩ = some (.int .i64 x.from_) ∧ W.cell? ⟨w.heap.size, 2, none⟩ = some (.slice A2 x.text.length c2) ∧ W.cell? ⟨w.heap.size, 3, none⟩ = some (.slice A3 x.list.length c3) ∧ W.cell? ⟨w.heap.size, 4, none⟩ = some (.slice A4 x.seen.length c4) ∧ KS W1 W) → Below W.heap.size W W' → (W'.cell? ⟨w.heap.size, 0, none⟩ = some (.string x.name) ∧ W'.cell? ⟨w.heap.size, 1, none⟩ = some (.int .i64 x.from_) ∧ W'.cell? ⟨w.heap.size, 2, none⟩ = some (.slice A2 x.text.length c2) ∧ W'.cell? ⟨w.heap.size, 3, none⟩ = some (.slice A3 x.list.length c3) ∧ W'.cell? ⟨w.heap.size, 4, none⟩ = some (.slice A4 x.seen.length c4) ∧ KS W1 W') from fun W W' h hb => by have hk := h.2.2.2.2.2; have hkk : KS W1 W' := hk.trans (hb.mono hk.size); exact ⟨(hkk.cell (p := ⟨w.heap.size, 0, none⟩) lD).trans y0, (hkk.cell (p := ⟨w.heap.size, 1, none⟩) lD).trans y1, (hkk.cell (p := ⟨w.heap.size, 2, none⟩) lD).trans y2, (hkk.cell (p := ⟨w.heap.size, 3, none⟩) lD).trans y3, (hkk.cell (p := ⟨w.heap.size, 4, none⟩) lD).trans y4, hkk⟩)
  have RD := Lib.hid (show ∀ W : World, (W.cell? ⟨w.heap.size, 0, none⟩ = some (.string x.name) ∧ W.cell? ⟨w.heap.size, 1, none⟩ = some (.int .i64 x.from_) ∧ W.cell? ⟨w.heap.size, 2, none⟩ = some (.slice A2 x.text.length c2) ∧ W.cell? ⟨w.heap.size, 3, none⟩ = some (.slice A3 x.list.length c3) ∧ W.cell? ⟨w.heap.size, 4, none⟩ = some (.slice A4 x.seen.length c4) ∧ KS W1 W) → RdC W W.heap.size (datDo x) (.agg #[.string x.name, .int .i64 x.from_, .slice A2 x.text.length c2, .slice A3 x.list.length c3, .slice A4 x.seen.length c4]) from fun W h => by have hk : Below W1.heap.size W1 W := h.2.2.2.2.2; exact (HR.out.past b0).past hk)
  have hS0 : W1.drew.cell? ⟨w.heap.size, 0, none⟩ = some (.string x.name) ∧ W1.drew.cell? ⟨w.heap.size, 1, none⟩ = some (.int .i64 x.from_) ∧ W1.drew.cell? ⟨w.heap.size, 2, none⟩ = some (.slice A2 x.text.length c2) ∧ W1.drew.cell? ⟨w.heap.size, 3, none⟩ = some (.slice A3 x.list.length c3) ∧ W1.drew.cell? ⟨w.heap.size, 4, none⟩ = some (.slice A4 x.seen.length c4) ∧ KS W1 W1.drew := ⟨y0, y1, y2, y3, y4, KS.start _⟩
  clear y0 y1 y2 y3 y4
  refine wp_region_held_drew (S := fun W => W.cell? ⟨w.heap.size, 0, none⟩ = some (.string x.name) ∧ W.cell? ⟨w.heap.size, 1, none⟩ = some (.int .i64 x.from_) ∧ W.cell? ⟨w.heap.size, 2, none⟩ = some (.slice A2 x.text.length c2) ∧ W.cell? ⟨w.heap.size, 3, none⟩ = some (.slice A3 x.list.length c3) ∧ W.cell? ⟨w.heap.size, 4, none⟩ = some (.slice A4 x.seen.length c4) ∧ KS W1 W) (by kernel_rfl) hS0 (fun hS => ?_)
  refine tk (v := .agg #[.string x.name, .int .i64 x.from_, .slice A2 x.text.length c2, .slice A3 x.list.length c3, .slice A4 x.seen.length c4]) 0 9 rfl (fun w' hS' => ?_) (by assumption) ?_
  ·(try dsimp only at hS'); go_simp
  try simp only [Act.put, pa, pb, pc]
  refine r1 1 (some 10) rfl (fun K hK => ?_)
  go_simp
  refine (specDocOk_d _ x _ (RD.out _ (by assumption)) hs).mono ?_
  rw [hd]
  rintro e w2 ⟨rfl, b2⟩
  refine hK.out _ _ (SX.out _ _ (by assumption) b2) (fun hS => ?_)
  clear hK K
  try simp only [Act.put, pa, pb, pc]
  refine tk (v := .bool true) 2 11 rfl (fun w' hS' => ?_) (by assumption) ?_
  ·(try dsimp only at hS'); go_simp
  try simp only [Act.put, pa, pb, pc]
  refine tk (v := .bool true) 3 12 rfl (fun w' hS' => ?_) (by assumption) ?_
  ·(try dsimp only at hS'); go_simp
  try simp only [Act.put, pa, pb, pc]
  refine tu 4 13 rfl (by assumption) ?_
  try simp only [Act.put, pa, pb, pc]
  refine tu 5 14 rfl (by assumption) ?_
  try simp only [Act.put, pa, pb, pc]
  refine tu 6 15 rfl (by assumption) ?_
  try simp only [Act.put, pa, pb, pc]
  refine tu 7 16 rfl (by assumption) ?_
  try simp only [Act.put, pa, pb, pc]
  refine tu 8 17 rfl (by assumption) ?_
  try simp only [Act.put, pa, pb, pc]
  refine tu 9 18 rfl (by assumption) ?_
  try simp only [Act.put, pa, pb, pc]
  refine tu 10 19 rfl (by assumption) ?_
  try simp only [Act.put, pa, pb, pc]
  refine tk (v := .bool true) 11 20 rfl (fun w' hS' => ?_) (by assumption) ?_
  ·(try dsimp only at hS'); go_simp
  try simp only [Act.put, pa, pb, pc]
  refine wpAnyH_done (by kernel_rfl) ?_ _
  have HK : Below w.heap.size w _ := b0.trans (hS.2.2.2.2.2.mono b0.size)
  have HKH := Lib.hid HK
  clear hS SX RD HK
  go_wp2
  go_ret2
  rw [HN.out.1, HN.out.2]
  exact ⟨_, rfl, nilOwn _ _ rfl HKH.out.size, HKH.out⟩
 cases hi : inB r x.from_ (headRevT x)
 ·have HN := Lib.hid (show textAtB x r = false ∧ textAtT x r = [] from textAt_f (by unfold textAtB; rw [hd, hi]; rfl))
  go_enter Tryz.func20, Tryz.ntmps20
  go_wp2
  generalize w.alloc (.cells #[.string x.name, .int .i64 x.from_, .slice A2 x.text.length c2, .slice A3 x.list.length c3, .slice A4 x.seen.length c4] 32) = W1 at b0 bx ⊢
  have y0 : W1.cell? ⟨w.heap.size, 0, none⟩ = some (.string x.name) := bx.cell rfl
  have y1 : W1.cell? ⟨w.heap.size, 1, none⟩ = some (.int .i64 x.from_) := bx.cell rfl
  have y2 : W1.cell? ⟨w.heap.size, 2, none⟩ = some (.slice A2 x.text.length c2) := bx.cell rfl
  have y3 : W1.cell? ⟨w.heap.size, 3, none⟩ = some (.slice A3 x.list.length c3) := bx.cell rfl
  have y4 : W1.cell? ⟨w.heap.size, 4, none⟩ = some (.slice A4 x.seen.length c4) := bx.cell rfl
  have lD := bx.lt
  have SX := Lib.hid (show ∀ (W W' : World), (W.cell? ⟨w.heap.size, 0, none⟩ = some (.string x.name) ∧ W.cell? ⟨w.heap.size, 1, none⟩ = some (.int .i64 x.from_) ∧ W.cell? ⟨w.heap.size, 2, none⟩ = some (.slice A2 x.text.length c2) ∧ W.cell? ⟨w.heap.size, 3, none⟩ = some (.slice A3 x.list.length c3) ∧ W.cell? ⟨w.heap.size, 4, none⟩ = some (.slice A4 x.seen.length c4) ∧ KS W1 W) → Below W.heap.size W W' → (W'.cell? ⟨w.heap.size, 0, none⟩ = some (.string x.name) ∧ W'.cell? ⟨w.heap.size, 1, none⟩ = some (.int .i64 x.from_) ∧ W'.cell? ⟨w.heap.size, 2, none⟩ = some (.slice A2 x.text.length c2) ∧ W'.cell? ⟨w.heap.size, 3, none⟩ = some (.slice A3 x.list.length c3) ∧ W'.cell? ⟨w.heap.size, 4, none⟩ = some (.slice A4 x.seen.length c4) ∧ KS W1 W') from fun W W' h hb => by have hk := h.2.2.2.2.2; have hkk : KS W1 W' := hk.trans (hb.mono hk.size); exact ⟨(hkk.cell (p := ⟨w.heap.size, 0, none⟩) lD).trans y0, (hkk.cell (p := ⟨w.heap.size, 1, none⟩) lD).trans y1, (hkk.cell (p := ⟨w.heap.size, 2, none⟩) lD).trans y2, (hkk.cell (p := ⟨w.heap.size, 3, none⟩) lD).trans y3, (hkk.cell (p := ⟨w.heap.size, 4, none⟩) lD).trans y4, hkk⟩)
  have RD := Lib.hid (show ∀ W : World, (W.cell? ⟨w.heap.size, 0, none⟩ = some (.string x.name) ∧ W.cell? ⟨w.heap.size, 1, none⟩ = some (.int .i64 x.from_) ∧ W.cell? ⟨w.heap.size, 2, none⟩ = some (.slice A2 x.text.length c2) ∧ W.cell? ⟨w.heap.size, 3, none⟩ = some (.slice A3 x.list.length c3) ∧ W.cell? ⟨w.heap.size, 4, none⟩ = some (.slice A4 x.seen.length c4) ∧ KS W1 W) → RdC W W.heap.size (datDo x) (.agg #[.string x.name, .int .i64 x.from_, .slice A2 x.text.length c2, .slice A3 x.list.length c3, .slice A4 x.seen.length c4]) from fun W h => by have hk : Below W1.heap.size W1 W := h.2.2.2.2.2; exact (HR.out.past b0).past hk)
  have hS0 : W1.drew.cell? ⟨w.heap.size, 0, none⟩ = some (.string x.name) ∧ W1.drew.cell? ⟨w.heap.size, 1, none⟩ = some (.int .i64 x.from_) ∧ W1.drew.cell? ⟨w.heap.size, 2, none⟩ = some (.slice A2 x.text.length c2) ∧ W1.drew.cell? ⟨w.heap.size, 3, none⟩ = some (.slice A3 x.list.length c3) ∧ W1.drew.cell? ⟨w.heap.size, 4, none⟩ = some (.slice A4 x.seen.length c4) ∧ KS W1 W1.drew := ⟨y0, y1, y2, y3, y4, KS.start _⟩
  clear y0 y1 y2 y3 y4
  refine wp_region_held_drew (S := fun W => W.cell? ⟨w.heap.size, 0, none⟩ = some (.string x.name) ∧ W.cell? ⟨w.heap.size, 1, none⟩ = some (.int .i64 x.from_) ∧ W.cell? ⟨w.heap.size, 2, none⟩ = some (.slice A2 x.text.length c2) ∧ W.cell? ⟨w.heap.size, 3, none⟩ = some (.slice A3 x.list.length c3) ∧ W.cell? ⟨w.heap.size, 4, none⟩ = some (.slice A4 x.seen.length c4) ∧ KS W1 W) (by kernel_rfl) hS0 (fun hS => ?_)
  refine tk (v := .agg #[.string x.name, .int .i64 x.from_, .slice A2 x.text.length c2, .slice A3 x.list.length c3, .slice A4 x.seen.length c4]) 0 9 rfl (fun w' hS' => ?_) (by assumption) ?_
  ·(try dsimp only at hS'); go_simp
  try simp only [Act.put, pa, pb, pc]
  refine r1 1 (some 10) rfl (fun K hK => ?_)
  go_simp
  refine (specDocOk_d _ x _ (RD.out _ (by assumption)) hs).mono ?_
  rw [hd]
  rintro e w2 ⟨rfl, b2⟩
  refine hK.out _ _ (SX.out _ _ (by assumption) b2) (fun hS => ?_)
  clear hK K
  try simp only [Act.put, pa, pb, pc]
  refine tk (v := .bool false) 2 11 rfl (fun w' hS' => ?_) (by assumption) ?_
  ·(try dsimp only at hS'); go_simp
  try simp only [Act.put, pa, pb, pc]
  refine tk (v := .bool false) 3 12 rfl (fun w' hS' => ?_) (by assumption) ?_
  ·(try dsimp only at hS'); go_simp
  try simp only [Act.put, pa, pb, pc]
  refine tk (v := .int .i64 r) 4 13 rfl (fun w' hS' => ?_) (by assumption) ?_
  ·(try dsimp only at hS'); go_simp
  try simp only [Act.put, pa, pb, pc]
  refine tk (v := .pointer (some ⟨w.heap.size, 1, none⟩)) 5 14 rfl (fun w' hS' => ?_) (by assumption) ?_
  ·(try dsimp only at hS'); go_simp
  try simp only [Act.put, pa, pb, pc]
  refine tk (v := .int .i64 x.from_) 6 15 rfl (fun w' hS' => ?_) (by assumption) ?_
  ·(try dsimp only at hS'); go_simp
  try simp only [Act.put, pa, pb, pc]
  refine tk (v := .agg #[.string x.name, .int .i64 x.from_, .slice A2 x.text.length c2, .slice A3 x.list.length c3, .slice A4 x.seen.length c4]) 7 16 rfl (fun w' hS' => ?_) (by assumption) ?_
  ·(try dsimp only at hS'); go_simp
  try simp only [Act.put, pa, pb, pc]
  refine r1 8 (some 17) rfl (fun K hK => ?_)
  go_simp
  refine (specHeadRev_d _ x _ (RD.out _ (by assumption)) hs).mono ?_
  rintro e w3 ⟨rfl, b3⟩
  refine hK.out _ _ (SX.out _ _ (by assumption) b3) (fun hS => ?_)
  clear hK K
  try simp only [Act.put, pa, pb, pc]
  refine r1 9 (some 18) rfl (fun K hK => ?_)
  go_simp
  refine (in_any _ _ _ _).mono ?_
  rw [hi]
  rintro e w4 ⟨rfl, rfl⟩
  refine hK.out _ _ (by assumption) (fun hS => ?_)
  clear hK K
  try simp only [Act.put, pa, pb, pc]
  refine tk (v := .bool true) 10 19 rfl (fun w' hS' => ?_) (by assumption) ?_
  ·(try dsimp only at hS'); go_simp
  try simp only [Act.put, pa, pb, pc]
  refine tk (v := .bool true) 11 20 rfl (fun w' hS' => ?_) (by assumption) ?_
  ·(try dsimp only at hS'); go_simp
  try simp only [Act.put, pa, pb, pc]
  refine wpAnyH_done (by kernel_rfl) ?_ _
  have HK : Below w.heap.size w _ := b0.trans (hS.2.2.2.2.2.mono b0.size)
  have HKH := Lib.hid HK
  clear hS SX RD HK
  go_wp2
  go_ret2
  rw [HN.out.1, HN.out.2]
  exact ⟨_, rfl, nilOwn _ _ rfl HKH.out.size, HKH.out⟩
 obtain ⟨f0, f1, f2, f3⟩ := docB_of hd
 have hi1 := of_decide_eq_true hi
 rw [f3] at hi1
 clear f3
 obtain ⟨m, hm⟩ : ∃ m : Nat, r = x.from_ + (m : Int) := ⟨(r - x.from_).toNat, by omega⟩
 subst hm
 have hm1 : m ≤ x.list.length := by omega
 have hc3 : x.list.length ≤ c3 := by obtain ⟨A, c, e, hc⟩ := RdC.len r3; injection e with _ _ e3; subst e3; simpa using hc
 have g1 : x.from_ + (m : Int) - x.from_ = (m : Int) := by omega
 have g2 : (m : Int) ≤ (c3 : Int) := by omega
 have HN := Lib.hid (show textAtB x (x.from_ + (m : Int)) = true ∧ textAtT x (x.from_ + (m : Int)) = endT (x.list.take m) x.text by have e1 : textAtB x (x.from_ + (m : Int)) = true := by { unfold textAtB; rw [hd, hi]; rfl }; exact ⟨e1, by unfold textAtT; rw [if_pos e1]; congr 2; omega⟩)
 go_enter Tryz.func20, Tryz.ntmps20
 go_wp2
 generalize w.alloc (.cells #[.string x.name, .int .i64 x.from_, .slice A2 x.text.length c2, .slice A3 x.list.length c3, .slice A4 x.seen.length c4] 32) = W1 at b0 bx ⊢
 have y0 : W1.cell? ⟨w.heap.size, 0, none⟩ = some (.string x.name) := bx.cell rfl
 have y1 : W1.cell? ⟨w.heap.size, 1, none⟩ = some (.int .i64 x.from_) := bx.cell rfl
 have y2 : W1.cell? ⟨w.heap.size, 2, none⟩ = some (.slice A2 x.text.length c2) := bx.cell rfl
 have y3 : W1.cell? ⟨w.heap.size, 3, none⟩ = some (.slice A3 x.list.length c3) := bx.cell rfl
 have y4 : W1.cell? ⟨w.heap.size, 4, none⟩ = some (.slice A4 x.seen.length c4) := bx.cell rfl
 have lD := bx.lt
 have SX := Lib.hid (show ∀ (W W' : World), (W.cell? ⟨w.heap.size, 0, none⟩ = some (.string x.name) ∧ W.cell? ⟨w.heap.size, 1, none⟩ = some (.int .i64 x.from_) ∧ W.cell? ⟨w.heap.size, 2, none⟩ = some (.slice A2 x.text.length c2) ∧ W.cell? ⟨w.heap.size, 3, none⟩ = some (.slice A3 x.list.length c3) ∧ W.cell? ⟨w.heap.size, 4, none⟩ = some (.slice A4 x.seen.length c4) ∧ KS W1 W) → Below W.heap.size W W' → (W'.cell? ⟨w.heap.size, 0, none⟩ = some (.string x.name) ∧ W'.cell? ⟨w.heap.size, 1, none⟩ = some (.int .i64 x.from_) ∧ W'.cell? ⟨w.heap.size, 2, none⟩ = some (.slice A2 x.text.length c2) ∧ W'.cell? ⟨w.heap.size, 3, none⟩ = some (.slice A3 x.list.length c3) ∧ W'.cell? ⟨w.heap.size, 4, none⟩ = some (.slice A4 x.seen.length c4) ∧ KS W1 W') from fun W W' h hb => by have hk := h.2.2.2.2.2; have hkk : KS W1 W' := hk.trans (hb.mono hk.size); exact ⟨(hkk.cell (p := ⟨w.heap.size, 0, none⟩) lD).trans y0, (hkk.cell (p := ⟨w.heap.size, 1, none⟩) lD).trans y1, (hkk.cell (p := ⟨w.heap.size, 2, none⟩) lD).trans y2, (hkk.cell (p := ⟨w.heap.size, 3, none⟩) lD).trans y3, (hkk.cell (p := ⟨w.heap.size, 4, none⟩) lD).trans y4, hkk⟩)
 have RD := Lib.hid (show ∀ W : World, (W.cell? ⟨w.heap.size, 0, none⟩ = some (.string x.name) ∧ W.cell? ⟨w.heap.size, 1, none⟩ = some (.int .i64 x.from_) ∧ W.cell? ⟨w.heap.size, 2, none⟩ = some (.slice A2 x.text.length c2) ∧ W.cell? ⟨w.heap.size, 3, none⟩ = some (.slice A3 x.list.length c3) ∧ W.cell? ⟨w.heap.size, 4, none⟩ = some (.slice A4 x.seen.length c4) ∧ KS W1 W) → RdC W W.heap.size (datDo x) (.agg #[.string x.name, .int .i64 x.from_, .slice A2 x.text.length c2, .slice A3 x.list.length c3, .slice A4 x.seen.length c4]) from fun W h => by have hk : Below W1.heap.size W1 W := h.2.2.2.2.2; exact (HR.out.past b0).past hk)
 have hS0 : W1.drew.cell? ⟨w.heap.size, 0, none⟩ = some (.string x.name) ∧ W1.drew.cell? ⟨w.heap.size, 1, none⟩ = some (.int .i64 x.from_) ∧ W1.drew.cell? ⟨w.heap.size, 2, none⟩ = some (.slice A2 x.text.length c2) ∧ W1.drew.cell? ⟨w.heap.size, 3, none⟩ = some (.slice A3 x.list.length c3) ∧ W1.drew.cell? ⟨w.heap.size, 4, none⟩ = some (.slice A4 x.seen.length c4) ∧ KS W1 W1.drew := ⟨y0, y1, y2, y3, y4, KS.start _⟩
 clear y0 y1 y2 y3 y4
 refine wp_region_held_drew (S := fun W => W.cell? ⟨w.heap.size, 0, none⟩ = some (.string x.name) ∧ W.cell? ⟨w.heap.size, 1, none⟩ = some (.int .i64 x.from_) ∧ W.cell? ⟨w.heap.size, 2, none⟩ = some (.slice A2 x.text.length c2) ∧ W.cell? ⟨w.heap.size, 3, none⟩ = some (.slice A3 x.list.length c3) ∧ W.cell? ⟨w.heap.size, 4, none⟩ = some (.slice A4 x.seen.length c4) ∧ KS W1 W) (by kernel_rfl) hS0 (fun hS => ?_)
 refine tk (v := .agg #[.string x.name, .int .i64 x.from_, .slice A2 x.text.length c2, .slice A3 x.list.length c3, .slice A4 x.seen.length c4]) 0 9 rfl (fun w' hS' => ?_) (by assumption) ?_
 ·(try dsimp only at hS'); go_simp
 try simp only [Act.put, pa, pb, pc]
 refine r1 1 (some 10) rfl (fun K hK => ?_)
 go_simp
 refine (specDocOk_d _ x _ (RD.out _ (by assumption)) hs).mono ?_
 rw [hd]
 rintro e w2 ⟨rfl, b2⟩
 refine hK.out _ _ (SX.out _ _ (by assumption) b2) (fun hS => ?_)
 clear hK K
 try simp only [Act.put, pa, pb, pc]
 refine tk (v := .bool false) 2 11 rfl (fun w' hS' => ?_) (by assumption) ?_
 ·(try dsimp only at hS'); go_simp
 try simp only [Act.put, pa, pb, pc]
 refine tk (v := .bool false) 3 12 rfl (fun w' hS' => ?_) (by assumption) ?_
 ·(try dsimp only at hS'); go_simp
 try simp only [Act.put, pa, pb, pc]
 refine tk (v := .int .i64 (x.from_ + (m : Int))) 4 13 rfl (fun w' hS' => ?_) (by assumption) ?_
 ·(try dsimp only at hS'); go_simp
 try simp only [Act.put, pa, pb, pc]
 refine tk (v := .pointer (some ⟨w.heap.size, 1, none⟩)) 5 14 rfl (fun w' hS' => ?_) (by assumption) ?_
 ·(try dsimp only at hS'); go_simp
 try simp only [Act.put, pa, pb, pc]
 refine tk (v := .int .i64 x.from_) 6 15 rfl (fun w' hS' => ?_) (by assumption) ?_
 ·(try dsimp only at hS'); go_simp
 try simp only [Act.put, pa, pb, pc]
 refine tk (v := .agg #[.string x.name, .int .i64 x.from_, .slice A2 x.text.length c2, .slice A3 x.list.length c3, .slice A4 x.seen.length c4]) 7 16 rfl (fun w' hS' => ?_) (by assumption) ?_
 ·(try dsimp only at hS'); go_simp
 try simp only [Act.put, pa, pb, pc]
 refine r1 8 (some 17) rfl (fun K hK => ?_)
 go_simp
 refine (specHeadRev_d _ x _ (RD.out _ (by assumption)) hs).mono ?_
 rintro e w3 ⟨rfl, b3⟩
 refine hK.out _ _ (SX.out _ _ (by assumption) b3) (fun hS => ?_)
 clear hK K
 try simp only [Act.put, pa, pb, pc]
 refine r1 9 (some 18) rfl (fun K hK => ?_)
 go_simp
 refine (in_any _ _ _ _).mono ?_
 rw [hi]
 rintro e w4 ⟨rfl, rfl⟩
 refine hK.out _ _ (by assumption) (fun hS => ?_)
 clear hK K
 try simp only [Act.put, pa, pb, pc]
 refine tk (v := .bool false) 10 19 rfl (fun w' hS' => ?_) (by assumption) ?_
 ·(try dsimp only at hS'); go_simp
 try simp only [Act.put, pa, pb, pc]
 refine tk (v := .bool false) 11 20 rfl (fun w' hS' => ?_) (by assumption) ?_
 ·(try dsimp only at hS'); go_simp
 try simp only [Act.put, pa, pb, pc]
 refine wpAnyH_done (by kernel_rfl) ?_ _
 have HK : Below w.heap.size w _ := b0.trans (hS.2.2.2.2.2.mono b0.size)
 obtain ⟨y0, y1, y2, y3, y4, hks⟩ := hS
 have lD2 : w.heap.size < w3.heap.size := Nat.lt_of_lt_of_le lD hks.size
 have HKH := Lib.hid HK
 clear SX RD hks hd hi
 have hib : (w3.alloc (.cells #[] 3)).ownsRow w.heap.size 3 1 (.slice (some ⟨w3.heap.size, 0, none⟩) 0 0) 0 [] := ⟨rfl, .inr ⟨w3.heap.size, 0, #[], rfl, HKH.out.size, heap_alloc_new w3 _, Nat.le_refl _, by unfold maxLen; omega, rfl, rfl⟩⟩
 have hbw : Below w.heap.size w (w3.alloc (.cells #[] 3)) := HKH.out.trans ((alloc_below _ _).mono HKH.out.size)
 obtain ⟨A2, c2_, e2, hr2, _⟩ := ints_rd (r2.past hbw)
 injection e2 with e2 _ e3
 subst e2 e3
 have hst : x.text.length ≤ 1048576 := hs.text
 go_wp2_with (at_builtin; refine wpList_append_ints rfl (.tmp 21) (.tmp 23) rfl w.heap.size (.slice (some ⟨w3.heap.size, 0, none⟩) 0 0) [] rfl hib _ x.text.length c2 x.text rfl rfl hr2 (by simp; omega) hbw.size ?_; intro An cn wn hon hgn; have q1 : wn.cell? ⟨w.heap.size, 1, none⟩ = some (.int .i64 x.from_) := (grown_cell (p := ⟨w.heap.size, 1, none⟩) hgn (by simp; omega) (by simp [Value.ownBlock]; omega)).trans (((alloc_below w3 _).cell (p := ⟨w.heap.size, 1, none⟩) lD2).trans y1); have q3 : wn.cell? ⟨w.heap.size, 3, none⟩ = some (.slice A3 x.list.length c3) := (grown_cell (p := ⟨w.heap.size, 3, none⟩) hgn (by simp; omega) (by simp [Value.ownBlock]; omega)).trans (((alloc_below w3 _).cell (p := ⟨w.heap.size, 3, none⟩) lD2).trans y3))
 have hbn := hbw.grown hgn hbw.size (fun q hq => own_ge hib q hq)
 simp only [List.nil_append, List.length_nil, Nat.zero_add] at hon
 have HON := Lib.hid (ownInts hon hbn.size)
 have hsm := hs.text
 clear q1 q3 g1 g2 hon hgn hib hbw
 go_loopw [6, 33] (fun o i wr => ∃ (j : Nat) (cur : List Int), j ≤ m ∧ i = .int .i64 (j : Int) ∧ endT (x.list.take j) x.text = cur ∧ SmI cur ∧ Own w.heap.size wr.heap.size wr (encInts cur) o ∧ Below w.heap.size w wr) (fun _ i _ => m - (intOf i).toNat)
 case atStart => exact ⟨0, x.text, Nat.zero_le _, rfl, rfl, hsm, HON.out, hbn⟩
 case round =>
  obtain ⟨j, cur, hj, rfl, hf, hsc, ho, hbel⟩ := hrel
  clear HON hbn
  have HF := Lib.hid hf
  clear hf
  obtain ⟨Ao, co, rfl⟩ := sliceI ho.read
  have HO := Lib.hid ho
  clear ho
  by_cases hlt : j < m
  ·obtain ⟨b, off, e, A5, c5, rfl, hbb, hp, z0, z1, z2, q2⟩ := atEns (r3.below hbel) (i := j) (by omega)
   have hse := hs.list.at_ (List.mem_of_getElem? hp)
   have HN2 := Lib.hid (show endT (x.list.take (j + 1)) x.text = applyT e.o cur by rw [endT_snoc hp, HF.out])
   clear hp
   have bA := alloc_below wr (.cells #[.int .i64 e.client, .int .i64 e.seq, .slice A5 e.o.length c5] 59)
   have q2 := RdC.more hbel.size _ _ q2
   go_wp2_with fail
   generalize wr.alloc (.cells #[.int .i64 e.client, .int .i64 e.seq, .slice A5 e.o.length c5] 59) = W2 at bA ⊢
   refine (specApply_d _ _ e.o cur _ (q2.past bA) (HO.out.past bA).read hse.o hsc).mono ?_
   rintro e' w5 ⟨v5, rfl, o5, b5⟩
   obtain ⟨A6, c6, rfl⟩ := sliceI o5.read
   have O5 := Lib.hid o5
   have d5 := bA.trans (b5.mono bA.size)
   have zz : w.heap.size ≤ W2.heap.size := Nat.le_trans hbel.size bA.size
   clear o5 b5 bA
   go_wp2
   go_roundw
   case rel => exact ⟨j + 1, applyT e.o cur, by omega, by go_num, HN2.out, apply_small hse.o hsc, O5.out.wide zz (Nat.le_refl _) (Nat.le_refl _), hbel.trans (d5.mono hbel.size)⟩
   case measure => simp [intOf]; omega
  ·obtain rfl : j = m := by omega
   go_wp2
   go_ret2
   rw [HN.out.1, HN.out.2, HF.out]
   exact ⟨_, rfl, HO.out, hbel⟩
def headTextT (x : Do) : List Int := textAtT x (headRevT x)
theorem headText_small {x : Do} (hs : SmDo x) : SmI (headTextT x) := textAt_small hs
theorem specHeadText_d (v : Value) (x : Do) (w : World) (h : RdC w w.heap.size (datDo x) v) (hs : SmDo x) : Calls Tryz.prog 23 #[v] w (OwnPost (encInts (headTextT x)) w) := by
 have HR := Lib.hid h
 obtain ⟨A2, c2, A3, c3, A4, c4, rfl, r2, r3, r4⟩ := aggDo h
 have b0 := alloc_below w (.cells #[.string x.name, .int .i64 x.from_, .slice A2 x.text.length c2, .slice A3 x.list.length c3, .slice A4 x.seen.length c4] 32)
 have bx := Bx.new w #[.string x.name, .int .i64 x.from_, .slice A2 x.text.length c2, .slice A3 x.list.length c3, .slice A4 x.seen.length c4] 32
 go_enter Tryz.func23, Tryz.ntmps23
 go_wp2
 generalize w.alloc (.cells #[.string x.name, .int .i64 x.from_, .slice A2 x.text.length c2, .slice A3 x.list.length c3, .slice A4 x.seen.length c4] 32) = W1 at b0 bx ⊢
 have y0 : W1.cell? ⟨w.heap.size, 0, none⟩ = some (.string x.name) := bx.cell rfl
 have y1 : W1.cell? ⟨w.heap.size, 1, none⟩ = some (.int .i64 x.from_) := bx.cell rfl
 have y2 : W1.cell? ⟨w.heap.size, 2, none⟩ = some (.slice A2 x.text.length c2) := bx.cell rfl
 have y3 : W1.cell? ⟨w.heap.size, 3, none⟩ = some (.slice A3 x.list.length c3) := bx.cell rfl
 have y4 : W1.cell? ⟨w.heap.size, 4, none⟩ = some (.slice A4 x.seen.length c4) := bx.cell rfl
 have lD := bx.lt
 have SX := Lib.hid (show ∀ (W W' : World), (W.cell? ⟨w.heap.size, 0, none⟩ = some (.string x.name) ∧ W.cell? ⟨w.heap.size, 1, none⟩ = some (.int .i64 x.from_) ∧ W.cell? ⟨w.heap.size, 2, none⟩ = some (.slice A2 x.text.length c2) ∧ W.cell? ⟨w.heap.size, 3, none⟩ = some (.slice A3 x.list.length c3) ∧ W.cell? ⟨w.heap.size, 4, none⟩ = some (.slice A4 x.seen.length c4) ∧ KS W1 W) → Below W.heap.size W W' → (W'.cell? ⟨w.heap.size, 0, none⟩ = some (.string x.name) ∧ W'.cell? ⟨w.heap.size, 1, none⟩ = some (.int .i64 x.from_) ∧ W'.cell? ⟨w.heap.size, 2, none⟩ = some (.slice A2 x.text.length c2) ∧ W'.cell? ⟨w.heap.size, 3, none⟩ = some (.slice A3 x.list.length c3) ∧ W'.cell? ⟨w.heap.size, 4, none⟩ = some (.slice A4 x.seen.length c4) ∧ KS W1 W') from fun W W' h hb => by have hk := h.2.2.2.2.2; have hkk : KS W1 W' := hk.trans (hb.mono hk.size); exact ⟨(hkk.cell (p := ⟨w.heap.size, 0, none⟩) lD).trans y0, (hkk.cell (p := ⟨w.heap.size, 1, none⟩) lD).trans y1, (hkk.cell (p := ⟨w.heap.size, 2, none⟩) lD).trans y2, (hkk.cell (p := ⟨w.heap.size, 3, none⟩) lD).trans y3, (hkk.cell (p := ⟨w.heap.size, 4, none⟩) lD).trans y4, hkk⟩)
 have RD := Lib.hid (show ∀ W : World, (W.cell? ⟨w.heap.size, 0, none⟩ = some (.string x.name) ∧ W.cell? ⟨w.heap.size, 1, none⟩ = some (.int .i64 x.from_) ∧ W.cell? ⟨w.heap.size, 2, none⟩ = some (.slice A2 x.text.length c2) ∧ W.cell? ⟨w.heap.size, 3, none⟩ = some (.slice A3 x.list.length c3) ∧ W.cell? ⟨w.heap.size, 4, none⟩ = some (.slice A4 x.seen.length c4) ∧ KS W1 W) → RdC W W.heap.size (datDo x) (.agg #[.string x.name, .int .i64 x.from_, .slice A2 x.text.length c2, .slice A3 x.list.length c3, .slice A4 x.seen.length c4]) from fun W h => by have hk : Below W1.heap.size W1 W := h.2.2.2.2.2; exact (HR.out.past b0).past hk)
 have hS0 : W1.drew.cell? ⟨w.heap.size, 0, none⟩ = some (.string x.name) ∧ W1.drew.cell? ⟨w.heap.size, 1, none⟩ = some (.int .i64 x.from_) ∧ W1.drew.cell? ⟨w.heap.size, 2, none⟩ = some (.slice A2 x.text.length c2) ∧ W1.drew.cell? ⟨w.heap.size, 3, none⟩ = some (.slice A3 x.list.length c3) ∧ W1.drew.cell? ⟨w.heap.size, 4, none⟩ = some (.slice A4 x.seen.length c4) ∧ KS W1 W1.drew := ⟨y0, y1, y2, y3, y4, KS.start _⟩
 clear y0 y1 y2 y3 y4
 go_region_held3 (fun W => W.cell? ⟨w.heap.size, 0, none⟩ = some (.string x.name) ∧ W.cell? ⟨w.heap.size, 1, none⟩ = some (.int .i64 x.from_) ∧ W.cell? ⟨w.heap.size, 2, none⟩ = some (.slice A2 x.text.length c2) ∧ W.cell? ⟨w.heap.size, 3, none⟩ = some (.slice A3 x.list.length c3) ∧ W.cell? ⟨w.heap.size, 4, none⟩ = some (.slice A4 x.seen.length c4) ∧ KS W1 W)
  (first | assumption | exact hS0 | (exact SX.out _ _ (by assumption) b3) | (exact SX.out _ _ (by assumption) b4))
  (first | (go_at_call 38; refine (specHeadRev_w _ x _ (by exact RD.out _ (by assumption))).mono ?_; rintro e w3 ⟨rfl, b3⟩) | (go_at_call 20; refine (specTextAt_d _ x (headRevT x) _ (by exact RD.out _ (by assumption)) hs).mono ?_; rintro e w4 ⟨v4, rfl, o4, b4⟩; obtain ⟨A5, c5, rfl⟩ := sliceI o4.read))
 rename_i hS2
 have HK : Below w.heap.size w w4 := b0.trans (hS2.2.2.2.2.2.mono b0.size)
 have zz : w.heap.size ≤ w3.heap.size := Nat.le_trans (Nat.le_of_lt lD) b3.size
 have HO := Lib.hid (o4.wide zz (Nat.le_refl _) (Nat.le_refl _))
 have HKH := Lib.hid HK
 clear hS2 hS0 SX RD HK o4
 go_wp2
 go_ret
 exact ⟨_, rfl, HO.out, HKH.out⟩
def newDo (s : ByteArray) (t : List Int) : Do := ⟨s, 0, t, [], []⟩
def noDo : Do := ⟨⟨#[]⟩, 0, [], [], []⟩
def docNewB (s : ByteArray) (t : List Int) : Bool := docB (newDo s t)
def docNewT (s : ByteArray) (t : List Int) : Do := if docNewB s t = true then newDo s t else noDo
theorem newDo_four {s : ByteArray} {t : List Int} (hss : s.size ≤ 1048576) (hs : SmI t) : SmD4 (newDo s t) := ⟨hss, hs, by unfold SmEns totEns sumN newDo; simp, by unfold SmSes totSes sumN newDo; simp⟩
theorem docNew_small {s : ByteArray} {t : List Int} (hss : s.size ≤ 1048576) (hs : SmI t) : SmDo (docNewT s t) := by
 unfold docNewT
 split
 ·rename_i h
  unfold docNewB docB at h
  simp only [Bool.and_eq_true] at h
  have h1 : nameB (newDo s t).name = true := h.1.1.1.1.1
  have h2 : okText (newDo s t).text = true := h.1.1.1.2
  unfold nameB at h1
  rw [Bool.and_eq_true] at h1
  have h3 := of_decide_eq_true h1.2
  unfold okText at h2
  rw [Bool.and_eq_true] at h2
  have h4 := of_decide_eq_true h2.2
  have h5 : ((newDo s t).name.size : Int) ≤ 8 := h3.2
  unfold SmDo totDo totI totEns totSes sumN
  have e1 : (newDo s t).list = [] := rfl
  have e2 : (newDo s t).seen = [] := rfl
  rw [e1, e2]
  simp
  omega
 ·have e : totDo noDo = 0 := rfl
  unfold SmDo
  rw [e]
  omega
theorem nilOwn0 {lo mid : Nat} {w : World} {e : TypeId} {sz : Nat} (h : lo ≤ mid) (h2 : mid ≤ w.heap.size) : Own lo mid w (.rows e sz []) (.slice none 0 0) := ⟨[], ⟨[], [], World.ownsRow_nil _ _ _ _, ⟨rfl, rfl⟩, rfl⟩, by simp, fun b hb => by simp at hb, h2, h⟩
theorem rd_nil {w : World} {B : Nat} {e : TypeId} {sz : Nat} : RdC w B (.rows e sz []) (.slice none 0 0) := ⟨none, 0, rfl, Nat.le_refl _, fun h => by simp at h⟩
theorem specDocNew_d (v : Value) (s : ByteArray) (t : List Int) (w : World) (h : RdC w w.heap.size (encInts t) v) (hss : s.size ≤ 1048576) (hs : SmI t) : Calls Tryz.prog 13 #[.string s, v] w (ResB (datDo (docNewT s t)) (docNewB s t) w) := by
 obtain ⟨A, c, rfl, hr, _⟩ := ints_rd h
 have ht : t.length ≤ 1048576 := hs
 have s1 : (w.alloc (.cells #[.string ⟨#[]⟩, .int .i64 0, .slice none 0 0, .slice none 0 0, .slice none 0 0] 32)).heap.size = w.heap.size + 1 := World.size_alloc _ _
 have bz := alloc_below w (.cells #[.string ⟨#[]⟩, .int .i64 0, .slice none 0 0, .slice none 0 0, .slice none 0 0] 32)
 have bxz := Bx.new w #[.string ⟨#[]⟩, .int .i64 0, .slice none 0 0, .slice none 0 0, .slice none 0 0] 32
 have hbw : Below w.heap.size w ((w.alloc (.cells #[.string ⟨#[]⟩, .int .i64 0, .slice none 0 0, .slice none 0 0, .slice none 0 0] 32)).alloc (.cells #[] 3)) := bz.alloc (by omega) _
 have hib : ((w.alloc (.cells #[.string ⟨#[]⟩, .int .i64 0, .slice none 0 0, .slice none 0 0, .slice none 0 0] 32)).alloc (.cells #[] 3)).ownsRow (w.heap.size + 1) 3 1 (.slice (some ⟨w.heap.size + 1, 0, none⟩) 0 0) 0 [] := ⟨rfl, .inr ⟨w.heap.size + 1, 0, #[], rfl, Nat.le_refl _, by rw [← s1]; exact heap_alloc_new _ _, Nat.le_refl _, by unfold maxLen; omega, rfl, rfl⟩⟩
 go_enter Tryz.func13, Tryz.ntmps13
 go_wp2_with (at_builtin; refine wpList_append_ints rfl (.tmp 8) (.tmp 9) rfl (w.heap.size + 1) (.slice (some ⟨w.heap.size + 1, 0, none⟩) 0 0) [] rfl hib A t.length c t rfl rfl (hr.past hbw) (by simp; omega) (by rw [World.size_alloc, World.size_alloc]; omega) ?_; intro An cn wn hon hgn)
 simp only [List.nil_append, List.length_nil, Nat.zero_add] at hon
 have bxw : Bx wn w.heap.size #[.string ⟨#[]⟩, .int .i64 0, .slice none 0 0, .slice none 0 0, .slice none 0 0] 32 := (hgn.block w.heap.size (by rw [World.size_alloc]; omega) (by simp [Value.ownBlock])).trans (bxz.past (alloc_below _ _))
 have dn : Below w.heap.size w wn := hbw.grown hgn hbw.size (fun q hq => Nat.le_of_lt (own_ge hib q hq))
 have hsz : w.heap.size + 1 ≤ wn.heap.size := Nat.le_trans (by rw [World.size_alloc, World.size_alloc]; omega) hgn.size
 have on := ownInts hon hsz
 have bN := alloc_below wn (.cells #[.string s, .int .i64 0, .slice An t.length cn, .slice none 0 0, .slice none 0 0] 32)
 have bxn := Bx.new wn #[.string s, .int .i64 0, .slice An t.length cn, .slice none 0 0, .slice none 0 0] 32
 have ON := Lib.hid (on.past bN)
 have bxw := bxw.past bN
 have d4 := dn.trans (bN.mono dn.size)
 have zN : (wn.alloc (.cells #[.string s, .int .i64 0, .slice An t.length cn, .slice none 0 0, .slice none 0 0] 32)).heap.size = wn.heap.size + 1 := World.size_alloc _ _
 clear hon hgn hib hbw bz bxz on dn bN
 generalize wn.alloc (.cells #[.string s, .int .i64 0, .slice An t.length cn, .slice none 0 0, .slice none 0 0] 32) = U at bxn ON bxw d4 zN ⊢
 refine (specDocOk_w _ (newDo s t) _ (rdDo (newDo s t) ON.out.read rd_nil rd_nil) (newDo_four hss hs)).mono ?_
 rintro e w5 ⟨rfl, b5⟩
 have bxz5 := bxw.past b5
 have bxn5 := bxn.past b5
 have d5 := d4.trans (b5.mono d4.size)
 have O5 := Lib.hid (ON.out.past b5)
 have z5 := b5.size
 clear bxw bxn b5 d4 ON
 cases hdn : docB (newDo s t)
 ·have HN := Lib.hid (show docNewB s t = false ∧ docNewT s t = noDo by have e : docNewB s t = false := hdn; exact ⟨e, by unfold docNewT; rw [e]; rfl⟩)
  have k0 : w5.cell? ⟨w.heap.size, 0, none⟩ = some (.string ⟨#[]⟩) := bxz5.cell rfl
  have f0 : w5.frozen? ⟨w.heap.size, 0, none⟩ = false := bxfree bxz5
  have k1 : w5.cell? ⟨w.heap.size, 1, none⟩ = some (.int .i64 0) := bxz5.cell rfl
  have f1 : w5.frozen? ⟨w.heap.size, 1, none⟩ = false := bxfree bxz5
  have k2 : w5.cell? ⟨w.heap.size, 2, none⟩ = some (.slice none 0 0) := bxz5.cell rfl
  have f2 : w5.frozen? ⟨w.heap.size, 2, none⟩ = false := bxfree bxz5
  have k3 : w5.cell? ⟨w.heap.size, 3, none⟩ = some (.slice none 0 0) := bxz5.cell rfl
  have f3 : w5.frozen? ⟨w.heap.size, 3, none⟩ = false := bxfree bxz5
  have k4 : w5.cell? ⟨w.heap.size, 4, none⟩ = some (.slice none 0 0) := bxz5.cell rfl
  have f4 : w5.frozen? ⟨w.heap.size, 4, none⟩ = false := bxfree bxz5
  have hB : Below w.heap.size w (putRow w5 w.heap.size 0 [.string ⟨#[]⟩, .int .i64 0, .slice none 0 0, .slice none 0 0, .slice none 0 0]) := putRow_below (Nat.le_refl _) _ _ _ d5
  go_wp2
  refine bodyPost_ret (v := .tuple #[.agg #[.string ⟨#[]⟩, .int .i64 0, .slice none 0 0, .slice none 0 0, .slice none 0 0], .bool false]) (by simp [results, Tryz.results13, go_sem, k0, k1, k2, k3, k4]) rfl ⟨_, by rw [HN.out.1], by rw [HN.out.2]; exact OwnL.agg (OwnL.flat rfl (OwnL.flat rfl (OwnL.own (nilOwn0 (Nat.le_refl _) hB.size) (OwnL.own (nilOwn0 (Nat.le_refl _) hB.size) (OwnL.own (nilOwn0 (Nat.le_refl _) hB.size) (OwnL.nil (Nat.le_refl _) hB.size)))))), hB⟩
 ·have HN := Lib.hid (show docNewB s t = true ∧ docNewT s t = newDo s t by have e : docNewB s t = true := hdn; exact ⟨e, by unfold docNewT; rw [if_pos e]⟩)
  have O6 := O5.out.putRow (g := w.heap.size) (.inl (by omega)) [.string s, .int .i64 0, .slice An t.length cn, .slice none 0 0, .slice none 0 0] w5 0
  have hZ : wn.heap.size ≤ (putRow w5 w.heap.size 0 [.string s, .int .i64 0, .slice An t.length cn, .slice none 0 0, .slice none 0 0]).heap.size := by rw [putRow_size]; omega
  have k0 : w5.cell? ⟨w.heap.size, 0, none⟩ = some (.string ⟨#[]⟩) := bxz5.cell rfl
  have f0 : w5.frozen? ⟨w.heap.size, 0, none⟩ = false := bxfree bxz5
  have n0 : w5.cell? ⟨wn.heap.size, 0, none⟩ = some (.string s) := bxn5.cell rfl
  have k1 : w5.cell? ⟨w.heap.size, 1, none⟩ = some (.int .i64 0) := bxz5.cell rfl
  have f1 : w5.frozen? ⟨w.heap.size, 1, none⟩ = false := bxfree bxz5
  have n1 : w5.cell? ⟨wn.heap.size, 1, none⟩ = some (.int .i64 0) := bxn5.cell rfl
  have k2 : w5.cell? ⟨w.heap.size, 2, none⟩ = some (.slice none 0 0) := bxz5.cell rfl
  have f2 : w5.frozen? ⟨w.heap.size, 2, none⟩ = false := bxfree bxz5
  have n2 : w5.cell? ⟨wn.heap.size, 2, none⟩ = some (.slice An t.length cn) := bxn5.cell rfl
  have k3 : w5.cell? ⟨w.heap.size, 3, none⟩ = some (.slice none 0 0) := bxz5.cell rfl
  have f3 : w5.frozen? ⟨w.heap.size, 3, none⟩ = false := bxfree bxz5
  have n3 : w5.cell? ⟨wn.heap.size, 3, none⟩ = some (.slice none 0 0) := bxn5.cell rfl
  have k4 : w5.cell? ⟨w.heap.size, 4, none⟩ = some (.slice none 0 0) := bxz5.cell rfl
  have f4 : w5.frozen? ⟨w.heap.size, 4, none⟩ = false := bxfree bxz5
  have n4 : w5.cell? ⟨wn.heap.size, 4, none⟩ = some (.slice none 0 0) := bxn5.cell rfl
  have hB : Below w.heap.size w (putRow w5 w.heap.size 0 [.string s, .int .i64 0, .slice An t.length cn, .slice none 0 0, .slice none 0 0]) := putRow_below (Nat.le_refl _) _ _ _ d5
  go_wp2
  refine bodyPost_ret (v := .tuple #[.agg #[.string s, .int .i64 0, .slice An t.length cn, .slice none 0 0, .slice none 0 0], .bool true]) (by simp [results, Tryz.results13, go_sem, k0, k1, k2, k3, k4]) rfl ⟨_, by rw [HN.out.1], by rw [HN.out.2]; exact OwnL.agg (OwnL.flat rfl (OwnL.flat rfl (OwnL.own (O6.wide (by omega) (Nat.le_refl _) (by rw [putRow_size]; omega)) (OwnL.own (nilOwn0 (Nat.le_refl _) hZ) (OwnL.own (nilOwn0 (Nat.le_refl _) hZ) (OwnL.nil (Nat.le_refl _) hZ)))))), hB⟩
def seSameB (s s' : Se) : Bool := decide (s.client = s'.client) && decide (s.seq = s'.seq) && decide (s.rev = s'.rev)
def seensB : List Se → List Se → Bool
 | [], [] => true
 | e :: l, e' :: l' => seSameB e e' && seensB l l'
 | _, _ => false
theorem seensB_step {l l' : List Se} {j : Nat} {e e' : Se} (h : l[j]? = some e) (h' : l'[j]? = some e') : seensB (l.drop j) (l'.drop j) = (seSameB e e' && seensB (l.drop (j + 1)) (l'.drop (j + 1))) := by
 obtain ⟨h1, e1⟩ := List.getElem?_eq_some_iff.1 h
 obtain ⟨h2, e2⟩ := List.getElem?_eq_some_iff.1 h'
 rw [List.drop_eq_getElem_cons h1, List.drop_eq_getElem_cons h2, e1, e2]
 rfl
theorem OwB.apartG {lo hi : Nat} {w w' : World} {d : Dat} {v : Value} {b : List Nat} {r : Option Nat} (h : OwB lo hi w d v b) (hg : w.grownBy w' r) (hr : ∀ k, r = some k → k < lo ∨ hi ≤ k) : OwB lo hi w' d v b :=
 ⟨OwC.keep d v b h.ow (fun x hx => hg.block x (OwC.lt d v b h.ow x hx) (fun e => by have := h.rng x hx; have := hr x e.symm; omega)), h.nd, h.rng, Nat.le_trans h.top hg.size, h.le⟩
theorem Grew.cellOut {O O' : Nat → Prop} {w w' : World} (h : Grew O O' w w') {p : Addr} (hb : p.block < w.heap.size) (hn : ¬ O p.block) : w'.cell? p = w.cell? p := World.cell?_of_block (w := w) (h.block p.block hb hn)
theorem step_append_zero {P : Program} {w : World} {ops : Array Oper} {o : Oper} {a : Act} {KN : Act → World → Prop} {Q : Exit → Act → World → Prop} {E : Prop} (hgd : o.guard = none) (s x : Operand) (t : TypeId)
  (ho : o.op = .call { callee := .builtin .append, args := #[s, x], argTypes := #[t, t] })
  (base : Nat) (e : TypeId) (i : TypeInfo) (size : Nat) (ht : P.underlying t = some (.slice e)) (hi : P.info? e = some i)
  (v : Value) (n : Nat) (xs : List Value) (hs : a.eval s = v) (hown : w.ownsRow base e size v n xs) (A : Option Addr) (c : Nat) (hx : a.eval x = .slice A 0 c)
  (h : KN (a.put o.dst v) w) : if Region.wanted o (yielded ops a.tmps) = true then Oper.wp P o a w KN Q else E := by
 have hw : Region.wanted o (yielded ops a.tmps) = true := by simp [Region.wanted, hgd]
 rw [if_pos hw]
 have hrun := run_append_zero (P := P) (w := w) base t o.type e i size ht hi v n xs hown A c
 unfold Oper.wp
 simp [execOp, ho, resolve, invoke, builtin, hs, hx, hrun, Result.andThen]
 exact h
theorem step_append_ints {w : World} {ops : Array Oper} {o : Oper} {a : Act} {KN : Act → World → Prop} {Q : Exit → Act → World → Prop} {E : Prop} (hgd : o.guard = none) (s x : Operand)
  (ho : o.op = .call { callee := .builtin .append, args := #[s, x], argTypes := #[22, 22] })
  (base : Nat) (v : Value) (zs : List Int) (hs : a.eval s = v) (hown : w.ownsRow base 3 1 v zs.length (zs.map (Value.int .i64)))
  (A : Option Addr) (m c : Nat) (ys : List Int) (hx : a.eval x = .slice A m c) (hm : ys.length = m) (hr : Row (Value.int .i64) w w.heap.size A ys)
  (h63 : zs.length + m ≤ 1000000000) (hbase : base ≤ w.heap.size)
  (h : ∀ A' c' w', w'.ownsRow base 3 1 (.slice A' (zs.length + m) c') (zs ++ ys).length ((zs ++ ys).map (Value.int .i64)) → w.grownBy w' v.ownBlock → KN (a.put o.dst (.slice A' (zs.length + m) c')) w') : if Region.wanted o (yielded ops a.tmps) = true then Oper.wp Tryz.prog o a w KN Q else E := by
 obtain ⟨i0, hi0, hz0, hz1, hz2⟩ := info_parts ints_info
 by_cases h0 : 0 < m
 ·obtain ⟨ad, rfl, hbk, hcs⟩ := hr (by omega)
  refine step_append_lies _ hgd s x 22 ho base 3 i0 (.int .i64 0) 1 8 Tryz.underlying22 hi0 hz0 hz1 hz2 rfl (by decide) v zs.length (zs.map (Value.int .i64)) hs hown ad m c (ys.map (Value.int .i64)) hx (by simp [hm]) (fun j u hu => ?_) (by simp [Value.oneCell']) h0 (by unfold maxLen; omega) (by omega) hbase w.heap.size rfl ?_
  ·rw [List.getElem?_map] at hu
   obtain ⟨z, hz, rfl⟩ := Option.map_eq_some_iff.1 hu
   exact hcs j z hz
  ·intro g cap w' hown' hg _ _
   exact h _ cap w' (by simpa [hm] using hown') hg
 ·have e0 : ys = [] := List.eq_nil_of_length_eq_zero (by omega)
  subst e0
  obtain rfl : m = 0 := by omega
  refine step_append_zero hgd s x 22 ho base 3 i0 1 Tryz.underlying22 hi0 v zs.length (zs.map (Value.int .i64)) hs hown A c hx ?_
  obtain ⟨Av, cv, rfl⟩ := own_form hown
  exact h Av cv w (by simpa using hown) (grown_refl _ _)
theorem step_append_row {w : World} {ops : Array Oper} {o : Oper} {a : Act} {KN : Act → World → Prop} {Q : Exit → Act → World → Prop} {E : Prop} (hgd : o.guard = none) (s x : Operand) (t : TypeId)
  (ho : o.op = .call { callee := .builtin .append, args := #[s, x], argTypes := #[t, t] }) (e : TypeId) (i : TypeInfo) (z : Value) (sz bytes : Nat) (ht : Tryz.prog.underlying t = some (.slice e)) (hi : Tryz.prog.info? e = some i) (hz : i.zero = some z) (hsize : i.size = sz) (hby : i.bytes = bytes) (hzs : z.cells.size = sz) (hsz : 0 < sz) (hbm : bytes ≤ 100000)
  (lo hi' : Nat) (v : Value) (ds : List (List Dat)) (b : List Nat) (h : OwB lo hi' w (.rows e sz ds) v b) (hs : a.eval s = v) (hlen : ds.length ≤ 2000000)
  (ad : Addr) (c0 : Nat) (ys : List Value) (hx : a.eval x = .slice (some ad) 1 c0) (hl : ys.length = sz) (hnews : ∀ j u, ys[j]? = some u → w.cell? (ad.add j) = some u) (h1 : ∀ u ∈ ys, u.oneCell' = true)
  (r : List Dat) (c : List Nat) (hr : OwL w r ys c) (hcn : c.Nodup) (hbc : ∀ q ∈ b, q ∉ c) (hcr : ∀ q ∈ c, lo ≤ q)
  (K : ∀ A' c' w' b', OwB lo w'.heap.size w' (.rows e sz (ds ++ [r])) (.slice A' (ds.length + 1) c') b' → (∀ q ∈ b', q ∈ b ∨ q ∈ c ∨ w.heap.size ≤ q) → Grew (fun q => q ∈ b) (fun q => q ∈ b ∨ w.heap.size ≤ q) w w' → Below lo w w' → KN (a.put o.dst (.slice A' (ds.length + 1) c')) w') : if Region.wanted o (yielded ops a.tmps) = true then Oper.wp Tryz.prog o a w KN Q else E := by
 have hnd := h.nd
 have hrg := h.rng
 obtain ⟨xs, cs, ho', hor, hb⟩ := h.ow
 refine step_append_lies _ hgd s x t ho 0 e i z sz bytes ht hi hz hsize hby hzs hsz v ds.length xs hs ho' ad 1 c0 ys hx (by simp [hl]) hnews h1 (by omega) (by unfold maxLen; omega) ?_ (Nat.zero_le _) _ rfl ?_
 ·have : (ds.length + 1) * bytes ≤ 2000001 * 100000 := Nat.mul_le_mul (by omega) hbm
  omega
 intro g cap w' hown hg hat hlt
 rw [hb] at hnd
 obtain ⟨n1, n2, n3⟩ := List.nodup_append.1 hnd
 have own_mem : ∀ q, v.ownBlock = some q → q ∈ b := fun q hq => by rw [hb, hq]; simp
 have hcs : ∀ q ∈ cs, w'.heap[q]? = w.heap[q]? := fun q hq => hg.block q (OwR.lt sz _ _ _ hor q hq) (fun e => n3 q (by rw [← e]; simp) q hq rfl)
 have hcc : ∀ q ∈ c, w'.heap[q]? = w.heap[q]? := fun q hq => hg.block q (OwL.lt _ _ _ hr q hq) (fun e => hbc q (own_mem q e.symm) hq)
 have hor' := (OwR.keep sz _ _ _ hor hcs).append (OwR.one (OwL.keep _ _ _ hr hcc) hl)
 have g1 : g ∉ cs := fun hq => by
  rcases hat with e | e
  ·exact n3 g (by rw [e]; simp) g hq rfl
  ·have := OwR.lt sz _ _ _ hor g hq; omega
 have g2 : g ∉ c := fun hq => by
  rcases hat with e | e
  ·exact hbc g (own_mem g e) hq
  ·have := OwL.lt _ _ _ hr g hq; omega
 have g3 : lo ≤ g ∧ (g ∈ b ∨ w.heap.size ≤ g) := by
  rcases hat with e | e
  ·exact ⟨(hrg g (own_mem g e)).1, .inl (own_mem g e)⟩
  ·have := h.top; have := h.le; exact ⟨by omega, .inr (by omega)⟩
 have hsz' := hg.size
 have ht' := h.top
 refine K _ cap w' (g :: (cs ++ c)) ⟨⟨xs ++ ys, cs ++ c, by rw [List.length_append]; exact hown, hor', rfl⟩, ?_, ?_, Nat.le_refl _, by have := h.le; omega⟩ ?_ ⟨hg.size, fun q hq hn => hg.block q hq (fun e => hn (own_mem q e.symm)), fun q hq => hq⟩ ?_
 ·refine List.nodup_cons.2 ⟨fun hq => ?_, List.nodup_append.2 ⟨n2, hcn, fun q hq q' hq' e => ?_⟩⟩
  ·rcases List.mem_append.1 hq with hq | hq
   ·exact g1 hq
   ·exact g2 hq
  ·subst e
   exact hbc q (by rw [hb]; simp [hq]) hq'
 ·intro q hq
  rcases List.mem_cons.1 hq with rfl | hq
  ·exact ⟨g3.1, hlt⟩
  ·rcases List.mem_append.1 hq with hq | hq
   ·have := hrg q (by rw [hb]; simp [hq]); exact ⟨this.1, by omega⟩
   ·have := OwL.lt _ _ _ hr q hq; exact ⟨hcr q hq, by omega⟩
 ·intro q hq
  rcases List.mem_cons.1 hq with rfl | hq
  ·rcases g3.2 with h | h
   ·exact .inl h
   ·exact .inr (.inr h)
  ·rcases List.mem_append.1 hq with hq | hq
   ·exact .inl (by rw [hb]; simp [hq])
   ·exact .inr (.inl hq)
 ·exact (Below.refl lo w).grown hg (by have := h.le; omega) (fun k hk => (hrg k (own_mem k hk)).1)
theorem specCopy_d (v : Value) (ps : List Pt) (w : World) (h : RdC w w.heap.size (encPs ps) v) (hs : SmP ps) : Calls Tryz.prog 56 #[v] w (OwnPost (encPs ps) w) := by
 obtain ⟨A, c, rfl, hr, _⟩ := parts_rd h
 have hl := hs.1
 obtain ⟨i0, hi0, hz0, hz1, hz2⟩ := info_parts part_info
 have ob : OwB w.heap.size (w.heap.size + 1) (w.alloc (.cells #[] 86)) (encPs []) (.slice (some ⟨w.heap.size, 0, none⟩) 0 0) [w.heap.size] := ⟨⟨[], [], ⟨rfl, .inr ⟨w.heap.size, 0, #[], rfl, Nat.zero_le _, heap_alloc_new w _, Nat.le_refl _, by unfold maxLen; omega, rfl, rfl⟩⟩, ⟨rfl, rfl⟩, rfl⟩, by simp, fun q hq => by simp at hq; omega, by rw [World.size_alloc]; exact Nat.le_refl _, by omega⟩
 have b0 := alloc_below w (.cells #[] 86)
 have z0 : (w.alloc (.cells #[] 86)).heap.size = w.heap.size + 1 := World.size_alloc _ _
 rw [← z0] at ob
 have OB := Lib.hid ob
 clear ob z0
 go_enter Tryz.func56, Tryz.ntmps56
 go_wp2
 go_loopw [3, 9] (fun ov i wr => ∃ (j : Nat) (A1 : Option Addr) (c1 : Nat) (bs : List Nat), j ≤ ps.length ∧ i = .int .i64 (j : Int) ∧ ov = .slice A1 j c1 ∧ OwB w.heap.size wr.heap.size wr (encPs (ps.take j)) ov bs ∧ Below w.heap.size w wr) (fun _ i _ => ps.length - (intOf i).toNat)
 case atStart => exact ⟨0, _, _, _, Nat.zero_le _, rfl, rfl, OB.out, b0⟩
 case round =>
  obtain ⟨j, A1, c1, bs, hj, rfl, rfl, ho, hbel⟩ := hrel
  clear OB b0
  have HO := Lib.hid ho
  clear ho
  by_cases hlt : j < ps.length
  ·obtain ⟨b, off, p, rfl, hbb, hp, hc⟩ := hr.at_ hlt
   obtain ⟨x0, x1, A5, c5, x2, r1⟩ := hc.keep (w' := wr) hbb (fun _ hq => hbel.cell hq)
   have hsp := hs.all p (List.mem_of_getElem? hp)
   have HT := Lib.hid (show ps.take (j + 1) = ps.take j ++ [p] by rw [List.take_add_one, hp]; rfl)
   clear hp hc
   have bA := alloc_below wr (.cells #[.int .i64 p.kind, .int .i64 p.n, .slice A5 p.signs.length c5] 86)
   have bxP := Bx.new wr #[.int .i64 p.kind, .int .i64 p.n, .slice A5 p.signs.length c5] 86
   have HO1 := Lib.hid (HO.out.past bA)
   have zA : (wr.alloc (.cells #[.int .i64 p.kind, .int .i64 p.n, .slice A5 p.signs.length c5] 86)).heap.size = wr.heap.size + 1 := World.size_alloc _ _
   go_wp2
   generalize wr.alloc (.cells #[.int .i64 p.kind, .int .i64 p.n, .slice A5 p.signs.length c5] 86) = W1 at bA bxP HO1 zA ⊢
   have lP := bxP.lt
   have hS0 : W1.drew.cell? ⟨wr.heap.size, 0, none⟩ = some (.int .i64 p.kind) ∧ W1.drew.cell? ⟨wr.heap.size, 1, none⟩ = some (.int .i64 p.n) ∧ W1.drew.cell? ⟨wr.heap.size, 2, none⟩ = some (.slice A5 p.signs.length c5) := ⟨bxP.cell (j := 0) rfl, bxP.cell (j := 1) rfl, bxP.cell (j := 2) rfl⟩
   refine wp_region_held_drew (S := fun W => W.cell? ⟨wr.heap.size, 0, none⟩ = some (.int .i64 p.kind) ∧ W.cell? ⟨wr.heap.size, 1, none⟩ = some (.int .i64 p.n) ∧ W.cell? ⟨wr.heap.size, 2, none⟩ = some (.slice A5 p.signs.length c5)) (by kernel_rfl) hS0 (fun hS => ?_)
   clear hS0
   have bA := bA.trans ((Below.refl _ _).drew.mono bA.size)
   have HO1 := Lib.hid (HO1.out.past (Below.refl _ _).drew)
   have zA : W1.drew.heap.size = wr.heap.size + 1 := zA
   have lP : wr.heap.size < W1.drew.heap.size := lP
   clear bxP
   generalize W1.drew = WD at hS bA HO1 zA lP ⊢
   refine tk (v := .slice A1 j c1) 0 13 rfl (fun w' hS' => ?_) (by assumption) ?_
   ·(try dsimp only at hS'); go_simp
   try simp only [Act.put, pa, pb, pc]
   refine tk (v := .pointer (some ⟨wr.heap.size, 0, none⟩)) 1 14 rfl (fun w' hS' => ?_) (by assumption) ?_
   ·(try dsimp only at hS'); go_simp
   try simp only [Act.put, pa, pb, pc]
   refine tk (v := .int .i64 p.kind) 2 15 rfl (fun w' hS' => ?_) (by assumption) ?_
   ·(try dsimp only at hS'); go_simp
   try simp only [Act.put, pa, pb, pc]
   refine tk (v := .pointer (some ⟨wr.heap.size, 1, none⟩)) 3 16 rfl (fun w' hS' => ?_) (by assumption) ?_
   ·(try dsimp only at hS'); go_simp
   try simp only [Act.put, pa, pb, pc]
   refine tk (v := .int .i64 p.n) 4 17 rfl (fun w' hS' => ?_) (by assumption) ?_
   ·(try dsimp only at hS'); go_simp
   try simp only [Act.put, pa, pb, pc]
   refine tk (v := .pointer (some ⟨wr.heap.size, 2, none⟩)) 6 19 rfl (fun w' hS' => ?_) (by assumption) ?_
   ·(try dsimp only at hS'); go_simp
   try simp only [Act.put, pa, pb, pc]
   refine tk (v := .slice A5 p.signs.length c5) 7 20 rfl (fun w' hS' => ?_) (by assumption) ?_
   ·(try dsimp only at hS'); go_simp
   try simp only [Act.put, pa, pb, pc]
   refine low.r1 5 (some 18) rfl (fun K hK => ?_)
   go_simp
   have hS1 : (WD.alloc (.cells #[] 3)).cell? ⟨wr.heap.size, 0, none⟩ = some (.int .i64 p.kind) ∧ (WD.alloc (.cells #[] 3)).cell? ⟨wr.heap.size, 1, none⟩ = some (.int .i64 p.n) ∧ (WD.alloc (.cells #[] 3)).cell? ⟨wr.heap.size, 2, none⟩ = some (.slice A5 p.signs.length c5) := ⟨((alloc_below WD (.cells #[] 3)).cell (p := ⟨wr.heap.size, 0, none⟩) lP).trans hS.1, ((alloc_below WD (.cells #[] 3)).cell (p := ⟨wr.heap.size, 1, none⟩) lP).trans hS.2.1, ((alloc_below WD (.cells #[] 3)).cell (p := ⟨wr.heap.size, 2, none⟩) lP).trans hS.2.2⟩
   refine hK.out _ _ hS1 (fun hS => ?_)
   clear hK K hS1
   try simp only [Act.put, pa, pb, pc]
   have bD : Below WD.heap.size WD (WD.alloc (.cells #[] 3)) := alloc_below WD (.cells #[] 3)
   have hib : (WD.alloc (.cells #[] 3)).ownsRow (wr.heap.size + 1) 3 1 (.slice (some ⟨wr.heap.size + 1, 0, none⟩) 0 0) 0 [] := ⟨rfl, .inr ⟨wr.heap.size + 1, 0, #[], rfl, Nat.le_refl _, by rw [← zA]; exact heap_alloc_new WD _, Nat.le_refl _, by unfold maxLen; omega, rfl, rfl⟩⟩
   have zD : (WD.alloc (.cells #[] 3)).heap.size = wr.heap.size + 2 := by rw [World.size_alloc]; omega
   have hrow := (((r1.more hbel.size).past bA).past bD)
   have HO2 := Lib.hid (HO1.out.past bD)
   generalize WD.alloc (.cells #[] 3) = W2 at hS bD hib zD hrow HO2 ⊢
   refine low.r1 8 (some 21) rfl (fun K hK => ?_)
   refine step_append_ints (by rfl) (.tmp 18) (.tmp 20) (by rfl) (wr.heap.size + 1) (.slice (some ⟨wr.heap.size + 1, 0, none⟩) 0 0) [] (by rfl) hib A5 p.signs.length c5 p.signs (by rfl) rfl hrow (by simp; omega) (by omega) ?_
   intro An cn wn hon hgn
   simp only [List.nil_append, List.length_nil, Nat.zero_add] at hon ⊢
   have hS1 : wn.cell? ⟨wr.heap.size, 0, none⟩ = some (.int .i64 p.kind) ∧ wn.cell? ⟨wr.heap.size, 1, none⟩ = some (.int .i64 p.n) ∧ wn.cell? ⟨wr.heap.size, 2, none⟩ = some (.slice A5 p.signs.length c5) := ⟨(grown_cell (p := ⟨wr.heap.size, 0, none⟩) hgn (by simp only; omega) (by simp [Value.ownBlock])).trans hS.1, (grown_cell (p := ⟨wr.heap.size, 1, none⟩) hgn (by simp only; omega) (by simp [Value.ownBlock])).trans hS.2.1, (grown_cell (p := ⟨wr.heap.size, 2, none⟩) hgn (by simp only; omega) (by simp [Value.ownBlock])).trans hS.2.2⟩
   refine hK.out _ _ hS1 (fun hS => ?_)
   clear hK K hS1
   try simp only [Act.put, pa, pb, pc]
   have zn : wr.heap.size + 2 ≤ wn.heap.size := by have := hgn.size; omega
   have on := ownInts hon (by omega)
   have HO3 := Lib.hid (HO2.out.apartG hgn (fun k hk => by simp [Value.ownBlock] at hk; omega))
   have bn : Below wr.heap.size W2 wn := (Below.refl _ _).grown hgn (by omega) (fun q hq => by have := own_ge hib q hq; omega)
   have dn : Below w.heap.size w wn := hbel.trans (((bA.trans (bD.mono bA.size)).trans bn).mono hbel.size)
   clear hon hgn hib hrow HO2 bn bD
   refine tk (v := .agg #[.int .i64 p.kind, .int .i64 p.n, .slice An p.signs.length cn]) 9 22 rfl (fun w' hS' => ?_) (by assumption) ?_
   ·(try dsimp only at hS'); go_simp
   try simp only [Act.put, pa, pb, pc]
   refine low.r1 10 (some 23) rfl (fun K hK => ?_)
   go_simp
   have hS1 : (wn.alloc (.cells #[.int .i64 p.kind, .int .i64 p.n, .slice An p.signs.length cn] 86)).cell? ⟨wr.heap.size, 0, none⟩ = some (.int .i64 p.kind) ∧ (wn.alloc (.cells #[.int .i64 p.kind, .int .i64 p.n, .slice An p.signs.length cn] 86)).cell? ⟨wr.heap.size, 1, none⟩ = some (.int .i64 p.n) ∧ (wn.alloc (.cells #[.int .i64 p.kind, .int .i64 p.n, .slice An p.signs.length cn] 86)).cell? ⟨wr.heap.size, 2, none⟩ = some (.slice A5 p.signs.length c5) := ⟨((alloc_below wn (.cells #[.int .i64 p.kind, .int .i64 p.n, .slice An p.signs.length cn] 86)).cell (p := ⟨wr.heap.size, 0, none⟩) (by simp only; omega)).trans hS.1, ((alloc_below wn (.cells #[.int .i64 p.kind, .int .i64 p.n, .slice An p.signs.length cn] 86)).cell (p := ⟨wr.heap.size, 1, none⟩) (by simp only; omega)).trans hS.2.1, ((alloc_below wn (.cells #[.int .i64 p.kind, .int .i64 p.n, .slice An p.signs.length cn] 86)).cell (p := ⟨wr.heap.size, 2, none⟩) (by simp only; omega)).trans hS.2.2⟩
   refine hK.out _ _ hS1 (fun hS => ?_)
   clear hK K hS1
   try simp only [Act.put, pa, pb, pc]
   have bP := alloc_below wn (.cells #[.int .i64 p.kind, .int .i64 p.n, .slice An p.signs.length cn] 86)
   have HN := Lib.hid (World.news_of_block (cs := #[.int .i64 p.kind, .int .i64 p.n, .slice An p.signs.length cn]) (t := 86) (fr := (0, 0)) (heap_alloc_new wn (.cells #[.int .i64 p.kind, .int .i64 p.n, .slice An p.signs.length cn] 86)))
   obtain ⟨cs, ox⟩ := (on.past bP).blocks
   have OX := Lib.hid ox
   have HO4 := Lib.hid (HO3.out.past bP)
   have zP : (wn.alloc (.cells #[.int .i64 p.kind, .int .i64 p.n, .slice An p.signs.length cn] 86)).heap.size = wn.heap.size + 1 := World.size_alloc _ _
   have d4 := dn.trans (bP.mono dn.size)
   have e1 : ((ps.take j).map encPt).length = j := by simp; omega
   generalize wn.alloc (.cells #[.int .i64 p.kind, .int .i64 p.n, .slice An p.signs.length cn] 86) = W4 at hS HN OX HO4 zP d4 ⊢
   clear on ox bP dn
   refine low.r1 11 (some 24) rfl (fun K hK => ?_)
   refine step_append_row (by rfl) (.tmp 13) (.tmp 23) 57 (by rfl) 86 i0 _ 3 40 Tryz.underlying57 hi0 hz0 hz1 hz2 rfl (by decide) (by decide) w.heap.size _ (.slice A1 j c1) ((ps.take j).map encPt) bs HO4.out (by rfl) (by omega) ⟨wn.heap.size, 0, none⟩ 1 [.int .i64 p.kind, .int .i64 p.n, .slice An p.signs.length cn] (by rfl) rfl HN.out (by simp [Value.oneCell']) (encPt p) cs ⟨_, _, [], cs, rfl, by simp, ⟨rfl, rfl⟩, _, _, [], cs, rfl, by simp, ⟨rfl, rfl⟩, _, [], cs, [], rfl, by simp, OX.out.ow, rfl, rfl⟩ OX.out.nd (fun q hq hq' => by have q1 := (HO4.out.rng q hq).2; have q2 := (OX.out.rng q hq').1; omega) (fun q hq => by have q2 := (OX.out.rng q hq).1; have := hbel.size; omega) ?_
   intro A7 c7 w7 b7 o7 in7 g7 bl7
   rw [e1]
   have hS1 : w7.cell? ⟨wr.heap.size, 0, none⟩ = some (.int .i64 p.kind) ∧ w7.cell? ⟨wr.heap.size, 1, none⟩ = some (.int .i64 p.n) ∧ w7.cell? ⟨wr.heap.size, 2, none⟩ = some (.slice A5 p.signs.length c5) := ⟨(g7.cellOut (p := ⟨wr.heap.size, 0, none⟩) (by simp only; omega) (fun hq => by have := (HO4.out.rng _ hq).2; simp only at this; omega)).trans hS.1, (g7.cellOut (p := ⟨wr.heap.size, 1, none⟩) (by simp only; omega) (fun hq => by have := (HO4.out.rng _ hq).2; simp only at this; omega)).trans hS.2.1, (g7.cellOut (p := ⟨wr.heap.size, 2, none⟩) (by simp only; omega) (fun hq => by have := (HO4.out.rng _ hq).2; simp only at this; omega)).trans hS.2.2⟩
   refine hK.out _ _ hS1 (fun hS => ?_)
   clear hK K hS1
   try simp only [Act.put, pa, pb, pc]
   refine tk (v := .slice A7 (j + 1) c7) 12 3 rfl (fun w' hS' => ?_) (by assumption) ?_
   ·(try dsimp only at hS'); go_simp
   try simp only [Act.put, pa, pb, pc]
   refine wpAnyH_done (by kernel_rfl) ?_ _
   have O7 := Lib.hid (show OwB w.heap.size w7.heap.size w7 (encPs (ps.take (j + 1))) (.slice A7 (j + 1) c7) b7 by rw [HT.out]; rw [e1] at o7; unfold encPs; rw [List.map_append]; exact o7)
   have d7 := d4.trans bl7
   clear o7 hS
   go_wp2
   go_roundw
   case rel => exact ⟨j + 1, A7, c7, b7, by omega, by go_num, rfl, O7.out, d7⟩
   case measure => simp [intOf]; omega
  ·obtain rfl : j = ps.length := by omega
   have k1 := HO.out
   rw [List.take_length] at k1
   have K1 := Lib.hid k1
   clear k1
   go_wp2
   go_ret
   exact ⟨_, rfl, ⟨bs, K1.out.ow, K1.out.nd, K1.out.rng, Nat.le_refl _, K1.out.le⟩, hbel⟩
def opsSinceT (x : Do) (r : Int) : List (List Pt) := if textAtB x r = true then (x.list.drop (r - x.from_).toNat).map En.o else []
theorem opsSince_f {x : Do} {r : Int} (h : textAtB x r = false) : textAtB x r = false ∧ opsSinceT x r = [] := ⟨h, by unfold opsSinceT; rw [h]; rfl⟩
theorem opsSince_small {x : Do} {r : Int} (hs : SmDo x) : SmQ (opsSinceT x r) := by
 unfold opsSinceT
 have hl := hs.list.len
 split
 ·refine ⟨by simp; omega, fun ps hp => ?_⟩
  obtain ⟨e, he, rfl⟩ := List.mem_map.1 hp
  exact (hs.list.at_ (List.mem_of_mem_drop he)).o
 ·exact ⟨by simp, fun ps hp => by simp at hp⟩
theorem pssInfo : (Tryz.prog.info? 57).map (fun i => (i.zero, i.size, i.bytes)) = some (some (.slice none 0 0), 1, 24) := by kernel_rfl
theorem specOpsSince_d (v : Value) (x : Do) (r : Int) (w : World) (h : RdC w w.heap.size (datDo x) v) (hs : SmDo x) : Calls Tryz.prog 25 #[v, .int .i64 r] w (ResB (encPss (opsSinceT x r)) (textAtB x r) w) := by
 have HR := Lib.hid h
 obtain ⟨A2, c2, A3, c3, A4, c4, rfl, r2, r3, r4⟩ := aggDo h
 have hl3 := hs.list.len
 have b0 := alloc_below w (.cells #[.string x.name, .int .i64 x.from_, .slice A2 x.text.length c2, .slice A3 x.list.length c3, .slice A4 x.seen.length c4] 32)
 have bx := Bx.new w #[.string x.name, .int .i64 x.from_, .slice A2 x.text.length c2, .slice A3 x.list.length c3, .slice A4 x.seen.length c4] 32
 cases hd : docB x
 ·have HN := Lib.hid (show textAtB x r = false ∧ opsSinceT x r = [] from opsSince_f (by unfold textAtB; rw [hd]; rfl))
  go_enter Tryz.func25, Tryz.ntmps25
  go_wp2
  generalize w.alloc (.cells #[.string x.name, .int .i64 x.from_, .slice A2 x.text.length c2, .slice A3 x.list.length c3, .slice A4 x.seen.length c4] 32) = W1 at b0 bx ⊢
  have y0 : W1.cell? ⟨w.heap.size, 0, none⟩ = some (.string x.name) := bx.cell rfl
  have y1 : W1.cell? ⟨w.heap.size, 1, none⟩ = some (.int .i64 x.from_) := bx.cell rfl
  have y2 : W1.cell? ⟨w.heap.size, 2, none⟩ = some (.slice A2 x.text.length c2) := bx.cell rfl
  have y3 : W1.cell? ⟨w.heap.size, 3, none⟩ = some (.slice A3 x.list.length c3) := bx.cell rfl
  have y4 : W1.cell? ⟨w.heap.size, 4, none⟩ = some (.slice A4 x.seen.length c4) := bx.cell rfl
  have lD := bx.lt
  have SX := Lib.hid (show ∀ (W W' : World), (W.cell? ⟨w.heap.size, 0, none⟩ = some (.string x.name) ∧ W.cell? ⟨w.heap.size, 1, none⟩ = some (.int .i64 x.from_) ∧ W.cell? ⟨w.heap.size, 2, none⟩ = some (.slice A2 x.text.length c2) ∧ W.cell? ⟨w.heap.size, 3, none⟩ = some (.slice A3 x.list.length c3) ∧ W.cell? ⟨w.heap.size, 4, none⟩ = some (.slice A4 x.seen.length c4) ∧ KS W1 W) → Below W.heap.size W W' → (W'.cell? ⟨w.heap.size, 0, none⟩ = some (.string x.name) ∧ W'.cell? ⟨w.heap.size, 1, none⟩ = some (.int .i64 x.from_) ∧ W'.cell? ⟨w.heap.size, 2, none⟩ = some (.slice A2 x.text.length c2) ∧ W'.cell? ⟨w.heap.size, 3, none⟩ = some (.slice A3 x.list.length c3) ∧ W'.cell? ⟨w.heap.size, 4, none⟩ = some (.slice A4 x.seen.length c4) ∧ KS W1 W') from fun W W' h hb => by have hk := h.2.2.2.2.2; have hkk : KS W1 W' := hk.trans (hb.mono hk.size); exact ⟨(hkk.cell (p := ⟨w.heap.size, 0, none⟩) lD).trans y0, (hkk.cell (p := ⟨w.heap.size, 1, none⟩) lD).trans y1, (hkk.cell (p := ⟨w.heap.size, 2, none⟩) lD).trans y2, (hkk.cell (p := ⟨w.heap.size, 3, none⟩) lD).trans y3, (hkk.cell (p := ⟨w.heap.size, 4, none⟩) lD).trans y4, hkk⟩)
  have RD := Lib.hid (show ∀ W : World, (W.cell? ⟨w.heap.size, 0, none⟩ = some (.string x.name) ∧ W.cell? ⟨w.heap.size, 1, none⟩ = some (.int .i64 x.from_) ∧ W.cell? ⟨w.heap.size, 2, none⟩ = some (.slice A2 x.text.length c2) ∧ W.cell? ⟨w.heap.size, 3, none⟩ = some (.slice A3 x.list.length c3) ∧ W.cell? ⟨w.heap.size, 4, none⟩ = some (.slice A4 x.seen.length c4) ∧ KS W1 W) → RdC W W.heap.size (datDo x) (.agg #[.string x.name, .int .i64 x.from_, .slice A2 x.text.length c2, .slice A3 x.list.length c3, .slice A4 x.seen.length c4]) from fun W h => by have hk : Below W1.heap.size W1 W := h.2.2.2.2.2; exact (HR.out.past b0).past hk)
  have hS0 : W1.drew.cell? ⟨w.heap.size, 0, none⟩ = some (.string x.name) ∧ W1.drew.cell? ⟨w.heap.size, 1, none⟩ = some (.int .i64 x.from_) ∧ W1.drew.cell? ⟨w.heap.size, 2, none⟩ = some (.slice A2 x.text.length c2) ∧ W1.drew.cell? ⟨w.heap.size, 3, none⟩ = some (.slice A3 x.list.length c3) ∧ W1.drew.cell? ⟨w.heap.size, 4, none⟩ = some (.slice A4 x.seen.length c4) ∧ KS W1 W1.drew := ⟨y0, y1, y2, y3, y4, KS.start _⟩
  clear y0 y1 y2 y3 y4
  refine wp_region_held_drew (S := fun W => W.cell? ⟨w.heap.size, 0, none⟩ = some (.string x.name) ∧ W.cell? ⟨w.heap.size, 1, none⟩ = some (.int .i64 x.from_) ∧ W.cell? ⟨w.heap.size, 2, none⟩ = some (.slice A2 x.text.length c2) ∧ W.cell? ⟨w.heap.size, 3, none⟩ = some (.slice A3 x.list.length c3) ∧ W.cell? ⟨w.heap.size, 4, none⟩ = some (.slice A4 x.seen.length c4) ∧ KS W1 W) (by kernel_rfl) hS0 (fun hS => ?_)
  refine tk (v := .agg #[.string x.name, .int .i64 x.from_, .slice A2 x.text.length c2, .slice A3 x.list.length c3, .slice A4 x.seen.length c4]) 0 9 rfl (fun w' hS' => ?_) (by assumption) ?_
  ·(try dsimp only at hS'); go_simp
  try simp only [Act.put, pa, pb, pc]
  refine r1 1 (some 10) rfl (fun K hK => ?_)
  go_simp
  refine (specDocOk_d _ x _ (RD.out _ (by assumption)) hs).mono ?_
  rw [hd]
  rintro e w2 ⟨rfl, b2⟩
  refine hK.out _ _ (SX.out _ _ (by assumption) b2) (fun hS => ?_)
  clear hK K
  try simp only [Act.put, pa, pb, pc]
  refine tk (v := .bool true) 2 11 rfl (fun w' hS' => ?_) (by assumption) ?_
  ·(try dsimp only at hS'); go_simp
  try simp only [Act.put, pa, pb, pc]
  refine tk (v := .bool true) 3 12 rfl (fun w' hS' => ?_) (by assumption) ?_
  ·(try dsimp only at hS'); go_simp
  try simp only [Act.put, pa, pb, pc]
  refine tu 4 13 rfl (by assumption) ?_
  try simp only [Act.put, pa, pb, pc]
  refine tu 5 14 rfl (by assumption) ?_
  try simp only [Act.put, pa, pb, pc]
  refine tu 6 15 rfl (by assumption) ?_
  try simp only [Act.put, pa, pb, pc]
  refine tu 7 16 rfl (by assumption) ?_
  try simp only [Act.put, pa, pb, pc]
  refine tu 8 17 rfl (by assumption) ?_
  try simp only [Act.put, pa, pb, pc]
  refine tu 9 18 rfl (by assumption) ?_
  try simp only [Act.put, pa, pb, pc]
  refine tu 10 19 rfl (by assumption) ?_
  try simp only [Act.put, pa, pb, pc]
  refine tk (v := .bool true) 11 20 rfl (fun w' hS' => ?_) (by assumption) ?_
  ·(try dsimp only at hS'); go_simp
  try simp only [Act.put, pa, pb, pc]
  refine wpAnyH_done (by kernel_rfl) ?_ _
  have HK : Below w.heap.size w _ := b0.trans (hS.2.2.2.2.2.mono b0.size)
  have HKH := Lib.hid HK
  clear hS SX RD HK
  go_wp2
  go_ret2
  rw [HN.out.1, HN.out.2]
  exact ⟨_, rfl, nilOwn _ _ rfl HKH.out.size, HKH.out⟩
 cases hi : inB r x.from_ (headRevT x)
 ·have HN := Lib.hid (show textAtB x r = false ∧ opsSinceT x r = [] from opsSince_f (by unfold textAtB; rw [hd, hi]; rfl))
  go_enter Tryz.func25, Tryz.ntmps25
  go_wp2
  generalize w.alloc (.cells #[.string x.name, .int .i64 x.from_, .slice A2 x.text.length c2, .slice A3 x.list.length c3, .slice A4 x.seen.length c4] 32) = W1 at b0 bx ⊢
  have y0 : W1.cell? ⟨w.heap.size, 0, none⟩ = some (.string x.name) := bx.cell rfl
  have y1 : W1.cell? ⟨w.heap.size, 1, none⟩ = some (.int .i64 x.from_) := bx.cell rfl
  have y2 : W1.cell? ⟨w.heap.size, 2, none⟩ = some (.slice A2 x.text.length c2) := bx.cell rfl
  have y3 : W1.cell? ⟨w.heap.size, 3, none⟩ = some (.slice A3 x.list.length c3) := bx.cell rfl
  have y4 : W1.cell? ⟨w.heap.size, 4, none⟩ = some (.slice A4 x.seen.length c4) := bx.cell rfl
  have lD := bx.lt
  have SX := Lib.hid (show ∀ (W W' : World), (W.cell? ⟨w.heap.size, 0, none⟩ = some (.string x.name) ∧ W.cell? ⟨w.heap.size, 1, none⟩ = some (.int .i64 x.from_) ∧ W.cell? ⟨w.heap.size, 2, none⟩ = some (.slice A2 x.text.length c2) ∧ W.cell? ⟨w.heap.size, 3, none⟩ = some (.slice A3 x.list.length c3) ∧ W.cell? ⟨w.heap.size, 4, none⟩ = some (.slice A4 x.seen.length c4) ∧ KS W1 W) → Below W.heap.size W W' → (W'.cell? ⟨w.heap.size, 0, none⟩ = some (.string x.name) ∧ W'.cell? ⟨w.heap.size, 1, none⟩ = some (.int .i64 x.from_) ∧ W'.cell? ⟨w.heap.size, 2, none⟩ = some (.slice A2 x.text.length c2) ∧ W'.cell? ⟨w.heap.size, 3, none⟩ = some (.slice A3 x.list.length c3) ∧ W'.cell? ⟨w.heap.size, 4, none⟩ = some (.slice A4 x.seen.length c4) ∧ KS W1 W') from fun W W' h hb => by have hk := h.2.2.2.2.2; have hkk : KS W1 W' := hk.trans (hb.mono hk.size); exact ⟨(hkk.cell (p := ⟨w.heap.size, 0, none⟩) lD).trans y0, (hkk.cell (p := ⟨w.heap.size, 1, none⟩) lD).trans y1, (hkk.cell (p := ⟨w.heap.size, 2, none⟩) lD).trans y2, (hkk.cell (p := ⟨w.heap.size, 3, none⟩) lD).trans y3, (hkk.cell (p := ⟨w.heap.size, 4, none⟩) lD).trans y4, hkk⟩)
  have RD := Lib.hid (show ∀ W : World, (W.cell? ⟨w.heap.size, 0, none⟩ = some (.string x.name) ∧ W.cell? ⟨w.heap.size, 1, none⟩ = some (.int .i64 x.from_) ∧ W.cell? ⟨w.heap.size, 2, none⟩ = some (.slice A2 x.text.length c2) ∧ W.cell? ⟨w.heap.size, 3, none⟩ = some (.slice A3 x.list.length c3) ∧ W.cell? ⟨w.heap.size, 4, none⟩ = some (.slice A4 x.seen.length c4) ∧ KS W1 W) → RdC W W.heap.size (datDo x) (.agg #[.string x.name, .int .i64 x.from_, .slice A2 x.text.length c2, .slice A3 x.list.length c3, .slice A4 x.seen.length c4]) from fun W h => by have hk : Below W1.heap.size W1 W := h.2.2.2.2.2; exact (HR.out.past b0).past hk)
  have hS0 : W1.drew.cell? ⟨w.heap.size, 0, none⟩ = some (.string x.name) ∧ W1.drew.cell? ⟨w.heap.size, 1, none⟩ = some (.int .i64 x.from_) ∧ W1.drew.cell? ⟨w.heap.size, 2, none⟩ = some (.slice A2 x.text.length c2) ∧ W1.drew.cell? ⟨w.heap.size, 3, none⟩ = some (.slice A3 x.list.length c3) ∧ W1.drew.cell? ⟨w.heap.size, 4, none⟩ = some (.slice A4 x.seen.length c4) ∧ KS W1 W1.drew := ⟨y0, y1, y2, y3, y4, KS.start _⟩
  clear y0 y1 y2 y3 y4
  refine wp_region_held_drew (S := fun W => W.cell? ⟨w.heap.size, 0, none⟩ = some (.string x.name) ∧ W.cell? ⟨w.heap.size, 1, none⟩ = some (.int .i64 x.from_) ∧ W.cell? ⟨w.heap.size, 2, none⟩ = some (.slice A2 x.text.length c2) ∧ W.cell? ⟨w.heap.size, 3, none⟩ = some (.slice A3 x.list.length c3) ∧ W.cell? ⟨w.heap.size, 4, none⟩ = some (.slice A4 x.seen.length c4) ∧ KS W1 W) (by kernel_rfl) hS0 (fun hS => ?_)
  refine tk (v := .agg #[.string x.name, .int .i64 x.from_, .slice A2 x.text.length c2, .slice A3 x.list.length c3, .slice A4 x.seen.length c4]) 0 9 rfl (fun w' hS' => ?_) (by assumption) ?_
  ·(try dsimp only at hS'); go_simp
  try simp only [Act.put, pa, pb, pc]
  refine r1 1 (some 10) rfl (fun K hK => ?_)
  go_simp
  refine (specDocOk_d _ x _ (RD.out _ (by assumption)) hs).mono ?_
  rw [hd]
  rintro e w2 ⟨rfl, b2⟩
  refine hK.out _ _ (SX.out _ _ (by assumption) b2) (fun hS => ?_)
  clear hK K
  try simp only [Act.put, pa, pb, pc]
  refine tk (v := .bool false) 2 11 rfl (fun w' hS' => ?_) (by assumption) ?_
  ·(try dsimp only at hS'); go_simp
  try simp only [Act.put, pa, pb, pc]
  refine tk (v := .bool false) 3 12 rfl (fun w' hS' => ?_) (by assumption) ?_
  ·(try dsimp only at hS'); go_simp
  try simp only [Act.put, pa, pb, pc]
  refine tk (v := .int .i64 r) 4 13 rfl (fun w' hS' => ?_) (by assumption) ?_
  ·(try dsimp only at hS'); go_simp
  try simp only [Act.put, pa, pb, pc]
  refine tk (v := .pointer (some ⟨w.heap.size, 1, none⟩)) 5 14 rfl (fun w' hS' => ?_) (by assumption) ?_
  ·(try dsimp only at hS'); go_simp
  try simp only [Act.put, pa, pb, pc]
  refine tk (v := .int .i64 x.from_) 6 15 rfl (fun w' hS' => ?_) (by assumption) ?_
  ·(try dsimp only at hS'); go_simp
  try simp only [Act.put, pa, pb, pc]
  refine tk (v := .agg #[.string x.name, .int .i64 x.from_, .slice A2 x.text.length c2, .slice A3 x.list.length c3, .slice A4 x.seen.length c4]) 7 16 rfl (fun w' hS' => ?_) (by assumption) ?_
  ·(try dsimp only at hS'); go_simp
  try simp only [Act.put, pa, pb, pc]
  refine r1 8 (some 17) rfl (fun K hK => ?_)
  go_simp
  refine (specHeadRev_d _ x _ (RD.out _ (by assumption)) hs).mono ?_
  rintro e w3 ⟨rfl, b3⟩
  refine hK.out _ _ (SX.out _ _ (by assumption) b3) (fun hS => ?_)
  clear hK K
  try simp only [Act.put, pa, pb, pc]
  refine r1 9 (some 18) rfl (fun K hK => ?_)
  go_simp
  refine (in_any _ _ _ _).mono ?_
  rw [hi]
  rintro e w4 ⟨rfl, rfl⟩
  refine hK.out _ _ (by assumption) (fun hS => ?_)
  clear hK K
  try simp only [Act.put, pa, pb, pc]
  refine tk (v := .bool true) 10 19 rfl (fun w' hS' => ?_) (by assumption) ?_
  ·(try dsimp only at hS'); go_simp
  try simp only [Act.put, pa, pb, pc]
  refine tk (v := .bool true) 11 20 rfl (fun w' hS' => ?_) (by assumption) ?_
  ·(try dsimp only at hS'); go_simp
  try simp only [Act.put, pa, pb, pc]
  refine wpAnyH_done (by kernel_rfl) ?_ _
  have HK : Below w.heap.size w _ := b0.trans (hS.2.2.2.2.2.mono b0.size)
  have HKH := Lib.hid HK
  clear hS SX RD HK
  go_wp2
  go_ret2
  rw [HN.out.1, HN.out.2]
  exact ⟨_, rfl, nilOwn _ _ rfl HKH.out.size, HKH.out⟩
 obtain ⟨f0, f1, f2, f3⟩ := docB_of hd
 have hi1 := of_decide_eq_true hi
 rw [f3] at hi1
 clear f3
 obtain ⟨m, hm⟩ : ∃ m : Nat, r = x.from_ + (m : Int) := ⟨(r - x.from_).toNat, by omega⟩
 subst hm
 have hm1 : m ≤ x.list.length := by omega
 have hc3 : x.list.length ≤ c3 := by obtain ⟨A, c, e, hc⟩ := RdC.len r3; injection e with _ _ e3; subst e3; simpa using hc
 have g1 : x.from_ + (m : Int) - x.from_ = (m : Int) := by omega
 have g2 : (m : Int) ≤ (x.list.length : Int) := by omega
 have HN := Lib.hid (show textAtB x (x.from_ + (m : Int)) = true ∧ opsSinceT x (x.from_ + (m : Int)) = (x.list.drop m).map En.o by have e1 : textAtB x (x.from_ + (m : Int)) = true := by { unfold textAtB; rw [hd, hi]; rfl }; exact ⟨e1, by unfold opsSinceT; rw [if_pos e1]; congr 2; omega⟩)
 go_enter Tryz.func25, Tryz.ntmps25
 go_wp2
 generalize w.alloc (.cells #[.string x.name, .int .i64 x.from_, .slice A2 x.text.length c2, .slice A3 x.list.length c3, .slice A4 x.seen.length c4] 32) = W1 at b0 bx ⊢
 have y0 : W1.cell? ⟨w.heap.size, 0, none⟩ = some (.string x.name) := bx.cell rfl
 have y1 : W1.cell? ⟨w.heap.size, 1, none⟩ = some (.int .i64 x.from_) := bx.cell rfl
 have y2 : W1.cell? ⟨w.heap.size, 2, none⟩ = some (.slice A2 x.text.length c2) := bx.cell rfl
 have y3 : W1.cell? ⟨w.heap.size, 3, none⟩ = some (.slice A3 x.list.length c3) := bx.cell rfl
 have y4 : W1.cell? ⟨w.heap.size, 4, none⟩ = some (.slice A4 x.seen.length c4) := bx.cell rfl
 have lD := bx.lt
 have SX := Lib.hid (show ∀ (W W' : World), (W.cell? ⟨w.heap.size, 0, none⟩ = some (.string x.name) ∧ W.cell? ⟨w.heap.size, 1, none⟩ = some (.int .i64 x.from_) ∧ W.cell? ⟨w.heap.size, 2, none⟩ = some (.slice A2 x.text.length c2) ∧ W.cell? ⟨w.heap.size, 3, none⟩ = some (.slice A3 x.list.length c3) ∧ W.cell? ⟨w.heap.size, 4, none⟩ = some (.slice A4 x.seen.length c4) ∧ KS W1 W) → Below W.heap.size W W' → (W'.cell? ⟨w.heap.size, 0, none⟩ = some (.string x.name) ∧ W'.cell? ⟨w.heap.size, 1, none⟩ = some (.int .i64 x.from_) ∧ W'.cell? ⟨w.heap.size, 2, none⟩ = some (.slice A2 x.text.length c2) ∧ W'.cell? ⟨w.heap.size, 3, none⟩ = some (.slice A3 x.list.length c3) ∧ W'.cell? ⟨w.heap.size, 4, none⟩ = some (.slice A4 x.seen.length c4) ∧ KS W1 W') from fun W W' h hb => by have hk := h.2.2.2.2.2; have hkk : KS W1 W' := hk.trans (hb.mono hk.size); exact ⟨(hkk.cell (p := ⟨w.heap.size, 0, none⟩) lD).trans y0, (hkk.cell (p := ⟨w.heap.size, 1, none⟩) lD).trans y1, (hkk.cell (p := ⟨w.heap.size, 2, none⟩) lD).trans y2, (hkk.cell (p := ⟨w.heap.size, 3, none⟩) lD).trans y3, (hkk.cell (p := ⟨w.heap.size, 4, none⟩) lD).trans y4, hkk⟩)
 have RD := Lib.hid (show ∀ W : World, (W.cell? ⟨w.heap.size, 0, none⟩ = some (.string x.name) ∧ W.cell? ⟨w.heap.size, 1, none⟩ = some (.int .i64 x.from_) ∧ W.cell? ⟨w.heap.size, 2, none⟩ = some (.slice A2 x.text.length c2) ∧ W.cell? ⟨w.heap.size, 3, none⟩ = some (.slice A3 x.list.length c3) ∧ W.cell? ⟨w.heap.size, 4, none⟩ = some (.slice A4 x.seen.length c4) ∧ KS W1 W) → RdC W W.heap.size (datDo x) (.agg #[.string x.name, .int .i64 x.from_, .slice A2 x.text.length c2, .slice A3 x.list.length c3, .slice A4 x.seen.length c4]) from fun W h => by have hk : Below W1.heap.size W1 W := h.2.2.2.2.2; exact (HR.out.past b0).past hk)
 have hS0 : W1.drew.cell? ⟨w.heap.size, 0, none⟩ = some (.string x.name) ∧ W1.drew.cell? ⟨w.heap.size, 1, none⟩ = some (.int .i64 x.from_) ∧ W1.drew.cell? ⟨w.heap.size, 2, none⟩ = some (.slice A2 x.text.length c2) ∧ W1.drew.cell? ⟨w.heap.size, 3, none⟩ = some (.slice A3 x.list.length c3) ∧ W1.drew.cell? ⟨w.heap.size, 4, none⟩ = some (.slice A4 x.seen.length c4) ∧ KS W1 W1.drew := ⟨y0, y1, y2, y3, y4, KS.start _⟩
 clear y0 y1 y2 y3 y4
 refine wp_region_held_drew (S := fun W => W.cell? ⟨w.heap.size, 0, none⟩ = some (.string x.name) ∧ W.cell? ⟨w.heap.size, 1, none⟩ = some (.int .i64 x.from_) ∧ W.cell? ⟨w.heap.size, 2, none⟩ = some (.slice A2 x.text.length c2) ∧ W.cell? ⟨w.heap.size, 3, none⟩ = some (.slice A3 x.list.length c3) ∧ W.cell? ⟨w.heap.size, 4, none⟩ = some (.slice A4 x.seen.length c4) ∧ KS W1 W) (by kernel_rfl) hS0 (fun hS => ?_)
 refine tk (v := .agg #[.string x.name, .int .i64 x.from_, .slice A2 x.text.length c2, .slice A3 x.list.length c3, .slice A4 x.seen.length c4]) 0 9 rfl (fun w' hS' => ?_) (by assumption) ?_
 ·(try dsimp only at hS'); go_simp
 try simp only [Act.put, pa, pb, pc]
 refine r1 1 (some 10) rfl (fun K hK => ?_)
 go_simp
 refine (specDocOk_d _ x _ (RD.out _ (by assumption)) hs).mono ?_
 rw [hd]
 rintro e w2 ⟨rfl, b2⟩
 refine hK.out _ _ (SX.out _ _ (by assumption) b2) (fun hS => ?_)
 clear hK K
 try simp only [Act.put, pa, pb, pc]
 refine tk (v := .bool false) 2 11 rfl (fun w' hS' => ?_) (by assumption) ?_
 ·(try dsimp only at hS'); go_simp
 try simp only [Act.put, pa, pb, pc]
 refine tk (v := .bool false) 3 12 rfl (fun w' hS' => ?_) (by assumption) ?_
 ·(try dsimp only at hS'); go_simp
 try simp only [Act.put, pa, pb, pc]
 refine tk (v := .int .i64 (x.from_ + (m : Int))) 4 13 rfl (fun w' hS' => ?_) (by assumption) ?_
 ·(try dsimp only at hS'); go_simp
 try simp only [Act.put, pa, pb, pc]
 refine tk (v := .pointer (some ⟨w.heap.size, 1, none⟩)) 5 14 rfl (fun w' hS' => ?_) (by assumption) ?_
 ·(try dsimp only at hS'); go_simp
 try simp only [Act.put, pa, pb, pc]
 refine tk (v := .int .i64 x.from_) 6 15 rfl (fun w' hS' => ?_) (by assumption) ?_
 ·(try dsimp only at hS'); go_simp
 try simp only [Act.put, pa, pb, pc]
 refine tk (v := .agg #[.string x.name, .int .i64 x.from_, .slice A2 x.text.length c2, .slice A3 x.list.length c3, .slice A4 x.seen.length c4]) 7 16 rfl (fun w' hS' => ?_) (by assumption) ?_
 ·(try dsimp only at hS'); go_simp
 try simp only [Act.put, pa, pb, pc]
 refine r1 8 (some 17) rfl (fun K hK => ?_)
 go_simp
 refine (specHeadRev_d _ x _ (RD.out _ (by assumption)) hs).mono ?_
 rintro e w3 ⟨rfl, b3⟩
 refine hK.out _ _ (SX.out _ _ (by assumption) b3) (fun hS => ?_)
 clear hK K
 try simp only [Act.put, pa, pb, pc]
 refine r1 9 (some 18) rfl (fun K hK => ?_)
 go_simp
 refine (in_any _ _ _ _).mono ?_
 rw [hi]
 rintro e w4 ⟨rfl, rfl⟩
 refine hK.out _ _ (by assumption) (fun hS => ?_)
 clear hK K
 try simp only [Act.put, pa, pb, pc]
 refine tk (v := .bool false) 10 19 rfl (fun w' hS' => ?_) (by assumption) ?_
 ·(try dsimp only at hS'); go_simp
 try simp only [Act.put, pa, pb, pc]
 refine tk (v := .bool false) 11 20 rfl (fun w' hS' => ?_) (by assumption) ?_
 ·(try dsimp only at hS'); go_simp
 try simp only [Act.put, pa, pb, pc]
 refine wpAnyH_done (by kernel_rfl) ?_ _
 have HK : Below w.heap.size w _ := b0.trans (hS.2.2.2.2.2.mono b0.size)
 obtain ⟨y0, y1, y2, y3, y4, hks⟩ := hS
 have lD2 : w.heap.size < w3.heap.size := Nat.lt_of_lt_of_le lD hks.size
 have HKH := Lib.hid HK
 clear SX RD hks hd hi
 by_cases hlast : m = x.list.length
 ·subst hlast
  have HN2 := Lib.hid (show (x.list.drop x.list.length).map En.o = [] by simp)
  have ob : OwB w.heap.size (w3.heap.size + 1) (w3.alloc (.cells #[] 57)) (encPss []) (.slice (some ⟨w3.heap.size, 0, none⟩) 0 0) [w3.heap.size] := ⟨⟨[], [], ⟨rfl, .inr ⟨w3.heap.size, 0, #[], rfl, Nat.zero_le _, heap_alloc_new w3 _, Nat.le_refl _, by unfold maxLen; omega, rfl, rfl⟩⟩, ⟨rfl, rfl⟩, rfl⟩, by simp, fun q hq => by simp at hq; omega, by rw [World.size_alloc]; exact Nat.le_refl _, by omega⟩
  have bZ := HKH.out.trans ((alloc_below w3 (.cells #[] 57)).mono HKH.out.size)
  have zZ : (w3.alloc (.cells #[] 57)).heap.size = w3.heap.size + 1 := World.size_alloc _ _
  rw [← zZ] at ob
  have OB := Lib.hid ob
  clear ob
  by_cases hcap : x.list.length = c3
  ·go_wp2
   refine wp_loop_rounds 1 ?_
   rw [rounds_succ]
   go_wp2
   go_ret2
   rw [HN.out.1, HN.out.2, HN2.out]
   exact ⟨_, rfl, ⟨_, OB.out.ow, OB.out.nd, OB.out.rng, Nat.le_refl _, OB.out.le⟩, bZ⟩
  ·go_wp2
   refine wp_loop_rounds 1 ?_
   rw [rounds_succ]
   go_wp2
   go_ret2
   rw [HN.out.1, HN.out.2, HN2.out]
   exact ⟨_, rfl, ⟨_, OB.out.ow, OB.out.nd, OB.out.rng, Nat.le_refl _, OB.out.le⟩, bZ⟩
 ·have hlt : m < x.list.length := by omega
  obtain ⟨b, off, e0, A50, c50, rfl, _, _, _⟩ := atEns r3 hlt
  have g3 : ¬ m = c3 := by omega
  obtain ⟨i0, hi0, hz0, hz1, hz2⟩ := info_parts pssInfo
  obtain ⟨n, hn⟩ : ∃ n, n = x.list.length - m := ⟨_, rfl⟩
  have ob : OwB w.heap.size (w3.heap.size + 1) (w3.alloc (.cells #[] 57)) (encPss []) (.slice (some ⟨w3.heap.size, 0, none⟩) 0 0) [w3.heap.size] := ⟨⟨[], [], ⟨rfl, .inr ⟨w3.heap.size, 0, #[], rfl, Nat.zero_le _, heap_alloc_new w3 _, Nat.le_refl _, by unfold maxLen; omega, rfl, rfl⟩⟩, ⟨rfl, rfl⟩, rfl⟩, by simp, fun q hq => by simp at hq; omega, by rw [World.size_alloc]; exact Nat.le_refl _, by omega⟩
  have bZ := HKH.out.trans ((alloc_below w3 (.cells #[] 57)).mono HKH.out.size)
  have zZ : (w3.alloc (.cells #[] 57)).heap.size = w3.heap.size + 1 := World.size_alloc _ _
  rw [← zZ] at ob
  have OB := Lib.hid ob
  clear ob
  go_wp2
  rw [← hn]
  have hn1 : n + m ≤ x.list.length := by omega
  have hn2 : x.list.length ≤ n + m := by omega
  clear hn
  clear g1 g2 g3 y0 y1 y2 y3 y4
  go_loopw [6, 30] (fun ov i wr => ∃ (j : Nat) (A1 : Option Addr) (c1 : Nat) (bs : List Nat), j ≤ n ∧ i = .int .i64 (j : Int) ∧ ov = .slice A1 j c1 ∧ OwB w.heap.size wr.heap.size wr (encPss (((x.list.drop m).take j).map En.o)) ov bs ∧ Below w.heap.size w wr) (fun _ i _ => n - (intOf i).toNat)
  case atStart => exact ⟨0, _, _, _, Nat.zero_le _, rfl, rfl, OB.out, bZ⟩
  case round =>
   obtain ⟨j, A1, c1, bs, hj, rfl, rfl, ho, hbel⟩ := hrel
   clear OB bZ zZ
   have HO := Lib.hid ho
   clear ho
   by_cases hjl : j < n
   ·obtain ⟨b', off', e, A5, c5, e1, hbb, hp, x0, x1, x2, q2⟩ := atEns (r3.below hbel) (i := m + j) (by omega)
    obtain ⟨rfl, rfl⟩ : b = b' ∧ off = off' := by injection e1 with e1; injection e1 with e1 e2; exact ⟨e1, e2⟩
    clear e1
    rw [Nat.add_mul, ← Nat.add_assoc] at x0 x1 x2
    have hse := hs.list.at_ (List.mem_of_getElem? hp)
    have HT := Lib.hid (show ((x.list.drop m).take (j + 1)).map En.o = ((x.list.drop m).take j).map En.o ++ [e.o] by rw [List.take_add_one, List.getElem?_drop, hp]; simp)
    clear hp
    have bA := alloc_below wr (.cells #[.int .i64 e.client, .int .i64 e.seq, .slice A5 e.o.length c5] 59)
    have q2 := RdC.more hbel.size _ _ q2
    have HO1 := Lib.hid (HO.out.past bA)
    have zA : (wr.alloc (.cells #[.int .i64 e.client, .int .i64 e.seq, .slice A5 e.o.length c5] 59)).heap.size = wr.heap.size + 1 := World.size_alloc _ _
    go_wp2_with fail
    generalize wr.alloc (.cells #[.int .i64 e.client, .int .i64 e.seq, .slice A5 e.o.length c5] 59) = W2 at bA HO1 zA ⊢
    refine (specCopy_d _ e.o _ (q2.past bA) hse.o).mono ?_
    rintro e_ w5 ⟨v5, rfl, o5, b5⟩
    obtain ⟨A6, c6, rfl⟩ := sliceP o5.read
    obtain ⟨kx, ox⟩ := o5.blocks
    have z5 := b5.size
    have d5 := hbel.trans ((bA.trans (b5.mono bA.size)).mono hbel.size)
    have bB := alloc_below w5 (.cells #[.slice A6 e.o.length c6] 57)
    have HO2 := Lib.hid ((HO1.out.past b5).past bB)
    have HX := Lib.hid (ox.past bB)
    have HNW := Lib.hid (World.news_of_block (cs := #[.slice A6 e.o.length c6]) (t := 57) (fr := (0, 0)) (heap_alloc_new w5 (.cells #[.slice A6 e.o.length c6] 57)))
    have d6 := d5.trans (bB.mono d5.size)
    have e1 : ((((x.list.drop m).take j).map En.o).map fun ps => [encPs ps]).length = j := by simp; omega
    clear ox o5 b5 bB
    go_wp2_with (at_builtin; refine wpList_append_row rfl (.tmp 34) (.tmp 38) 47 rfl 57 i0 (.slice none 0 0) 1 24 Tryz.underlying47 hi0 hz0 hz1 hz2 rfl (by decide) (by decide) w.heap.size _ (.slice A1 j c1) ((((x.list.drop m).take j).map En.o).map fun ps => [encPs ps]) bs HO2.out rfl (by rw [e1]; omega) ⟨w5.heap.size, 0, none⟩ _ [.slice A6 e.o.length c6] rfl rfl HNW.out (by simp [Value.oneCell']) [encPs e.o] kx HX.out.ow.row1 HX.out.nd (fun q hq hq' => by have q1 := (HO2.out.rng q hq).2; have q2 := (HX.out.rng q hq').1; omega) (fun q hq => by have q2 := (HX.out.rng q hq).1; have := hbel.size; omega) ?_; intro A7 c7 w7 b7 o7 in7 g7 bl7; rw [e1])
    have O7 := Lib.hid (show OwB w.heap.size w7.heap.size w7 (encPss (((x.list.drop m).take (j + 1)).map En.o)) (.slice A7 (j + 1) c7) b7 by rw [HT.out]; rw [e1] at o7; unfold encPss; rw [List.map_append]; exact o7)
    have d7 := d6.trans bl7
    clear o7 in7 g7 bl7
    go_wp2
    go_roundw
    case rel => exact ⟨j + 1, A7, c7, b7, by omega, by go_num, rfl, O7.out, d7⟩
    case measure => simp [intOf]; omega
   ·obtain rfl : j = n := by omega
    have hE : (x.list.drop m).take j = x.list.drop m := List.take_of_length_le (by rw [List.length_drop]; omega)
    have k1 := HO.out
    rw [hE] at k1
    have K1 := Lib.hid k1
    clear k1
    go_wp2
    go_ret2
    rw [HN.out.1, HN.out.2]
    exact ⟨_, rfl, ⟨bs, K1.out.ow, K1.out.nd, K1.out.rng, Nat.le_refl _, K1.out.le⟩, hbel⟩
end Go.Proofs.YtjbabdkgficjnaaGreat.low
namespace Go.Proofs.YtjbabdkgficjnaaGreat.low
set_option linter.unusedVariables false
end Go.Proofs.YtjbabdkgficjnaaGreat.low
namespace Go.Proofs.YtjbabdkgficjnaaGreat.low
open Go.RowKit
set_option linter.unusedVariables false
theorem implFlush_f (S : Nat → Prop) (lo g : Nat) (ps : List Pt) (put : List Int) (d : Int) (w : World) (hb : BAtS S lo g 131 w ps put d) (hS : ∀ b, w.heap.size ≤ b → S b) (hl : ps.length ≤ 4294967296) (hp : put.length ≤ 4294967296) :
  Calls Tryz.prog 137 #[.pointer (some ⟨g, 0, none⟩)] w (FlushedS S lo g 131 w (ps ++ putL put ++ dropL d)) := by
 obtain ⟨i0, hi0, hz0, hz1, hz2⟩ := info_parts part_info
 obtain ⟨v, u, us, hx, ha, hos⟩ := hb
 have HS := Lib.hid hS
 have HOS := Lib.hid hos
 clear hS hos
 have ha0 := ha.init hx.len
 obtain ⟨A, c, rfl⟩ := own_form (ha.last hx.len)
 have c0 := hx.cell0
 have c1 := hx.cell1
 have c2 := hx.cell2
 have f0 := hx.free 0
 have f1 := hx.free 1
 have f2 := hx.free 2
 have HX := Lib.hid hx
 have HA := Lib.hid ha
 have HA0 := Lib.hid ha0
 clear hx ha ha0
 by_cases hput : put.length = 0
 ·have e1 : putL put = [] := by simp [putL, hput]
  rw [e1, List.append_nil]
  by_cases hd : 0 < d
  ·have e2 : dropL d = [⟨3, d, []⟩] := by simp [dropL, hd]
   rw [e2]
   go_enter Tryz.func137, Tryz.ntmps137
   go_wp2_with fail
   have lg := HX.out.lt
   have hlo : lo ≤ w.heap.size := Nat.le_trans HX.out.low (Nat.le_of_lt lg)
   have hne := own_far HX.out.row HX.out.box (by decide)
   go_region_law ((refine step_append_lies _ (by rfl) (.tmp 31) (.tmp 37) 57 (by rfl) lo 86 i0 _ 3 40 Tryz.underlying57 hi0 hz0 hz1 hz2 rfl (by omega) v ps.length (cellsOf ps us) (by rfl) ((HX.out.row.alloc _).drew) ⟨w.heap.size, 0, none⟩ 1 1 [.int .i64 3, .int .i64 d, .slice none 0 0] (by rfl) (by rfl) (World.news_of_block (cs := #[.int .i64 3, .int .i64 d, .slice none 0 0]) (t := 86) (fr := (0, 0)) (heap_alloc_new w _)) (by simp [Value.oneCell']) (by omega) (by unfold maxLen; omega) (by omega) (by simp; omega) (w.heap.size + 1) (by simp) ?_; intro gg cap w1 hown1 hgrow hat hlt; have hf := free_grown (o := 0) HX.out.box (below_made w _) hgrow hne; have hf1 := free_grown (o := 1) HX.out.box (below_made w _) hgrow hne; have hf2 := free_grown (o := 2) HX.out.box (below_made w _) hgrow hne; have hc : w1.cell? ⟨g, 0, none⟩ = some v := cell_grown 0 HX.out.box (below_made w _) hgrow hne; have hc1 : w1.cell? ⟨g, 1, none⟩ = some (.slice A put.length c) := cell_grown 1 HX.out.box (below_made w _) hgrow hne; have hc2 : w1.cell? ⟨g, 2, none⟩ = some (.int .i64 d) := cell_grown 2 HX.out.box (below_made w _) hgrow hne))
   all_goals
    obtain ⟨hx2, ha2, b2⟩ := Box.push (p := ⟨3, d, []⟩) HX.out (by decide) (by decide) (Apart.bare 3 d HA0.out) (below_made w _) hown1 hgrow
    have HO2 := Lib.hid (HOS.out.init.push (n := ps.length + 1) (cap := cap) nil_own hat (HS.out _ (by omega)))
    have HR2 := Lib.hid (push_fr HOS.out.init (below_made w _) hgrow (.slice (some ⟨gg, 0, none⟩) (ps.length + 1) cap))
    have HX2 := Lib.hid hx2
    have HA2 := Lib.hid ha2
    have HB2 := Lib.hid b2
    clear hx2 ha2 b2
    go_wp2
    go_end0
    obtain ⟨r1, r2, r3⟩ := HX2.out.clearS (by decide) (by decide) HA2.out HO2.out
    exact ⟨rfl, r1, HB2.out.trans r2, HR2.out.trans r3⟩
  ·have e2 : dropL d = [] := by simp [dropL]; omega
   rw [e2, List.append_nil]
   go_enter Tryz.func137, Tryz.ntmps137
   go_wp2_with fail
   go_end0
   obtain ⟨r1, r2, r3⟩ := HX.out.clearS (by decide) (by decide) HA0.out HOS.out.init
   exact ⟨rfl, r1, r2, r3⟩
 ·have hput' : (0 : Int) < (put.length : Int) := by omega
  have e1 : putL put = [⟨2, 0, put⟩] := by simp [putL, hput]
  rw [e1]
  by_cases hd : 0 < d
  ·have e2 : dropL d = [⟨3, d, []⟩] := by simp [dropL, hd]
   rw [e2]
   generalize hQ : ps ++ [⟨2, 0, put⟩] ++ [⟨3, d, []⟩] = Q
   have HQ := Lib.hid hQ
   clear hQ
   go_enter Tryz.func137, Tryz.ntmps137
   go_wp2_with fail
   have lg := HX.out.lt
   have hlo : lo ≤ w.heap.size := Nat.le_trans HX.out.low (Nat.le_of_lt lg)
   have hne := own_far HX.out.row HX.out.box (by decide)
   go_region_law ((refine step_append_lies _ (by rfl) (.tmp 12) (.tmp 18) 57 (by rfl) lo 86 i0 _ 3 40 Tryz.underlying57 hi0 hz0 hz1 hz2 rfl (by omega) v ps.length (cellsOf ps us) (by rfl) ((HX.out.row.alloc _).drew) ⟨w.heap.size, 0, none⟩ 1 1 [.int .i64 2, .int .i64 0, .slice A put.length c] (by rfl) (by rfl) (World.news_of_block (cs := #[.int .i64 2, .int .i64 0, .slice A put.length c]) (t := 86) (fr := (0, 0)) (heap_alloc_new w _)) (by simp [Value.oneCell']) (by omega) (by unfold maxLen; omega) (by omega) (by simp; omega) (w.heap.size + 1) (by simp) ?_; intro gg cap w1 hown1 hgrow hat hlt; have hf := free_grown (o := 0) HX.out.box (below_made w _) hgrow hne; have hf1 := free_grown (o := 1) HX.out.box (below_made w _) hgrow hne; have hf2 := free_grown (o := 2) HX.out.box (below_made w _) hgrow hne; have hc : w1.cell? ⟨g, 0, none⟩ = some v := cell_grown 0 HX.out.box (below_made w _) hgrow hne; have hc1 : w1.cell? ⟨g, 1, none⟩ = some (.slice A put.length c) := cell_grown 1 HX.out.box (below_made w _) hgrow hne; have hc2 : w1.cell? ⟨g, 2, none⟩ = some (.int .i64 d) := cell_grown 2 HX.out.box (below_made w _) hgrow hne))
   all_goals
    obtain ⟨hx1, ha1, b1⟩ := Box.push (p := ⟨2, 0, put⟩) HX.out (by decide) (by decide) HA.out (below_made w _) hown1 hgrow
    have HO1 := Lib.hid (HOS.out.init.push (n := ps.length + 1) (cap := cap) HOS.out.last hat (HS.out _ (by omega)))
    have HR1 := Lib.hid (push_fr HOS.out.init (below_made w _) hgrow (.slice (some ⟨gg, 0, none⟩) (ps.length + 1) cap))
    clear hown1 hgrow hat hlt hlo hne lg c0 c1 c2 f0 f1 f2
    have HX1 := Lib.hid hx1
    have HA1 := Lib.hid ha1
    have HB1 := Lib.hid b1
    clear hx1 ha1 b1
    go_wp2_with fail
    clear hf hf1 hf2 hc hc1 hc2
    generalize (Value.slice (some ⟨gg, 0, none⟩) (ps.length + 1) cap) = v1 at *
    generalize w1.setCell ⟨g, 0, none⟩ v1 = W1 at *
    have c0 := HX1.out.cell0
    have c1 := HX1.out.cell1
    have c2 := HX1.out.cell2
    have f0 := HX1.out.free 0
    have f1 := HX1.out.free 1
    have f2 := HX1.out.free 2
    generalize hps : ps ++ [⟨2, 0, put⟩] = ps1 at *
    have hl1 : ps1.length ≤ 4294967297 := by rw [← hps]; simp; omega
    clear hps
    generalize us ++ [Value.slice A put.length c] = us1 at *
    have lg := HX1.out.lt
    have hlo : lo ≤ W1.heap.size := Nat.le_trans HX1.out.low (Nat.le_of_lt lg)
    have hne := own_far HX1.out.row HX1.out.box (by decide)
    go_region_law ((refine step_append_lies _ (by rfl) (.tmp 31) (.tmp 37) 57 (by rfl) lo 86 i0 _ 3 40 Tryz.underlying57 hi0 hz0 hz1 hz2 rfl (by omega) v1 ps1.length (cellsOf ps1 us1) (by rfl) ((HX1.out.row.alloc _).drew) ⟨W1.heap.size, 0, none⟩ 1 1 [.int .i64 3, .int .i64 d, .slice none 0 0] (by rfl) (by rfl) (World.news_of_block (cs := #[.int .i64 3, .int .i64 d, .slice none 0 0]) (t := 86) (fr := (0, 0)) (heap_alloc_new W1 _)) (by simp [Value.oneCell']) (by omega) (by unfold maxLen; omega) (by omega) (by simp; omega) (W1.heap.size + 1) (by simp) ?_; intro gg cap w1 hown1 hgrow hat hlt; have hf := free_grown (o := 0) HX1.out.box (below_made W1 _) hgrow hne; have hf1 := free_grown (o := 1) HX1.out.box (below_made W1 _) hgrow hne; have hf2 := free_grown (o := 2) HX1.out.box (below_made W1 _) hgrow hne; have hc : w1.cell? ⟨g, 0, none⟩ = some v1 := cell_grown 0 HX1.out.box (below_made W1 _) hgrow hne; have hc1 : w1.cell? ⟨g, 1, none⟩ = some (.slice A put.length c) := cell_grown 1 HX1.out.box (below_made W1 _) hgrow hne; have hc2 : w1.cell? ⟨g, 2, none⟩ = some (.int .i64 d) := cell_grown 2 HX1.out.box (below_made W1 _) hgrow hne))
    all_goals
     obtain ⟨hx2, ha2, b2⟩ := Box.push (p := ⟨3, d, []⟩) HX1.out (by decide) (by decide) (Apart.bare 3 d HA1.out) (below_made W1 _) hown1 hgrow
     have HO2 := Lib.hid (HO1.out.push (n := ps1.length + 1) (cap := cap) nil_own hat (HS.out _ (by have := HR1.out.size; omega)))
     have HR2 := Lib.hid (push_fr HO1.out (below_made W1 _) hgrow (.slice (some ⟨gg, 0, none⟩) (ps1.length + 1) cap))
     have HX2 := Lib.hid hx2
     have HA2 := Lib.hid ha2
     have HB2 := Lib.hid b2
     clear hx2 ha2 b2
     go_wp2
     go_end0
     obtain ⟨r1, r2, r3⟩ := HX2.out.clearS (by decide) (by decide) HA2.out HO2.out
     exact ⟨rfl, by rw [← HQ.out]; exact r1, HB1.out.trans (HB2.out.trans r2), HR1.out.trans (HR2.out.trans r3)⟩
  ·have e2 : dropL d = [] := by simp [dropL]; omega
   rw [e2, List.append_nil]
   go_enter Tryz.func137, Tryz.ntmps137
   go_wp2_with fail
   have lg := HX.out.lt
   have hlo : lo ≤ w.heap.size := Nat.le_trans HX.out.low (Nat.le_of_lt lg)
   have hne := own_far HX.out.row HX.out.box (by decide)
   go_region_law ((refine step_append_lies _ (by rfl) (.tmp 12) (.tmp 18) 57 (by rfl) lo 86 i0 _ 3 40 Tryz.underlying57 hi0 hz0 hz1 hz2 rfl (by omega) v ps.length (cellsOf ps us) (by rfl) ((HX.out.row.alloc _).drew) ⟨w.heap.size, 0, none⟩ 1 1 [.int .i64 2, .int .i64 0, .slice A put.length c] (by rfl) (by rfl) (World.news_of_block (cs := #[.int .i64 2, .int .i64 0, .slice A put.length c]) (t := 86) (fr := (0, 0)) (heap_alloc_new w _)) (by simp [Value.oneCell']) (by omega) (by unfold maxLen; omega) (by omega) (by simp; omega) (w.heap.size + 1) (by simp) ?_; intro gg cap w1 hown1 hgrow hat hlt; have hf := free_grown (o := 0) HX.out.box (below_made w _) hgrow hne; have hf1 := free_grown (o := 1) HX.out.box (below_made w _) hgrow hne; have hf2 := free_grown (o := 2) HX.out.box (below_made w _) hgrow hne; have hc : w1.cell? ⟨g, 0, none⟩ = some v := cell_grown 0 HX.out.box (below_made w _) hgrow hne; have hc1 : w1.cell? ⟨g, 1, none⟩ = some (.slice A put.length c) := cell_grown 1 HX.out.box (below_made w _) hgrow hne; have hc2 : w1.cell? ⟨g, 2, none⟩ = some (.int .i64 d) := cell_grown 2 HX.out.box (below_made w _) hgrow hne))
   all_goals
    obtain ⟨hx1, ha1, b1⟩ := Box.push (p := ⟨2, 0, put⟩) HX.out (by decide) (by decide) HA.out (below_made w _) hown1 hgrow
    have HO2 := Lib.hid (HOS.out.init.push (n := ps.length + 1) (cap := cap) HOS.out.last hat (HS.out _ (by omega)))
    have HR2 := Lib.hid (push_fr HOS.out.init (below_made w _) hgrow (.slice (some ⟨gg, 0, none⟩) (ps.length + 1) cap))
    have HX2 := Lib.hid hx1
    have HA2 := Lib.hid ha1
    have HB2 := Lib.hid b1
    clear hx1 ha1 b1
    go_wp2
    go_end0
    obtain ⟨r1, r2, r3⟩ := HX2.out.clearS (by decide) (by decide) HA2.out HO2.out
    exact ⟨rfl, r1, HB2.out.trans r2, HR2.out.trans r3⟩
theorem implDrop_f (S : Nat → Prop) (lo g : Nat) (ps : List Pt) (put : List Int) (d n : Int) (w : World) (hb : BAtS S lo g 131 w ps put d) (hS : ∀ b, w.heap.size ≤ b → S b) (h0 : 0 ≤ d) (h1 : d ≤ 4611686018427387904) (h2 : 0 ≤ n) (h3 : n ≤ 1048576) :
  Calls Tryz.prog 136 #[.pointer (some ⟨g, 0, none⟩), .int .i64 n] w (BuiltS S lo g 131 w ps put (d + n)) := by
 obtain ⟨v, u, us, hx, ha, hos⟩ := hb
 have HS := Lib.hid hS
 have HOS := Lib.hid hos
 clear hS hos
 have c2 := hx.cell2
 have f2 := hx.free 2
 have HX := Lib.hid hx
 have HA := Lib.hid ha
 clear hx ha
 go_enter Tryz.func136, Tryz.ntmps136
 go_wp2
 go_end0
 obtain ⟨r1, r2, r3⟩ := HX.out.dropS (d' := d + n) (by decide) (by decide) HA.out HOS.out
 exact ⟨rfl, r1, r2, r3⟩
theorem implPut_f (S : Nat → Prop) (lo g : Nat) (ps : List Pt) (put : List Int) (d : Int) (A : Option Addr) (c : Nat) (zs : List Int) (w : World) (hb : BAtS S lo g 131 w ps put d) (hS : ∀ b, w.heap.size ≤ b → S b) (hr : Row (Value.int .i64) w w.heap.size A zs) (hp : put.length ≤ 4294967296) (hz : zs.length ≤ 4294967296) :
  Calls Tryz.prog 135 #[.pointer (some ⟨g, 0, none⟩), .slice A zs.length c] w (BuiltS S lo g 131 w ps (put ++ zs) d) := by
 obtain ⟨i0, hi0, hz0, hz1, hz2⟩ := info_parts ints_info
 obtain ⟨v, u, us, hx, ha, hos⟩ := hb
 have HS := Lib.hid hS
 have HOS := Lib.hid hos
 clear hS hos
 obtain ⟨Au, cu, rfl⟩ := own_form (ha.last hx.len)
 simp only at hx ha
 have c1 := hx.cell1
 have f1 := hx.free 1
 have ho := Lib.hid (ha.last hx.len)
 have hlo : lo ≤ w.heap.size := Nat.le_trans hx.low (Nat.le_of_lt hx.lt)
 have HX := Lib.hid hx
 have HA := Lib.hid ha
 clear hx ha
 by_cases hn : 0 < zs.length
 ·obtain ⟨ad, rfl, hbk, hcs⟩ := hr hn
  have hcs' : ∀ j x, (zs.map (Value.int .i64))[j]? = some x → w.cell? (ad.add j) = some x := fun j x hx => by
   rw [List.getElem?_map] at hx
   obtain ⟨z, hz, rfl⟩ := Option.map_eq_some_iff.1 hx
   exact hcs j z hz
  have HC := Lib.hid hcs'
  clear hcs hcs' hr
  have hug := own_far ho.out HX.out.box (by decide)
  go_enter Tryz.func135, Tryz.ntmps135
  go_wp2_with (at_builtin; refine wpList_append_lies _ rfl (.tmp 8) (.tmp 9) 22 rfl lo 3 i0 (.int .i64 0) 1 8 Tryz.underlying22 hi0 hz0 hz1 hz2 rfl (by decide) (.slice Au put.length cu) put.length (put.map (Value.int .i64)) rfl ho.out ad zs.length c (zs.map (Value.int .i64)) rfl (by simp) HC.out (by simp [Value.oneCell']) (by omega) (by unfold maxLen; omega) (by omega) hlo w.heap.size rfl ?_; intro gg cap w1 hown1 hgrow hat hlt; have hf := free_grown (o := 1) HX.out.box (Below.refl _ _) hgrow hug; have hc : w1.cell? ⟨g, 1, none⟩ = some (.slice Au put.length cu) := cell_grown 1 HX.out.box (Below.refl _ _) hgrow hug)
  go_end0
  obtain ⟨r1, r2, r3⟩ := Box.moreS (put' := put ++ zs) HX.out (by decide) (by decide) HA.out (by simpa using hown1) hgrow (hat.elim (fun e => .inl (by rw [e]; rfl)) (fun e => .inr (by rw [← e]; rfl))) HOS.out (HS.out _ (Nat.le_refl _))
  exact ⟨rfl, r1, r2, r3⟩
 ·have e0 : zs = [] := List.eq_nil_of_length_eq_zero (by omega)
  subst e0
  rw [List.append_nil]
  go_enter Tryz.func135, Tryz.ntmps135
  go_wp2_with (at_builtin; refine wpList_append_zero rfl (.tmp 8) (.tmp 9) 22 rfl lo 3 i0 1 Tryz.underlying22 hi0 (.slice Au put.length cu) put.length (put.map (Value.int .i64)) rfl ho.out A c rfl ?_)
  go_end0
  obtain ⟨r1, r2, r3⟩ := Box.moreS (put' := put) HX.out (by decide) (by decide) HA.out ho.out ⟨rfl, rfl, rfl, Nat.le_refl _, fun _ _ _ => rfl⟩ (.inl rfl) HOS.out (HS.out _ (Nat.le_refl _))
  exact ⟨rfl, r1, r2, r3⟩
theorem implDrop_any (lo g : Nat) (ps : List Pt) (put : List Int) (d n : Int) (w : World) (hb : BAt lo g 131 w ps put d) (h0 : 0 ≤ d) (h1 : d ≤ 4611686018427387904) (h2 : 0 ≤ n) (h3 : n ≤ 1048576) :
  Calls Tryz.prog 136 #[.pointer (some ⟨g, 0, none⟩), .int .i64 n] w (Built lo g 131 w ps put (d + n)) :=
 (implDrop_f (fun _ => True) lo g ps put d n w hb.all (fun _ _ => trivial) h0 h1 h2 h3).mono fun e w' h => h.any
theorem implPut_any (lo g : Nat) (ps : List Pt) (put : List Int) (d : Int) (A : Option Addr) (c : Nat) (zs : List Int) (w : World) (hb : BAt lo g 131 w ps put d) (hr : Row (Value.int .i64) w w.heap.size A zs) (hp : put.length ≤ 4294967296) (hz : zs.length ≤ 4294967296) :
  Calls Tryz.prog 135 #[.pointer (some ⟨g, 0, none⟩), .slice A zs.length c] w (Built lo g 131 w ps (put ++ zs) d) :=
 (implPut_f (fun _ => True) lo g ps put d A c zs w hb.all (fun _ _ => trivial) hr hp hz).mono fun e w' h => h.any
theorem implDone_f (S : Nat → Prop) (lo g : Nat) (ps : List Pt) (put : List Int) (d : Int) (w : World) (hb : BAtS S lo g 131 w ps put d) (hS : ∀ b, w.heap.size ≤ b → S b) (hl : ps.length ≤ 4294967296) (hp : put.length ≤ 4294967296) :
  Calls Tryz.prog 120 #[.pointer (some ⟨g, 0, none⟩)] w (GoneS S lo (ps ++ putL put ++ dropL d) w) := by
 go_enter Tryz.func120, Tryz.ntmps120
 go_wp2_with fail
 refine (implFlush_f S lo g ps put d w hb hS hl hp).mono ?_
 rintro e w1 ⟨rfl, ⟨v, us, hx, ha, hos⟩, b1, fr1⟩
 have HS := Lib.hid hS
 have HOS := Lib.hid hos
 have HR := Lib.hid fr1
 clear hS hos fr1
 obtain ⟨Av, cv, rfl⟩ := own_form hx.row
 have c0 := hx.cell0
 have HX := Lib.hid hx
 have HA := Lib.hid ha
 clear hx ha
 generalize ps ++ putL put ++ dropL d = q at *
 go_wp2
 go_ret
 exact ⟨_, us, rfl, HX.out.parts HA.out, b1, HR.out, HX.out.row, HX.out.len, HOS.out.2.1, HOS.out.2.2⟩
theorem implKeep_f (S : Nat → Prop) (lo g : Nat) (ps : List Pt) (put : List Int) (d n : Int) (w : World) (hb : BAtS S lo g 131 w ps put d) (hS : ∀ b, w.heap.size ≤ b → S b) (hl : ps.length ≤ 4294967296) (hp : put.length ≤ 4294967296) (hn : ¬ n = 0) (hn0 : 0 ≤ n) (hn1 : n ≤ 1048576)
  (hq : ∀ p ∈ ps ++ putL put ++ dropL d, 0 ≤ p.n ∧ p.n ≤ 4611686018427387904) (hql : (ps ++ putL put ++ dropL d).length ≤ 4294967298) :
  Calls Tryz.prog 134 #[.pointer (some ⟨g, 0, none⟩), .int .i64 n] w (FlushedS S lo g 131 w (keepTo (ps ++ putL put ++ dropL d) n)) := by
 obtain ⟨i0, hi0, hz0, hz1, hz2⟩ := info_parts part_info
 go_enter Tryz.func134, Tryz.ntmps134
 go_wp2_with fail
 refine (implFlush_f S lo g ps put d w hb hS hl hp).mono ?_
 rintro e w1 ⟨rfl, ⟨v, us, hx, ha, hos⟩, b1, fr1⟩
 have HS := Lib.hid hS
 have HOS := Lib.hid hos
 have HR := Lib.hid fr1
 clear hS hos fr1
 generalize ps ++ putL put ++ dropL d = q at *
 have c0 := hx.cell0
 have f0 := hx.free 0
 have hne := own_far hx.row hx.box (by decide)
 have hlo : lo ≤ w1.heap.size := Nat.le_trans hx.low (Nat.le_of_lt hx.lt)
 rcases q.eq_nil_or_concat with rfl | ⟨r, p, rfl⟩
 ·obtain ⟨Av, cv, rfl⟩ := own_form hx.row
  have HX := Lib.hid hx
  have HA := Lib.hid ha
  clear hx ha
  go_wp2_with (at_builtin; refine wpList_append_lies _ rfl (.tmp 44) (.tmp 47) 57 rfl lo 86 i0 _ 3 40 Tryz.underlying57 hi0 hz0 hz1 hz2 rfl (by omega) (.slice Av 0 cv) 0 (cellsOf [] us) rfl (HX.out.row.alloc _) ⟨w1.heap.size, 0, none⟩ 1 1 [.int .i64 1, .int .i64 n, .slice none 0 0] rfl rfl (World.news_of_block (cs := #[.int .i64 1, .int .i64 n, .slice none 0 0]) (t := 86) (fr := (0, 0)) (heap_alloc_new w1 _)) (by simp [Value.oneCell']) (by omega) (by unfold maxLen; omega) (by omega) (by simp; omega) (w1.heap.size + 1) (by simp) ?_; intro gg cap w2 hown1 hgrow hat hlt; have hf := free_grown (o := 0) HX.out.box (below_new w1 _) hgrow hne; have hc : w2.cell? ⟨g, 0, none⟩ = some (.slice Av 0 cv) := cell_grown 0 HX.out.box (below_new w1 _) hgrow hne)
  go_end0
  obtain ⟨hx2, ha2, b2⟩ := Box.push (p := ⟨1, n, []⟩) HX.out (by decide) (by decide) (Apart.bare 1 n HA.out) (below_new w1 _) hown1 hgrow
  refine ⟨rfl, ?_, b1.trans b2, HR.out.trans (push_fr HOS.out (below_new w1 _) hgrow _)⟩
  rw [keepTo_nil]
  exact ⟨_, _, hx2, ha2, HOS.out.push nil_own hat (HS.out _ (by have := HR.out.size; omega))⟩
 ·rw [List.concat_eq_append] at *
  have hrl : (r ++ [p]).length = r.length + 1 := by simp
  rw [hrl] at hql
  have hp0 := hq p (by simp)
  clear hq
  rcases hx.row.2 with ⟨_, h0⟩ | ⟨gv, cap0, cur, rfl, hgv, hhv, hcap, hcap2, _, _⟩
  ·simp at h0
  rw [hrl] at c0 hne hcap hx
  have hrow : w1.ownsRow lo 86 3 (.slice (some ⟨gv, 0, none⟩) (r.length + 1) cap0) (r.length + 1) (cellsOf (r ++ [p]) us) := by have := hx.row; rwa [hrl] at this
  have k0 : w1.cell? ⟨gv, r.length * 3, none⟩ = some (.int .i64 p.kind) := by
   have := hrow.cellAt (r.length * 3) (by omega)
   obtain ⟨u, hu⟩ := idx_some (l := us) (i := r.length) (by rw [hx.len]; simp)
   rw [this, (cellsOf_at (r ++ [p]) us r.length p u (by simp) hu).1]
  have k1 : w1.cell? ⟨gv, r.length * 3 + 1, none⟩ = some (.int .i64 p.n) := by
   have := hrow.cellAt (r.length * 3 + 1) (by omega)
   obtain ⟨u, hu⟩ := idx_some (l := us) (i := r.length) (by rw [hx.len]; simp)
   rw [this, (cellsOf_at (r ++ [p]) us r.length p u (by simp) hu).2.1]
  have fv := hrow.frozenAt (r.length * 3 + 1)
  have HRW := Lib.hid hrow
  clear hrow
  have HX := Lib.hid hx
  have HA := Lib.hid ha
  clear hx ha hhv
  by_cases hk : p.kind = 1
  ·go_wp2
   go_end0
   obtain ⟨hx2, ha2, b2⟩ := Box.setN (b := p.n + n) HX.out (by decide) (by decide) HA.out
   refine ⟨rfl, ?_, b1.trans b2, HR.out.trans (setN_fr HOS.out _)⟩
   rw [keepTo_t n hk]
   exact ⟨_, _, hx2, ha2, HOS.out⟩
  ·go_wp2_with (at_builtin; refine wpList_append_lies _ rfl (.tmp 44) (.tmp 47) 57 rfl lo 86 i0 _ 3 40 Tryz.underlying57 hi0 hz0 hz1 hz2 rfl (by omega) (.slice (some ⟨gv, 0, none⟩) (r.length + 1) cap0) (r.length + 1) (cellsOf (r ++ [p]) us) rfl (HRW.out.alloc _) ⟨w1.heap.size, 0, none⟩ 1 1 [.int .i64 1, .int .i64 n, .slice none 0 0] rfl rfl (World.news_of_block (cs := #[.int .i64 1, .int .i64 n, .slice none 0 0]) (t := 86) (fr := (0, 0)) (heap_alloc_new w1 _)) (by simp [Value.oneCell']) (by omega) (by unfold maxLen; omega) (by omega) (by simp; omega) (w1.heap.size + 1) (by simp) ?_; intro gg cap w2 hown1 hgrow hat hlt; have hf := free_grown (o := 0) HX.out.box (below_new w1 _) hgrow hne; have hc : w2.cell? ⟨g, 0, none⟩ = some (.slice (some ⟨gv, 0, none⟩) (r.length + 1) cap0) := cell_grown 0 HX.out.box (below_new w1 _) hgrow hne)
   go_end0
   obtain ⟨hx2, ha2, b2⟩ := Box.push (p := ⟨1, n, []⟩) HX.out (by decide) (by decide) (Apart.bare 1 n HA.out) (below_new w1 _) (by rw [hrl]; exact hown1) hgrow
   rw [hrl] at hx2 ha2 b2
   refine ⟨rfl, ?_, b1.trans b2, HR.out.trans (push_fr HOS.out (below_new w1 _) hgrow _)⟩
   rw [keepTo_f n hk]
   exact ⟨_, _, hx2, ha2, HOS.out.push nil_own hat (HS.out _ (by have := HR.out.size; omega))⟩
theorem implDone_any (lo g : Nat) (ps : List Pt) (put : List Int) (d : Int) (w : World) (hb : BAt lo g 131 w ps put d) (hl : ps.length ≤ 4294967296) (hp : put.length ≤ 4294967296) :
  Calls Tryz.prog 120 #[.pointer (some ⟨g, 0, none⟩)] w (Gone lo (ps ++ putL put ++ dropL d) w) :=
 (implDone_f (fun _ => True) lo g ps put d w hb.all (fun _ _ => trivial) hl hp).mono fun e w' h => h.any
theorem implKeep_any (lo g : Nat) (ps : List Pt) (put : List Int) (d n : Int) (w : World) (hb : BAt lo g 131 w ps put d) (hl : ps.length ≤ 4294967296) (hp : put.length ≤ 4294967296) (hn : ¬ n = 0) (hn0 : 0 ≤ n) (hn1 : n ≤ 1048576)
  (hq : ∀ p ∈ ps ++ putL put ++ dropL d, 0 ≤ p.n ∧ p.n ≤ 4611686018427387904) (hql : (ps ++ putL put ++ dropL d).length ≤ 4294967298) :
  Calls Tryz.prog 134 #[.pointer (some ⟨g, 0, none⟩), .int .i64 n] w (Flushed lo g 131 w (keepTo (ps ++ putL put ++ dropL d) n)) :=
 (implKeep_f (fun _ => True) lo g ps put d n w hb.all (fun _ _ => trivial) hl hp hn hn0 hn1 hq hql).mono fun e w' h => h.any
theorem implKeep_zero (g : Nat) (w : World) : Calls Tryz.prog 134 #[.pointer (some ⟨g, 0, none⟩), .int .i64 0] w fun e w' => e = .returned (.tuple #[]) ∧ w = w' := by
 go_enter Tryz.func134, Tryz.ntmps134
 go_wp2
 first | go_end0 | (refine bodyPost_ret (results_none rfl _ _ _) rfl ?_)
 exact ⟨rfl, rfl⟩
theorem implPartOk_any (p : Pt) (A : Option Addr) (c : Nat) (w : World) (hr : Row (Value.int .i64) w w.heap.size A p.signs) (hl : p.signs.length ≤ 4294967296) :
  Calls Tryz.prog 131 #[.agg #[.int .i64 p.kind, .int .i64 p.n, .slice A p.signs.length c]] w (Tells (okPt p) w) := by
 obtain ⟨k, n, zs⟩ := p
 have hr' : Row (Value.int .i64) w w.heap.size A zs := hr
 have hl' : zs.length ≤ 4294967296 := hl
 clear hr hl
 by_cases hk : k = 1 ∨ k = 3
 ·by_cases h0 : 0 ≤ n
  ·by_cases h1 : n ≤ 200
   ·by_cases hz : zs.length = 0
    all_goals
     have HS := Lib.hid (show okPt ⟨k, n, zs⟩ = decide (zs.length = 0) by
      first
       | (rw [okPt_t (.inl ⟨hk, ⟨h0, h1⟩, hz⟩), decide_eq_true hz])
       | (rw [okPt_f (by simp only; omega), decide_eq_false hz]))
     have hzb : ((zs.length : Int) == 0) = decide (zs.length = 0) := by
      first
       | (rw [decide_eq_true hz, beq_iff_eq]; omega)
       | (rw [decide_eq_false hz, beq_eq_false_iff_ne]; omega)
     generalize decide (zs.length = 0) = bb at HS hzb
     clear hz
     rcases hk with rfl | rfl
     all_goals
      go_enter Tryz.func131, Tryz.ntmps131
      go_wp2
      go_ret
      exact ⟨ret_bool (by rw [HS.out]), alloc_below _ _⟩
   ·have HS := Lib.hid (show okPt ⟨k, n, zs⟩ = false by rw [okPt_f (by simp only; omega)])
    rcases hk with rfl | rfl
    all_goals
     go_enter Tryz.func131, Tryz.ntmps131
     go_wp2
     go_ret
     exact ⟨ret_bool (by rw [HS.out]), alloc_below _ _⟩
  ·have HS := Lib.hid (show okPt ⟨k, n, zs⟩ = false by rw [okPt_f (by simp only; omega)])
   rcases hk with rfl | rfl
   all_goals
    go_enter Tryz.func131, Tryz.ntmps131
    go_wp2
    go_ret
    exact ⟨ret_bool (by rw [HS.out]), alloc_below _ _⟩
 ·have hk1 : (k == 1) = false := by rw [beq_eq_false_iff_ne]; omega
  have hk3 : (k == 3) = false := by rw [beq_eq_false_iff_ne]; omega
  by_cases hk2 : k = 2
  ·have hk2' : (k == 2) = true := by rw [beq_iff_eq]; exact hk2
   by_cases hn : n = 0
   ·have hn' : (n == 0) = true := by rw [beq_iff_eq]; exact hn
    have HS := Lib.hid (show okPt ⟨k, n, zs⟩ = (allB zs && decide (zs.length ≤ 200)) by
     unfold okPt
     simp [hk2, hn])
    clear hk hk2 hn
    by_cases hlen : zs.length ≤ 200
    ·have HL := Lib.hid (decide_eq_true hlen)
     go_enter Tryz.func131, Tryz.ntmps131
     go_wp2_with (go_at_call 90; refine (implSignsOk_any A c zs _ (hr'.past_alloc _) hl').mono ?_; rintro e w' ⟨rfl, rfl⟩)
     go_ret
     refine ⟨ret_bool ?_, alloc_below _ _⟩
     rw [HS.out, HL.out, Bool.and_true]
    ·have HL := Lib.hid (decide_eq_false hlen)
     go_enter Tryz.func131, Tryz.ntmps131
     go_wp2
     go_ret
     refine ⟨ret_bool ?_, alloc_below _ _⟩
     rw [HS.out, HL.out, Bool.and_false]
   ·have hn' : (n == 0) = false := by rw [beq_eq_false_iff_ne]; exact hn
    have HS := Lib.hid (show okPt ⟨k, n, zs⟩ = false by rw [okPt_f (by simp only; omega)])
    clear hk hk2 hn
    go_enter Tryz.func131, Tryz.ntmps131
    go_wp2
    go_ret
    exact ⟨ret_bool (by rw [HS.out]), alloc_below _ _⟩
  ·have hk2' : (k == 2) = false := by rw [beq_eq_false_iff_ne]; exact hk2
   have HS := Lib.hid (show okPt ⟨k, n, zs⟩ = false by rw [okPt_f (by simp only; omega)])
   clear hk hk2
   go_enter Tryz.func131, Tryz.ntmps131
   go_wp2
   go_ret
   exact ⟨ret_bool (by rw [HS.out]), alloc_below _ _⟩
theorem implParts_any (A : Option Addr) (c : Nat) (ps : List Pt) (w : World) (hr : PRow w w.heap.size A ps) (hl : ps.length ≤ 4294967296) (hls : ∀ p ∈ ps, p.signs.length ≤ 4294967296) :
  Calls Tryz.prog 113 #[.slice A ps.length c] w (Tells (partsB ps) w) := by
 by_cases h6 : ps.length ≤ 600
 ·go_enter Tryz.func113, Tryz.ntmps113
  go_wp2
  go_loopw [10] (fun i wr => ∃ k : Nat, k ≤ ps.length ∧ i = .int .i64 k ∧ okPs (ps.take k) = true ∧ Below w.heap.size w wr) (fun i _ => ps.length - (intOf i).toNat)
  case atStart => exact ⟨0, Nat.zero_le _, rfl, rfl, Below.refl _ _⟩
  case round =>
   obtain ⟨k, hk, rfl, ha, hbel⟩ := hrel
   have HA := Lib.hid ha
   clear ha
   by_cases hlt : k < ps.length
   ·obtain ⟨b, off, p, rfl, hb, hp, hc⟩ := hr.at_ hlt
    obtain ⟨x0, x1, A1, e1, x2, r1⟩ := hc.keep (w' := wr) hb (fun _ hq => hbel.cell hq)
    have hsp := hls p (List.mem_of_getElem? hp)
    have HP := Lib.hid hp
    clear hp hc
    cases hs : okPt p
    ·go_wp2_with fail
     refine (implPartOk_any p A1 e1 _ ((r1.more hbel.size).past_alloc _) hsp).mono ?_
     rintro e w2 ⟨rfl, b2⟩
     go_wp2
     go_ret
     exact ⟨ret_bool (by unfold partsB; rw [okPs_f HP.out hs]; rfl), (hbel.trans ((alloc_below wr _).mono hbel.size)).trans (b2.mono (Nat.le_trans hbel.size (alloc_below wr _).size))⟩
    ·go_wp2_with fail
     refine (implPartOk_any p A1 e1 _ ((r1.more hbel.size).past_alloc _) hsp).mono ?_
     rintro e w2 ⟨rfl, b2⟩
     go_wp2
     go_roundw
     case rel => exact ⟨k + 1, by omega, by go_num, okPs_snoc HP.out HA.out hs, (hbel.trans ((alloc_below wr _).mono hbel.size)).trans (b2.mono (Nat.le_trans hbel.size (alloc_below wr _).size))⟩
     case measure => simp [intOf]; omega
   ·have HE := Lib.hid (show partsB ps = true by
     have h1 := HA.out
     rw [List.take_of_length_le (by omega)] at h1
     unfold partsB
     rw [h1, Bool.true_and]
     exact decide_eq_true h6)
    go_wp2
    go_ret
    refine ⟨ret_bool ?_, hbel⟩
    rw [HE.out]
 ·have HE := Lib.hid (show partsB ps = false by unfold partsB; rw [decide_eq_false h6, Bool.and_false])
  go_enter Tryz.func113, Tryz.ntmps113
  go_wp2
  go_ret
  exact ⟨ret_bool (by rw [HE.out]), Below.refl _ _⟩
def sizeK (kind : Int) (p : Pt) : Int := if p.kind = kind then p.n + (p.signs.length : Int) else 0
theorem sumOf_congr {f g : Pt → Int} : ∀ {ps : List Pt}, (∀ p ∈ ps, f p = g p) → sumOf f ps = sumOf g ps
 | [], _ => rfl
 | p :: ps, h => by
  have h1 := h p (List.mem_cons_self ..)
  have h2 := sumOf_congr (f := f) (g := g) (ps := ps) fun q hq => h q (List.mem_cons_of_mem _ hq)
  have e : ∀ f : Pt → Int, sumOf f (p :: ps) = f p + sumOf f ps := fun f => by simp [sumOf]
  rw [e, e, h1, h2]
theorem okPs_mem {ps : List Pt} (h : okPs ps = true) {p : Pt} (hp : p ∈ ps) : okPt p = true := by unfold okPs at h; exact List.all_eq_true.1 h p hp
theorem sizeK_keep {ps : List Pt} (h : okPs ps = true) : sumOf (sizeK 1) ps = sumOf keepOf ps := sumOf_congr fun p hp => by
 have := of_okPt (okPs_mem h hp)
 unfold sizeK keepOf
 split <;> omega
theorem sizeK_put {ps : List Pt} (h : okPs ps = true) : sumOf (sizeK 2) ps = sumOf putOf ps := sumOf_congr fun p hp => by
 have := of_okPt (okPs_mem h hp)
 unfold sizeK putOf
 split <;> omega
theorem sizeK_drop {ps : List Pt} (h : okPs ps = true) : sumOf (sizeK 3) ps = sumOf dropOf ps := sumOf_congr fun p hp => by
 have := of_okPt (okPs_mem h hp)
 unfold sizeK dropOf
 split <;> omega
theorem sizeK_bd {kind : Int} {ps : List Pt} (h : okPs ps = true) (hl : ps.length ≤ 600) : 0 ≤ sumOf (sizeK kind) ps ∧ sumOf (sizeK kind) ps ≤ 120000 := by
 have := sumOf_bd (f := sizeK kind) ps fun p hq => by
  have := of_okPt (okPs_mem h hq)
  unfold sizeK
  split <;> omega
 omega
theorem implSize_any (k n : Int) (A : Option Addr) (len c : Nat) (w : World) (h0 : 0 ≤ n) (h1 : n ≤ 200) (h2 : len ≤ 200) :
  Calls Tryz.prog 132 #[.agg #[.int .i64 k, .int .i64 n, .slice A len c]] w (Nums1 (n + (len : Int)) w) := by
 go_enter Tryz.func132, Tryz.ntmps132
 go_wp2
 go_ret
 exact ⟨rfl, alloc_below _ _⟩
theorem implSizeOf_any (kind : Int) (A : Option Addr) (c : Nat) (ps : List Pt) (w : World) (hr : PRow w w.heap.size A ps) (hl : ps.length ≤ 600) (hok : okPs ps = true) :
  Calls Tryz.prog 114 #[.slice A ps.length c, .int .i64 kind] w (Nums1 (sumOf (sizeK kind) ps) w) := by
 have HOK := Lib.hid hok
 clear hok
 go_enter Tryz.func114, Tryz.ntmps114
 go_wp2
 go_loopw [5, 10] (fun a i wr => ∃ k : Nat, k ≤ ps.length ∧ i = .int .i64 k ∧ a = .int .i64 (sumOf (sizeK kind) (ps.take k)) ∧ Below w.heap.size w wr) (fun _ i _ => ps.length - (intOf i).toNat)
 case atStart => exact ⟨0, Nat.zero_le _, rfl, rfl, Below.refl _ _⟩
 case round =>
  obtain ⟨k, hk, rfl, rfl, hbel⟩ := hrel
  obtain ⟨s1, s2⟩ := sizeK_bd (kind := kind) (okPs_take HOK.out k) (by rw [List.length_take]; omega)
  by_cases hlt : k < ps.length
  ·obtain ⟨b, off, p, rfl, hb, hp, hc⟩ := hr.at_ hlt
   obtain ⟨x0, x1, A1, e1, x2, r1⟩ := hc.keep (w' := wr) hb (fun _ hq => hbel.cell hq)
   have hok := of_okPt (okPs_at hp HOK.out)
   have K1 := Lib.hid (sumOf_snoc (f := sizeK kind) hp)
   clear hp hc
   generalize sumOf (sizeK kind) (ps.take k) = q1 at *
   obtain ⟨pk, pn, pz⟩ := p
   simp only at x0 x1 x2 hok
   have hn1 : 0 ≤ pn := by omega
   have hn2 : pn ≤ 200 := by omega
   have hn3 : pz.length ≤ 200 := by omega
   clear hok
   by_cases hkk : pk = kind
   ·have hkb : (pk == kind) = true := by rw [beq_iff_eq]; exact hkk
    have HK := Lib.hid (show sizeK kind ⟨pk, pn, pz⟩ = pn + (pz.length : Int) by unfold sizeK; exact if_pos hkk)
    clear hkk
    go_wp2_with fail
    refine (implSize_any pk pn A1 pz.length e1 _ hn1 hn2 hn3).mono ?_
    rintro e w2 ⟨rfl, b2⟩
    go_wp2
    go_roundw
    case rel => exact ⟨k + 1, by omega, by go_num, by rw [K1.out, HK.out], (hbel.trans ((alloc_below wr _).mono hbel.size)).trans (b2.mono (Nat.le_trans hbel.size (alloc_below wr _).size))⟩
    case measure => simp [intOf]; omega
   ·have hkb : (pk == kind) = false := by rw [beq_eq_false_iff_ne]; exact hkk
    have HK := Lib.hid (show sizeK kind ⟨pk, pn, pz⟩ = 0 by unfold sizeK; exact if_neg hkk)
    clear hkk
    go_wp2
    go_roundw
    case rel => exact ⟨k + 1, by omega, by go_num, by rw [K1.out, HK.out, Int.add_zero], hbel.trans ((alloc_below wr _).mono hbel.size)⟩
    case measure => simp [intOf]; omega
  ·have hke : ps.take k = ps := List.take_of_length_le (by omega)
   rw [hke] at s1 s2 ⊢
   go_wp2
   go_ret
   exact ⟨rfl, hbel⟩
theorem implOpFrom_any (A : Option Addr) (c : Nat) (ps : List Pt) (w : World) (hr : PRow w w.heap.size A ps) (hl : ps.length ≤ 4294967296) (hls : ∀ p ∈ ps, p.signs.length ≤ 4294967296) :
  Calls Tryz.prog 112 #[.slice A ps.length c] w (Nums1 (sumK ps + sumD ps) w) := by
 cases hpb : partsB ps
 ·have HS := Lib.hid (sum_f hpb)
  go_enter Tryz.func112, Tryz.ntmps112
  go_wp2_with fail
  refine (implParts_any A c ps _ hr hl hls).mono ?_
  rintro e w1 ⟨rfl, b1⟩
  go_wp2
  go_ret
  rw [HS.out.1, HS.out.2.2]
  exact ⟨rfl, b1⟩
 ·obtain ⟨t1, t2, t3⟩ := sum_t hpb
  obtain ⟨p1, p2⟩ := partsB_of hpb
  have HS := Lib.hid (show sumK ps + sumD ps = sumOf (sizeK 1) ps + sumOf (sizeK 3) ps by rw [t1, t3, sizeK_keep p1, sizeK_drop p1])
  obtain ⟨s1, s2⟩ := sizeK_bd (kind := 1) p1 p2
  obtain ⟨s3, s4⟩ := sizeK_bd (kind := 3) p1 p2
  clear t1 t2 t3
  go_enter Tryz.func112, Tryz.ntmps112
  go_wp2_with fail
  refine (implParts_any A c ps _ hr hl hls).mono ?_
  rintro e w1 ⟨rfl, b1⟩
  go_wp2_with fail
  refine (implSizeOf_any 1 A c ps _ (hr.past b1) p2 p1).mono ?_
  rintro e w2 ⟨rfl, b2⟩
  have d2 := b1.trans (b2.mono b1.size)
  go_wp2_with fail
  refine (implSizeOf_any 3 A c ps _ (hr.past d2) p2 p1).mono ?_
  rintro e w3 ⟨rfl, b3⟩
  have d3 := d2.trans (b3.mono d2.size)
  generalize sumOf (sizeK 1) ps = q1 at *
  generalize sumOf (sizeK 3) ps = q3 at *
  go_wp2
  go_ret
  rw [HS.out]
  exact ⟨rfl, d3⟩
theorem implOpTo_any (A : Option Addr) (c : Nat) (ps : List Pt) (w : World) (hr : PRow w w.heap.size A ps) (hl : ps.length ≤ 4294967296) (hls : ∀ p ∈ ps, p.signs.length ≤ 4294967296) :
  Calls Tryz.prog 92 #[.slice A ps.length c] w (Nums1 (sumK ps + sumP ps) w) := by
 cases hpb : partsB ps
 ·have HS := Lib.hid (sum_f hpb)
  go_enter Tryz.func92, Tryz.ntmps92
  go_wp2_with fail
  refine (implParts_any A c ps _ hr hl hls).mono ?_
  rintro e w1 ⟨rfl, b1⟩
  go_wp2
  go_ret
  rw [HS.out.1, HS.out.2.1]
  exact ⟨rfl, b1⟩
 ·obtain ⟨t1, t2, t3⟩ := sum_t hpb
  obtain ⟨p1, p2⟩ := partsB_of hpb
  have HS := Lib.hid (show sumK ps + sumP ps = sumOf (sizeK 1) ps + sumOf (sizeK 2) ps by rw [t1, t2, sizeK_keep p1, sizeK_put p1])
  obtain ⟨s1, s2⟩ := sizeK_bd (kind := 1) p1 p2
  obtain ⟨s3, s4⟩ := sizeK_bd (kind := 2) p1 p2
  clear t1 t2 t3
  go_enter Tryz.func92, Tryz.ntmps92
  go_wp2_with fail
  refine (implParts_any A c ps _ hr hl hls).mono ?_
  rintro e w1 ⟨rfl, b1⟩
  go_wp2_with fail
  refine (implSizeOf_any 1 A c ps _ (hr.past b1) p2 p1).mono ?_
  rintro e w2 ⟨rfl, b2⟩
  have d2 := b1.trans (b2.mono b1.size)
  go_wp2_with fail
  refine (implSizeOf_any 2 A c ps _ (hr.past d2) p2 p1).mono ?_
  rintro e w3 ⟨rfl, b3⟩
  have d3 := d2.trans (b3.mono d2.size)
  generalize sumOf (sizeK 1) ps = q1 at *
  generalize sumOf (sizeK 2) ps = q3 at *
  go_wp2
  go_ret
  rw [HS.out]
  exact ⟨rfl, d3⟩
theorem implOpOk_any (A : Option Addr) (c : Nat) (ps : List Pt) (w : World) (hr : PRow w w.heap.size A ps) (hl : ps.length ≤ 4294967296) (hls : ∀ p ∈ ps, p.signs.length ≤ 4294967296) :
  Calls Tryz.prog 105 #[.slice A ps.length c] w (Tells (okOp ps) w) := by
 cases hpb : partsB ps
 ·have HS := Lib.hid (show okOp ps = false by unfold okOp; rw [hpb]; rfl)
  go_enter Tryz.func105, Tryz.ntmps105
  go_wp2_with fail
  refine (implParts_any A c ps _ hr hl hls).mono ?_
  rintro e w1 ⟨rfl, b1⟩
  go_wp2
  go_ret
  exact ⟨ret_bool (by rw [HS.out]), b1⟩
 ·by_cases hf : sumK ps + sumD ps ≤ 200
  ·by_cases ht : sumK ps + sumP ps ≤ 200
   all_goals
    have HS := Lib.hid (show okOp ps = decide (sumK ps + sumP ps ≤ 200) by unfold okOp; rw [hpb, decide_eq_true hf]; rfl)
    go_enter Tryz.func105, Tryz.ntmps105
    go_wp2_with fail
    refine (implParts_any A c ps _ hr hl hls).mono ?_
    rintro e w1 ⟨rfl, b1⟩
    go_wp2_with fail
    refine (implOpFrom_any A c ps _ (hr.past b1) hl hls).mono ?_
    rintro e w2 ⟨rfl, b2⟩
    have d2 := b1.trans (b2.mono b1.size)
    go_wp2_with fail
    refine (implOpTo_any A c ps _ (hr.past d2) hl hls).mono ?_
    rintro e w3 ⟨rfl, b3⟩
    go_wp2
    go_ret
    refine ⟨ret_bool ?_, d2.trans (b3.mono d2.size)⟩
    rw [HS.out]
    first | done | (rw [decide_eq_true ht]) | (rw [decide_eq_false ht])
  ·have HS := Lib.hid (show okOp ps = false by unfold okOp; rw [hpb, decide_eq_false hf]; rfl)
   go_enter Tryz.func105, Tryz.ntmps105
   go_wp2_with fail
   refine (implParts_any A c ps _ hr hl hls).mono ?_
   rintro e w1 ⟨rfl, b1⟩
   go_wp2_with fail
   refine (implOpFrom_any A c ps _ (hr.past b1) hl hls).mono ?_
   rintro e w2 ⟨rfl, b2⟩
   go_wp2
   go_ret
   exact ⟨ret_bool (by rw [HS.out]), b1.trans (b2.mono b1.size)⟩
theorem okOp_parts {ps : List Pt} (h : okOp ps = true) : partsB ps = true := by
 unfold okOp at h
 cases hp : partsB ps
 ·rw [hp] at h; simp at h
 ·rfl
theorem implPartSame_any (p q : Pt) (A A' : Option Addr) (c c' : Nat) (w : World) (hp : Row (Value.int .i64) w w.heap.size A p.signs) (hq : Row (Value.int .i64) w w.heap.size A' q.signs) (h1 : p.signs.length ≤ 4294967296) (h2 : q.signs.length ≤ 4294967296) :
  Calls Tryz.prog 118 #[.agg #[.int .i64 p.kind, .int .i64 p.n, .slice A p.signs.length c], .agg #[.int .i64 q.kind, .int .i64 q.n, .slice A' q.signs.length c']] w (Tells (samePt p q) w) := by
 obtain ⟨k, n, zs⟩ := p
 obtain ⟨k', n', zs'⟩ := q
 have hbb : ∀ o o' : Obj, Below w.heap.size w ((w.alloc o).alloc o') := fun o o' => ((Below.refl _ _).alloc (Nat.le_refl _) _).alloc (by simp) _
 by_cases hk : k = k'
 ·by_cases hn : n = n'
  ·have HS := Lib.hid (show samePt ⟨k, n, zs⟩ ⟨k', n', zs'⟩ = sameB zs zs' by unfold samePt; simp [hk, hn])
   have hk1 : (k == k') = true := by simp [hk]
   have hn1 : (n == n') = true := by simp [hn]
   clear hk hn
   go_enter Tryz.func118, Tryz.ntmps118
   go_wp2_with fail
   refine (implSignsSame_any A A' c c' zs zs' _ ((hp.past_alloc _).past_alloc _) ((hq.past_alloc _).past_alloc _) h1 h2).mono ?_
   intro e w1 hsay
   obtain ⟨rfl, b1⟩ := says_tells hsay
   go_wp2
   go_ret
   refine ⟨ret_bool (by rw [HS.out]), (hbb _ _).trans (b1.mono (by simp; omega))⟩
  ·have HS := Lib.hid (show samePt ⟨k, n, zs⟩ ⟨k', n', zs'⟩ = false by unfold samePt; simp [hn])
   have hk1 : (k == k') = true := by simp [hk]
   have hn1 : (n == n') = false := by simp [hn]
   clear hk hn
   go_enter Tryz.func118, Tryz.ntmps118
   go_wp2
   go_ret
   exact ⟨ret_bool (by rw [HS.out]), hbb _ _⟩
 ·have HS := Lib.hid (show samePt ⟨k, n, zs⟩ ⟨k', n', zs'⟩ = false by unfold samePt; simp [hk])
  have hk1 : (k == k') = false := by simp [hk]
  clear hk
  go_enter Tryz.func118, Tryz.ntmps118
  go_wp2
  go_ret
  exact ⟨ret_bool (by rw [HS.out]), hbb _ _⟩
theorem equalFunc_any (A B : Option Addr) (c d : Nat) (ps qs : List Pt) (w : World) (hx : PRow w w.heap.size A ps) (hy : PRow w w.heap.size B qs)
  (hl : ps.length ≤ 4294967296) (hl2 : qs.length ≤ 4294967296) (hs : ∀ p ∈ ps, p.signs.length ≤ 4294967296) (hs2 : ∀ p ∈ qs, p.signs.length ≤ 4294967296) :
  Calls Tryz.prog 117 #[.slice A ps.length c, .slice B qs.length d, .func (.func 118) #[] #[]] w (Tells (samePs ps qs) w) := by
 by_cases hlen : ps.length = qs.length
 ·have HL := Lib.hid hlen
  have hb : ((ps.length : Int) != (qs.length : Int)) = false := by simp [hlen]
  clear hlen
  go_enter Tryz.func117, Tryz.ntmps117
  go_wp2
  go_loopw [17] (fun i wr => ∃ k : Nat, k ≤ ps.length ∧ i = .int .i64 k ∧ samePs (ps.take k) (qs.take k) = true ∧ Below w.heap.size w wr) (fun i _ => ps.length - (intOf i).toNat)
  case atStart => exact ⟨0, Nat.zero_le _, rfl, rfl, Below.refl _ _⟩
  case round =>
   obtain ⟨k, hk, rfl, ht, hbel⟩ := hrel
   have HT := Lib.hid ht
   clear ht
   by_cases hlt : k < ps.length
   ·have hlt2 : k < qs.length := by have := HL.out; omega
    obtain ⟨b1, o1, p, rfl, hb1, hp, hc1⟩ := hx.at_ hlt
    obtain ⟨b2, o2, q, rfl, hb2, hq, hc2⟩ := hy.at_ (k := k) hlt2
    obtain ⟨x0, x1, A1, e1, x2, r1⟩ := hc1.keep (w' := wr) hb1 (fun _ hq => hbel.cell hq)
    have hsp := hs p (List.mem_of_getElem? hp)
    have hsq := hs2 q (List.mem_of_getElem? hq)
    have HP := Lib.hid hp
    have HQ := Lib.hid hq
    clear hp hq hc1
    have bW := alloc_below wr (.cells #[.int .i64 p.kind, .int .i64 p.n, .slice A1 p.signs.length e1] 86)
    have dW := hbel.trans (bW.mono hbel.size)
    obtain ⟨y0, y1, A2, e2, y2, r2⟩ := hc2.keep (w' := wr.alloc (.cells #[.int .i64 p.kind, .int .i64 p.n, .slice A1 p.signs.length e1] 86)) hb2 (fun _ hq => dW.cell hq)
    have dV := dW.trans ((alloc_below (wr.alloc (.cells #[.int .i64 p.kind, .int .i64 p.n, .slice A1 p.signs.length e1] 86)) (.cells #[.int .i64 q.kind, .int .i64 q.n, .slice A2 q.signs.length e2] 86)).mono dW.size)
    have R1 := Lib.hid (Row.past_alloc ((r1.more hbel.size).past bW) (.cells #[.int .i64 q.kind, .int .i64 q.n, .slice A2 q.signs.length e2] 86))
    have R2 := Lib.hid (Row.past_alloc (r2.more dW.size) (.cells #[.int .i64 q.kind, .int .i64 q.n, .slice A2 q.signs.length e2] 86))
    clear hc2 r1 r2
    cases hsame : samePt p q
    ·go_wp2_with fail
     refine (implPartSame_any p q A1 A2 e1 e2 _ R1.out R2.out hsp hsq).mono ?_
     rintro e w2 ⟨rfl, b2⟩
     go_wp2
     go_ret
     exact ⟨ret_bool (by rw [samePs_at ps qs k p q HP.out HQ.out hsame]), dV.trans (b2.mono dV.size)⟩
    ·go_wp2_with fail
     refine (implPartSame_any p q A1 A2 e1 e2 _ R1.out R2.out hsp hsq).mono ?_
     rintro e w2 ⟨rfl, b2⟩
     go_wp2
     go_roundw
     case rel => exact ⟨k + 1, by omega, by go_num, samePs_snoc ps qs k p q HP.out HQ.out hsame HT.out, dV.trans (b2.mono dV.size)⟩
     case measure => simp [intOf]; omega
   ·have H := Lib.hid (show samePs ps qs = true by have := HT.out; rwa [List.take_of_length_le (by omega), List.take_of_length_le (by have := HL.out; omega)] at this)
    go_wp2
    go_ret
    exact ⟨ret_bool (by rw [H.out]), hbel⟩
 ·have hb : ((ps.length : Int) != (qs.length : Int)) = true := by simp; omega
  have H := Lib.hid (show samePs ps qs = false by cases h : samePs ps qs; rfl; exact absurd (samePs_len ps qs h) hlen)
  clear hlen
  go_enter Tryz.func117, Tryz.ntmps117
  go_wp2
  go_ret
  exact ⟨ret_bool (by rw [H.out]), Below.refl _ _⟩
theorem implOpSame_any (A B : Option Addr) (c d : Nat) (ps qs : List Pt) (w : World) (hx : PRow w w.heap.size A ps) (hy : PRow w w.heap.size B qs)
  (hl : ps.length ≤ 4294967296) (hl2 : qs.length ≤ 4294967296) (hs : ∀ p ∈ ps, p.signs.length ≤ 4294967296) (hs2 : ∀ p ∈ qs, p.signs.length ≤ 4294967296) :
  Calls Tryz.prog 106 #[.slice A ps.length c, .slice B qs.length d] w (Tells (samePs ps qs) w) := by
 go_enter Tryz.func106, Tryz.ntmps106
 go_wp2_with fail
 refine (equalFunc_any A B c d ps qs _ hx hy hl hl2 hs hs2).mono ?_
 rintro e w1 ⟨rfl, b1⟩
 go_wp2
 go_ret
 exact ⟨rfl, b1⟩
theorem sameB_comm (a b : List Int) : sameB a b = sameB b a := by
 by_cases h : a = b
 ·subst h; rfl
 ·have h' : ¬ b = a := fun e => h e.symm
  unfold sameB
  simp [h, h']
theorem samePt_comm (p q : Pt) : samePt p q = samePt q p := by
 unfold samePt
 rw [sameB_comm p.signs q.signs, Bool.beq_comm (a := p.kind), Bool.beq_comm (a := p.n)]
theorem samePs_comm : ∀ ps qs : List Pt, samePs ps qs = samePs qs ps
 | [], [] => rfl
 | [], _ :: _ => rfl
 | _ :: _, [] => rfl
 | p :: ps, q :: qs => by
  show (samePt p q && samePs ps qs) = (samePt q p && samePs qs ps)
  rw [samePt_comm p q, samePs_comm ps qs]
theorem implAdd_any (lo g : Nat) (qs : List Pt) (put : List Int) (d : Int) (p : Pt) (A : Option Addr) (c : Nat) (w : World) (hb : BAt lo g 131 w qs put d) (hr : Row (Value.int .i64) w w.heap.size A p.signs) (hok : okPt p = true)
  (hl : qs.length ≤ 4294967296) (hp : put.length ≤ 4294967296) (h0 : 0 ≤ d) (h1 : d ≤ 4611686018427387904)
  (hq : ∀ p ∈ qs ++ putL put ++ dropL d, 0 ≤ p.n ∧ p.n ≤ 4611686018427387904) (hql : (qs ++ putL put ++ dropL d).length ≤ 4294967298) :
  Calls Tryz.prog 119 #[.pointer (some ⟨g, 0, none⟩), .agg #[.int .i64 p.kind, .int .i64 p.n, .slice A p.signs.length c]] w (Built lo g 131 w (stepN (qs, put, d) p).1 (stepN (qs, put, d) p).2.1 (stepN (qs, put, d) p).2.2) := by
 have hlo : lo ≤ w.heap.size := by obtain ⟨v, u, us, hx, _⟩ := hb; exact Nat.le_trans hx.low (Nat.le_of_lt hx.lt)
 have hk := of_okPt hok
 clear hok
 obtain ⟨pk, pn, pz⟩ := p
 simp only at hk hr ⊢
 have hat := hb.past (alloc_below w (.cells #[.int .i64 pk, .int .i64 pn, .slice A pz.length c] 86))
 have bel : Below lo w (w.alloc (.cells #[.int .i64 pk, .int .i64 pn, .slice A pz.length c] 86)) := (alloc_below w _).mono hlo
 rcases (show pk = 1 ∨ pk = 2 ∨ pk = 3 by omega) with rfl | rfl | rfl
 ·have hn1 : 0 ≤ pn := by omega
  have hn2 : pn ≤ 200 := by omega
  clear hk
  by_cases hz : pn = 0
  ·subst hz
   go_enter Tryz.func119, Tryz.ntmps119
   go_wp2_with fail
   refine (implKeep_zero g _).mono ?_
   rintro e w' ⟨rfl, rfl⟩
   go_wp2
   go_end0
   exact ⟨rfl, hat, bel⟩
  ·go_enter Tryz.func119, Tryz.ntmps119
   go_wp2_with fail
   refine (implKeep_any lo g qs put d pn _ hat hl hp hz hn1 (by omega) hq hql).mono ?_
   rintro e w3 ⟨rfl, hn3, b3⟩
   go_wp2
   go_end0
   refine ⟨rfl, ?_, bel.trans b3⟩
   simp only [stepN, if_neg hz]
   exact hn3.at_
 ·have hl2 : pz.length ≤ 200 := by omega
  clear hk
  go_enter Tryz.func119, Tryz.ntmps119
  go_wp2_with fail
  refine (implPut_any lo g qs put d A c pz _ hat (hr.past_alloc _) hp (by omega)).mono ?_
  rintro e w3 ⟨rfl, hn3, b3⟩
  go_wp2
  go_end0
  exact ⟨rfl, hn3, bel.trans b3⟩
 ·have hn1 : 0 ≤ pn := by omega
  have hn2 : pn ≤ 200 := by omega
  clear hk
  go_enter Tryz.func119, Tryz.ntmps119
  go_wp2_with fail
  refine (implDrop_any lo g qs put d pn _ hat h0 h1 hn1 (by omega)).mono ?_
  rintro e w3 ⟨rfl, hn3, b3⟩
  go_wp2
  go_end0
  exact ⟨rfl, hn3, bel.trans b3⟩
theorem implOpNorm_any (A : Option Addr) (c : Nat) (ps : List Pt) (w : World) (hr : PRow w w.heap.size A ps) (hl : ps.length ≤ 4294967296) (hls : ∀ p ∈ ps, p.signs.length ≤ 4294967296) (hss : signsIn ps ≤ 1048576) :
  Calls Tryz.prog 107 #[.slice A ps.length c] w (PsPost (normL ps) w) := by
 cases hok : okOp ps
 ·have e1 : normL ps = [] := by simp [normL, hok]
  rw [e1]
  go_enter Tryz.func107, Tryz.ntmps107
  go_wp2_with fail
  refine (implOpOk_any A c ps _ hr hl hls).mono ?_
  rintro e w1 ⟨rfl, b1⟩
  rw [hok] at *
  go_wp2
  go_ret
  refine ⟨_, rfl, ⟨[], World.ownsRow_nil _ _ _ _, ⟨rfl, fun i p u hp _ => by simp at hp, fun i j k u v hu _ _ _ => by simp at hu⟩, fun k hk => by simp [Value.ownBlock] at hk, Nat.le_refl _, b1.size⟩, b1⟩
 ·have e1 : normL ps = doneN (foldN ps) := by simp [normL, hok]
  rw [e1]
  have HPB := Lib.hid (partsB_of (okOp_parts hok))
  go_enter Tryz.func107, Tryz.ntmps107
  go_wp2_with fail
  refine (implOpOk_any A c ps _ hr hl hls).mono ?_
  rintro e w1 ⟨rfl, b1⟩
  rw [hok] at *
  clear hok
  go_wp2
  have hnew := BAt.new w.heap.size 131 w1 b1.size
  have hbn := b1.trans ((alloc_below w1 (.cells #[.slice none 0 0, .slice none 0 0, .int .i64 0] 131)).mono b1.size)
  have hgl : w.heap.size ≤ w1.heap.size := b1.size
  generalize w1.alloc (.cells #[.slice none 0 0, .slice none 0 0, .int .i64 0] 131) = w2 at *
  generalize w1.heap.size = g at *
  clear b1
  go_loopw [13] (fun i wr => ∃ k : Nat, k ≤ ps.length ∧ i = .int .i64 k ∧ BAt w.heap.size g 131 wr (foldN (ps.take k)).1 (foldN (ps.take k)).2.1 (foldN (ps.take k)).2.2 ∧ Below w.heap.size w wr) (fun i _ => ps.length - (intOf i).toNat)
  case atStart => exact ⟨0, Nat.zero_le _, rfl, hnew, hbn⟩
  case round =>
   obtain ⟨k, hk, rfl, hat, hbel⟩ := hrel
   clear hnew hbn
   have hfit := foldN_fit HPB.out.1 k hk
   have hpl := HPB.out.2
   by_cases hlt : k < ps.length
   ·obtain ⟨b, off, p, rfl, hb, hp, hc⟩ := hr.at_ hlt
    obtain ⟨x0, x1, A1, e1, x2, r1⟩ := hc.keep (w' := wr) hb (fun _ hq => hbel.cell hq)
    have hokp := okPs_at hp HPB.out.1
    have K1 := Lib.hid (foldN_snoc hp)
    have hsg : signsIn (ps.take k) ≤ signsIn ps := signsIn_take ps k
    clear hp hc
    generalize foldN (ps.take k) = st at *
    obtain ⟨qs, put, d⟩ := st
    have hf1 := hfit.len
    have hf2 := hfit.signs
    have hf3 := hfit.d0
    have hf4 := hfit.d1
    have hdn := Lib.hid hfit.done
    simp only at hf1 hf2 hf3 hf4 hat
    go_wp2_with fail
    refine (implAdd_any w.heap.size g qs put d p A1 e1 _ (hat.past (alloc_below wr _)) (Row.past_alloc (r1.more hbel.size) _) hokp (by omega) (by omega) hf3 (by omega) (fun p hp => by have := hdn.out.2.2 p hp; omega) (by have := hdn.out.1; exact Nat.le_trans this (by omega))).mono ?_
    rintro e w3 ⟨rfl, hn3, b3⟩
    go_wp2
    go_roundw
    case rel => exact ⟨k + 1, by omega, by go_num, by rw [K1.out]; exact hn3, hbel.trans (((alloc_below wr _).mono hbel.size).trans b3)⟩
    case measure => simp [intOf]; omega
   ·have hke : ps.take k = ps := List.take_of_length_le (by omega)
    rw [hke] at hat hfit
    have hf1 := hfit.len
    have hf2 := hfit.signs
    go_wp2_with fail
    refine (implDone_any w.heap.size g _ _ _ _ hat (by omega) (by omega)).mono ?_
    rintro e w3 ⟨v, rfl, p3, b3⟩
    change PBuf _ _ _ _ (doneN (foldN ps)) at p3
    generalize doneN (foldN ps) = L at *
    obtain ⟨B3, d3, rfl, q3⟩ := p3.slice
    have HP3 := Lib.hid p3
    clear p3
    go_wp2
    go_ret
    exact ⟨_, rfl, HP3.out, hbel.trans b3⟩
theorem implIsNorm_any (A : Option Addr) (c : Nat) (ps : List Pt) (w : World) (hr : PRow w w.heap.size A ps) (hl : ps.length ≤ 4294967296) (hls : ∀ p ∈ ps, p.signs.length ≤ 4294967296) (hss : signsIn ps ≤ 1048576) :
  Calls Tryz.prog 86 #[.slice A ps.length c] w (Tells (isNormL ps) w) := by
 obtain ⟨n1, n2⟩ := normL_fit hss
 have hls' : ∀ p ∈ normL ps, p.signs.length ≤ 4294967296 := fun p hp => by
  obtain ⟨i, hi⟩ := List.getElem?_of_mem hp
  have := signsIn_at hi
  omega
 cases hok : okOp ps
 ·have HS := Lib.hid (show isNormL ps = false by unfold isNormL; rw [hok]; rfl)
  go_enter Tryz.func86, Tryz.ntmps86
  go_wp2_with fail
  refine (implOpOk_any A c ps _ hr hl hls).mono ?_
  rintro e w1 ⟨rfl, b1⟩
  rw [hok] at *
  go_wp2
  go_ret
  exact ⟨ret_bool (by rw [HS.out]), b1⟩
 ·have HS := Lib.hid (show isNormL ps = samePs ps (normL ps) by unfold isNormL; rw [hok, samePs_comm]; rfl)
  go_enter Tryz.func86, Tryz.ntmps86
  go_wp2_with fail
  refine (implOpOk_any A c ps _ hr hl hls).mono ?_
  rintro e w1 ⟨rfl, b1⟩
  rw [hok] at *
  clear hok
  go_wp2_with fail
  refine (implOpNorm_any A c ps _ (hr.past b1) hl hls hss).mono ?_
  rintro e w2 ⟨v2, rfl, p2, b2⟩
  obtain ⟨B2, d2, rfl, q2⟩ := p2.slice
  have d2' := b1.trans (b2.mono b1.size)
  generalize normL ps = L at *
  go_wp2_with fail
  refine (implOpSame_any A B2 c d2 ps L _ (hr.past d2') q2 hl (by omega) hls hls').mono ?_
  rintro e w3 ⟨rfl, b3⟩
  go_wp2
  go_ret
  exact ⟨ret_bool (by rw [HS.out]), d2'.trans (b3.mono d2'.size)⟩
theorem clientOk_any (n : Int) (w : World) : Calls Tryz.prog 67 #[.int .i64 n] w fun e w' => e = .returned (.bool (inB n 1 8)) ∧ w = w' := by
 by_cases h1 : 1 ≤ n
 ·by_cases h2 : n ≤ 8
  ·have HE := Lib.hid (show inB n 1 8 = true from inB_t ⟨h1, h2⟩)
   go_enter Tryz.func67, Tryz.ntmps67
   go_wp2
   go_ret
   exact ⟨ret_b HE.out.symm, rfl⟩
  ·have HE := Lib.hid (show inB n 1 8 = false from inB_f (by omega))
   go_enter Tryz.func67, Tryz.ntmps67
   go_wp2
   go_ret
   exact ⟨ret_b HE.out.symm, rfl⟩
 ·have HE := Lib.hid (show inB n 1 8 = false from inB_f (by omega))
  go_enter Tryz.func67, Tryz.ntmps67
  go_wp2
  go_ret
  exact ⟨ret_b HE.out.symm, rfl⟩
theorem seqOk_any (n : Int) (w : World) : Calls Tryz.prog 68 #[.int .i64 n] w fun e w' => e = .returned (.bool (inB n 1 1000000000)) ∧ w = w' := by
 by_cases h1 : 1 ≤ n
 ·by_cases h2 : n ≤ 1000000000
  ·have HE := Lib.hid (show inB n 1 1000000000 = true from inB_t ⟨h1, h2⟩)
   go_enter Tryz.func68, Tryz.ntmps68
   go_wp2
   go_ret
   exact ⟨ret_b HE.out.symm, rfl⟩
  ·have HE := Lib.hid (show inB n 1 1000000000 = false from inB_f (by omega))
   go_enter Tryz.func68, Tryz.ntmps68
   go_wp2
   go_ret
   exact ⟨ret_b HE.out.symm, rfl⟩
 ·have HE := Lib.hid (show inB n 1 1000000000 = false from inB_f (by omega))
  go_enter Tryz.func68, Tryz.ntmps68
  go_wp2
  go_ret
  exact ⟨ret_b HE.out.symm, rfl⟩
theorem implNameOk_d (s : ByteArray) (w : World) (hs : s.size ≤ 1048576) : Calls Tryz.prog 41 #[.string s] w (Tells (nameB s) w) := by
 by_cases h1 : s.size < 1
 ·have HN := Lib.hid (show nameB s = false by unfold nameB; rw [inB_f (by omega), Bool.and_false])
  have g1 : decide ((s.size : Int) < 1) = true := decide_eq_true (by omega)
  go_enter Tryz.func41, Tryz.ntmps41
  go_wp2
  go_ret
  exact ⟨ret_b HN.out.symm, Below.refl _ _⟩
 by_cases h2 : 8 < s.size
 ·have HN := Lib.hid (show nameB s = false by unfold nameB; rw [inB_f (by omega), Bool.and_false])
  have g1 : decide ((s.size : Int) < 1) = false := decide_eq_false (by omega)
  have g2 : decide (8 < (s.size : Int)) = true := decide_eq_true (by omega)
  go_enter Tryz.func41, Tryz.ntmps41
  go_wp2
  go_ret
  exact ⟨ret_b HN.out.symm, Below.refl _ _⟩
 have HN := Lib.hid (show nameB s = lowersTo s s.size by unfold nameB; rw [inB_t (by omega), Bool.and_true])
 have g1 : decide ((s.size : Int) < 1) = false := decide_eq_false (by omega)
 have g2 : decide (8 < (s.size : Int)) = false := decide_eq_false (by omega)
 go_enter Tryz.func41, Tryz.ntmps41
 go_wp2
 go_loopw [14] (fun i wr => ∃ j : Nat, j ≤ s.size ∧ i = .int .i64 (j : Int) ∧ lowersTo s j = true ∧ Below w.heap.size w wr) (fun i _ => s.size - (intOf i).toNat)
 case atStart => exact ⟨0, Nat.zero_le _, rfl, rfl, Below.refl _ _⟩
 case round =>
  obtain ⟨j, hj, rfl, hi, hbel⟩ := hrel
  have HI := Lib.hid hi
  clear hi
  by_cases hlt : j < s.size
  ·obtain ⟨c, hc⟩ : ∃ c : Nat, c = (s[j]'hlt).toNat := ⟨_, rfl⟩
   have HLO := Lib.hid (show lowerAt s j = decide (97 ≤ c ∧ c ≤ 122) by unfold lowerAt; rw [dif_pos hlt, ← hc])
   by_cases h1 : c < 97
   ·have HF := Lib.hid (lowersTo_f (s := s) (k := j) (by rw [HLO.out]; simp; omega) s.size hlt)
    go_wp2
    go_ret
    exact ⟨ret_b (by rw [HN.out, HF.out]), hbel⟩
   by_cases h2 : 122 < c
   ·have HF := Lib.hid (lowersTo_f (s := s) (k := j) (by rw [HLO.out]; simp; omega) s.size hlt)
    go_wp2
    go_ret
    exact ⟨ret_b (by rw [HN.out, HF.out]), hbel⟩
   ·have HT := Lib.hid (show lowersTo s (j + 1) = true by rw [lowersTo, HI.out, HLO.out]; simp; omega)
    go_wp2
    go_roundw
    case rel => exact ⟨j + 1, by omega, by go_num, HT.out, hbel⟩
    case measure => simp [intOf]; omega
  ·obtain rfl : j = s.size := by omega
   go_wp2
   go_ret
   exact ⟨ret_b (by rw [HN.out, HI.out]), hbel⟩
theorem implEntryOk_d (v : Value) (x : En) (w : World) (h : RdC w w.heap.size (datEn x) v) (hs : SmEn x) : Calls Tryz.prog 66 #[v] w (Tells (entryB x) w) := by
 obtain ⟨A2, c2, rfl, r2⟩ := aggEn h
 have b0 := alloc_below w (.cells #[.int .i64 x.client, .int .i64 x.seq, .slice A2 x.o.length c2] 59)
 have HE := Lib.hid (show entryB x = (inB x.client 1 8 && inB x.seq 1 1000000000 && isNormL x.o) from rfl)
 cases h1 : inB x.client 1 8
 ·go_enter Tryz.func66, Tryz.ntmps66
  go_wp2_with fail
  refine (clientOk_any _ _).mono ?_
  rintro e w1 ⟨rfl, rfl⟩
  rw [h1]
  go_wp2
  go_ret
  exact ⟨ret_b (by rw [HE.out, h1]; rfl), b0⟩
 cases h2 : inB x.seq 1 1000000000
 ·go_enter Tryz.func66, Tryz.ntmps66
  go_wp2_with fail
  refine (clientOk_any _ _).mono ?_
  rintro e w1 ⟨rfl, rfl⟩
  rw [h1]
  go_wp2_with fail
  refine (seqOk_any _ _).mono ?_
  rintro e w1 ⟨rfl, rfl⟩
  rw [h2]
  go_wp2
  go_ret
  exact ⟨ret_b (by rw [HE.out, h1, h2]; rfl), b0⟩
 obtain ⟨A, c, e2, hr, _⟩ := parts_rd r2
 injection e2 with e2 _ e3
 subst e2 e3
 have hso := hs.o
 have hs1 := hso.1
 have hs2 := hso.2
 go_enter Tryz.func66, Tryz.ntmps66
 go_wp2_with fail
 refine (clientOk_any _ _).mono ?_
 rintro e w1 ⟨rfl, rfl⟩
 rw [h1]
 go_wp2_with fail
 refine (seqOk_any _ _).mono ?_
 rintro e w1 ⟨rfl, rfl⟩
 rw [h2]
 go_wp2_with fail
 refine (implIsNorm_any A2 c2 x.o _ (hr.past b0) (by omega) hso.all4 hs2).mono ?_
 rintro e w1 ⟨rfl, b1⟩
 go_wp2
 go_ret
 exact ⟨ret_b (by rw [HE.out, h1, h2]; rfl), b0.trans (b1.mono b0.size)⟩
theorem implHeadRev_w (v : Value) (x : Do) (w : World) (h : RdC w w.heap.size (datDo x) v) : Calls Tryz.prog 44 #[v] w (Nums1 (headRevT x) w) := by
 obtain ⟨A2, c2, A3, c3, A4, c4, rfl, _⟩ := aggDo h
 have b0 := alloc_below w (.cells #[.string x.name, .int .i64 x.from_, .slice A2 x.text.length c2, .slice A3 x.list.length c3, .slice A4 x.seen.length c4] 32)
 go_enter Tryz.func44, Tryz.ntmps44
 go_wp2
 go_ret
 exact ⟨rfl, b0⟩
def putSe : List Se → Se → List Se
 | [], s => [s]
 | t :: l, s => if t.client = s.client then s :: l else t :: putSe l s
def OneSe (l : List Se) : Prop := (l.map (·.client)).Nodup
theorem seenGo_none {k : Int} : ∀ {l : List Se}, seenGo k l = none ↔ ∀ s ∈ l, ¬ s.client = k
 | [] => by simp [seenGo]
 | t :: l => by
  unfold seenGo
  by_cases h : t.client = k
  ·simp [h]
  ·rw [if_neg h, seenGo_none (l := l)]
   simp [h]
theorem seenGo_at {k : Int} {s : Se} : ∀ {l : List Se} {j : Nat}, OneSe l → l[j]? = some s → s.client = k → seenGo k l = some s ∧ ∀ s', s'.client = k → putSe l s' = l.set j s'
 | [], j, _, h, _ => by simp at h
 | t :: l, 0, hn, h, e => by
  obtain rfl : t = s := by simpa using h
  refine ⟨by unfold seenGo; rw [if_pos e], fun s' h' => ?_⟩
  unfold putSe
  rw [if_pos (by rw [e, h'])]
  rfl
 | t :: l, j + 1, hn, h, e => by
  unfold OneSe at hn
  rw [List.map_cons, List.nodup_cons] at hn
  have h1 : l[j]? = some s := by simpa using h
  have hne : ¬ t.client = k := fun h2 => hn.1 (by rw [h2, ← e]; exact List.mem_map.2 ⟨s, List.mem_of_getElem? h1, rfl⟩)
  have ih := seenGo_at (l := l) hn.2 h1 e
  refine ⟨by unfold seenGo; rw [if_neg hne]; exact ih.1, fun s' h' => ?_⟩
  unfold putSe
  rw [if_neg (by rw [h']; exact hne), ih.2 s' h']
  rfl
theorem putSe_new {s : Se} : ∀ {l : List Se}, (∀ t ∈ l, ¬ t.client = s.client) → putSe l s = l ++ [s]
 | [], _ => rfl
 | t :: l, h => by
  unfold putSe
  rw [if_neg (h t (by simp)), putSe_new (fun u hu => h u (by simp [hu]))]
  rfl
theorem putSe_clients {s : Se} : ∀ {l : List Se}, (putSe l s).map (·.client) = if s.client ∈ l.map (·.client) then l.map (·.client) else l.map (·.client) ++ [s.client]
 | [] => by simp [putSe]
 | u :: l => by
  unfold putSe
  by_cases e : u.client = s.client
  ·rw [if_pos e]
   simp [e]
  ·rw [if_neg e, List.map_cons, putSe_clients (l := l), List.map_cons]
   have e' : ¬ s.client = u.client := fun h => e h.symm
   by_cases h : s.client ∈ l.map (·.client)
   ·rw [if_pos h, if_pos (List.mem_cons_of_mem _ h)]
   ·rw [if_neg h, if_neg (by simp only [List.mem_cons, not_or]; exact ⟨e', h⟩)]
    rfl
theorem OneSe.put {l : List Se} (h : OneSe l) (s : Se) : OneSe (putSe l s) := by
 unfold OneSe at *
 rw [putSe_clients]
 split
 ·exact h
 ·rename_i hn
  rw [List.nodup_append]
  refine ⟨h, by simp, fun a ha b hb e => ?_⟩
  obtain rfl : b = s.client := by simpa using hb
  exact hn (e ▸ ha)
theorem putSe_len {l : List Se} {s : Se} : (putSe l s).length ≤ l.length + 1 := by
 have h := congrArg List.length (putSe_clients (l := l) (s := s))
 rw [List.length_map] at h
 rw [h]
 split <;> simp
def firstSe (m : List Se) (s : Se) : List Se := if (seenGo s.client m).isSome then m else putSe m s
def dedSe (l : List Se) : List Se := l.foldl firstSe []
theorem OneSe.nil : OneSe [] := by simp [OneSe]
theorem OneSe.first {l : List Se} (h : OneSe l) (s : Se) : OneSe (firstSe l s) := by
 unfold firstSe
 split
 ·exact h
 ·exact h.put s
theorem ded_snoc {l : List Se} {j : Nat} {s : Se} (h : l[j]? = some s) : dedSe (l.take (j + 1)) = firstSe (dedSe (l.take j)) s := by
 obtain ⟨hlt, e⟩ := List.getElem?_eq_some_iff.1 h
 rw [List.take_succ_eq_append_getElem hlt, e, dedSe, List.foldl_append]
 rfl
theorem foldFirst_one : ∀ {l m : List Se}, OneSe m → OneSe (l.foldl firstSe m)
 | [], m, h => h
 | s :: l, m, h => foldFirst_one (l := l) (h.first s)
theorem one_ded (l : List Se) : OneSe (dedSe l) := foldFirst_one OneSe.nil
theorem ded_len : ∀ {l m : List Se}, (l.foldl firstSe m).length ≤ m.length + l.length
 | [], m => by simp
 | s :: l, m => by
  have := ded_len (l := l) (m := firstSe m s)
  have h2 : (firstSe m s).length ≤ m.length + 1 := by
   unfold firstSe
   split
   ·omega
   ·exact putSe_len
  rw [List.foldl_cons, List.length_cons]
  omega
def AscSe (l : List Se) : Prop := l.Pairwise (fun a b => a.client < b.client)
def insSe (s : Se) : List Se → List Se
 | [] => [s]
 | t :: l => if s.client < t.client then s :: t :: l else t :: insSe s l
def ordSe : List Se → List Se
 | [] => []
 | s :: l => insSe s (ordSe l)
theorem insSe_perm {s : Se} : ∀ {l : List Se}, (insSe s l).Perm (s :: l)
 | [] => List.Perm.refl _
 | t :: l => by
  unfold insSe
  split
  ·exact List.Perm.refl _
  ·exact ((insSe_perm (l := l)).cons t).trans (List.Perm.swap s t l)
theorem ordSe_perm : ∀ {l : List Se}, (ordSe l).Perm l
 | [] => List.Perm.refl _
 | s :: l => insSe_perm.trans ((ordSe_perm (l := l)).cons s)
theorem insSe_asc {s : Se} : ∀ {l : List Se}, AscSe l → (∀ t ∈ l, ¬ t.client = s.client) → AscSe (insSe s l)
 | [], _, _ => by simp [insSe, AscSe]
 | t :: l, h, hn => by
  unfold insSe
  have ht := hn t (by simp)
  unfold AscSe at h
  rw [List.pairwise_cons] at h
  split
  ·rename_i hlt
   refine List.pairwise_cons.2 ⟨fun u hu => ?_, List.pairwise_cons.2 h⟩
   rcases List.mem_cons.1 hu with rfl | hu
   ·exact hlt
   ·have := h.1 u hu; omega
  ·rename_i hlt
   refine List.pairwise_cons.2 ⟨fun u hu => ?_, insSe_asc h.2 (fun u hu => hn u (by simp [hu]))⟩
   rcases List.mem_cons.1 (insSe_perm.mem_iff.1 hu) with rfl | hu
   ·omega
   ·exact h.1 u hu
theorem ordSe_asc : ∀ {l : List Se}, OneSe l → AscSe (ordSe l)
 | [], _ => List.Pairwise.nil
 | s :: l, h => by
  unfold OneSe at h
  rw [List.map_cons, List.nodup_cons] at h
  refine insSe_asc (ordSe_asc (l := l) h.2) (fun t ht e => h.1 ?_)
  rw [← e]
  exact List.mem_map.2 ⟨t, ordSe_perm.mem_iff.1 ht, rfl⟩
theorem asc_eq : ∀ {l m : List Se}, AscSe l → AscSe m → l.Perm m → l = m
 | [], m, _, _, h => (List.Perm.nil_eq h)
 | s :: l, m, h1, h2, h => by
  cases m with
  | nil => exact absurd h.symm.nil_eq (by simp)
  | cons t m =>
   have hs : s ∈ t :: m := h.mem_iff.1 (by simp)
   have ht : t ∈ s :: l := h.mem_iff.2 (by simp)
   unfold AscSe at h1 h2
   rw [List.pairwise_cons] at h1 h2
   obtain rfl : s = t := by
    rcases List.mem_cons.1 hs with e | hs
    ·exact e
    ·rcases List.mem_cons.1 ht with e | ht
     ·exact e.symm
     ·have := h1.1 t ht
      have := h2.1 s hs
      omega
   rw [asc_eq h1.2 h2.2 ((List.perm_cons s).1 h)]
theorem AscSe.one {l : List Se} (h : AscSe l) : OneSe l := by
 unfold OneSe List.Nodup
 rw [List.pairwise_map]
 exact List.Pairwise.imp (fun h => by omega) h
theorem one_ordered {l c : List Se} (h : OneSe l) (hp : c.Perm l) (ha : AscSe c) : c = ordSe l := asc_eq ha (ordSe_asc h) (hp.trans ordSe_perm.symm)
theorem foldFirst_new : ∀ {l m : List Se}, OneSe (m ++ l) → l.foldl firstSe m = m ++ l
 | [], m, _ => by simp
 | s :: l, m, h => by
  have h1 : firstSe m s = m ++ [s] := by
   have hn : ∀ t ∈ m, ¬ t.client = s.client := fun t ht e => by
    unfold OneSe at h
    rw [List.map_append, List.nodup_append] at h
    exact h.2.2 t.client (List.mem_map.2 ⟨t, ht, rfl⟩) s.client (by simp) e
   unfold firstSe
   rw [seenGo_none.2 hn, if_neg (by simp), putSe_new hn]
  rw [List.foldl_cons, h1, foldFirst_new (l := l) (m := m ++ [s]) (by rw [List.append_assoc]; exact h), List.append_assoc]
  rfl
theorem ded_one {l : List Se} (h : OneSe l) : dedSe l = l := foldFirst_new (m := []) h
theorem ord_ded {l : List Se} : l = ordSe (dedSe l) ↔ AscSe l :=
 ⟨fun h => by rw [h]; exact ordSe_asc (one_ded l), fun h => by rw [ded_one h.one]; exact one_ordered h.one (List.Perm.refl _) h⟩
def CoR (K : Fx) (go : Nat) (w0 w' : World) : Prop := ∃ O L RX RY, CB K go 118 O L w' none none RX RY ∧ CInv K.a K.b RX RY L ∧ Below K.lo w0 w'
theorem CoR.mk {K : Fx} {go : Nat} {w0 w' : World} {O : Nat → Prop} {L : List Pt} {RX RY : List U} (h : CB K go 118 O L w' none none RX RY) (hi : CInv K.a K.b RX RY L) (D : Below K.lo w0 w') : CoR K go w0 w' := ⟨O, L, RX, RY, h, hi, D⟩
theorem heap_old (w : World) (o : Obj) {g : Nat} {x : Obj} (h : w.heap[g]? = some x) : (w.alloc o).heap[g]? = some x := by
 rw [Below.heap_alloc _ _ _ (lt_of_some h)]
 exact h
theorem cur_new {w : World} {g : Nat} {T : TypeId} {A : Option Addr} {c : Nat} {ps : List Pt} (h : w.heap[g]? = some (.cells #[.slice A ps.length c, .int .i64 0, .int .i64 0] T (0, 0))) : ∃ i d, Cur g T w A c ps i d ∧ rem ps i d = units ps ∧ Sett ps i d none :=
 ⟨0, 0, ⟨h, Nat.zero_le _, fun _ _ => Nat.zero_le _, fun _ => rfl⟩, by simp [rem], trivial⟩
theorem Cs.new {w w' : World} {A B : Option Addr} {ca cb lo : Nat} {a b : List Pt} {TC : TypeId} (hlo : lo ≤ w.heap.size) (ra : RdC w lo (encPs a) (.slice A a.length ca)) (rb : RdC w lo (encPs b) (.slice B b.length cb)) (sa : ∀ p ∈ a, szP_ p) (sb : ∀ p ∈ b, szP_ p) (na : a.length ≤ 1048576) (nb : b.length ≤ 1048576)
  (hx : w'.heap[w.heap.size]? = some (.cells #[.slice A a.length ca, .int .i64 0, .int .i64 0] TC (0, 0))) (hy : w'.heap[w.heap.size + 1]? = some (.cells #[.slice B b.length cb, .int .i64 0, .int .i64 0] TC (0, 0))) (hb : Below lo w w') : Cs ⟨lo, w.heap.size, w.heap.size + 1, TC, A, ca, a, B, cb, b⟩ w' none none (units a) (units b) :=
 ⟨cur_new hx, cur_new hy, ra.below hb, rb.below hb, by simp, hlo, Nat.le_succ_of_le hlo, sa, sb, na, nb⟩
theorem CB.new {w : World} {A B : Option Addr} {ca cb lo : Nat} {a b : List Pt} {TC TB : TypeId} (hlo : lo ≤ w.heap.size) (ra : RdC w lo (encPs a) (.slice A a.length ca)) (rb : RdC w lo (encPs b) (.slice B b.length cb)) (sa : ∀ p ∈ a, szP_ p) (sb : ∀ p ∈ b, szP_ p) (na : a.length ≤ 1048576) (nb : b.length ≤ 1048576) :
  CB ⟨lo, w.heap.size, w.heap.size + 1, TC, A, ca, a, B, cb, b⟩ (w.heap.size + 1 + 1) TB (fun q => q = w.heap.size + 1 + 1) [] (((w.alloc (.cells #[.slice A a.length ca, .int .i64 0, .int .i64 0] TC)).alloc (.cells #[.slice B b.length cb, .int .i64 0, .int .i64 0] TC)).alloc (.cells #[.slice none 0 0, .slice none 0 0, .int .i64 0] TB)) none none (units a) (units b) ∧
  Below lo w (((w.alloc (.cells #[.slice A a.length ca, .int .i64 0, .int .i64 0] TC)).alloc (.cells #[.slice B b.length cb, .int .i64 0, .int .i64 0] TC)).alloc (.cells #[.slice none 0 0, .slice none 0 0, .int .i64 0] TB)) := by
 have s1 : (w.alloc (.cells #[.slice A a.length ca, .int .i64 0, .int .i64 0] TC)).heap.size = w.heap.size + 1 := Array.size_push ..
 have s2 : ((w.alloc (.cells #[.slice A a.length ca, .int .i64 0, .int .i64 0] TC)).alloc (.cells #[.slice B b.length cb, .int .i64 0, .int .i64 0] TC)).heap.size = w.heap.size + 1 + 1 := by rw [← s1]; exact Array.size_push ..
 have b1 := (((alloc_below w (.cells #[.slice A a.length ca, .int .i64 0, .int .i64 0] TC)).mono hlo).alloc (by rw [s1]; omega) (.cells #[.slice B b.length cb, .int .i64 0, .int .i64 0] TC)).alloc (by rw [s2]; omega) (.cells #[.slice none 0 0, .slice none 0 0, .int .i64 0] TB)
 have hb := Bld.new lo TB ((w.alloc (.cells #[.slice A a.length ca, .int .i64 0, .int .i64 0] TC)).alloc (.cells #[.slice B b.length cb, .int .i64 0, .int .i64 0] TC)) (by rw [s2]; omega)
 rw [s2] at hb
 exact ⟨⟨Cs.new hlo ra rb sa sb na nb (heap_old _ _ (heap_old _ _ (heap_alloc_new w _))) (heap_old _ _ (by rw [← s1]; exact heap_alloc_new _ _)) b1, hb, by show ¬ w.heap.size = _; omega, by show ¬ w.heap.size + 1 = _; omega⟩, b1⟩
end Go.Proofs.YtjbabdkgficjnaaGreat.low
