/-
  Texts that the proofs over this seat rest on, one behind the other (3 of 5).
-/
import Derived.Test.YtgfbcpcfdlnbhaaGreatM2
import Derived.Deep.AppendLies

/-
  Contract of spec.DocOk.
-/
namespace Go.Proofs.YtgfbcpcfdlnbhaaGreat.low
open Go.RowKit
set_option linter.unusedVariables false

/-- the entries apply one behind the other, each is valid -/
def chainGo : List En → List Int → Bool
  | [], _ => true
  | e :: l, t => fitsB e.o t && entryB e && okText (applyT e.o t) && chainGo l (applyT e.o t)
theorem chainGo_step {l : List En} {j : Nat} {e : En} (h : l[j]? = some e) (t : List Int) : chainGo (l.drop j) t = (fitsB e.o t && entryB e && okText (applyT e.o t) && chainGo (l.drop (j + 1)) (applyT e.o t)) := by
  obtain ⟨hlt, e'⟩ := List.getElem?_eq_some_iff.1 h
  rw [List.drop_eq_getElem_cons hlt, e']
  rfl
/-- the rows of clients, in ascending order -/
def seenOneB (h : Int) (prev : Option Int) (s : Se) : Bool := inB s.client 1 8 && inB s.seq 1 1000000000 && inB s.rev 1 h && (match prev with | none => true | some p => decide (p < s.client))
def seenAllB (h : Int) : Option Int → List Se → Bool
  | _, [] => true
  | prev, s :: l => seenOneB h prev s && seenAllB h (some s.client) l
def prevOf (l : List Se) : Nat → Option Int
  | 0 => none
  | k + 1 => (l[k]?).map Se.client
theorem seenAllB_step {h : Int} {l : List Se} {j : Nat} {s : Se} (hs : l[j]? = some s) : seenAllB h (prevOf l j) (l.drop j) = (seenOneB h (prevOf l j) s && seenAllB h (prevOf l (j + 1)) (l.drop (j + 1))) := by
  obtain ⟨hlt, e'⟩ := List.getElem?_eq_some_iff.1 hs
  rw [List.drop_eq_getElem_cons hlt, e']
  have : prevOf l (j + 1) = some s.client := by rw [prevOf, hs]; rfl
  rw [this]
  rfl
/-- a document is valid -/
def docB (x : Do) : Bool := nameB x.name && inB x.from_ 0 999999000 && okText x.text && decide (x.list.length ≤ 8) && chainGo x.list x.text && seenAllB (headRevT x) none x.seen
theorem okText_small {t : List Int} (h : okText t = true) : SmI t := by
  unfold okText at h
  rw [Bool.and_eq_true] at h
  have := of_decide_eq_true h.2
  unfold SmI
  omega
theorem SmDo.nameL {x : Do} (h : SmDo x) : x.name.size ≤ 1048576 := by unfold SmDo totDo at h; omega
/-- a document each of whose fields is small -/
structure SmD4 (x : Do) : Prop where
  nameL : x.name.size ≤ 1048576
  text : SmI x.text
  list : SmEns x.list
  seen : SmSes x.seen
theorem SmDo.four {x : Do} (h : SmDo x) : SmD4 x := ⟨h.nameL, h.text, h.list, h.seen⟩
set_option maxRecDepth 100000 in
set_option maxHeartbeats 12800000 in
theorem specDocOk_w (v : Value) (x : Do) (w : World) (h : RdC w w.heap.size (datDo x) v) (hs : SmD4 x) : Calls Tryz.prog 9 #[v] w (Tells (docB x) w) := by
  have HR := Lib.hid h
  obtain ⟨A2, c2, A3, c3, A4, c4, rfl, r2, r3, r4⟩ := aggDo h
  have hl3 := hs.list.len
  have hl4 := hs.seen.len
  have HD := Lib.hid (show docB x = (nameB x.name && inB x.from_ 0 999999000 && okText x.text && decide (x.list.length ≤ 8) && chainGo x.list x.text && seenAllB (headRevT x) none x.seen) from rfl)
  have b0 := alloc_below w (.cells #[.string x.name, .int .i64 x.from_, .slice A2 x.text.length c2, .slice A3 x.list.length c3, .slice A4 x.seen.length c4] 32)
  have bx := Bx.new w #[.string x.name, .int .i64 x.from_, .slice A2 x.text.length c2, .slice A3 x.list.length c3, .slice A4 x.seen.length c4] 32
  go_enter Tryz.func9, Tryz.ntmps9
  go_wp2_with fail
  generalize w.alloc (.cells #[.string x.name, .int .i64 x.from_, .slice A2 x.text.length c2, .slice A3 x.list.length c3, .slice A4 x.seen.length c4] 32) = W0 at b0 bx ⊢
  refine (specNameOk_d x.name _ hs.nameL).mono ?_
  rintro e w1 ⟨rfl, k1⟩
  have bx := bx.past k1
  have d1 := b0.trans (k1.mono b0.size)
  clear k1
  cases hn : nameB x.name
  · go_wp2
    go_ret
    exact ⟨ret_b (by rw [HD.out, hn]; rfl), d1⟩
  have y1 : w1.cell? ⟨w.heap.size, 1, none⟩ = some (.int .i64 x.from_) := bx.cell rfl
  go_wp2_with fail
  refine (in_any _ _ _ _).mono ?_
  rintro e w' ⟨rfl, rfl⟩
  cases hf : inB x.from_ 0 999999000
  · go_wp2
    go_ret
    exact ⟨ret_b (by rw [HD.out, hn, hf]; rfl), d1⟩
  have y2 : w1.cell? ⟨w.heap.size, 2, none⟩ = some (.slice A2 x.text.length c2) := bx.cell rfl
  go_wp2_with fail
  refine (specTextOk_d _ x.text _ (r2.past d1) hs.text).mono ?_
  rintro e w2 ⟨rfl, k2⟩
  have bx := bx.past k2
  have d2 := d1.trans (k2.mono d1.size)
  clear k2 y1 y2
  cases ht : okText x.text
  · go_wp2
    go_ret
    exact ⟨ret_b (by rw [HD.out, hn, hf, ht]; rfl), d2⟩
  have y3 : w2.cell? ⟨w.heap.size, 3, none⟩ = some (.slice A3 x.list.length c3) := bx.cell rfl
  by_cases hw : 8 < x.list.length
  · go_wp2
    go_ret
    exact ⟨ret_b (by rw [HD.out, hn, hf, ht, decide_eq_false (by omega)]; rfl), d2⟩
  have HD2 := Lib.hid (show docB x = (chainGo x.list x.text && seenAllB (headRevT x) none x.seen) by rw [HD.out, hn, hf, ht, decide_eq_true (by omega)]; rfl)
  have hst := okText_small ht
  have y2 : w2.cell? ⟨w.heap.size, 2, none⟩ = some (.slice A2 x.text.length c2) := bx.cell rfl
  have BX := Lib.hid bx
  have R2 := Lib.hid (r2.past d2)
  clear bx hn hf ht HD r2
  go_wp2
  go_loopw [3, 37] (fun tv i wr => ∃ (j : Nat) (t : List Int) (A : Option Addr) (c : Nat), j ≤ x.list.length ∧ i = .int .i64 (j : Int) ∧ tv = .slice A t.length c ∧ RdC wr wr.heap.size (encInts t) tv ∧ SmI t ∧ chainGo x.list x.text = chainGo (x.list.drop j) t ∧ Bx wr w.heap.size #[.string x.name, .int .i64 x.from_, .slice A2 x.text.length c2, .slice A3 x.list.length c3, .slice A4 x.seen.length c4] 32 ∧ Below w.heap.size w wr) (fun _ i _ => x.list.length - (intOf i).toNat)
  case atStart => exact ⟨0, x.text, A2, c2, Nat.zero_le _, rfl, rfl, R2.out, hst, by simp, BX.out, d2⟩
  case round =>
    obtain ⟨j, t, A, c, hj, rfl, rfl, hrt, hst, hch, hbx, hbel⟩ := hrel
    clear BX R2 y2 y3 d2
    have HCH := Lib.hid hch
    have HBX := Lib.hid hbx
    have HRT := Lib.hid hrt
    clear hch hbx hrt
    by_cases hlt : j < x.list.length
    · obtain ⟨b, off, e, A5, c5, rfl, hbb, hp, z0, z1, z2, q2⟩ := atEns (r3.below hbel) hlt
      have HS := Lib.hid (chainGo_step hp t)
      have hse := hs.list.at_ (List.mem_of_getElem? hp)
      clear hp
      have bA := alloc_below wr (.cells #[.int .i64 e.client, .int .i64 e.seq, .slice A5 e.o.length c5] 59)
      have bxE := Bx.new wr #[.int .i64 e.client, .int .i64 e.seq, .slice A5 e.o.length c5] 59
      have q2 := RdC.more hbel.size _ _ q2
      go_wp2_with fail
      generalize wr.alloc (.cells #[.int .i64 e.client, .int .i64 e.seq, .slice A5 e.o.length c5] 59) = W1 at bA bxE ⊢
      refine (specApply_d _ _ e.o t _ (q2.past bA) (HRT.out.past bA) hse.o hst).mono ?_
      rintro e' w3 ⟨v3, rfl, o3, b3⟩
      obtain ⟨A6, c6, rfl⟩ := sliceI o3.read
      have bxE := bxE.past b3
      have d3 := bA.trans (b3.mono bA.size)
      have R3 := Lib.hid o3.read
      clear o3 b3 bA
      cases hfit : fitsB e.o t
      · go_wp2
        go_ret
        exact ⟨ret_b (by rw [HD2.out, HCH.out, HS.out, hfit]; rfl), hbel.trans (d3.mono hbel.size)⟩
      have x0 : w3.cell? ⟨wr.heap.size, 0, none⟩ = some (.int .i64 e.client) := bxE.cell rfl
      have x1 : w3.cell? ⟨wr.heap.size, 1, none⟩ = some (.int .i64 e.seq) := bxE.cell rfl
      have x2 : w3.cell? ⟨wr.heap.size, 2, none⟩ = some (.slice A5 e.o.length c5) := bxE.cell rfl
      go_wp2_with fail
      refine (specEntryOk_d _ e _ (rdEn e (q2.past d3)) hse).mono ?_
      rintro e' w4 ⟨rfl, b4⟩
      have d4 := d3.trans (b4.mono d3.size)
      cases hent : entryB e
      · go_wp2
        go_ret
        exact ⟨ret_b (by rw [HD2.out, HCH.out, HS.out, hfit, hent]; rfl), hbel.trans (d4.mono hbel.size)⟩
      have hs6 : SmI (applyT e.o t) := apply_small hse.o hst
      go_wp2_with fail
      refine (specTextOk_d _ (applyT e.o t) _ (R3.out.past b4) hs6).mono ?_
      rintro e' w5 ⟨rfl, b5⟩
      have d5 := d4.trans (b5.mono d4.size)
      cases hok : okText (applyT e.o t)
      · go_wp2
        go_ret
        exact ⟨ret_b (by rw [HD2.out, HCH.out, HS.out, hfit, hent, hok]; rfl), hbel.trans (d5.mono hbel.size)⟩
      · have HN := Lib.hid (show chainGo x.list x.text = chainGo (x.list.drop (j + 1)) (applyT e.o t) by rw [HCH.out, HS.out, hfit, hent, hok]; rfl)
        go_wp2
        go_roundw
        case rel => exact ⟨j + 1, applyT e.o t, A6, c6, by omega, by go_num, rfl, (R3.out.past b4).past b5, okText_small hok, HN.out, HBX.out.past d5, hbel.trans (d5.mono hbel.size)⟩
        case measure => simp [intOf]; omega
    · have HD3 := Lib.hid (show docB x = seenAllB (headRevT x) none x.seen by rw [HD2.out, HCH.out, List.drop_eq_nil_of_le (by omega)]; rfl)
      have y4 : wr.cell? ⟨w.heap.size, 4, none⟩ = some (.slice A4 x.seen.length c4) := HBX.out.cell rfl
      have HBE := Lib.hid hbel
      clear HRT
      go_wp2
      go_loopw [65] (fun i wq => ∃ j : Nat, j ≤ x.seen.length ∧ i = .int .i64 (j : Int) ∧ docB x = seenAllB (headRevT x) (prevOf x.seen j) (x.seen.drop j) ∧ Bx wq w.heap.size #[.string x.name, .int .i64 x.from_, .slice A2 x.text.length c2, .slice A3 x.list.length c3, .slice A4 x.seen.length c4] 32 ∧ Below w.heap.size w wq) (fun i _ => x.seen.length - (intOf i).toNat)
      case atStart => exact ⟨0, Nat.zero_le _, rfl, by simpa [prevOf] using HD3.out, HBX.out, HBE.out⟩
      case round =>
        obtain ⟨j, hj, rfl, hdc, hbx, hbel⟩ := hrel
        clear HBX HBE HD3 y4
        have HDC := Lib.hid hdc
        have HBX := Lib.hid hbx
        clear hdc hbx
        by_cases hlt : j < x.seen.length
        · obtain ⟨b, off, s, rfl, hbb, hp, z0, z1, z2⟩ := atSes (r4.below hbel) hlt
          have HS := Lib.hid (seenAllB_step (h := headRevT x) hp)
          have HP := Lib.hid hp
          clear hp
          -- round2
          have bA := alloc_below wr (.cells #[.int .i64 s.client, .int .i64 s.seq, .int .i64 s.rev] 63)
          have bxS := Bx.new wr #[.int .i64 s.client, .int .i64 s.seq, .int .i64 s.rev] 63
          have bxD := HBX.out.past bA
          have hbq : b < wr.heap.size := Nat.lt_of_lt_of_le hbb hbel.size
          cases h1 : inB s.client 1 8
          · go_wp2
            generalize wr.alloc (.cells #[.int .i64 s.client, .int .i64 s.seq, .int .i64 s.rev] 63) = W1 at bA bxS bxD ⊢
            have y0 : W1.cell? ⟨wr.heap.size, 0, none⟩ = some (.int .i64 s.client) := bxS.cell rfl
            have y1 : W1.cell? ⟨wr.heap.size, 1, none⟩ = some (.int .i64 s.seq) := bxS.cell rfl
            have y2 : W1.cell? ⟨wr.heap.size, 2, none⟩ = some (.int .i64 s.rev) := bxS.cell rfl
            have y3 : W1.cell? ⟨w.heap.size, 0, none⟩ = some (.string x.name) := bxD.cell rfl
            have y4 : W1.cell? ⟨w.heap.size, 1, none⟩ = some (.int .i64 x.from_) := bxD.cell rfl
            have y5 : W1.cell? ⟨w.heap.size, 2, none⟩ = some (.slice A2 x.text.length c2) := bxD.cell rfl
            have y6 : W1.cell? ⟨w.heap.size, 3, none⟩ = some (.slice A3 x.list.length c3) := bxD.cell rfl
            have y7 : W1.cell? ⟨w.heap.size, 4, none⟩ = some (.slice (some ⟨b, off, none⟩) x.seen.length c4) := bxD.cell rfl
            have lS := bxS.lt
            have lD := bxD.lt
            have SX := Lib.hid (show ∀ (W W' : World), (W.cell? ⟨wr.heap.size, 0, none⟩ = some (.int .i64 s.client) ∧ W.cell? ⟨wr.heap.size, 1, none⟩ = some (.int .i64 s.seq) ∧ W.cell? ⟨wr.heap.size, 2, none⟩ = some (.int .i64 s.rev) ∧ W.cell? ⟨w.heap.size, 0, none⟩ = some (.string x.name) ∧ W.cell? ⟨w.heap.size, 1, none⟩ = some (.int .i64 x.from_) ∧ W.cell? ⟨w.heap.size, 2, none⟩ = some (.slice A2 x.text.length c2) ∧ W.cell? ⟨w.heap.size, 3, none⟩ = some (.slice A3 x.list.length c3) ∧ W.cell? ⟨w.heap.size, 4, none⟩ = some (.slice (some ⟨b, off, none⟩) x.seen.length c4) ∧ KS W1 W) → Below W.heap.size W W' → (W'.cell? ⟨wr.heap.size, 0, none⟩ = some (.int .i64 s.client) ∧ W'.cell? ⟨wr.heap.size, 1, none⟩ = some (.int .i64 s.seq) ∧ W'.cell? ⟨wr.heap.size, 2, none⟩ = some (.int .i64 s.rev) ∧ W'.cell? ⟨w.heap.size, 0, none⟩ = some (.string x.name) ∧ W'.cell? ⟨w.heap.size, 1, none⟩ = some (.int .i64 x.from_) ∧ W'.cell? ⟨w.heap.size, 2, none⟩ = some (.slice A2 x.text.length c2) ∧ W'.cell? ⟨w.heap.size, 3, none⟩ = some (.slice A3 x.list.length c3) ∧ W'.cell? ⟨w.heap.size, 4, none⟩ = some (.slice (some ⟨b, off, none⟩) x.seen.length c4) ∧ KS W1 W') from fun W W' h hb => by have hk := h.2.2.2.2.2.2.2.2; have hkk : KS W1 W' := hk.trans (hb.mono hk.size); exact ⟨(hkk.cell (p := ⟨wr.heap.size, 0, none⟩) lS).trans y0, (hkk.cell (p := ⟨wr.heap.size, 1, none⟩) lS).trans y1, (hkk.cell (p := ⟨wr.heap.size, 2, none⟩) lS).trans y2, (hkk.cell (p := ⟨w.heap.size, 0, none⟩) lD).trans y3, (hkk.cell (p := ⟨w.heap.size, 1, none⟩) lD).trans y4, (hkk.cell (p := ⟨w.heap.size, 2, none⟩) lD).trans y5, (hkk.cell (p := ⟨w.heap.size, 3, none⟩) lD).trans y6, (hkk.cell (p := ⟨w.heap.size, 4, none⟩) lD).trans y7, hkk⟩)
            have RD := Lib.hid (show ∀ W : World, (W.cell? ⟨wr.heap.size, 0, none⟩ = some (.int .i64 s.client) ∧ W.cell? ⟨wr.heap.size, 1, none⟩ = some (.int .i64 s.seq) ∧ W.cell? ⟨wr.heap.size, 2, none⟩ = some (.int .i64 s.rev) ∧ W.cell? ⟨w.heap.size, 0, none⟩ = some (.string x.name) ∧ W.cell? ⟨w.heap.size, 1, none⟩ = some (.int .i64 x.from_) ∧ W.cell? ⟨w.heap.size, 2, none⟩ = some (.slice A2 x.text.length c2) ∧ W.cell? ⟨w.heap.size, 3, none⟩ = some (.slice A3 x.list.length c3) ∧ W.cell? ⟨w.heap.size, 4, none⟩ = some (.slice (some ⟨b, off, none⟩) x.seen.length c4) ∧ KS W1 W) → RdC W W.heap.size (datDo x) (.agg #[.string x.name, .int .i64 x.from_, .slice A2 x.text.length c2, .slice A3 x.list.length c3, .slice (some ⟨b, off, none⟩) x.seen.length c4]) from fun W h => by have hk : Below W1.heap.size W1 W := h.2.2.2.2.2.2.2.2; exact (HR.out.past (hbel.trans (bA.mono hbel.size))).past hk)
            have hS0 : W1.drew.cell? ⟨wr.heap.size, 0, none⟩ = some (.int .i64 s.client) ∧ W1.drew.cell? ⟨wr.heap.size, 1, none⟩ = some (.int .i64 s.seq) ∧ W1.drew.cell? ⟨wr.heap.size, 2, none⟩ = some (.int .i64 s.rev) ∧ W1.drew.cell? ⟨w.heap.size, 0, none⟩ = some (.string x.name) ∧ W1.drew.cell? ⟨w.heap.size, 1, none⟩ = some (.int .i64 x.from_) ∧ W1.drew.cell? ⟨w.heap.size, 2, none⟩ = some (.slice A2 x.text.length c2) ∧ W1.drew.cell? ⟨w.heap.size, 3, none⟩ = some (.slice A3 x.list.length c3) ∧ W1.drew.cell? ⟨w.heap.size, 4, none⟩ = some (.slice (some ⟨b, off, none⟩) x.seen.length c4) ∧ KS W1 W1.drew := ⟨y0, y1, y2, y3, y4, y5, y6, y7, KS.start _⟩
            clear y0 y1 y2 y3 y4 y5 y6 y7
            refine wp_region_held_drew (S := fun W => W.cell? ⟨wr.heap.size, 0, none⟩ = some (.int .i64 s.client) ∧ W.cell? ⟨wr.heap.size, 1, none⟩ = some (.int .i64 s.seq) ∧ W.cell? ⟨wr.heap.size, 2, none⟩ = some (.int .i64 s.rev) ∧ W.cell? ⟨w.heap.size, 0, none⟩ = some (.string x.name) ∧ W.cell? ⟨w.heap.size, 1, none⟩ = some (.int .i64 x.from_) ∧ W.cell? ⟨w.heap.size, 2, none⟩ = some (.slice A2 x.text.length c2) ∧ W.cell? ⟨w.heap.size, 3, none⟩ = some (.slice A3 x.list.length c3) ∧ W.cell? ⟨w.heap.size, 4, none⟩ = some (.slice (some ⟨b, off, none⟩) x.seen.length c4) ∧ KS W1 W) (by kernel_rfl) hS0 (fun hS => ?_)
            clear hS0
            refine wpAnyH_take (i := 0) (oi := ⟨some 70, _, _, _, _, _⟩) (v := .pointer (some ⟨wr.heap.size, 0, none⟩)) rfl (by kernel_rfl) (by kernel_rfl) (by kernel_rfl) (fun _ _ _ h => h) (Or.inl ⟨by rfl, fun w' hS' => ?_⟩) (by assumption) ?_
            · (try dsimp only at hS'); go_simp
            try simp only [Act.put, List.setIfInBounds_toArray, List.set_cons_zero, List.set_cons_succ]
            refine wpAnyH_take (i := 1) (oi := ⟨some 71, _, _, _, _, _⟩) (v := .int .i64 s.client) rfl (by kernel_rfl) (by kernel_rfl) (by kernel_rfl) (fun _ _ _ h => h) (Or.inl ⟨by rfl, fun w' hS' => ?_⟩) (by assumption) ?_
            · (try dsimp only at hS'); go_simp
            try simp only [Act.put, List.setIfInBounds_toArray, List.set_cons_zero, List.set_cons_succ]
            refine wpAnyH_ready (rs := [2]) (by kernel_rfl) (by simp) ?_
            refine AllReadyH.cons (o := ⟨some 72, _, _, _, _, _⟩) rfl (fun K hK => ?_) AllReadyH.nil
            go_simp
            refine (in_any _ _ _ _).mono ?_
            rw [h1]
            rintro e w2 ⟨rfl, rfl⟩
            refine hK.out _ _ (by assumption) (fun hS => ?_)
            clear hK K
            try simp only [Act.put, List.setIfInBounds_toArray, List.set_cons_zero, List.set_cons_succ]
            refine wpAnyH_take (i := 3) (oi := ⟨some 73, _, _, _, _, _⟩) (v := .bool true) rfl (by kernel_rfl) (by kernel_rfl) (by kernel_rfl) (fun _ _ _ h => h) (Or.inl ⟨by rfl, fun w' hS' => ?_⟩) (by assumption) ?_
            · (try dsimp only at hS'); go_simp
            try simp only [Act.put, List.setIfInBounds_toArray, List.set_cons_zero, List.set_cons_succ]
            refine wpAnyH_take (i := 4) (oi := ⟨some 74, _, _, _, _, _⟩) (v := .bool true) rfl (by kernel_rfl) (by kernel_rfl) (by kernel_rfl) (fun _ _ _ h => h) (Or.inl ⟨by rfl, fun w' hS' => ?_⟩) (by assumption) ?_
            · (try dsimp only at hS'); go_simp
            try simp only [Act.put, List.setIfInBounds_toArray, List.set_cons_zero, List.set_cons_succ]
            refine wpAnyH_take (i := 5) (oi := ⟨some 75, _, _, _, _, _⟩) (v := undef) rfl (by kernel_rfl) (by kernel_rfl) (by kernel_rfl) (fun _ _ _ h => h) (Or.inr ⟨by rfl, rfl⟩) (by assumption) ?_
            try simp only [Act.put, List.setIfInBounds_toArray, List.set_cons_zero, List.set_cons_succ]
            refine wpAnyH_take (i := 6) (oi := ⟨some 76, _, _, _, _, _⟩) (v := undef) rfl (by kernel_rfl) (by kernel_rfl) (by kernel_rfl) (fun _ _ _ h => h) (Or.inr ⟨by rfl, rfl⟩) (by assumption) ?_
            try simp only [Act.put, List.setIfInBounds_toArray, List.set_cons_zero, List.set_cons_succ]
            refine wpAnyH_take (i := 7) (oi := ⟨some 77, _, _, _, _, _⟩) (v := undef) rfl (by kernel_rfl) (by kernel_rfl) (by kernel_rfl) (fun _ _ _ h => h) (Or.inr ⟨by rfl, rfl⟩) (by assumption) ?_
            try simp only [Act.put, List.setIfInBounds_toArray, List.set_cons_zero, List.set_cons_succ]
            refine wpAnyH_take (i := 8) (oi := ⟨some 78, _, _, _, _, _⟩) (v := undef) rfl (by kernel_rfl) (by kernel_rfl) (by kernel_rfl) (fun _ _ _ h => h) (Or.inr ⟨by rfl, rfl⟩) (by assumption) ?_
            try simp only [Act.put, List.setIfInBounds_toArray, List.set_cons_zero, List.set_cons_succ]
            refine wpAnyH_take (i := 9) (oi := ⟨some 79, _, _, _, _, _⟩) (v := .bool true) rfl (by kernel_rfl) (by kernel_rfl) (by kernel_rfl) (fun _ _ _ h => h) (Or.inl ⟨by rfl, fun w' hS' => ?_⟩) (by assumption) ?_
            · (try dsimp only at hS'); go_simp
            try simp only [Act.put, List.setIfInBounds_toArray, List.set_cons_zero, List.set_cons_succ]
            refine wpAnyH_take (i := 10) (oi := ⟨some 80, _, _, _, _, _⟩) (v := .bool true) rfl (by kernel_rfl) (by kernel_rfl) (by kernel_rfl) (fun _ _ _ h => h) (Or.inl ⟨by rfl, fun w' hS' => ?_⟩) (by assumption) ?_
            · (try dsimp only at hS'); go_simp
            try simp only [Act.put, List.setIfInBounds_toArray, List.set_cons_zero, List.set_cons_succ]
            refine wpAnyH_take (i := 11) (oi := ⟨some 81, _, _, _, _, _⟩) (v := undef) rfl (by kernel_rfl) (by kernel_rfl) (by kernel_rfl) (fun _ _ _ h => h) (Or.inr ⟨by rfl, rfl⟩) (by assumption) ?_
            try simp only [Act.put, List.setIfInBounds_toArray, List.set_cons_zero, List.set_cons_succ]
            refine wpAnyH_take (i := 12) (oi := ⟨some 82, _, _, _, _, _⟩) (v := undef) rfl (by kernel_rfl) (by kernel_rfl) (by kernel_rfl) (fun _ _ _ h => h) (Or.inr ⟨by rfl, rfl⟩) (by assumption) ?_
            try simp only [Act.put, List.setIfInBounds_toArray, List.set_cons_zero, List.set_cons_succ]
            refine wpAnyH_take (i := 13) (oi := ⟨some 83, _, _, _, _, _⟩) (v := undef) rfl (by kernel_rfl) (by kernel_rfl) (by kernel_rfl) (fun _ _ _ h => h) (Or.inr ⟨by rfl, rfl⟩) (by assumption) ?_
            try simp only [Act.put, List.setIfInBounds_toArray, List.set_cons_zero, List.set_cons_succ]
            refine wpAnyH_take (i := 14) (oi := ⟨some 84, _, _, _, _, _⟩) (v := undef) rfl (by kernel_rfl) (by kernel_rfl) (by kernel_rfl) (fun _ _ _ h => h) (Or.inr ⟨by rfl, rfl⟩) (by assumption) ?_
            try simp only [Act.put, List.setIfInBounds_toArray, List.set_cons_zero, List.set_cons_succ]
            refine wpAnyH_take (i := 15) (oi := ⟨some 85, _, _, _, _, _⟩) (v := undef) rfl (by kernel_rfl) (by kernel_rfl) (by kernel_rfl) (fun _ _ _ h => h) (Or.inr ⟨by rfl, rfl⟩) (by assumption) ?_
            try simp only [Act.put, List.setIfInBounds_toArray, List.set_cons_zero, List.set_cons_succ]
            refine wpAnyH_take (i := 16) (oi := ⟨some 86, _, _, _, _, _⟩) (v := undef) rfl (by kernel_rfl) (by kernel_rfl) (by kernel_rfl) (fun _ _ _ h => h) (Or.inr ⟨by rfl, rfl⟩) (by assumption) ?_
            try simp only [Act.put, List.setIfInBounds_toArray, List.set_cons_zero, List.set_cons_succ]
            refine wpAnyH_take (i := 17) (oi := ⟨some 87, _, _, _, _, _⟩) (v := .bool true) rfl (by kernel_rfl) (by kernel_rfl) (by kernel_rfl) (fun _ _ _ h => h) (Or.inl ⟨by rfl, fun w' hS' => ?_⟩) (by assumption) ?_
            · (try dsimp only at hS'); go_simp
            try simp only [Act.put, List.setIfInBounds_toArray, List.set_cons_zero, List.set_cons_succ]
            refine wpAnyH_take (i := 18) (oi := ⟨some 88, _, _, _, _, _⟩) (v := .bool true) rfl (by kernel_rfl) (by kernel_rfl) (by kernel_rfl) (fun _ _ _ h => h) (Or.inl ⟨by rfl, fun w' hS' => ?_⟩) (by assumption) ?_
            · (try dsimp only at hS'); go_simp
            try simp only [Act.put, List.setIfInBounds_toArray, List.set_cons_zero, List.set_cons_succ]
            refine wpAnyH_take (i := 19) (oi := ⟨some 89, _, _, _, _, _⟩) (v := undef) rfl (by kernel_rfl) (by kernel_rfl) (by kernel_rfl) (fun _ _ _ h => h) (Or.inr ⟨by rfl, rfl⟩) (by assumption) ?_
            try simp only [Act.put, List.setIfInBounds_toArray, List.set_cons_zero, List.set_cons_succ]
            refine wpAnyH_take (i := 20) (oi := ⟨some 90, _, _, _, _, _⟩) (v := undef) rfl (by kernel_rfl) (by kernel_rfl) (by kernel_rfl) (fun _ _ _ h => h) (Or.inr ⟨by rfl, rfl⟩) (by assumption) ?_
            try simp only [Act.put, List.setIfInBounds_toArray, List.set_cons_zero, List.set_cons_succ]
            refine wpAnyH_take (i := 21) (oi := ⟨some 91, _, _, _, _, _⟩) (v := undef) rfl (by kernel_rfl) (by kernel_rfl) (by kernel_rfl) (fun _ _ _ h => h) (Or.inr ⟨by rfl, rfl⟩) (by assumption) ?_
            try simp only [Act.put, List.setIfInBounds_toArray, List.set_cons_zero, List.set_cons_succ]
            refine wpAnyH_take (i := 22) (oi := ⟨some 92, _, _, _, _, _⟩) (v := undef) rfl (by kernel_rfl) (by kernel_rfl) (by kernel_rfl) (fun _ _ _ h => h) (Or.inr ⟨by rfl, rfl⟩) (by assumption) ?_
            try simp only [Act.put, List.setIfInBounds_toArray, List.set_cons_zero, List.set_cons_succ]
            refine wpAnyH_take (i := 23) (oi := ⟨some 93, _, _, _, _, _⟩) (v := undef) rfl (by kernel_rfl) (by kernel_rfl) (by kernel_rfl) (fun _ _ _ h => h) (Or.inr ⟨by rfl, rfl⟩) (by assumption) ?_
            try simp only [Act.put, List.setIfInBounds_toArray, List.set_cons_zero, List.set_cons_succ]
            refine wpAnyH_take (i := 24) (oi := ⟨some 94, _, _, _, _, _⟩) (v := undef) rfl (by kernel_rfl) (by kernel_rfl) (by kernel_rfl) (fun _ _ _ h => h) (Or.inr ⟨by rfl, rfl⟩) (by assumption) ?_
            try simp only [Act.put, List.setIfInBounds_toArray, List.set_cons_zero, List.set_cons_succ]
            refine wpAnyH_take (i := 25) (oi := ⟨some 95, _, _, _, _, _⟩) (v := undef) rfl (by kernel_rfl) (by kernel_rfl) (by kernel_rfl) (fun _ _ _ h => h) (Or.inr ⟨by rfl, rfl⟩) (by assumption) ?_
            try simp only [Act.put, List.setIfInBounds_toArray, List.set_cons_zero, List.set_cons_succ]
            refine wpAnyH_take (i := 26) (oi := ⟨some 96, _, _, _, _, _⟩) (v := undef) rfl (by kernel_rfl) (by kernel_rfl) (by kernel_rfl) (fun _ _ _ h => h) (Or.inr ⟨by rfl, rfl⟩) (by assumption) ?_
            try simp only [Act.put, List.setIfInBounds_toArray, List.set_cons_zero, List.set_cons_succ]
            refine wpAnyH_take (i := 27) (oi := ⟨some 97, _, _, _, _, _⟩) (v := undef) rfl (by kernel_rfl) (by kernel_rfl) (by kernel_rfl) (fun _ _ _ h => h) (Or.inr ⟨by rfl, rfl⟩) (by assumption) ?_
            try simp only [Act.put, List.setIfInBounds_toArray, List.set_cons_zero, List.set_cons_succ]
            refine wpAnyH_take (i := 28) (oi := ⟨some 98, _, _, _, _, _⟩) (v := undef) rfl (by kernel_rfl) (by kernel_rfl) (by kernel_rfl) (fun _ _ _ h => h) (Or.inr ⟨by rfl, rfl⟩) (by assumption) ?_
            try simp only [Act.put, List.setIfInBounds_toArray, List.set_cons_zero, List.set_cons_succ]
            refine wpAnyH_take (i := 29) (oi := ⟨some 99, _, _, _, _, _⟩) (v := undef) rfl (by kernel_rfl) (by kernel_rfl) (by kernel_rfl) (fun _ _ _ h => h) (Or.inr ⟨by rfl, rfl⟩) (by assumption) ?_
            try simp only [Act.put, List.setIfInBounds_toArray, List.set_cons_zero, List.set_cons_succ]
            refine wpAnyH_take (i := 30) (oi := ⟨some 100, _, _, _, _, _⟩) (v := undef) rfl (by kernel_rfl) (by kernel_rfl) (by kernel_rfl) (fun _ _ _ h => h) (Or.inr ⟨by rfl, rfl⟩) (by assumption) ?_
            try simp only [Act.put, List.setIfInBounds_toArray, List.set_cons_zero, List.set_cons_succ]
            refine wpAnyH_take (i := 31) (oi := ⟨some 101, _, _, _, _, _⟩) (v := undef) rfl (by kernel_rfl) (by kernel_rfl) (by kernel_rfl) (fun _ _ _ h => h) (Or.inr ⟨by rfl, rfl⟩) (by assumption) ?_
            try simp only [Act.put, List.setIfInBounds_toArray, List.set_cons_zero, List.set_cons_succ]
            refine wpAnyH_take (i := 32) (oi := ⟨some 102, _, _, _, _, _⟩) (v := undef) rfl (by kernel_rfl) (by kernel_rfl) (by kernel_rfl) (fun _ _ _ h => h) (Or.inr ⟨by rfl, rfl⟩) (by assumption) ?_
            try simp only [Act.put, List.setIfInBounds_toArray, List.set_cons_zero, List.set_cons_succ]
            refine wpAnyH_take (i := 33) (oi := ⟨some 103, _, _, _, _, _⟩) (v := .bool true) rfl (by kernel_rfl) (by kernel_rfl) (by kernel_rfl) (fun _ _ _ h => h) (Or.inl ⟨by rfl, fun w' hS' => ?_⟩) (by assumption) ?_
            · (try dsimp only at hS'); go_simp
            try simp only [Act.put, List.setIfInBounds_toArray, List.set_cons_zero, List.set_cons_succ]
            refine wpAnyH_done (by kernel_rfl) ?_ _
            have HK : Below w.heap.size w _ := hbel.trans ((bA.trans (hS.2.2.2.2.2.2.2.2.mono bA.size)).mono hbel.size)
            have HBX2 := Lib.hid (bxD.past hS.2.2.2.2.2.2.2.2)
            have HKH := Lib.hid HK
            clear hS SX RD HK
            go_wp2
            go_ret
            exact ⟨ret_b (by rw [HDC.out, HS.out]; rw [show seenOneB (headRevT x) (prevOf x.seen j) s = false by unfold seenOneB; rw [h1]; simp]; rfl), HKH.out⟩
          cases h2 : inB s.seq 1 1000000000
          · go_wp2
            generalize wr.alloc (.cells #[.int .i64 s.client, .int .i64 s.seq, .int .i64 s.rev] 63) = W1 at bA bxS bxD ⊢
            have y0 : W1.cell? ⟨wr.heap.size, 0, none⟩ = some (.int .i64 s.client) := bxS.cell rfl
            have y1 : W1.cell? ⟨wr.heap.size, 1, none⟩ = some (.int .i64 s.seq) := bxS.cell rfl
            have y2 : W1.cell? ⟨wr.heap.size, 2, none⟩ = some (.int .i64 s.rev) := bxS.cell rfl
            have y3 : W1.cell? ⟨w.heap.size, 0, none⟩ = some (.string x.name) := bxD.cell rfl
            have y4 : W1.cell? ⟨w.heap.size, 1, none⟩ = some (.int .i64 x.from_) := bxD.cell rfl
            have y5 : W1.cell? ⟨w.heap.size, 2, none⟩ = some (.slice A2 x.text.length c2) := bxD.cell rfl
            have y6 : W1.cell? ⟨w.heap.size, 3, none⟩ = some (.slice A3 x.list.length c3) := bxD.cell rfl
            have y7 : W1.cell? ⟨w.heap.size, 4, none⟩ = some (.slice (some ⟨b, off, none⟩) x.seen.length c4) := bxD.cell rfl
            have lS := bxS.lt
            have lD := bxD.lt
            have SX := Lib.hid (show ∀ (W W' : World), (W.cell? ⟨wr.heap.size, 0, none⟩ = some (.int .i64 s.client) ∧ W.cell? ⟨wr.heap.size, 1, none⟩ = some (.int .i64 s.seq) ∧ W.cell? ⟨wr.heap.size, 2, none⟩ = some (.int .i64 s.rev) ∧ W.cell? ⟨w.heap.size, 0, none⟩ = some (.string x.name) ∧ W.cell? ⟨w.heap.size, 1, none⟩ = some (.int .i64 x.from_) ∧ W.cell? ⟨w.heap.size, 2, none⟩ = some (.slice A2 x.text.length c2) ∧ W.cell? ⟨w.heap.size, 3, none⟩ = some (.slice A3 x.list.length c3) ∧ W.cell? ⟨w.heap.size, 4, none⟩ = some (.slice (some ⟨b, off, none⟩) x.seen.length c4) ∧ KS W1 W) → Below W.heap.size W W' → (W'.cell? ⟨wr.heap.size, 0, none⟩ = some (.int .i64 s.client) ∧ W'.cell? ⟨wr.heap.size, 1, none⟩ = some (.int .i64 s.seq) ∧ W'.cell? ⟨wr.heap.size, 2, none⟩ = some (.int .i64 s.rev) ∧ W'.cell? ⟨w.heap.size, 0, none⟩ = some (.string x.name) ∧ W'.cell? ⟨w.heap.size, 1, none⟩ = some (.int .i64 x.from_) ∧ W'.cell? ⟨w.heap.size, 2, none⟩ = some (.slice A2 x.text.length c2) ∧ W'.cell? ⟨w.heap.size, 3, none⟩ = some (.slice A3 x.list.length c3) ∧ W'.cell? ⟨w.heap.size, 4, none⟩ = some (.slice (some ⟨b, off, none⟩) x.seen.length c4) ∧ KS W1 W') from fun W W' h hb => by have hk := h.2.2.2.2.2.2.2.2; have hkk : KS W1 W' := hk.trans (hb.mono hk.size); exact ⟨(hkk.cell (p := ⟨wr.heap.size, 0, none⟩) lS).trans y0, (hkk.cell (p := ⟨wr.heap.size, 1, none⟩) lS).trans y1, (hkk.cell (p := ⟨wr.heap.size, 2, none⟩) lS).trans y2, (hkk.cell (p := ⟨w.heap.size, 0, none⟩) lD).trans y3, (hkk.cell (p := ⟨w.heap.size, 1, none⟩) lD).trans y4, (hkk.cell (p := ⟨w.heap.size, 2, none⟩) lD).trans y5, (hkk.cell (p := ⟨w.heap.size, 3, none⟩) lD).trans y6, (hkk.cell (p := ⟨w.heap.size, 4, none⟩) lD).trans y7, hkk⟩)
            have RD := Lib.hid (show ∀ W : World, (W.cell? ⟨wr.heap.size, 0, none⟩ = some (.int .i64 s.client) ∧ W.cell? ⟨wr.heap.size, 1, none⟩ = some (.int .i64 s.seq) ∧ W.cell? ⟨wr.heap.size, 2, none⟩ = some (.int .i64 s.rev) ∧ W.cell? ⟨w.heap.size, 0, none⟩ = some (.string x.name) ∧ W.cell? ⟨w.heap.size, 1, none⟩ = some (.int .i64 x.from_) ∧ W.cell? ⟨w.heap.size, 2, none⟩ = some (.slice A2 x.text.length c2) ∧ W.cell? ⟨w.heap.size, 3, none⟩ = some (.slice A3 x.list.length c3) ∧ W.cell? ⟨w.heap.size, 4, none⟩ = some (.slice (some ⟨b, off, none⟩) x.seen.length c4) ∧ KS W1 W) → RdC W W.heap.size (datDo x) (.agg #[.string x.name, .int .i64 x.from_, .slice A2 x.text.length c2, .slice A3 x.list.length c3, .slice (some ⟨b, off, none⟩) x.seen.length c4]) from fun W h => by have hk : Below W1.heap.size W1 W := h.2.2.2.2.2.2.2.2; exact (HR.out.past (hbel.trans (bA.mono hbel.size))).past hk)
            have hS0 : W1.drew.cell? ⟨wr.heap.size, 0, none⟩ = some (.int .i64 s.client) ∧ W1.drew.cell? ⟨wr.heap.size, 1, none⟩ = some (.int .i64 s.seq) ∧ W1.drew.cell? ⟨wr.heap.size, 2, none⟩ = some (.int .i64 s.rev) ∧ W1.drew.cell? ⟨w.heap.size, 0, none⟩ = some (.string x.name) ∧ W1.drew.cell? ⟨w.heap.size, 1, none⟩ = some (.int .i64 x.from_) ∧ W1.drew.cell? ⟨w.heap.size, 2, none⟩ = some (.slice A2 x.text.length c2) ∧ W1.drew.cell? ⟨w.heap.size, 3, none⟩ = some (.slice A3 x.list.length c3) ∧ W1.drew.cell? ⟨w.heap.size, 4, none⟩ = some (.slice (some ⟨b, off, none⟩) x.seen.length c4) ∧ KS W1 W1.drew := ⟨y0, y1, y2, y3, y4, y5, y6, y7, KS.start _⟩
            clear y0 y1 y2 y3 y4 y5 y6 y7
            refine wp_region_held_drew (S := fun W => W.cell? ⟨wr.heap.size, 0, none⟩ = some (.int .i64 s.client) ∧ W.cell? ⟨wr.heap.size, 1, none⟩ = some (.int .i64 s.seq) ∧ W.cell? ⟨wr.heap.size, 2, none⟩ = some (.int .i64 s.rev) ∧ W.cell? ⟨w.heap.size, 0, none⟩ = some (.string x.name) ∧ W.cell? ⟨w.heap.size, 1, none⟩ = some (.int .i64 x.from_) ∧ W.cell? ⟨w.heap.size, 2, none⟩ = some (.slice A2 x.text.length c2) ∧ W.cell? ⟨w.heap.size, 3, none⟩ = some (.slice A3 x.list.length c3) ∧ W.cell? ⟨w.heap.size, 4, none⟩ = some (.slice (some ⟨b, off, none⟩) x.seen.length c4) ∧ KS W1 W) (by kernel_rfl) hS0 (fun hS => ?_)
            clear hS0
            refine wpAnyH_take (i := 0) (oi := ⟨some 70, _, _, _, _, _⟩) (v := .pointer (some ⟨wr.heap.size, 0, none⟩)) rfl (by kernel_rfl) (by kernel_rfl) (by kernel_rfl) (fun _ _ _ h => h) (Or.inl ⟨by rfl, fun w' hS' => ?_⟩) (by assumption) ?_
            · (try dsimp only at hS'); go_simp
            try simp only [Act.put, List.setIfInBounds_toArray, List.set_cons_zero, List.set_cons_succ]
            refine wpAnyH_take (i := 1) (oi := ⟨some 71, _, _, _, _, _⟩) (v := .int .i64 s.client) rfl (by kernel_rfl) (by kernel_rfl) (by kernel_rfl) (fun _ _ _ h => h) (Or.inl ⟨by rfl, fun w' hS' => ?_⟩) (by assumption) ?_
            · (try dsimp only at hS'); go_simp
            try simp only [Act.put, List.setIfInBounds_toArray, List.set_cons_zero, List.set_cons_succ]
            refine wpAnyH_ready (rs := [2]) (by kernel_rfl) (by simp) ?_
            refine AllReadyH.cons (o := ⟨some 72, _, _, _, _, _⟩) rfl (fun K hK => ?_) AllReadyH.nil
            go_simp
            refine (in_any _ _ _ _).mono ?_
            rw [h1]
            rintro e w2 ⟨rfl, rfl⟩
            refine hK.out _ _ (by assumption) (fun hS => ?_)
            clear hK K
            try simp only [Act.put, List.setIfInBounds_toArray, List.set_cons_zero, List.set_cons_succ]
            refine wpAnyH_take (i := 3) (oi := ⟨some 73, _, _, _, _, _⟩) (v := .bool false) rfl (by kernel_rfl) (by kernel_rfl) (by kernel_rfl) (fun _ _ _ h => h) (Or.inl ⟨by rfl, fun w' hS' => ?_⟩) (by assumption) ?_
            · (try dsimp only at hS'); go_simp
            try simp only [Act.put, List.setIfInBounds_toArray, List.set_cons_zero, List.set_cons_succ]
            refine wpAnyH_take (i := 4) (oi := ⟨some 74, _, _, _, _, _⟩) (v := .bool false) rfl (by kernel_rfl) (by kernel_rfl) (by kernel_rfl) (fun _ _ _ h => h) (Or.inl ⟨by rfl, fun w' hS' => ?_⟩) (by assumption) ?_
            · (try dsimp only at hS'); go_simp
            try simp only [Act.put, List.setIfInBounds_toArray, List.set_cons_zero, List.set_cons_succ]
            refine wpAnyH_take (i := 5) (oi := ⟨some 75, _, _, _, _, _⟩) (v := .pointer (some ⟨wr.heap.size, 1, none⟩)) rfl (by kernel_rfl) (by kernel_rfl) (by kernel_rfl) (fun _ _ _ h => h) (Or.inl ⟨by rfl, fun w' hS' => ?_⟩) (by assumption) ?_
            · (try dsimp only at hS'); go_simp
            try simp only [Act.put, List.setIfInBounds_toArray, List.set_cons_zero, List.set_cons_succ]
            refine wpAnyH_take (i := 6) (oi := ⟨some 76, _, _, _, _, _⟩) (v := .int .i64 s.seq) rfl (by kernel_rfl) (by kernel_rfl) (by kernel_rfl) (fun _ _ _ h => h) (Or.inl ⟨by rfl, fun w' hS' => ?_⟩) (by assumption) ?_
            · (try dsimp only at hS'); go_simp
            try simp only [Act.put, List.setIfInBounds_toArray, List.set_cons_zero, List.set_cons_succ]
            refine wpAnyH_ready (rs := [7]) (by kernel_rfl) (by simp) ?_
            refine AllReadyH.cons (o := ⟨some 77, _, _, _, _, _⟩) rfl (fun K hK => ?_) AllReadyH.nil
            go_simp
            refine (in_any _ _ _ _).mono ?_
            rw [h2]
            rintro e w2 ⟨rfl, rfl⟩
            refine hK.out _ _ (by assumption) (fun hS => ?_)
            clear hK K
            try simp only [Act.put, List.setIfInBounds_toArray, List.set_cons_zero, List.set_cons_succ]
            refine wpAnyH_take (i := 8) (oi := ⟨some 78, _, _, _, _, _⟩) (v := .bool true) rfl (by kernel_rfl) (by kernel_rfl) (by kernel_rfl) (fun _ _ _ h => h) (Or.inl ⟨by rfl, fun w' hS' => ?_⟩) (by assumption) ?_
            · (try dsimp only at hS'); go_simp
            try simp only [Act.put, List.setIfInBounds_toArray, List.set_cons_zero, List.set_cons_succ]
            refine wpAnyH_take (i := 9) (oi := ⟨some 79, _, _, _, _, _⟩) (v := .bool true) rfl (by kernel_rfl) (by kernel_rfl) (by kernel_rfl) (fun _ _ _ h => h) (Or.inl ⟨by rfl, fun w' hS' => ?_⟩) (by assumption) ?_
            · (try dsimp only at hS'); go_simp
            try simp only [Act.put, List.setIfInBounds_toArray, List.set_cons_zero, List.set_cons_succ]
            refine wpAnyH_take (i := 10) (oi := ⟨some 80, _, _, _, _, _⟩) (v := .bool true) rfl (by kernel_rfl) (by kernel_rfl) (by kernel_rfl) (fun _ _ _ h => h) (Or.inl ⟨by rfl, fun w' hS' => ?_⟩) (by assumption) ?_
            · (try dsimp only at hS'); go_simp
            try simp only [Act.put, List.setIfInBounds_toArray, List.set_cons_zero, List.set_cons_succ]
            refine wpAnyH_take (i := 11) (oi := ⟨some 81, _, _, _, _, _⟩) (v := undef) rfl (by kernel_rfl) (by kernel_rfl) (by kernel_rfl) (fun _ _ _ h => h) (Or.inr ⟨by rfl, rfl⟩) (by assumption) ?_
            try simp only [Act.put, List.setIfInBounds_toArray, List.set_cons_zero, List.set_cons_succ]
            refine wpAnyH_take (i := 12) (oi := ⟨some 82, _, _, _, _, _⟩) (v := undef) rfl (by kernel_rfl) (by kernel_rfl) (by kernel_rfl) (fun _ _ _ h => h) (Or.inr ⟨by rfl, rfl⟩) (by assumption) ?_
            try simp only [Act.put, List.setIfInBounds_toArray, List.set_cons_zero, List.set_cons_succ]
            refine wpAnyH_take (i := 13) (oi := ⟨some 83, _, _, _, _, _⟩) (v := undef) rfl (by kernel_rfl) (by kernel_rfl) (by kernel_rfl) (fun _ _ _ h => h) (Or.inr ⟨by rfl, rfl⟩) (by assumption) ?_
            try simp only [Act.put, List.setIfInBounds_toArray, List.set_cons_zero, List.set_cons_succ]
            refine wpAnyH_take (i := 14) (oi := ⟨some 84, _, _, _, _, _⟩) (v := undef) rfl (by kernel_rfl) (by kernel_rfl) (by kernel_rfl) (fun _ _ _ h => h) (Or.inr ⟨by rfl, rfl⟩) (by assumption) ?_
            try simp only [Act.put, List.setIfInBounds_toArray, List.set_cons_zero, List.set_cons_succ]
            refine wpAnyH_take (i := 15) (oi := ⟨some 85, _, _, _, _, _⟩) (v := undef) rfl (by kernel_rfl) (by kernel_rfl) (by kernel_rfl) (fun _ _ _ h => h) (Or.inr ⟨by rfl, rfl⟩) (by assumption) ?_
            try simp only [Act.put, List.setIfInBounds_toArray, List.set_cons_zero, List.set_cons_succ]
            refine wpAnyH_take (i := 16) (oi := ⟨some 86, _, _, _, _, _⟩) (v := undef) rfl (by kernel_rfl) (by kernel_rfl) (by kernel_rfl) (fun _ _ _ h => h) (Or.inr ⟨by rfl, rfl⟩) (by assumption) ?_
            try simp only [Act.put, List.setIfInBounds_toArray, List.set_cons_zero, List.set_cons_succ]
            refine wpAnyH_take (i := 17) (oi := ⟨some 87, _, _, _, _, _⟩) (v := .bool true) rfl (by kernel_rfl) (by kernel_rfl) (by kernel_rfl) (fun _ _ _ h => h) (Or.inl ⟨by rfl, fun w' hS' => ?_⟩) (by assumption) ?_
            · (try dsimp only at hS'); go_simp
            try simp only [Act.put, List.setIfInBounds_toArray, List.set_cons_zero, List.set_cons_succ]
            refine wpAnyH_take (i := 18) (oi := ⟨some 88, _, _, _, _, _⟩) (v := .bool true) rfl (by kernel_rfl) (by kernel_rfl) (by kernel_rfl) (fun _ _ _ h => h) (Or.inl ⟨by rfl, fun w' hS' => ?_⟩) (by assumption) ?_
            · (try dsimp only at hS'); go_simp
            try simp only [Act.put, List.setIfInBounds_toArray, List.set_cons_zero, List.set_cons_succ]
            refine wpAnyH_take (i := 19) (oi := ⟨some 89, _, _, _, _, _⟩) (v := undef) rfl (by kernel_rfl) (by kernel_rfl) (by kernel_rfl) (fun _ _ _ h => h) (Or.inr ⟨by rfl, rfl⟩) (by assumption) ?_
            try simp only [Act.put, List.setIfInBounds_toArray, List.set_cons_zero, List.set_cons_succ]
            refine wpAnyH_take (i := 20) (oi := ⟨some 90, _, _, _, _, _⟩) (v := undef) rfl (by kernel_rfl) (by kernel_rfl) (by kernel_rfl) (fun _ _ _ h => h) (Or.inr ⟨by rfl, rfl⟩) (by assumption) ?_
            try simp only [Act.put, List.setIfInBounds_toArray, List.set_cons_zero, List.set_cons_succ]
            refine wpAnyH_take (i := 21) (oi := ⟨some 91, _, _, _, _, _⟩) (v := undef) rfl (by kernel_rfl) (by kernel_rfl) (by kernel_rfl) (fun _ _ _ h => h) (Or.inr ⟨by rfl, rfl⟩) (by assumption) ?_
            try simp only [Act.put, List.setIfInBounds_toArray, List.set_cons_zero, List.set_cons_succ]
            refine wpAnyH_take (i := 22) (oi := ⟨some 92, _, _, _, _, _⟩) (v := undef) rfl (by kernel_rfl) (by kernel_rfl) (by kernel_rfl) (fun _ _ _ h => h) (Or.inr ⟨by rfl, rfl⟩) (by assumption) ?_
            try simp only [Act.put, List.setIfInBounds_toArray, List.set_cons_zero, List.set_cons_succ]
            refine wpAnyH_take (i := 23) (oi := ⟨some 93, _, _, _, _, _⟩) (v := undef) rfl (by kernel_rfl) (by kernel_rfl) (by kernel_rfl) (fun _ _ _ h => h) (Or.inr ⟨by rfl, rfl⟩) (by assumption) ?_
            try simp only [Act.put, List.setIfInBounds_toArray, List.set_cons_zero, List.set_cons_succ]
            refine wpAnyH_take (i := 24) (oi := ⟨some 94, _, _, _, _, _⟩) (v := undef) rfl (by kernel_rfl) (by kernel_rfl) (by kernel_rfl) (fun _ _ _ h => h) (Or.inr ⟨by rfl, rfl⟩) (by assumption) ?_
            try simp only [Act.put, List.setIfInBounds_toArray, List.set_cons_zero, List.set_cons_succ]
            refine wpAnyH_take (i := 25) (oi := ⟨some 95, _, _, _, _, _⟩) (v := undef) rfl (by kernel_rfl) (by kernel_rfl) (by kernel_rfl) (fun _ _ _ h => h) (Or.inr ⟨by rfl, rfl⟩) (by assumption) ?_
            try simp only [Act.put, List.setIfInBounds_toArray, List.set_cons_zero, List.set_cons_succ]
            refine wpAnyH_take (i := 26) (oi := ⟨some 96, _, _, _, _, _⟩) (v := undef) rfl (by kernel_rfl) (by kernel_rfl) (by kernel_rfl) (fun _ _ _ h => h) (Or.inr ⟨by rfl, rfl⟩) (by assumption) ?_
            try simp only [Act.put, List.setIfInBounds_toArray, List.set_cons_zero, List.set_cons_succ]
            refine wpAnyH_take (i := 27) (oi := ⟨some 97, _, _, _, _, _⟩) (v := undef) rfl (by kernel_rfl) (by kernel_rfl) (by kernel_rfl) (fun _ _ _ h => h) (Or.inr ⟨by rfl, rfl⟩) (by assumption) ?_
            try simp only [Act.put, List.setIfInBounds_toArray, List.set_cons_zero, List.set_cons_succ]
            refine wpAnyH_take (i := 28) (oi := ⟨some 98, _, _, _, _, _⟩) (v := undef) rfl (by kernel_rfl) (by kernel_rfl) (by kernel_rfl) (fun _ _ _ h => h) (Or.inr ⟨by rfl, rfl⟩) (by assumption) ?_
            try simp only [Act.put, List.setIfInBounds_toArray, List.set_cons_zero, List.set_cons_succ]
            refine wpAnyH_take (i := 29) (oi := ⟨some 99, _, _, _, _, _⟩) (v := undef) rfl (by kernel_rfl) (by kernel_rfl) (by kernel_rfl) (fun _ _ _ h => h) (Or.inr ⟨by rfl, rfl⟩) (by assumption) ?_
            try simp only [Act.put, List.setIfInBounds_toArray, List.set_cons_zero, List.set_cons_succ]
            refine wpAnyH_take (i := 30) (oi := ⟨some 100, _, _, _, _, _⟩) (v := undef) rfl (by kernel_rfl) (by kernel_rfl) (by kernel_rfl) (fun _ _ _ h => h) (Or.inr ⟨by rfl, rfl⟩) (by assumption) ?_
            try simp only [Act.put, List.setIfInBounds_toArray, List.set_cons_zero, List.set_cons_succ]
            refine wpAnyH_take (i := 31) (oi := ⟨some 101, _, _, _, _, _⟩) (v := undef) rfl (by kernel_rfl) (by kernel_rfl) (by kernel_rfl) (fun _ _ _ h => h) (Or.inr ⟨by rfl, rfl⟩) (by assumption) ?_
            try simp only [Act.put, List.setIfInBounds_toArray, List.set_cons_zero, List.set_cons_succ]
            refine wpAnyH_take (i := 32) (oi := ⟨some 102, _, _, _, _, _⟩) (v := undef) rfl (by kernel_rfl) (by kernel_rfl) (by kernel_rfl) (fun _ _ _ h => h) (Or.inr ⟨by rfl, rfl⟩) (by assumption) ?_
            try simp only [Act.put, List.setIfInBounds_toArray, List.set_cons_zero, List.set_cons_succ]
            refine wpAnyH_take (i := 33) (oi := ⟨some 103, _, _, _, _, _⟩) (v := .bool true) rfl (by kernel_rfl) (by kernel_rfl) (by kernel_rfl) (fun _ _ _ h => h) (Or.inl ⟨by rfl, fun w' hS' => ?_⟩) (by assumption) ?_
            · (try dsimp only at hS'); go_simp
            try simp only [Act.put, List.setIfInBounds_toArray, List.set_cons_zero, List.set_cons_succ]
            refine wpAnyH_done (by kernel_rfl) ?_ _
            have HK : Below w.heap.size w _ := hbel.trans ((bA.trans (hS.2.2.2.2.2.2.2.2.mono bA.size)).mono hbel.size)
            have HBX2 := Lib.hid (bxD.past hS.2.2.2.2.2.2.2.2)
            have HKH := Lib.hid HK
            clear hS SX RD HK
            go_wp2
            go_ret
            exact ⟨ret_b (by rw [HDC.out, HS.out]; rw [show seenOneB (headRevT x) (prevOf x.seen j) s = false by unfold seenOneB; rw [h1, h2]; simp]; rfl), HKH.out⟩
          cases h3 : inB s.rev 1 (headRevT x)
          · go_wp2
            generalize wr.alloc (.cells #[.int .i64 s.client, .int .i64 s.seq, .int .i64 s.rev] 63) = W1 at bA bxS bxD ⊢
            have y0 : W1.cell? ⟨wr.heap.size, 0, none⟩ = some (.int .i64 s.client) := bxS.cell rfl
            have y1 : W1.cell? ⟨wr.heap.size, 1, none⟩ = some (.int .i64 s.seq) := bxS.cell rfl
            have y2 : W1.cell? ⟨wr.heap.size, 2, none⟩ = some (.int .i64 s.rev) := bxS.cell rfl
            have y3 : W1.cell? ⟨w.heap.size, 0, none⟩ = some (.string x.name) := bxD.cell rfl
            have y4 : W1.cell? ⟨w.heap.size, 1, none⟩ = some (.int .i64 x.from_) := bxD.cell rfl
            have y5 : W1.cell? ⟨w.heap.size, 2, none⟩ = some (.slice A2 x.text.length c2) := bxD.cell rfl
            have y6 : W1.cell? ⟨w.heap.size, 3, none⟩ = some (.slice A3 x.list.length c3) := bxD.cell rfl
            have y7 : W1.cell? ⟨w.heap.size, 4, none⟩ = some (.slice (some ⟨b, off, none⟩) x.seen.length c4) := bxD.cell rfl
            have lS := bxS.lt
            have lD := bxD.lt
            have SX := Lib.hid (show ∀ (W W' : World), (W.cell? ⟨wr.heap.size, 0, none⟩ = some (.int .i64 s.client) ∧ W.cell? ⟨wr.heap.size, 1, none⟩ = some (.int .i64 s.seq) ∧ W.cell? ⟨wr.heap.size, 2, none⟩ = some (.int .i64 s.rev) ∧ W.cell? ⟨w.heap.size, 0, none⟩ = some (.string x.name) ∧ W.cell? ⟨w.heap.size, 1, none⟩ = some (.int .i64 x.from_) ∧ W.cell? ⟨w.heap.size, 2, none⟩ = some (.slice A2 x.text.length c2) ∧ W.cell? ⟨w.heap.size, 3, none⟩ = some (.slice A3 x.list.length c3) ∧ W.cell? ⟨w.heap.size, 4, none⟩ = some (.slice (some ⟨b, off, none⟩) x.seen.length c4) ∧ KS W1 W) → Below W.heap.size W W' → (W'.cell? ⟨wr.heap.size, 0, none⟩ = some (.int .i64 s.client) ∧ W'.cell? ⟨wr.heap.size, 1, none⟩ = some (.int .i64 s.seq) ∧ W'.cell? ⟨wr.heap.size, 2, none⟩ = some (.int .i64 s.rev) ∧ W'.cell? ⟨w.heap.size, 0, none⟩ = some (.string x.name) ∧ W'.cell? ⟨w.heap.size, 1, none⟩ = some (.int .i64 x.from_) ∧ W'.cell? ⟨w.heap.size, 2, none⟩ = some (.slice A2 x.text.length c2) ∧ W'.cell? ⟨w.heap.size, 3, none⟩ = some (.slice A3 x.list.length c3) ∧ W'.cell? ⟨w.heap.size, 4, none⟩ = some (.slice (some ⟨b, off, none⟩) x.seen.length c4) ∧ KS W1 W') from fun W W' h hb => by have hk := h.2.2.2.2.2.2.2.2; have hkk : KS W1 W' := hk.trans (hb.mono hk.size); exact ⟨(hkk.cell (p := ⟨wr.heap.size, 0, none⟩) lS).trans y0, (hkk.cell (p := ⟨wr.heap.size, 1, none⟩) lS).trans y1, (hkk.cell (p := ⟨wr.heap.size, 2, none⟩) lS).trans y2, (hkk.cell (p := ⟨w.heap.size, 0, none⟩) lD).trans y3, (hkk.cell (p := ⟨w.heap.size, 1, none⟩) lD).trans y4, (hkk.cell (p := ⟨w.heap.size, 2, none⟩) lD).trans y5, (hkk.cell (p := ⟨w.heap.size, 3, none⟩) lD).trans y6, (hkk.cell (p := ⟨w.heap.size, 4, none⟩) lD).trans y7, hkk⟩)
            have RD := Lib.hid (show ∀ W : World, (W.cell? ⟨wr.heap.size, 0, none⟩ = some (.int .i64 s.client) ∧ W.cell? ⟨wr.heap.size, 1, none⟩ = some (.int .i64 s.seq) ∧ W.cell? ⟨wr.heap.size, 2, none⟩ = some (.int .i64 s.rev) ∧ W.cell? ⟨w.heap.size, 0, none⟩ = some (.string x.name) ∧ W.cell? ⟨w.heap.size, 1, none⟩ = some (.int .i64 x.from_) ∧ W.cell? ⟨w.heap.size, 2, none⟩ = some (.slice A2 x.text.length c2) ∧ W.cell? ⟨w.heap.size, 3, none⟩ = some (.slice A3 x.list.length c3) ∧ W.cell? ⟨w.heap.size, 4, none⟩ = some (.slice (some ⟨b, off, none⟩) x.seen.length c4) ∧ KS W1 W) → RdC W W.heap.size (datDo x) (.agg #[.string x.name, .int .i64 x.from_, .slice A2 x.text.length c2, .slice A3 x.list.length c3, .slice (some ⟨b, off, none⟩) x.seen.length c4]) from fun W h => by have hk : Below W1.heap.size W1 W := h.2.2.2.2.2.2.2.2; exact (HR.out.past (hbel.trans (bA.mono hbel.size))).past hk)
            have hS0 : W1.drew.cell? ⟨wr.heap.size, 0, none⟩ = some (.int .i64 s.client) ∧ W1.drew.cell? ⟨wr.heap.size, 1, none⟩ = some (.int .i64 s.seq) ∧ W1.drew.cell? ⟨wr.heap.size, 2, none⟩ = some (.int .i64 s.rev) ∧ W1.drew.cell? ⟨w.heap.size, 0, none⟩ = some (.string x.name) ∧ W1.drew.cell? ⟨w.heap.size, 1, none⟩ = some (.int .i64 x.from_) ∧ W1.drew.cell? ⟨w.heap.size, 2, none⟩ = some (.slice A2 x.text.length c2) ∧ W1.drew.cell? ⟨w.heap.size, 3, none⟩ = some (.slice A3 x.list.length c3) ∧ W1.drew.cell? ⟨w.heap.size, 4, none⟩ = some (.slice (some ⟨b, off, none⟩) x.seen.length c4) ∧ KS W1 W1.drew := ⟨y0, y1, y2, y3, y4, y5, y6, y7, KS.start _⟩
            clear y0 y1 y2 y3 y4 y5 y6 y7
            refine wp_region_held_drew (S := fun W => W.cell? ⟨wr.heap.size, 0, none⟩ = some (.int .i64 s.client) ∧ W.cell? ⟨wr.heap.size, 1, none⟩ = some (.int .i64 s.seq) ∧ W.cell? ⟨wr.heap.size, 2, none⟩ = some (.int .i64 s.rev) ∧ W.cell? ⟨w.heap.size, 0, none⟩ = some (.string x.name) ∧ W.cell? ⟨w.heap.size, 1, none⟩ = some (.int .i64 x.from_) ∧ W.cell? ⟨w.heap.size, 2, none⟩ = some (.slice A2 x.text.length c2) ∧ W.cell? ⟨w.heap.size, 3, none⟩ = some (.slice A3 x.list.length c3) ∧ W.cell? ⟨w.heap.size, 4, none⟩ = some (.slice (some ⟨b, off, none⟩) x.seen.length c4) ∧ KS W1 W) (by kernel_rfl) hS0 (fun hS => ?_)
            clear hS0
            refine wpAnyH_take (i := 0) (oi := ⟨some 70, _, _, _, _, _⟩) (v := .pointer (some ⟨wr.heap.size, 0, none⟩)) rfl (by kernel_rfl) (by kernel_rfl) (by kernel_rfl) (fun _ _ _ h => h) (Or.inl ⟨by rfl, fun w' hS' => ?_⟩) (by assumption) ?_
            · (try dsimp only at hS'); go_simp
            try simp only [Act.put, List.setIfInBounds_toArray, List.set_cons_zero, List.set_cons_succ]
            refine wpAnyH_take (i := 1) (oi := ⟨some 71, _, _, _, _, _⟩) (v := .int .i64 s.client) rfl (by kernel_rfl) (by kernel_rfl) (by kernel_rfl) (fun _ _ _ h => h) (Or.inl ⟨by rfl, fun w' hS' => ?_⟩) (by assumption) ?_
            · (try dsimp only at hS'); go_simp
            try simp only [Act.put, List.setIfInBounds_toArray, List.set_cons_zero, List.set_cons_succ]
            refine wpAnyH_ready (rs := [2]) (by kernel_rfl) (by simp) ?_
            refine AllReadyH.cons (o := ⟨some 72, _, _, _, _, _⟩) rfl (fun K hK => ?_) AllReadyH.nil
            go_simp
            refine (in_any _ _ _ _).mono ?_
            rw [h1]
            rintro e w2 ⟨rfl, rfl⟩
            refine hK.out _ _ (by assumption) (fun hS => ?_)
            clear hK K
            try simp only [Act.put, List.setIfInBounds_toArray, List.set_cons_zero, List.set_cons_succ]
            refine wpAnyH_take (i := 3) (oi := ⟨some 73, _, _, _, _, _⟩) (v := .bool false) rfl (by kernel_rfl) (by kernel_rfl) (by kernel_rfl) (fun _ _ _ h => h) (Or.inl ⟨by rfl, fun w' hS' => ?_⟩) (by assumption) ?_
            · (try dsimp only at hS'); go_simp
            try simp only [Act.put, List.setIfInBounds_toArray, List.set_cons_zero, List.set_cons_succ]
            refine wpAnyH_take (i := 4) (oi := ⟨some 74, _, _, _, _, _⟩) (v := .bool false) rfl (by kernel_rfl) (by kernel_rfl) (by kernel_rfl) (fun _ _ _ h => h) (Or.inl ⟨by rfl, fun w' hS' => ?_⟩) (by assumption) ?_
            · (try dsimp only at hS'); go_simp
            try simp only [Act.put, List.setIfInBounds_toArray, List.set_cons_zero, List.set_cons_succ]
            refine wpAnyH_take (i := 5) (oi := ⟨some 75, _, _, _, _, _⟩) (v := .pointer (some ⟨wr.heap.size, 1, none⟩)) rfl (by kernel_rfl) (by kernel_rfl) (by kernel_rfl) (fun _ _ _ h => h) (Or.inl ⟨by rfl, fun w' hS' => ?_⟩) (by assumption) ?_
            · (try dsimp only at hS'); go_simp
            try simp only [Act.put, List.setIfInBounds_toArray, List.set_cons_zero, List.set_cons_succ]
            refine wpAnyH_take (i := 6) (oi := ⟨some 76, _, _, _, _, _⟩) (v := .int .i64 s.seq) rfl (by kernel_rfl) (by kernel_rfl) (by kernel_rfl) (fun _ _ _ h => h) (Or.inl ⟨by rfl, fun w' hS' => ?_⟩) (by assumption) ?_
            · (try dsimp only at hS'); go_simp
            try simp only [Act.put, List.setIfInBounds_toArray, List.set_cons_zero, List.set_cons_succ]
            refine wpAnyH_ready (rs := [7]) (by kernel_rfl) (by simp) ?_
            refine AllReadyH.cons (o := ⟨some 77, _, _, _, _, _⟩) rfl (fun K hK => ?_) AllReadyH.nil
            go_simp
            refine (in_any _ _ _ _).mono ?_
            rw [h2]
            rintro e w2 ⟨rfl, rfl⟩
            refine hK.out _ _ (by assumption) (fun hS => ?_)
            clear hK K
            try simp only [Act.put, List.setIfInBounds_toArray, List.set_cons_zero, List.set_cons_succ]
            refine wpAnyH_take (i := 8) (oi := ⟨some 78, _, _, _, _, _⟩) (v := .bool false) rfl (by kernel_rfl) (by kernel_rfl) (by kernel_rfl) (fun _ _ _ h => h) (Or.inl ⟨by rfl, fun w' hS' => ?_⟩) (by assumption) ?_
            · (try dsimp only at hS'); go_simp
            try simp only [Act.put, List.setIfInBounds_toArray, List.set_cons_zero, List.set_cons_succ]
            refine wpAnyH_take (i := 9) (oi := ⟨some 79, _, _, _, _, _⟩) (v := .bool false) rfl (by kernel_rfl) (by kernel_rfl) (by kernel_rfl) (fun _ _ _ h => h) (Or.inl ⟨by rfl, fun w' hS' => ?_⟩) (by assumption) ?_
            · (try dsimp only at hS'); go_simp
            try simp only [Act.put, List.setIfInBounds_toArray, List.set_cons_zero, List.set_cons_succ]
            refine wpAnyH_take (i := 10) (oi := ⟨some 80, _, _, _, _, _⟩) (v := .bool false) rfl (by kernel_rfl) (by kernel_rfl) (by kernel_rfl) (fun _ _ _ h => h) (Or.inl ⟨by rfl, fun w' hS' => ?_⟩) (by assumption) ?_
            · (try dsimp only at hS'); go_simp
            try simp only [Act.put, List.setIfInBounds_toArray, List.set_cons_zero, List.set_cons_succ]
            refine wpAnyH_take (i := 11) (oi := ⟨some 81, _, _, _, _, _⟩) (v := .pointer (some ⟨wr.heap.size, 2, none⟩)) rfl (by kernel_rfl) (by kernel_rfl) (by kernel_rfl) (fun _ _ _ h => h) (Or.inl ⟨by rfl, fun w' hS' => ?_⟩) (by assumption) ?_
            · (try dsimp only at hS'); go_simp
            try simp only [Act.put, List.setIfInBounds_toArray, List.set_cons_zero, List.set_cons_succ]
            refine wpAnyH_take (i := 12) (oi := ⟨some 82, _, _, _, _, _⟩) (v := .int .i64 s.rev) rfl (by kernel_rfl) (by kernel_rfl) (by kernel_rfl) (fun _ _ _ h => h) (Or.inl ⟨by rfl, fun w' hS' => ?_⟩) (by assumption) ?_
            · (try dsimp only at hS'); go_simp
            try simp only [Act.put, List.setIfInBounds_toArray, List.set_cons_zero, List.set_cons_succ]
            refine wpAnyH_take (i := 13) (oi := ⟨some 83, _, _, _, _, _⟩) (v := .agg #[.string x.name, .int .i64 x.from_, .slice A2 x.text.length c2, .slice A3 x.list.length c3, .slice (some ⟨b, off, none⟩) x.seen.length c4]) rfl (by kernel_rfl) (by kernel_rfl) (by kernel_rfl) (fun _ _ _ h => h) (Or.inl ⟨by rfl, fun w' hS' => ?_⟩) (by assumption) ?_
            · (try dsimp only at hS'); go_simp
            try simp only [Act.put, List.setIfInBounds_toArray, List.set_cons_zero, List.set_cons_succ]
            refine wpAnyH_ready (rs := [14]) (by kernel_rfl) (by simp) ?_
            refine AllReadyH.cons (o := ⟨some 84, _, _, _, _, _⟩) rfl (fun K hK => ?_) AllReadyH.nil
            go_simp
            refine (specHeadRev_w _ x _ (RD.out _ (by assumption))).mono ?_
            rintro e w2 ⟨rfl, b2⟩
            refine hK.out _ _ (SX.out _ _ (by assumption) b2) (fun hS => ?_)
            clear hK K
            try simp only [Act.put, List.setIfInBounds_toArray, List.set_cons_zero, List.set_cons_succ]
            refine wpAnyH_ready (rs := [15]) (by kernel_rfl) (by simp) ?_
            refine AllReadyH.cons (o := ⟨some 85, _, _, _, _, _⟩) rfl (fun K hK => ?_) AllReadyH.nil
            go_simp
            refine (in_any _ _ _ _).mono ?_
            rw [h3]
            rintro e w2 ⟨rfl, rfl⟩
            refine hK.out _ _ (by assumption) (fun hS => ?_)
            clear hK K
            try simp only [Act.put, List.setIfInBounds_toArray, List.set_cons_zero, List.set_cons_succ]
            refine wpAnyH_take (i := 16) (oi := ⟨some 86, _, _, _, _, _⟩) (v := .bool true) rfl (by kernel_rfl) (by kernel_rfl) (by kernel_rfl) (fun _ _ _ h => h) (Or.inl ⟨by rfl, fun w' hS' => ?_⟩) (by assumption) ?_
            · (try dsimp only at hS'); go_simp
            try simp only [Act.put, List.setIfInBounds_toArray, List.set_cons_zero, List.set_cons_succ]
            refine wpAnyH_take (i := 17) (oi := ⟨some 87, _, _, _, _, _⟩) (v := .bool true) rfl (by kernel_rfl) (by kernel_rfl) (by kernel_rfl) (fun _ _ _ h => h) (Or.inl ⟨by rfl, fun w' hS' => ?_⟩) (by assumption) ?_
            · (try dsimp only at hS'); go_simp
            try simp only [Act.put, List.setIfInBounds_toArray, List.set_cons_zero, List.set_cons_succ]
            refine wpAnyH_take (i := 18) (oi := ⟨some 88, _, _, _, _, _⟩) (v := .bool true) rfl (by kernel_rfl) (by kernel_rfl) (by kernel_rfl) (fun _ _ _ h => h) (Or.inl ⟨by rfl, fun w' hS' => ?_⟩) (by assumption) ?_
            · (try dsimp only at hS'); go_simp
            try simp only [Act.put, List.setIfInBounds_toArray, List.set_cons_zero, List.set_cons_succ]
            refine wpAnyH_take (i := 19) (oi := ⟨some 89, _, _, _, _, _⟩) (v := undef) rfl (by kernel_rfl) (by kernel_rfl) (by kernel_rfl) (fun _ _ _ h => h) (Or.inr ⟨by rfl, rfl⟩) (by assumption) ?_
            try simp only [Act.put, List.setIfInBounds_toArray, List.set_cons_zero, List.set_cons_succ]
            refine wpAnyH_take (i := 20) (oi := ⟨some 90, _, _, _, _, _⟩) (v := undef) rfl (by kernel_rfl) (by kernel_rfl) (by kernel_rfl) (fun _ _ _ h => h) (Or.inr ⟨by rfl, rfl⟩) (by assumption) ?_
            try simp only [Act.put, List.setIfInBounds_toArray, List.set_cons_zero, List.set_cons_succ]
            refine wpAnyH_take (i := 21) (oi := ⟨some 91, _, _, _, _, _⟩) (v := undef) rfl (by kernel_rfl) (by kernel_rfl) (by kernel_rfl) (fun _ _ _ h => h) (Or.inr ⟨by rfl, rfl⟩) (by assumption) ?_
            try simp only [Act.put, List.setIfInBounds_toArray, List.set_cons_zero, List.set_cons_succ]
            refine wpAnyH_take (i := 22) (oi := ⟨some 92, _, _, _, _, _⟩) (v := undef) rfl (by kernel_rfl) (by kernel_rfl) (by kernel_rfl) (fun _ _ _ h => h) (Or.inr ⟨by rfl, rfl⟩) (by assumption) ?_
            try simp only [Act.put, List.setIfInBounds_toArray, List.set_cons_zero, List.set_cons_succ]
            refine wpAnyH_take (i := 23) (oi := ⟨some 93, _, _, _, _, _⟩) (v := undef) rfl (by kernel_rfl) (by kernel_rfl) (by kernel_rfl) (fun _ _ _ h => h) (Or.inr ⟨by rfl, rfl⟩) (by assumption) ?_
            try simp only [Act.put, List.setIfInBounds_toArray, List.set_cons_zero, List.set_cons_succ]
            refine wpAnyH_take (i := 24) (oi := ⟨some 94, _, _, _, _, _⟩) (v := undef) rfl (by kernel_rfl) (by kernel_rfl) (by kernel_rfl) (fun _ _ _ h => h) (Or.inr ⟨by rfl, rfl⟩) (by assumption) ?_
            try simp only [Act.put, List.setIfInBounds_toArray, List.set_cons_zero, List.set_cons_succ]
            refine wpAnyH_take (i := 25) (oi := ⟨some 95, _, _, _, _, _⟩) (v := undef) rfl (by kernel_rfl) (by kernel_rfl) (by kernel_rfl) (fun _ _ _ h => h) (Or.inr ⟨by rfl, rfl⟩) (by assumption) ?_
            try simp only [Act.put, List.setIfInBounds_toArray, List.set_cons_zero, List.set_cons_succ]
            refine wpAnyH_take (i := 26) (oi := ⟨some 96, _, _, _, _, _⟩) (v := undef) rfl (by kernel_rfl) (by kernel_rfl) (by kernel_rfl) (fun _ _ _ h => h) (Or.inr ⟨by rfl, rfl⟩) (by assumption) ?_
            try simp only [Act.put, List.setIfInBounds_toArray, List.set_cons_zero, List.set_cons_succ]
            refine wpAnyH_take (i := 27) (oi := ⟨some 97, _, _, _, _, _⟩) (v := undef) rfl (by kernel_rfl) (by kernel_rfl) (by kernel_rfl) (fun _ _ _ h => h) (Or.inr ⟨by rfl, rfl⟩) (by assumption) ?_
            try simp only [Act.put, List.setIfInBounds_toArray, List.set_cons_zero, List.set_cons_succ]
            refine wpAnyH_take (i := 28) (oi := ⟨some 98, _, _, _, _, _⟩) (v := undef) rfl (by kernel_rfl) (by kernel_rfl) (by kernel_rfl) (fun _ _ _ h => h) (Or.inr ⟨by rfl, rfl⟩) (by assumption) ?_
            try simp only [Act.put, List.setIfInBounds_toArray, List.set_cons_zero, List.set_cons_succ]
            refine wpAnyH_take (i := 29) (oi := ⟨some 99, _, _, _, _, _⟩) (v := undef) rfl (by kernel_rfl) (by kernel_rfl) (by kernel_rfl) (fun _ _ _ h => h) (Or.inr ⟨by rfl, rfl⟩) (by assumption) ?_
            try simp only [Act.put, List.setIfInBounds_toArray, List.set_cons_zero, List.set_cons_succ]
            refine wpAnyH_take (i := 30) (oi := ⟨some 100, _, _, _, _, _⟩) (v := undef) rfl (by kernel_rfl) (by kernel_rfl) (by kernel_rfl) (fun _ _ _ h => h) (Or.inr ⟨by rfl, rfl⟩) (by assumption) ?_
            try simp only [Act.put, List.setIfInBounds_toArray, List.set_cons_zero, List.set_cons_succ]
            refine wpAnyH_take (i := 31) (oi := ⟨some 101, _, _, _, _, _⟩) (v := undef) rfl (by kernel_rfl) (by kernel_rfl) (by kernel_rfl) (fun _ _ _ h => h) (Or.inr ⟨by rfl, rfl⟩) (by assumption) ?_
            try simp only [Act.put, List.setIfInBounds_toArray, List.set_cons_zero, List.set_cons_succ]
            refine wpAnyH_take (i := 32) (oi := ⟨some 102, _, _, _, _, _⟩) (v := undef) rfl (by kernel_rfl) (by kernel_rfl) (by kernel_rfl) (fun _ _ _ h => h) (Or.inr ⟨by rfl, rfl⟩) (by assumption) ?_
            try simp only [Act.put, List.setIfInBounds_toArray, List.set_cons_zero, List.set_cons_succ]
            refine wpAnyH_take (i := 33) (oi := ⟨some 103, _, _, _, _, _⟩) (v := .bool true) rfl (by kernel_rfl) (by kernel_rfl) (by kernel_rfl) (fun _ _ _ h => h) (Or.inl ⟨by rfl, fun w' hS' => ?_⟩) (by assumption) ?_
            · (try dsimp only at hS'); go_simp
            try simp only [Act.put, List.setIfInBounds_toArray, List.set_cons_zero, List.set_cons_succ]
            refine wpAnyH_done (by kernel_rfl) ?_ _
            have HK : Below w.heap.size w _ := hbel.trans ((bA.trans (hS.2.2.2.2.2.2.2.2.mono bA.size)).mono hbel.size)
            have HBX2 := Lib.hid (bxD.past hS.2.2.2.2.2.2.2.2)
            have HKH := Lib.hid HK
            clear hS SX RD HK
            go_wp2
            go_ret
            exact ⟨ret_b (by rw [HDC.out, HS.out]; rw [show seenOneB (headRevT x) (prevOf x.seen j) s = false by unfold seenOneB; rw [h1, h2, h3]; simp]; rfl), HKH.out⟩
          cases j with
          | zero =>
            have HN := Lib.hid (show docB x = seenAllB (headRevT x) (prevOf x.seen (0 + 1)) (x.seen.drop (0 + 1)) by rw [HDC.out, HS.out, show seenOneB (headRevT x) (prevOf x.seen 0) s = true by unfold seenOneB prevOf; rw [h1, h2, h3]; rfl]; rfl)
            rw [Nat.zero_mul, Nat.add_zero] at z0
            rw [Nat.zero_mul, Nat.add_zero] at z1
            rw [Nat.zero_mul, Nat.add_zero] at z2
            go_wp2
            generalize wr.alloc (.cells #[.int .i64 s.client, .int .i64 s.seq, .int .i64 s.rev] 63) = W1 at bA bxS bxD ⊢
            have y0 : W1.cell? ⟨wr.heap.size, 0, none⟩ = some (.int .i64 s.client) := bxS.cell rfl
            have y1 : W1.cell? ⟨wr.heap.size, 1, none⟩ = some (.int .i64 s.seq) := bxS.cell rfl
            have y2 : W1.cell? ⟨wr.heap.size, 2, none⟩ = some (.int .i64 s.rev) := bxS.cell rfl
            have y3 : W1.cell? ⟨w.heap.size, 0, none⟩ = some (.string x.name) := bxD.cell rfl
            have y4 : W1.cell? ⟨w.heap.size, 1, none⟩ = some (.int .i64 x.from_) := bxD.cell rfl
            have y5 : W1.cell? ⟨w.heap.size, 2, none⟩ = some (.slice A2 x.text.length c2) := bxD.cell rfl
            have y6 : W1.cell? ⟨w.heap.size, 3, none⟩ = some (.slice A3 x.list.length c3) := bxD.cell rfl
            have y7 : W1.cell? ⟨w.heap.size, 4, none⟩ = some (.slice (some ⟨b, off, none⟩) x.seen.length c4) := bxD.cell rfl
            have lS := bxS.lt
            have lD := bxD.lt
            have SX := Lib.hid (show ∀ (W W' : World), (W.cell? ⟨wr.heap.size, 0, none⟩ = some (.int .i64 s.client) ∧ W.cell? ⟨wr.heap.size, 1, none⟩ = some (.int .i64 s.seq) ∧ W.cell? ⟨wr.heap.size, 2, none⟩ = some (.int .i64 s.rev) ∧ W.cell? ⟨w.heap.size, 0, none⟩ = some (.string x.name) ∧ W.cell? ⟨w.heap.size, 1, none⟩ = some (.int .i64 x.from_) ∧ W.cell? ⟨w.heap.size, 2, none⟩ = some (.slice A2 x.text.length c2) ∧ W.cell? ⟨w.heap.size, 3, none⟩ = some (.slice A3 x.list.length c3) ∧ W.cell? ⟨w.heap.size, 4, none⟩ = some (.slice (some ⟨b, off, none⟩) x.seen.length c4) ∧ KS W1 W) → Below W.heap.size W W' → (W'.cell? ⟨wr.heap.size, 0, none⟩ = some (.int .i64 s.client) ∧ W'.cell? ⟨wr.heap.size, 1, none⟩ = some (.int .i64 s.seq) ∧ W'.cell? ⟨wr.heap.size, 2, none⟩ = some (.int .i64 s.rev) ∧ W'.cell? ⟨w.heap.size, 0, none⟩ = some (.string x.name) ∧ W'.cell? ⟨w.heap.size, 1, none⟩ = some (.int .i64 x.from_) ∧ W'.cell? ⟨w.heap.size, 2, none⟩ = some (.slice A2 x.text.length c2) ∧ W'.cell? ⟨w.heap.size, 3, none⟩ = some (.slice A3 x.list.length c3) ∧ W'.cell? ⟨w.heap.size, 4, none⟩ = some (.slice (some ⟨b, off, none⟩) x.seen.length c4) ∧ KS W1 W') from fun W W' h hb => by have hk := h.2.2.2.2.2.2.2.2; have hkk : KS W1 W' := hk.trans (hb.mono hk.size); exact ⟨(hkk.cell (p := ⟨wr.heap.size, 0, none⟩) lS).trans y0, (hkk.cell (p := ⟨wr.heap.size, 1, none⟩) lS).trans y1, (hkk.cell (p := ⟨wr.heap.size, 2, none⟩) lS).trans y2, (hkk.cell (p := ⟨w.heap.size, 0, none⟩) lD).trans y3, (hkk.cell (p := ⟨w.heap.size, 1, none⟩) lD).trans y4, (hkk.cell (p := ⟨w.heap.size, 2, none⟩) lD).trans y5, (hkk.cell (p := ⟨w.heap.size, 3, none⟩) lD).trans y6, (hkk.cell (p := ⟨w.heap.size, 4, none⟩) lD).trans y7, hkk⟩)
            have RD := Lib.hid (show ∀ W : World, (W.cell? ⟨wr.heap.size, 0, none⟩ = some (.int .i64 s.client) ∧ W.cell? ⟨wr.heap.size, 1, none⟩ = some (.int .i64 s.seq) ∧ W.cell? ⟨wr.heap.size, 2, none⟩ = some (.int .i64 s.rev) ∧ W.cell? ⟨w.heap.size, 0, none⟩ = some (.string x.name) ∧ W.cell? ⟨w.heap.size, 1, none⟩ = some (.int .i64 x.from_) ∧ W.cell? ⟨w.heap.size, 2, none⟩ = some (.slice A2 x.text.length c2) ∧ W.cell? ⟨w.heap.size, 3, none⟩ = some (.slice A3 x.list.length c3) ∧ W.cell? ⟨w.heap.size, 4, none⟩ = some (.slice (some ⟨b, off, none⟩) x.seen.length c4) ∧ KS W1 W) → RdC W W.heap.size (datDo x) (.agg #[.string x.name, .int .i64 x.from_, .slice A2 x.text.length c2, .slice A3 x.list.length c3, .slice (some ⟨b, off, none⟩) x.seen.length c4]) from fun W h => by have hk : Below W1.heap.size W1 W := h.2.2.2.2.2.2.2.2; exact (HR.out.past (hbel.trans (bA.mono hbel.size))).past hk)
            have hS0 : W1.drew.cell? ⟨wr.heap.size, 0, none⟩ = some (.int .i64 s.client) ∧ W1.drew.cell? ⟨wr.heap.size, 1, none⟩ = some (.int .i64 s.seq) ∧ W1.drew.cell? ⟨wr.heap.size, 2, none⟩ = some (.int .i64 s.rev) ∧ W1.drew.cell? ⟨w.heap.size, 0, none⟩ = some (.string x.name) ∧ W1.drew.cell? ⟨w.heap.size, 1, none⟩ = some (.int .i64 x.from_) ∧ W1.drew.cell? ⟨w.heap.size, 2, none⟩ = some (.slice A2 x.text.length c2) ∧ W1.drew.cell? ⟨w.heap.size, 3, none⟩ = some (.slice A3 x.list.length c3) ∧ W1.drew.cell? ⟨w.heap.size, 4, none⟩ = some (.slice (some ⟨b, off, none⟩) x.seen.length c4) ∧ KS W1 W1.drew := ⟨y0, y1, y2, y3, y4, y5, y6, y7, KS.start _⟩
            clear y0 y1 y2 y3 y4 y5 y6 y7
            refine wp_region_held_drew (S := fun W => W.cell? ⟨wr.heap.size, 0, none⟩ = some (.int .i64 s.client) ∧ W.cell? ⟨wr.heap.size, 1, none⟩ = some (.int .i64 s.seq) ∧ W.cell? ⟨wr.heap.size, 2, none⟩ = some (.int .i64 s.rev) ∧ W.cell? ⟨w.heap.size, 0, none⟩ = some (.string x.name) ∧ W.cell? ⟨w.heap.size, 1, none⟩ = some (.int .i64 x.from_) ∧ W.cell? ⟨w.heap.size, 2, none⟩ = some (.slice A2 x.text.length c2) ∧ W.cell? ⟨w.heap.size, 3, none⟩ = some (.slice A3 x.list.length c3) ∧ W.cell? ⟨w.heap.size, 4, none⟩ = some (.slice (some ⟨b, off, none⟩) x.seen.length c4) ∧ KS W1 W) (by kernel_rfl) hS0 (fun hS => ?_)
            clear hS0
            refine wpAnyH_take (i := 0) (oi := ⟨some 70, _, _, _, _, _⟩) (v := .pointer (some ⟨wr.heap.size, 0, none⟩)) rfl (by kernel_rfl) (by kernel_rfl) (by kernel_rfl) (fun _ _ _ h => h) (Or.inl ⟨by rfl, fun w' hS' => ?_⟩) (by assumption) ?_
            · (try dsimp only at hS'); go_simp
            try simp only [Act.put, List.setIfInBounds_toArray, List.set_cons_zero, List.set_cons_succ]
            refine wpAnyH_take (i := 1) (oi := ⟨some 71, _, _, _, _, _⟩) (v := .int .i64 s.client) rfl (by kernel_rfl) (by kernel_rfl) (by kernel_rfl) (fun _ _ _ h => h) (Or.inl ⟨by rfl, fun w' hS' => ?_⟩) (by assumption) ?_
            · (try dsimp only at hS'); go_simp
            try simp only [Act.put, List.setIfInBounds_toArray, List.set_cons_zero, List.set_cons_succ]
            refine wpAnyH_ready (rs := [2]) (by kernel_rfl) (by simp) ?_
            refine AllReadyH.cons (o := ⟨some 72, _, _, _, _, _⟩) rfl (fun K hK => ?_) AllReadyH.nil
            go_simp
            refine (in_any _ _ _ _).mono ?_
            rw [h1]
            rintro e w2 ⟨rfl, rfl⟩
            refine hK.out _ _ (by assumption) (fun hS => ?_)
            clear hK K
            try simp only [Act.put, List.setIfInBounds_toArray, List.set_cons_zero, List.set_cons_succ]
            refine wpAnyH_take (i := 3) (oi := ⟨some 73, _, _, _, _, _⟩) (v := .bool false) rfl (by kernel_rfl) (by kernel_rfl) (by kernel_rfl) (fun _ _ _ h => h) (Or.inl ⟨by rfl, fun w' hS' => ?_⟩) (by assumption) ?_
            · (try dsimp only at hS'); go_simp
            try simp only [Act.put, List.setIfInBounds_toArray, List.set_cons_zero, List.set_cons_succ]
            refine wpAnyH_take (i := 4) (oi := ⟨some 74, _, _, _, _, _⟩) (v := .bool false) rfl (by kernel_rfl) (by kernel_rfl) (by kernel_rfl) (fun _ _ _ h => h) (Or.inl ⟨by rfl, fun w' hS' => ?_⟩) (by assumption) ?_
            · (try dsimp only at hS'); go_simp
            try simp only [Act.put, List.setIfInBounds_toArray, List.set_cons_zero, List.set_cons_succ]
            refine wpAnyH_take (i := 5) (oi := ⟨some 75, _, _, _, _, _⟩) (v := .pointer (some ⟨wr.heap.size, 1, none⟩)) rfl (by kernel_rfl) (by kernel_rfl) (by kernel_rfl) (fun _ _ _ h => h) (Or.inl ⟨by rfl, fun w' hS' => ?_⟩) (by assumption) ?_
            · (try dsimp only at hS'); go_simp
            try simp only [Act.put, List.setIfInBounds_toArray, List.set_cons_zero, List.set_cons_succ]
            refine wpAnyH_take (i := 6) (oi := ⟨some 76, _, _, _, _, _⟩) (v := .int .i64 s.seq) rfl (by kernel_rfl) (by kernel_rfl) (by kernel_rfl) (fun _ _ _ h => h) (Or.inl ⟨by rfl, fun w' hS' => ?_⟩) (by assumption) ?_
            · (try dsimp only at hS'); go_simp
            try simp only [Act.put, List.setIfInBounds_toArray, List.set_cons_zero, List.set_cons_succ]
            refine wpAnyH_ready (rs := [7]) (by kernel_rfl) (by simp) ?_
            refine AllReadyH.cons (o := ⟨some 77, _, _, _, _, _⟩) rfl (fun K hK => ?_) AllReadyH.nil
            go_simp
            refine (in_any _ _ _ _).mono ?_
            rw [h2]
            rintro e w2 ⟨rfl, rfl⟩
            refine hK.out _ _ (by assumption) (fun hS => ?_)
            clear hK K
            try simp only [Act.put, List.setIfInBounds_toArray, List.set_cons_zero, List.set_cons_succ]
            refine wpAnyH_take (i := 8) (oi := ⟨some 78, _, _, _, _, _⟩) (v := .bool false) rfl (by kernel_rfl) (by kernel_rfl) (by kernel_rfl) (fun _ _ _ h => h) (Or.inl ⟨by rfl, fun w' hS' => ?_⟩) (by assumption) ?_
            · (try dsimp only at hS'); go_simp
            try simp only [Act.put, List.setIfInBounds_toArray, List.set_cons_zero, List.set_cons_succ]
            refine wpAnyH_take (i := 9) (oi := ⟨some 79, _, _, _, _, _⟩) (v := .bool false) rfl (by kernel_rfl) (by kernel_rfl) (by kernel_rfl) (fun _ _ _ h => h) (Or.inl ⟨by rfl, fun w' hS' => ?_⟩) (by assumption) ?_
            · (try dsimp only at hS'); go_simp
            try simp only [Act.put, List.setIfInBounds_toArray, List.set_cons_zero, List.set_cons_succ]
            refine wpAnyH_take (i := 10) (oi := ⟨some 80, _, _, _, _, _⟩) (v := .bool false) rfl (by kernel_rfl) (by kernel_rfl) (by kernel_rfl) (fun _ _ _ h => h) (Or.inl ⟨by rfl, fun w' hS' => ?_⟩) (by assumption) ?_
            · (try dsimp only at hS'); go_simp
            try simp only [Act.put, List.setIfInBounds_toArray, List.set_cons_zero, List.set_cons_succ]
            refine wpAnyH_take (i := 11) (oi := ⟨some 81, _, _, _, _, _⟩) (v := .pointer (some ⟨wr.heap.size, 2, none⟩)) rfl (by kernel_rfl) (by kernel_rfl) (by kernel_rfl) (fun _ _ _ h => h) (Or.inl ⟨by rfl, fun w' hS' => ?_⟩) (by assumption) ?_
            · (try dsimp only at hS'); go_simp
            try simp only [Act.put, List.setIfInBounds_toArray, List.set_cons_zero, List.set_cons_succ]
            refine wpAnyH_take (i := 12) (oi := ⟨some 82, _, _, _, _, _⟩) (v := .int .i64 s.rev) rfl (by kernel_rfl) (by kernel_rfl) (by kernel_rfl) (fun _ _ _ h => h) (Or.inl ⟨by rfl, fun w' hS' => ?_⟩) (by assumption) ?_
            · (try dsimp only at hS'); go_simp
            try simp only [Act.put, List.setIfInBounds_toArray, List.set_cons_zero, List.set_cons_succ]
            refine wpAnyH_take (i := 13) (oi := ⟨some 83, _, _, _, _, _⟩) (v := .agg #[.string x.name, .int .i64 x.from_, .slice A2 x.text.length c2, .slice A3 x.list.length c3, .slice (some ⟨b, off, none⟩) x.seen.length c4]) rfl (by kernel_rfl) (by kernel_rfl) (by kernel_rfl) (fun _ _ _ h => h) (Or.inl ⟨by rfl, fun w' hS' => ?_⟩) (by assumption) ?_
            · (try dsimp only at hS'); go_simp
            try simp only [Act.put, List.setIfInBounds_toArray, List.set_cons_zero, List.set_cons_succ]
            refine wpAnyH_ready (rs := [14]) (by kernel_rfl) (by simp) ?_
            refine AllReadyH.cons (o := ⟨some 84, _, _, _, _, _⟩) rfl (fun K hK => ?_) AllReadyH.nil
            go_simp
            refine (specHeadRev_w _ x _ (RD.out _ (by assumption))).mono ?_
            rintro e w2 ⟨rfl, b2⟩
            refine hK.out _ _ (SX.out _ _ (by assumption) b2) (fun hS => ?_)
            clear hK K
            try simp only [Act.put, List.setIfInBounds_toArray, List.set_cons_zero, List.set_cons_succ]
            refine wpAnyH_ready (rs := [15]) (by kernel_rfl) (by simp) ?_
            refine AllReadyH.cons (o := ⟨some 85, _, _, _, _, _⟩) rfl (fun K hK => ?_) AllReadyH.nil
            go_simp
            refine (in_any _ _ _ _).mono ?_
            rw [h3]
            rintro e w2 ⟨rfl, rfl⟩
            refine hK.out _ _ (by assumption) (fun hS => ?_)
            clear hK K
            try simp only [Act.put, List.setIfInBounds_toArray, List.set_cons_zero, List.set_cons_succ]
            refine wpAnyH_take (i := 16) (oi := ⟨some 86, _, _, _, _, _⟩) (v := .bool false) rfl (by kernel_rfl) (by kernel_rfl) (by kernel_rfl) (fun _ _ _ h => h) (Or.inl ⟨by rfl, fun w' hS' => ?_⟩) (by assumption) ?_
            · (try dsimp only at hS'); go_simp
            try simp only [Act.put, List.setIfInBounds_toArray, List.set_cons_zero, List.set_cons_succ]
            refine wpAnyH_take (i := 17) (oi := ⟨some 87, _, _, _, _, _⟩) (v := .bool false) rfl (by kernel_rfl) (by kernel_rfl) (by kernel_rfl) (fun _ _ _ h => h) (Or.inl ⟨by rfl, fun w' hS' => ?_⟩) (by assumption) ?_
            · (try dsimp only at hS'); go_simp
            try simp only [Act.put, List.setIfInBounds_toArray, List.set_cons_zero, List.set_cons_succ]
            refine wpAnyH_take (i := 18) (oi := ⟨some 88, _, _, _, _, _⟩) (v := .bool false) rfl (by kernel_rfl) (by kernel_rfl) (by kernel_rfl) (fun _ _ _ h => h) (Or.inl ⟨by rfl, fun w' hS' => ?_⟩) (by assumption) ?_
            · (try dsimp only at hS'); go_simp
            try simp only [Act.put, List.setIfInBounds_toArray, List.set_cons_zero, List.set_cons_succ]
            refine wpAnyH_take (i := 19) (oi := ⟨some 89, _, _, _, _, _⟩) (v := .int .i64 (0 : Int)) rfl (by kernel_rfl) (by kernel_rfl) (by kernel_rfl) (fun _ _ _ h => h) (Or.inl ⟨by rfl, fun w' hS' => ?_⟩) (by assumption) ?_
            · (try dsimp only at hS'); go_simp
            try simp only [Act.put, List.setIfInBounds_toArray, List.set_cons_zero, List.set_cons_succ]
            refine wpAnyH_take (i := 20) (oi := ⟨some 90, _, _, _, _, _⟩) (v := .bool false) rfl (by kernel_rfl) (by kernel_rfl) (by kernel_rfl) (fun _ _ _ h => h) (Or.inl ⟨by rfl, fun w' hS' => ?_⟩) (by assumption) ?_
            · (try dsimp only at hS'); go_simp
            try simp only [Act.put, List.setIfInBounds_toArray, List.set_cons_zero, List.set_cons_succ]
            refine wpAnyH_take (i := 21) (oi := ⟨some 91, _, _, _, _, _⟩) (v := .bool false) rfl (by kernel_rfl) (by kernel_rfl) (by kernel_rfl) (fun _ _ _ h => h) (Or.inl ⟨by rfl, fun w' hS' => ?_⟩) (by assumption) ?_
            · (try dsimp only at hS'); go_simp
            try simp only [Act.put, List.setIfInBounds_toArray, List.set_cons_zero, List.set_cons_succ]
            refine wpAnyH_take (i := 22) (oi := ⟨some 92, _, _, _, _, _⟩) (v := undef) rfl (by kernel_rfl) (by kernel_rfl) (by kernel_rfl) (fun _ _ _ h => h) (Or.inr ⟨by rfl, rfl⟩) (by assumption) ?_
            try simp only [Act.put, List.setIfInBounds_toArray, List.set_cons_zero, List.set_cons_succ]
            refine wpAnyH_take (i := 23) (oi := ⟨some 93, _, _, _, _, _⟩) (v := undef) rfl (by kernel_rfl) (by kernel_rfl) (by kernel_rfl) (fun _ _ _ h => h) (Or.inr ⟨by rfl, rfl⟩) (by assumption) ?_
            try simp only [Act.put, List.setIfInBounds_toArray, List.set_cons_zero, List.set_cons_succ]
            refine wpAnyH_take (i := 24) (oi := ⟨some 94, _, _, _, _, _⟩) (v := undef) rfl (by kernel_rfl) (by kernel_rfl) (by kernel_rfl) (fun _ _ _ h => h) (Or.inr ⟨by rfl, rfl⟩) (by assumption) ?_
            try simp only [Act.put, List.setIfInBounds_toArray, List.set_cons_zero, List.set_cons_succ]
            refine wpAnyH_take (i := 25) (oi := ⟨some 95, _, _, _, _, _⟩) (v := undef) rfl (by kernel_rfl) (by kernel_rfl) (by kernel_rfl) (fun _ _ _ h => h) (Or.inr ⟨by rfl, rfl⟩) (by assumption) ?_
            try simp only [Act.put, List.setIfInBounds_toArray, List.set_cons_zero, List.set_cons_succ]
            refine wpAnyH_take (i := 26) (oi := ⟨some 96, _, _, _, _, _⟩) (v := undef) rfl (by kernel_rfl) (by kernel_rfl) (by kernel_rfl) (fun _ _ _ h => h) (Or.inr ⟨by rfl, rfl⟩) (by assumption) ?_
            try simp only [Act.put, List.setIfInBounds_toArray, List.set_cons_zero, List.set_cons_succ]
            refine wpAnyH_take (i := 27) (oi := ⟨some 97, _, _, _, _, _⟩) (v := undef) rfl (by kernel_rfl) (by kernel_rfl) (by kernel_rfl) (fun _ _ _ h => h) (Or.inr ⟨by rfl, rfl⟩) (by assumption) ?_
            try simp only [Act.put, List.setIfInBounds_toArray, List.set_cons_zero, List.set_cons_succ]
            refine wpAnyH_take (i := 28) (oi := ⟨some 98, _, _, _, _, _⟩) (v := undef) rfl (by kernel_rfl) (by kernel_rfl) (by kernel_rfl) (fun _ _ _ h => h) (Or.inr ⟨by rfl, rfl⟩) (by assumption) ?_
            try simp only [Act.put, List.setIfInBounds_toArray, List.set_cons_zero, List.set_cons_succ]
            refine wpAnyH_take (i := 29) (oi := ⟨some 99, _, _, _, _, _⟩) (v := undef) rfl (by kernel_rfl) (by kernel_rfl) (by kernel_rfl) (fun _ _ _ h => h) (Or.inr ⟨by rfl, rfl⟩) (by assumption) ?_
            try simp only [Act.put, List.setIfInBounds_toArray, List.set_cons_zero, List.set_cons_succ]
            refine wpAnyH_take (i := 30) (oi := ⟨some 100, _, _, _, _, _⟩) (v := undef) rfl (by kernel_rfl) (by kernel_rfl) (by kernel_rfl) (fun _ _ _ h => h) (Or.inr ⟨by rfl, rfl⟩) (by assumption) ?_
            try simp only [Act.put, List.setIfInBounds_toArray, List.set_cons_zero, List.set_cons_succ]
            refine wpAnyH_take (i := 31) (oi := ⟨some 101, _, _, _, _, _⟩) (v := undef) rfl (by kernel_rfl) (by kernel_rfl) (by kernel_rfl) (fun _ _ _ h => h) (Or.inr ⟨by rfl, rfl⟩) (by assumption) ?_
            try simp only [Act.put, List.setIfInBounds_toArray, List.set_cons_zero, List.set_cons_succ]
            refine wpAnyH_take (i := 32) (oi := ⟨some 102, _, _, _, _, _⟩) (v := .bool false) rfl (by kernel_rfl) (by kernel_rfl) (by kernel_rfl) (fun _ _ _ h => h) (Or.inl ⟨by rfl, fun w' hS' => ?_⟩) (by assumption) ?_
            · (try dsimp only at hS'); go_simp
            try simp only [Act.put, List.setIfInBounds_toArray, List.set_cons_zero, List.set_cons_succ]
            refine wpAnyH_take (i := 33) (oi := ⟨some 103, _, _, _, _, _⟩) (v := .bool false) rfl (by kernel_rfl) (by kernel_rfl) (by kernel_rfl) (fun _ _ _ h => h) (Or.inl ⟨by rfl, fun w' hS' => ?_⟩) (by assumption) ?_
            · (try dsimp only at hS'); go_simp
            try simp only [Act.put, List.setIfInBounds_toArray, List.set_cons_zero, List.set_cons_succ]
            refine wpAnyH_done (by kernel_rfl) ?_ _
            have HK : Below w.heap.size w _ := hbel.trans ((bA.trans (hS.2.2.2.2.2.2.2.2.mono bA.size)).mono hbel.size)
            have HBX2 := Lib.hid (bxD.past hS.2.2.2.2.2.2.2.2)
            have HKH := Lib.hid HK
            clear hS SX RD HK
            go_wp2
            go_roundw
            case rel => exact ⟨0 + 1, by omega, by go_num, HN.out, HBX2.out, HKH.out⟩
            case measure => simp [intOf]; omega
          | succ k =>
            obtain ⟨p, hpk⟩ : ∃ p, x.seen[k]? = some p := ⟨_, List.getElem?_eq_getElem (by omega)⟩
            obtain ⟨b', off', p', e1, _, hp', zp, _, _⟩ := atSes (r4.below hbel) (i := k) (by omega)
            obtain ⟨rfl, rfl⟩ : b = b' ∧ off = off' := by injection e1 with e1; injection e1 with e1 e2; exact ⟨e1, e2⟩
            obtain rfl : p = p' := by rw [hpk] at hp'; injection hp'
            have HPV := Lib.hid (show prevOf x.seen (k + 1) = some p.client by rw [prevOf, hpk]; rfl)
            clear e1 hp' hpk
            have gw2 : IntKind.i64.wrap (k : Int) = (k : Int) := IntWalk.i64_in _ (by omega)
            have gw3 : (0 : Int) ≤ (k : Int) := by omega
            have gw4 : (k : Int) < (x.seen.length : Int) := by omega
            have gj2 : decide ((0 : Int) < (k : Int) + 1) = true := decide_eq_true (by omega)
            by_cases hpc : s.client ≤ p.client
            · have gp : decide (s.client ≤ p.client) = true := decide_eq_true hpc
              go_wp2
              generalize wr.alloc (.cells #[.int .i64 s.client, .int .i64 s.seq, .int .i64 s.rev] 63) = W1 at bA bxS bxD ⊢
              have y0 : W1.cell? ⟨wr.heap.size, 0, none⟩ = some (.int .i64 s.client) := bxS.cell rfl
              have y1 : W1.cell? ⟨wr.heap.size, 1, none⟩ = some (.int .i64 s.seq) := bxS.cell rfl
              have y2 : W1.cell? ⟨wr.heap.size, 2, none⟩ = some (.int .i64 s.rev) := bxS.cell rfl
              have y3 : W1.cell? ⟨w.heap.size, 0, none⟩ = some (.string x.name) := bxD.cell rfl
              have y4 : W1.cell? ⟨w.heap.size, 1, none⟩ = some (.int .i64 x.from_) := bxD.cell rfl
              have y5 : W1.cell? ⟨w.heap.size, 2, none⟩ = some (.slice A2 x.text.length c2) := bxD.cell rfl
              have y6 : W1.cell? ⟨w.heap.size, 3, none⟩ = some (.slice A3 x.list.length c3) := bxD.cell rfl
              have y7 : W1.cell? ⟨w.heap.size, 4, none⟩ = some (.slice (some ⟨b, off, none⟩) x.seen.length c4) := bxD.cell rfl
              have y8 : W1.cell? ⟨b, off + k * 3, none⟩ = some (.int .i64 p.client) := (bA.cell (p := ⟨b, off + k * 3, none⟩) hbq).trans zp
              have lS := bxS.lt
              have lD := bxD.lt
              have lP : b < W1.heap.size := Nat.lt_of_lt_of_le hbq bA.size
              have SX := Lib.hid (show ∀ (W W' : World), (W.cell? ⟨wr.heap.size, 0, none⟩ = some (.int .i64 s.client) ∧ W.cell? ⟨wr.heap.size, 1, none⟩ = some (.int .i64 s.seq) ∧ W.cell? ⟨wr.heap.size, 2, none⟩ = some (.int .i64 s.rev) ∧ W.cell? ⟨w.heap.size, 0, none⟩ = some (.string x.name) ∧ W.cell? ⟨w.heap.size, 1, none⟩ = some (.int .i64 x.from_) ∧ W.cell? ⟨w.heap.size, 2, none⟩ = some (.slice A2 x.text.length c2) ∧ W.cell? ⟨w.heap.size, 3, none⟩ = some (.slice A3 x.list.length c3) ∧ W.cell? ⟨w.heap.size, 4, none⟩ = some (.slice (some ⟨b, off, none⟩) x.seen.length c4) ∧ W.cell? ⟨b, off + k * 3, none⟩ = some (.int .i64 p.client) ∧ KS W1 W) → Below W.heap.size W W' → (W'.cell? ⟨wr.heap.size, 0, none⟩ = some (.int .i64 s.client) ∧ W'.cell? ⟨wr.heap.size, 1, none⟩ = some (.int .i64 s.seq) ∧ W'.cell? ⟨wr.heap.size, 2, none⟩ = some (.int .i64 s.rev) ∧ W'.cell? ⟨w.heap.size, 0, none⟩ = some (.string x.name) ∧ W'.cell? ⟨w.heap.size, 1, none⟩ = some (.int .i64 x.from_) ∧ W'.cell? ⟨w.heap.size, 2, none⟩ = some (.slice A2 x.text.length c2) ∧ W'.cell? ⟨w.heap.size, 3, none⟩ = some (.slice A3 x.list.length c3) ∧ W'.cell? ⟨w.heap.size, 4, none⟩ = some (.slice (some ⟨b, off, none⟩) x.seen.length c4) ∧ W'.cell? ⟨b, off + k * 3, none⟩ = some (.int .i64 p.client) ∧ KS W1 W') from fun W W' h hb => by have hk := h.2.2.2.2.2.2.2.2.2; have hkk : KS W1 W' := hk.trans (hb.mono hk.size); exact ⟨(hkk.cell (p := ⟨wr.heap.size, 0, none⟩) lS).trans y0, (hkk.cell (p := ⟨wr.heap.size, 1, none⟩) lS).trans y1, (hkk.cell (p := ⟨wr.heap.size, 2, none⟩) lS).trans y2, (hkk.cell (p := ⟨w.heap.size, 0, none⟩) lD).trans y3, (hkk.cell (p := ⟨w.heap.size, 1, none⟩) lD).trans y4, (hkk.cell (p := ⟨w.heap.size, 2, none⟩) lD).trans y5, (hkk.cell (p := ⟨w.heap.size, 3, none⟩) lD).trans y6, (hkk.cell (p := ⟨w.heap.size, 4, none⟩) lD).trans y7, (hkk.cell (p := ⟨b, off + k * 3, none⟩) lP).trans y8, hkk⟩)
              have RD := Lib.hid (show ∀ W : World, (W.cell? ⟨wr.heap.size, 0, none⟩ = some (.int .i64 s.client) ∧ W.cell? ⟨wr.heap.size, 1, none⟩ = some (.int .i64 s.seq) ∧ W.cell? ⟨wr.heap.size, 2, none⟩ = some (.int .i64 s.rev) ∧ W.cell? ⟨w.heap.size, 0, none⟩ = some (.string x.name) ∧ W.cell? ⟨w.heap.size, 1, none⟩ = some (.int .i64 x.from_) ∧ W.cell? ⟨w.heap.size, 2, none⟩ = some (.slice A2 x.text.length c2) ∧ W.cell? ⟨w.heap.size, 3, none⟩ = some (.slice A3 x.list.length c3) ∧ W.cell? ⟨w.heap.size, 4, none⟩ = some (.slice (some ⟨b, off, none⟩) x.seen.length c4) ∧ W.cell? ⟨b, off + k * 3, none⟩ = some (.int .i64 p.client) ∧ KS W1 W) → RdC W W.heap.size (datDo x) (.agg #[.string x.name, .int .i64 x.from_, .slice A2 x.text.length c2, .slice A3 x.list.length c3, .slice (some ⟨b, off, none⟩) x.seen.length c4]) from fun W h => by have hk : Below W1.heap.size W1 W := h.2.2.2.2.2.2.2.2.2; exact (HR.out.past (hbel.trans (bA.mono hbel.size))).past hk)
              have hS0 : W1.drew.cell? ⟨wr.heap.size, 0, none⟩ = some (.int .i64 s.client) ∧ W1.drew.cell? ⟨wr.heap.size, 1, none⟩ = some (.int .i64 s.seq) ∧ W1.drew.cell? ⟨wr.heap.size, 2, none⟩ = some (.int .i64 s.rev) ∧ W1.drew.cell? ⟨w.heap.size, 0, none⟩ = some (.string x.name) ∧ W1.drew.cell? ⟨w.heap.size, 1, none⟩ = some (.int .i64 x.from_) ∧ W1.drew.cell? ⟨w.heap.size, 2, none⟩ = some (.slice A2 x.text.length c2) ∧ W1.drew.cell? ⟨w.heap.size, 3, none⟩ = some (.slice A3 x.list.length c3) ∧ W1.drew.cell? ⟨w.heap.size, 4, none⟩ = some (.slice (some ⟨b, off, none⟩) x.seen.length c4) ∧ W1.drew.cell? ⟨b, off + k * 3, none⟩ = some (.int .i64 p.client) ∧ KS W1 W1.drew := ⟨y0, y1, y2, y3, y4, y5, y6, y7, y8, KS.start _⟩
              clear y0 y1 y2 y3 y4 y5 y6 y7 y8
              refine wp_region_held_drew (S := fun W => W.cell? ⟨wr.heap.size, 0, none⟩ = some (.int .i64 s.client) ∧ W.cell? ⟨wr.heap.size, 1, none⟩ = some (.int .i64 s.seq) ∧ W.cell? ⟨wr.heap.size, 2, none⟩ = some (.int .i64 s.rev) ∧ W.cell? ⟨w.heap.size, 0, none⟩ = some (.string x.name) ∧ W.cell? ⟨w.heap.size, 1, none⟩ = some (.int .i64 x.from_) ∧ W.cell? ⟨w.heap.size, 2, none⟩ = some (.slice A2 x.text.length c2) ∧ W.cell? ⟨w.heap.size, 3, none⟩ = some (.slice A3 x.list.length c3) ∧ W.cell? ⟨w.heap.size, 4, none⟩ = some (.slice (some ⟨b, off, none⟩) x.seen.length c4) ∧ W.cell? ⟨b, off + k * 3, none⟩ = some (.int .i64 p.client) ∧ KS W1 W) (by kernel_rfl) hS0 (fun hS => ?_)
              clear hS0
              refine wpAnyH_take (i := 0) (oi := ⟨some 70, _, _, _, _, _⟩) (v := .pointer (some ⟨wr.heap.size, 0, none⟩)) rfl (by kernel_rfl) (by kernel_rfl) (by kernel_rfl) (fun _ _ _ h => h) (Or.inl ⟨by rfl, fun w' hS' => ?_⟩) (by assumption) ?_
              · (try dsimp only at hS'); go_simp
              try simp only [Act.put, List.setIfInBounds_toArray, List.set_cons_zero, List.set_cons_succ]
              refine wpAnyH_take (i := 1) (oi := ⟨some 71, _, _, _, _, _⟩) (v := .int .i64 s.client) rfl (by kernel_rfl) (by kernel_rfl) (by kernel_rfl) (fun _ _ _ h => h) (Or.inl ⟨by rfl, fun w' hS' => ?_⟩) (by assumption) ?_
              · (try dsimp only at hS'); go_simp
              try simp only [Act.put, List.setIfInBounds_toArray, List.set_cons_zero, List.set_cons_succ]
              refine wpAnyH_ready (rs := [2]) (by kernel_rfl) (by simp) ?_
              refine AllReadyH.cons (o := ⟨some 72, _, _, _, _, _⟩) rfl (fun K hK => ?_) AllReadyH.nil
              go_simp
              refine (in_any _ _ _ _).mono ?_
              rw [h1]
              rintro e w2 ⟨rfl, rfl⟩
              refine hK.out _ _ (by assumption) (fun hS => ?_)
              clear hK K
              try simp only [Act.put, List.setIfInBounds_toArray, List.set_cons_zero, List.set_cons_succ]
              refine wpAnyH_take (i := 3) (oi := ⟨some 73, _, _, _, _, _⟩) (v := .bool false) rfl (by kernel_rfl) (by kernel_rfl) (by kernel_rfl) (fun _ _ _ h => h) (Or.inl ⟨by rfl, fun w' hS' => ?_⟩) (by assumption) ?_
              · (try dsimp only at hS'); go_simp
              try simp only [Act.put, List.setIfInBounds_toArray, List.set_cons_zero, List.set_cons_succ]
              refine wpAnyH_take (i := 4) (oi := ⟨some 74, _, _, _, _, _⟩) (v := .bool false) rfl (by kernel_rfl) (by kernel_rfl) (by kernel_rfl) (fun _ _ _ h => h) (Or.inl ⟨by rfl, fun w' hS' => ?_⟩) (by assumption) ?_
              · (try dsimp only at hS'); go_simp
              try simp only [Act.put, List.setIfInBounds_toArray, List.set_cons_zero, List.set_cons_succ]
              refine wpAnyH_take (i := 5) (oi := ⟨some 75, _, _, _, _, _⟩) (v := .pointer (some ⟨wr.heap.size, 1, none⟩)) rfl (by kernel_rfl) (by kernel_rfl) (by kernel_rfl) (fun _ _ _ h => h) (Or.inl ⟨by rfl, fun w' hS' => ?_⟩) (by assumption) ?_
              · (try dsimp only at hS'); go_simp
              try simp only [Act.put, List.setIfInBounds_toArray, List.set_cons_zero, List.set_cons_succ]
              refine wpAnyH_take (i := 6) (oi := ⟨some 76, _, _, _, _, _⟩) (v := .int .i64 s.seq) rfl (by kernel_rfl) (by kernel_rfl) (by kernel_rfl) (fun _ _ _ h => h) (Or.inl ⟨by rfl, fun w' hS' => ?_⟩) (by assumption) ?_
              · (try dsimp only at hS'); go_simp
              try simp only [Act.put, List.setIfInBounds_toArray, List.set_cons_zero, List.set_cons_succ]
              refine wpAnyH_ready (rs := [7]) (by kernel_rfl) (by simp) ?_
              refine AllReadyH.cons (o := ⟨some 77, _, _, _, _, _⟩) rfl (fun K hK => ?_) AllReadyH.nil
              go_simp
              refine (in_any _ _ _ _).mono ?_
              rw [h2]
              rintro e w2 ⟨rfl, rfl⟩
              refine hK.out _ _ (by assumption) (fun hS => ?_)
              clear hK K
              try simp only [Act.put, List.setIfInBounds_toArray, List.set_cons_zero, List.set_cons_succ]
              refine wpAnyH_take (i := 8) (oi := ⟨some 78, _, _, _, _, _⟩) (v := .bool false) rfl (by kernel_rfl) (by kernel_rfl) (by kernel_rfl) (fun _ _ _ h => h) (Or.inl ⟨by rfl, fun w' hS' => ?_⟩) (by assumption) ?_
              · (try dsimp only at hS'); go_simp
              try simp only [Act.put, List.setIfInBounds_toArray, List.set_cons_zero, List.set_cons_succ]
              refine wpAnyH_take (i := 9) (oi := ⟨some 79, _, _, _, _, _⟩) (v := .bool false) rfl (by kernel_rfl) (by kernel_rfl) (by kernel_rfl) (fun _ _ _ h => h) (Or.inl ⟨by rfl, fun w' hS' => ?_⟩) (by assumption) ?_
              · (try dsimp only at hS'); go_simp
              try simp only [Act.put, List.setIfInBounds_toArray, List.set_cons_zero, List.set_cons_succ]
              refine wpAnyH_take (i := 10) (oi := ⟨some 80, _, _, _, _, _⟩) (v := .bool false) rfl (by kernel_rfl) (by kernel_rfl) (by kernel_rfl) (fun _ _ _ h => h) (Or.inl ⟨by rfl, fun w' hS' => ?_⟩) (by assumption) ?_
              · (try dsimp only at hS'); go_simp
              try simp only [Act.put, List.setIfInBounds_toArray, List.set_cons_zero, List.set_cons_succ]
              refine wpAnyH_take (i := 11) (oi := ⟨some 81, _, _, _, _, _⟩) (v := .pointer (some ⟨wr.heap.size, 2, none⟩)) rfl (by kernel_rfl) (by kernel_rfl) (by kernel_rfl) (fun _ _ _ h => h) (Or.inl ⟨by rfl, fun w' hS' => ?_⟩) (by assumption) ?_
              · (try dsimp only at hS'); go_simp
              try simp only [Act.put, List.setIfInBounds_toArray, List.set_cons_zero, List.set_cons_succ]
              refine wpAnyH_take (i := 12) (oi := ⟨some 82, _, _, _, _, _⟩) (v := .int .i64 s.rev) rfl (by kernel_rfl) (by kernel_rfl) (by kernel_rfl) (fun _ _ _ h => h) (Or.inl ⟨by rfl, fun w' hS' => ?_⟩) (by assumption) ?_
              · (try dsimp only at hS'); go_simp
              try simp only [Act.put, List.setIfInBounds_toArray, List.set_cons_zero, List.set_cons_succ]
              refine wpAnyH_take (i := 13) (oi := ⟨some 83, _, _, _, _, _⟩) (v := .agg #[.string x.name, .int .i64 x.from_, .slice A2 x.text.length c2, .slice A3 x.list.length c3, .slice (some ⟨b, off, none⟩) x.seen.length c4]) rfl (by kernel_rfl) (by kernel_rfl) (by kernel_rfl) (fun _ _ _ h => h) (Or.inl ⟨by rfl, fun w' hS' => ?_⟩) (by assumption) ?_
              · (try dsimp only at hS'); go_simp
              try simp only [Act.put, List.setIfInBounds_toArray, List.set_cons_zero, List.set_cons_succ]
              refine wpAnyH_ready (rs := [14]) (by kernel_rfl) (by simp) ?_
              refine AllReadyH.cons (o := ⟨some 84, _, _, _, _, _⟩) rfl (fun K hK => ?_) AllReadyH.nil
              go_simp
              refine (specHeadRev_w _ x _ (RD.out _ (by assumption))).mono ?_
              rintro e w2 ⟨rfl, b2⟩
              refine hK.out _ _ (SX.out _ _ (by assumption) b2) (fun hS => ?_)
              clear hK K
              try simp only [Act.put, List.setIfInBounds_toArray, List.set_cons_zero, List.set_cons_succ]
              refine wpAnyH_ready (rs := [15]) (by kernel_rfl) (by simp) ?_
              refine AllReadyH.cons (o := ⟨some 85, _, _, _, _, _⟩) rfl (fun K hK => ?_) AllReadyH.nil
              go_simp
              refine (in_any _ _ _ _).mono ?_
              rw [h3]
              rintro e w2 ⟨rfl, rfl⟩
              refine hK.out _ _ (by assumption) (fun hS => ?_)
              clear hK K
              try simp only [Act.put, List.setIfInBounds_toArray, List.set_cons_zero, List.set_cons_succ]
              refine wpAnyH_take (i := 16) (oi := ⟨some 86, _, _, _, _, _⟩) (v := .bool false) rfl (by kernel_rfl) (by kernel_rfl) (by kernel_rfl) (fun _ _ _ h => h) (Or.inl ⟨by rfl, fun w' hS' => ?_⟩) (by assumption) ?_
              · (try dsimp only at hS'); go_simp
              try simp only [Act.put, List.setIfInBounds_toArray, List.set_cons_zero, List.set_cons_succ]
              refine wpAnyH_take (i := 17) (oi := ⟨some 87, _, _, _, _, _⟩) (v := .bool false) rfl (by kernel_rfl) (by kernel_rfl) (by kernel_rfl) (fun _ _ _ h => h) (Or.inl ⟨by rfl, fun w' hS' => ?_⟩) (by assumption) ?_
              · (try dsimp only at hS'); go_simp
              try simp only [Act.put, List.setIfInBounds_toArray, List.set_cons_zero, List.set_cons_succ]
              refine wpAnyH_take (i := 18) (oi := ⟨some 88, _, _, _, _, _⟩) (v := .bool false) rfl (by kernel_rfl) (by kernel_rfl) (by kernel_rfl) (fun _ _ _ h => h) (Or.inl ⟨by rfl, fun w' hS' => ?_⟩) (by assumption) ?_
              · (try dsimp only at hS'); go_simp
              try simp only [Act.put, List.setIfInBounds_toArray, List.set_cons_zero, List.set_cons_succ]
              refine wpAnyH_take (i := 19) (oi := ⟨some 89, _, _, _, _, _⟩) (v := .int .i64 ((k : Int) + 1)) rfl (by kernel_rfl) (by kernel_rfl) (by kernel_rfl) (fun _ _ _ h => h) (Or.inl ⟨by rfl, fun w' hS' => ?_⟩) (by assumption) ?_
              · (try dsimp only at hS'); go_simp
              try simp only [Act.put, List.setIfInBounds_toArray, List.set_cons_zero, List.set_cons_succ]
              refine wpAnyH_take (i := 20) (oi := ⟨some 90, _, _, _, _, _⟩) (v := .bool true) rfl (by kernel_rfl) (by kernel_rfl) (by kernel_rfl) (fun _ _ _ h => h) (Or.inl ⟨by rfl, fun w' hS' => ?_⟩) (by assumption) ?_
              · (try dsimp only at hS'); go_simp
              try simp only [Act.put, List.setIfInBounds_toArray, List.set_cons_zero, List.set_cons_succ]
              refine wpAnyH_take (i := 21) (oi := ⟨some 91, _, _, _, _, _⟩) (v := .bool true) rfl (by kernel_rfl) (by kernel_rfl) (by kernel_rfl) (fun _ _ _ h => h) (Or.inl ⟨by rfl, fun w' hS' => ?_⟩) (by assumption) ?_
              · (try dsimp only at hS'); go_simp
              try simp only [Act.put, List.setIfInBounds_toArray, List.set_cons_zero, List.set_cons_succ]
              refine wpAnyH_take (i := 22) (oi := ⟨some 92, _, _, _, _, _⟩) (v := .pointer (some ⟨w.heap.size, 4, none⟩)) rfl (by kernel_rfl) (by kernel_rfl) (by kernel_rfl) (fun _ _ _ h => h) (Or.inl ⟨by rfl, fun w' hS' => ?_⟩) (by assumption) ?_
              · (try dsimp only at hS'); go_simp
              try simp only [Act.put, List.setIfInBounds_toArray, List.set_cons_zero, List.set_cons_succ]
              refine wpAnyH_take (i := 23) (oi := ⟨some 93, _, _, _, _, _⟩) (v := .slice (some ⟨b, off, none⟩) x.seen.length c4) rfl (by kernel_rfl) (by kernel_rfl) (by kernel_rfl) (fun _ _ _ h => h) (Or.inl ⟨by rfl, fun w' hS' => ?_⟩) (by assumption) ?_
              · (try dsimp only at hS'); go_simp
              try simp only [Act.put, List.setIfInBounds_toArray, List.set_cons_zero, List.set_cons_succ]
              refine wpAnyH_take (i := 24) (oi := ⟨some 94, _, _, _, _, _⟩) (v := .int .i64 ((k : Int) + 1)) rfl (by kernel_rfl) (by kernel_rfl) (by kernel_rfl) (fun _ _ _ h => h) (Or.inl ⟨by rfl, fun w' hS' => ?_⟩) (by assumption) ?_
              · (try dsimp only at hS'); go_simp
              try simp only [Act.put, List.setIfInBounds_toArray, List.set_cons_zero, List.set_cons_succ]
              refine wpAnyH_take (i := 25) (oi := ⟨some 95, _, _, _, _, _⟩) (v := .int .i64 (k : Int)) rfl (by kernel_rfl) (by kernel_rfl) (by kernel_rfl) (fun _ _ _ h => h) (Or.inl ⟨by rfl, fun w' hS' => ?_⟩) (by assumption) ?_
              · (try dsimp only at hS'); go_simp
              try simp only [Act.put, List.setIfInBounds_toArray, List.set_cons_zero, List.set_cons_succ]
              refine wpAnyH_take (i := 26) (oi := ⟨some 96, _, _, _, _, _⟩) (v := .pointer (some ⟨b, off + k * 3, none⟩)) rfl (by kernel_rfl) (by kernel_rfl) (by kernel_rfl) (fun _ _ _ h => h) (Or.inl ⟨by rfl, fun w' hS' => ?_⟩) (by assumption) ?_
              · (try dsimp only at hS'); go_simp
              try simp only [Act.put, List.setIfInBounds_toArray, List.set_cons_zero, List.set_cons_succ]
              refine wpAnyH_take (i := 27) (oi := ⟨some 97, _, _, _, _, _⟩) (v := .pointer (some ⟨b, off + k * 3, none⟩)) rfl (by kernel_rfl) (by kernel_rfl) (by kernel_rfl) (fun _ _ _ h => h) (Or.inl ⟨by rfl, fun w' hS' => ?_⟩) (by assumption) ?_
              · (try dsimp only at hS'); go_simp
              try simp only [Act.put, List.setIfInBounds_toArray, List.set_cons_zero, List.set_cons_succ]
              refine wpAnyH_take (i := 28) (oi := ⟨some 98, _, _, _, _, _⟩) (v := .int .i64 p.client) rfl (by kernel_rfl) (by kernel_rfl) (by kernel_rfl) (fun _ _ _ h => h) (Or.inl ⟨by rfl, fun w' hS' => ?_⟩) (by assumption) ?_
              · (try dsimp only at hS'); go_simp
              try simp only [Act.put, List.setIfInBounds_toArray, List.set_cons_zero, List.set_cons_succ]
              refine wpAnyH_take (i := 29) (oi := ⟨some 99, _, _, _, _, _⟩) (v := .pointer (some ⟨wr.heap.size, 0, none⟩)) rfl (by kernel_rfl) (by kernel_rfl) (by kernel_rfl) (fun _ _ _ h => h) (Or.inl ⟨by rfl, fun w' hS' => ?_⟩) (by assumption) ?_
              · (try dsimp only at hS'); go_simp
              try simp only [Act.put, List.setIfInBounds_toArray, List.set_cons_zero, List.set_cons_succ]
              refine wpAnyH_take (i := 30) (oi := ⟨some 100, _, _, _, _, _⟩) (v := .int .i64 s.client) rfl (by kernel_rfl) (by kernel_rfl) (by kernel_rfl) (fun _ _ _ h => h) (Or.inl ⟨by rfl, fun w' hS' => ?_⟩) (by assumption) ?_
              · (try dsimp only at hS'); go_simp
              try simp only [Act.put, List.setIfInBounds_toArray, List.set_cons_zero, List.set_cons_succ]
              refine wpAnyH_take (i := 31) (oi := ⟨some 101, _, _, _, _, _⟩) (v := .bool true) rfl (by kernel_rfl) (by kernel_rfl) (by kernel_rfl) (fun _ _ _ h => h) (Or.inl ⟨by rfl, fun w' hS' => ?_⟩) (by assumption) ?_
              · (try dsimp only at hS'); go_simp
              try simp only [Act.put, List.setIfInBounds_toArray, List.set_cons_zero, List.set_cons_succ]
              refine wpAnyH_take (i := 32) (oi := ⟨some 102, _, _, _, _, _⟩) (v := .bool true) rfl (by kernel_rfl) (by kernel_rfl) (by kernel_rfl) (fun _ _ _ h => h) (Or.inl ⟨by rfl, fun w' hS' => ?_⟩) (by assumption) ?_
              · (try dsimp only at hS'); go_simp
              try simp only [Act.put, List.setIfInBounds_toArray, List.set_cons_zero, List.set_cons_succ]
              refine wpAnyH_take (i := 33) (oi := ⟨some 103, _, _, _, _, _⟩) (v := .bool true) rfl (by kernel_rfl) (by kernel_rfl) (by kernel_rfl) (fun _ _ _ h => h) (Or.inl ⟨by rfl, fun w' hS' => ?_⟩) (by assumption) ?_
              · (try dsimp only at hS'); go_simp
              try simp only [Act.put, List.setIfInBounds_toArray, List.set_cons_zero, List.set_cons_succ]
              refine wpAnyH_done (by kernel_rfl) ?_ _
              have HK : Below w.heap.size w _ := hbel.trans ((bA.trans (hS.2.2.2.2.2.2.2.2.2.mono bA.size)).mono hbel.size)
              have HBX2 := Lib.hid (bxD.past hS.2.2.2.2.2.2.2.2.2)
              have HKH := Lib.hid HK
              clear hS SX RD HK
              go_wp2
              go_ret
              exact ⟨ret_b (by rw [HDC.out, HS.out]; rw [show seenOneB (headRevT x) (prevOf x.seen (k + 1)) s = false by unfold seenOneB; rw [h1, h2, h3, HPV.out]; simp; omega]; rfl), HKH.out⟩
            · have gp : decide (s.client ≤ p.client) = false := decide_eq_false hpc
              have HN := Lib.hid (show docB x = seenAllB (headRevT x) (prevOf x.seen (k + 1 + 1)) (x.seen.drop (k + 1 + 1)) by rw [HDC.out, HS.out, show seenOneB (headRevT x) (prevOf x.seen (k + 1)) s = true by unfold seenOneB; rw [h1, h2, h3, HPV.out]; simp; omega]; rfl)
              go_wp2
              generalize wr.alloc (.cells #[.int .i64 s.client, .int .i64 s.seq, .int .i64 s.rev] 63) = W1 at bA bxS bxD ⊢
              have y0 : W1.cell? ⟨wr.heap.size, 0, none⟩ = some (.int .i64 s.client) := bxS.cell rfl
              have y1 : W1.cell? ⟨wr.heap.size, 1, none⟩ = some (.int .i64 s.seq) := bxS.cell rfl
              have y2 : W1.cell? ⟨wr.heap.size, 2, none⟩ = some (.int .i64 s.rev) := bxS.cell rfl
              have y3 : W1.cell? ⟨w.heap.size, 0, none⟩ = some (.string x.name) := bxD.cell rfl
              have y4 : W1.cell? ⟨w.heap.size, 1, none⟩ = some (.int .i64 x.from_) := bxD.cell rfl
              have y5 : W1.cell? ⟨w.heap.size, 2, none⟩ = some (.slice A2 x.text.length c2) := bxD.cell rfl
              have y6 : W1.cell? ⟨w.heap.size, 3, none⟩ = some (.slice A3 x.list.length c3) := bxD.cell rfl
              have y7 : W1.cell? ⟨w.heap.size, 4, none⟩ = some (.slice (some ⟨b, off, none⟩) x.seen.length c4) := bxD.cell rfl
              have y8 : W1.cell? ⟨b, off + k * 3, none⟩ = some (.int .i64 p.client) := (bA.cell (p := ⟨b, off + k * 3, none⟩) hbq).trans zp
              have lS := bxS.lt
              have lD := bxD.lt
              have lP : b < W1.heap.size := Nat.lt_of_lt_of_le hbq bA.size
              have SX := Lib.hid (show ∀ (W W' : World), (W.cell? ⟨wr.heap.size, 0, none⟩ = some (.int .i64 s.client) ∧ W.cell? ⟨wr.heap.size, 1, none⟩ = some (.int .i64 s.seq) ∧ W.cell? ⟨wr.heap.size, 2, none⟩ = some (.int .i64 s.rev) ∧ W.cell? ⟨w.heap.size, 0, none⟩ = some (.string x.name) ∧ W.cell? ⟨w.heap.size, 1, none⟩ = some (.int .i64 x.from_) ∧ W.cell? ⟨w.heap.size, 2, none⟩ = some (.slice A2 x.text.length c2) ∧ W.cell? ⟨w.heap.size, 3, none⟩ = some (.slice A3 x.list.length c3) ∧ W.cell? ⟨w.heap.size, 4, none⟩ = some (.slice (some ⟨b, off, none⟩) x.seen.length c4) ∧ W.cell? ⟨b, off + k * 3, none⟩ = some (.int .i64 p.client) ∧ KS W1 W) → Below W.heap.size W W' → (W'.cell? ⟨wr.heap.size, 0, none⟩ = some (.int .i64 s.client) ∧ W'.cell? ⟨wr.heap.size, 1, none⟩ = some (.int .i64 s.seq) ∧ W'.cell? ⟨wr.heap.size, 2, none⟩ = some (.int .i64 s.rev) ∧ W'.cell? ⟨w.heap.size, 0, none⟩ = some (.string x.name) ∧ W'.cell? ⟨w.heap.size, 1, none⟩ = some (.int .i64 x.from_) ∧ W'.cell? ⟨w.heap.size, 2, none⟩ = some (.slice A2 x.text.length c2) ∧ W'.cell? ⟨w.heap.size, 3, none⟩ = some (.slice A3 x.list.length c3) ∧ W'.cell? ⟨w.heap.size, 4, none⟩ = some (.slice (some ⟨b, off, none⟩) x.seen.length c4) ∧ W'.cell? ⟨b, off + k * 3, none⟩ = some (.int .i64 p.client) ∧ KS W1 W') from fun W W' h hb => by have hk := h.2.2.2.2.2.2.2.2.2; have hkk : KS W1 W' := hk.trans (hb.mono hk.size); exact ⟨(hkk.cell (p := ⟨wr.heap.size, 0, none⟩) lS).trans y0, (hkk.cell (p := ⟨wr.heap.size, 1, none⟩) lS).trans y1, (hkk.cell (p := ⟨wr.heap.size, 2, none⟩) lS).trans y2, (hkk.cell (p := ⟨w.heap.size, 0, none⟩) lD).trans y3, (hkk.cell (p := ⟨w.heap.size, 1, none⟩) lD).trans y4, (hkk.cell (p := ⟨w.heap.size, 2, none⟩) lD).trans y5, (hkk.cell (p := ⟨w.heap.size, 3, none⟩) lD).trans y6, (hkk.cell (p := ⟨w.heap.size, 4, none⟩) lD).trans y7, (hkk.cell (p := ⟨b, off + k * 3, none⟩) lP).trans y8, hkk⟩)
              have RD := Lib.hid (show ∀ W : World, (W.cell? ⟨wr.heap.size, 0, none⟩ = some (.int .i64 s.client) ∧ W.cell? ⟨wr.heap.size, 1, none⟩ = some (.int .i64 s.seq) ∧ W.cell? ⟨wr.heap.size, 2, none⟩ = some (.int .i64 s.rev) ∧ W.cell? ⟨w.heap.size, 0, none⟩ = some (.string x.name) ∧ W.cell? ⟨w.heap.size, 1, none⟩ = some (.int .i64 x.from_) ∧ W.cell? ⟨w.heap.size, 2, none⟩ = some (.slice A2 x.text.length c2) ∧ W.cell? ⟨w.heap.size, 3, none⟩ = some (.slice A3 x.list.length c3) ∧ W.cell? ⟨w.heap.size, 4, none⟩ = some (.slice (some ⟨b, off, none⟩) x.seen.length c4) ∧ W.cell? ⟨b, off + k * 3, none⟩ = some (.int .i64 p.client) ∧ KS W1 W) → RdC W W.heap.size (datDo x) (.agg #[.string x.name, .int .i64 x.from_, .slice A2 x.text.length c2, .slice A3 x.list.length c3, .slice (some ⟨b, off, none⟩) x.seen.length c4]) from fun W h => by have hk : Below W1.heap.size W1 W := h.2.2.2.2.2.2.2.2.2; exact (HR.out.past (hbel.trans (bA.mono hbel.size))).past hk)
              have hS0 : W1.drew.cell? ⟨wr.heap.size, 0, none⟩ = some (.int .i64 s.client) ∧ W1.drew.cell? ⟨wr.heap.size, 1, none⟩ = some (.int .i64 s.seq) ∧ W1.drew.cell? ⟨wr.heap.size, 2, none⟩ = some (.int .i64 s.rev) ∧ W1.drew.cell? ⟨w.heap.size, 0, none⟩ = some (.string x.name) ∧ W1.drew.cell? ⟨w.heap.size, 1, none⟩ = some (.int .i64 x.from_) ∧ W1.drew.cell? ⟨w.heap.size, 2, none⟩ = some (.slice A2 x.text.length c2) ∧ W1.drew.cell? ⟨w.heap.size, 3, none⟩ = some (.slice A3 x.list.length c3) ∧ W1.drew.cell? ⟨w.heap.size, 4, none⟩ = some (.slice (some ⟨b, off, none⟩) x.seen.length c4) ∧ W1.drew.cell? ⟨b, off + k * 3, none⟩ = some (.int .i64 p.client) ∧ KS W1 W1.drew := ⟨y0, y1, y2, y3, y4, y5, y6, y7, y8, KS.start _⟩
              clear y0 y1 y2 y3 y4 y5 y6 y7 y8
              refine wp_region_held_drew (S := fun W => W.cell? ⟨wr.heap.size, 0, none⟩ = some (.int .i64 s.client) ∧ W.cell? ⟨wr.heap.size, 1, none⟩ = some (.int .i64 s.seq) ∧ W.cell? ⟨wr.heap.size, 2, none⟩ = some (.int .i64 s.rev) ∧ W.cell? ⟨w.heap.size, 0, none⟩ = some (.string x.name) ∧ W.cell? ⟨w.heap.size, 1, none⟩ = some (.int .i64 x.from_) ∧ W.cell? ⟨w.heap.size, 2, none⟩ = some (.slice A2 x.text.length c2) ∧ W.cell? ⟨w.heap.size, 3, none⟩ = some (.slice A3 x.list.length c3) ∧ W.cell? ⟨w.heap.size, 4, none⟩ = some (.slice (some ⟨b, off, none⟩) x.seen.length c4) ∧ W.cell? ⟨b, off + k * 3, none⟩ = some (.int .i64 p.client) ∧ KS W1 W) (by kernel_rfl) hS0 (fun hS => ?_)
              clear hS0
              refine wpAnyH_take (i := 0) (oi := ⟨some 70, _, _, _, _, _⟩) (v := .pointer (some ⟨wr.heap.size, 0, none⟩)) rfl (by kernel_rfl) (by kernel_rfl) (by kernel_rfl) (fun _ _ _ h => h) (Or.inl ⟨by rfl, fun w' hS' => ?_⟩) (by assumption) ?_
              · (try dsimp only at hS'); go_simp
              try simp only [Act.put, List.setIfInBounds_toArray, List.set_cons_zero, List.set_cons_succ]
              refine wpAnyH_take (i := 1) (oi := ⟨some 71, _, _, _, _, _⟩) (v := .int .i64 s.client) rfl (by kernel_rfl) (by kernel_rfl) (by kernel_rfl) (fun _ _ _ h => h) (Or.inl ⟨by rfl, fun w' hS' => ?_⟩) (by assumption) ?_
              · (try dsimp only at hS'); go_simp
              try simp only [Act.put, List.setIfInBounds_toArray, List.set_cons_zero, List.set_cons_succ]
              refine wpAnyH_ready (rs := [2]) (by kernel_rfl) (by simp) ?_
              refine AllReadyH.cons (o := ⟨some 72, _, _, _, _, _⟩) rfl (fun K hK => ?_) AllReadyH.nil
              go_simp
              refine (in_any _ _ _ _).mono ?_
              rw [h1]
              rintro e w2 ⟨rfl, rfl⟩
              refine hK.out _ _ (by assumption) (fun hS => ?_)
              clear hK K
              try simp only [Act.put, List.setIfInBounds_toArray, List.set_cons_zero, List.set_cons_succ]
              refine wpAnyH_take (i := 3) (oi := ⟨some 73, _, _, _, _, _⟩) (v := .bool false) rfl (by kernel_rfl) (by kernel_rfl) (by kernel_rfl) (fun _ _ _ h => h) (Or.inl ⟨by rfl, fun w' hS' => ?_⟩) (by assumption) ?_
              · (try dsimp only at hS'); go_simp
              try simp only [Act.put, List.setIfInBounds_toArray, List.set_cons_zero, List.set_cons_succ]
              refine wpAnyH_take (i := 4) (oi := ⟨some 74, _, _, _, _, _⟩) (v := .bool false) rfl (by kernel_rfl) (by kernel_rfl) (by kernel_rfl) (fun _ _ _ h => h) (Or.inl ⟨by rfl, fun w' hS' => ?_⟩) (by assumption) ?_
              · (try dsimp only at hS'); go_simp
              try simp only [Act.put, List.setIfInBounds_toArray, List.set_cons_zero, List.set_cons_succ]
              refine wpAnyH_take (i := 5) (oi := ⟨some 75, _, _, _, _, _⟩) (v := .pointer (some ⟨wr.heap.size, 1, none⟩)) rfl (by kernel_rfl) (by kernel_rfl) (by kernel_rfl) (fun _ _ _ h => h) (Or.inl ⟨by rfl, fun w' hS' => ?_⟩) (by assumption) ?_
              · (try dsimp only at hS'); go_simp
              try simp only [Act.put, List.setIfInBounds_toArray, List.set_cons_zero, List.set_cons_succ]
              refine wpAnyH_take (i := 6) (oi := ⟨some 76, _, _, _, _, _⟩) (v := .int .i64 s.seq) rfl (by kernel_rfl) (by kernel_rfl) (by kernel_rfl) (fun _ _ _ h => h) (Or.inl ⟨by rfl, fun w' hS' => ?_⟩) (by assumption) ?_
              · (try dsimp only at hS'); go_simp
              try simp only [Act.put, List.setIfInBounds_toArray, List.set_cons_zero, List.set_cons_succ]
              refine wpAnyH_ready (rs := [7]) (by kernel_rfl) (by simp) ?_
              refine AllReadyH.cons (o := ⟨some 77, _, _, _, _, _⟩) rfl (fun K hK => ?_) AllReadyH.nil
              go_simp
              refine (in_any _ _ _ _).mono ?_
              rw [h2]
              rintro e w2 ⟨rfl, rfl⟩
              refine hK.out _ _ (by assumption) (fun hS => ?_)
              clear hK K
              try simp only [Act.put, List.setIfInBounds_toArray, List.set_cons_zero, List.set_cons_succ]
              refine wpAnyH_take (i := 8) (oi := ⟨some 78, _, _, _, _, _⟩) (v := .bool false) rfl (by kernel_rfl) (by kernel_rfl) (by kernel_rfl) (fun _ _ _ h => h) (Or.inl ⟨by rfl, fun w' hS' => ?_⟩) (by assumption) ?_
              · (try dsimp only at hS'); go_simp
              try simp only [Act.put, List.setIfInBounds_toArray, List.set_cons_zero, List.set_cons_succ]
              refine wpAnyH_take (i := 9) (oi := ⟨some 79, _, _, _, _, _⟩) (v := .bool false) rfl (by kernel_rfl) (by kernel_rfl) (by kernel_rfl) (fun _ _ _ h => h) (Or.inl ⟨by rfl, fun w' hS' => ?_⟩) (by assumption) ?_
              · (try dsimp only at hS'); go_simp
              try simp only [Act.put, List.setIfInBounds_toArray, List.set_cons_zero, List.set_cons_succ]
              refine wpAnyH_take (i := 10) (oi := ⟨some 80, _, _, _, _, _⟩) (v := .bool false) rfl (by kernel_rfl) (by kernel_rfl) (by kernel_rfl) (fun _ _ _ h => h) (Or.inl ⟨by rfl, fun w' hS' => ?_⟩) (by assumption) ?_
              · (try dsimp only at hS'); go_simp
              try simp only [Act.put, List.setIfInBounds_toArray, List.set_cons_zero, List.set_cons_succ]
              refine wpAnyH_take (i := 11) (oi := ⟨some 81, _, _, _, _, _⟩) (v := .pointer (some ⟨wr.heap.size, 2, none⟩)) rfl (by kernel_rfl) (by kernel_rfl) (by kernel_rfl) (fun _ _ _ h => h) (Or.inl ⟨by rfl, fun w' hS' => ?_⟩) (by assumption) ?_
              · (try dsimp only at hS'); go_simp
              try simp only [Act.put, List.setIfInBounds_toArray, List.set_cons_zero, List.set_cons_succ]
              refine wpAnyH_take (i := 12) (oi := ⟨some 82, _, _, _, _, _⟩) (v := .int .i64 s.rev) rfl (by kernel_rfl) (by kernel_rfl) (by kernel_rfl) (fun _ _ _ h => h) (Or.inl ⟨by rfl, fun w' hS' => ?_⟩) (by assumption) ?_
              · (try dsimp only at hS'); go_simp
              try simp only [Act.put, List.setIfInBounds_toArray, List.set_cons_zero, List.set_cons_succ]
              refine wpAnyH_take (i := 13) (oi := ⟨some 83, _, _, _, _, _⟩) (v := .agg #[.string x.name, .int .i64 x.from_, .slice A2 x.text.length c2, .slice A3 x.list.length c3, .slice (some ⟨b, off, none⟩) x.seen.length c4]) rfl (by kernel_rfl) (by kernel_rfl) (by kernel_rfl) (fun _ _ _ h => h) (Or.inl ⟨by rfl, fun w' hS' => ?_⟩) (by assumption) ?_
              · (try dsimp only at hS'); go_simp
              try simp only [Act.put, List.setIfInBounds_toArray, List.set_cons_zero, List.set_cons_succ]
              refine wpAnyH_ready (rs := [14]) (by kernel_rfl) (by simp) ?_
              refine AllReadyH.cons (o := ⟨some 84, _, _, _, _, _⟩) rfl (fun K hK => ?_) AllReadyH.nil
              go_simp
              refine (specHeadRev_w _ x _ (RD.out _ (by assumption))).mono ?_
              rintro e w2 ⟨rfl, b2⟩
              refine hK.out _ _ (SX.out _ _ (by assumption) b2) (fun hS => ?_)
              clear hK K
              try simp only [Act.put, List.setIfInBounds_toArray, List.set_cons_zero, List.set_cons_succ]
              refine wpAnyH_ready (rs := [15]) (by kernel_rfl) (by simp) ?_
              refine AllReadyH.cons (o := ⟨some 85, _, _, _, _, _⟩) rfl (fun K hK => ?_) AllReadyH.nil
              go_simp
              refine (in_any _ _ _ _).mono ?_
              rw [h3]
              rintro e w2 ⟨rfl, rfl⟩
              refine hK.out _ _ (by assumption) (fun hS => ?_)
              clear hK K
              try simp only [Act.put, List.setIfInBounds_toArray, List.set_cons_zero, List.set_cons_succ]
              refine wpAnyH_take (i := 16) (oi := ⟨some 86, _, _, _, _, _⟩) (v := .bool false) rfl (by kernel_rfl) (by kernel_rfl) (by kernel_rfl) (fun _ _ _ h => h) (Or.inl ⟨by rfl, fun w' hS' => ?_⟩) (by assumption) ?_
              · (try dsimp only at hS'); go_simp
              try simp only [Act.put, List.setIfInBounds_toArray, List.set_cons_zero, List.set_cons_succ]
              refine wpAnyH_take (i := 17) (oi := ⟨some 87, _, _, _, _, _⟩) (v := .bool false) rfl (by kernel_rfl) (by kernel_rfl) (by kernel_rfl) (fun _ _ _ h => h) (Or.inl ⟨by rfl, fun w' hS' => ?_⟩) (by assumption) ?_
              · (try dsimp only at hS'); go_simp
              try simp only [Act.put, List.setIfInBounds_toArray, List.set_cons_zero, List.set_cons_succ]
              refine wpAnyH_take (i := 18) (oi := ⟨some 88, _, _, _, _, _⟩) (v := .bool false) rfl (by kernel_rfl) (by kernel_rfl) (by kernel_rfl) (fun _ _ _ h => h) (Or.inl ⟨by rfl, fun w' hS' => ?_⟩) (by assumption) ?_
              · (try dsimp only at hS'); go_simp
              try simp only [Act.put, List.setIfInBounds_toArray, List.set_cons_zero, List.set_cons_succ]
              refine wpAnyH_take (i := 19) (oi := ⟨some 89, _, _, _, _, _⟩) (v := .int .i64 ((k : Int) + 1)) rfl (by kernel_rfl) (by kernel_rfl) (by kernel_rfl) (fun _ _ _ h => h) (Or.inl ⟨by rfl, fun w' hS' => ?_⟩) (by assumption) ?_
              · (try dsimp only at hS'); go_simp
              try simp only [Act.put, List.setIfInBounds_toArray, List.set_cons_zero, List.set_cons_succ]
              refine wpAnyH_take (i := 20) (oi := ⟨some 90, _, _, _, _, _⟩) (v := .bool true) rfl (by kernel_rfl) (by kernel_rfl) (by kernel_rfl) (fun _ _ _ h => h) (Or.inl ⟨by rfl, fun w' hS' => ?_⟩) (by assumption) ?_
              · (try dsimp only at hS'); go_simp
              try simp only [Act.put, List.setIfInBounds_toArray, List.set_cons_zero, List.set_cons_succ]
              refine wpAnyH_take (i := 21) (oi := ⟨some 91, _, _, _, _, _⟩) (v := .bool true) rfl (by kernel_rfl) (by kernel_rfl) (by kernel_rfl) (fun _ _ _ h => h) (Or.inl ⟨by rfl, fun w' hS' => ?_⟩) (by assumption) ?_
              · (try dsimp only at hS'); go_simp
              try simp only [Act.put, List.setIfInBounds_toArray, List.set_cons_zero, List.set_cons_succ]
              refine wpAnyH_take (i := 22) (oi := ⟨some 92, _, _, _, _, _⟩) (v := .pointer (some ⟨w.heap.size, 4, none⟩)) rfl (by kernel_rfl) (by kernel_rfl) (by kernel_rfl) (fun _ _ _ h => h) (Or.inl ⟨by rfl, fun w' hS' => ?_⟩) (by assumption) ?_
              · (try dsimp only at hS'); go_simp
              try simp only [Act.put, List.setIfInBounds_toArray, List.set_cons_zero, List.set_cons_succ]
              refine wpAnyH_take (i := 23) (oi := ⟨some 93, _, _, _, _, _⟩) (v := .slice (some ⟨b, off, none⟩) x.seen.length c4) rfl (by kernel_rfl) (by kernel_rfl) (by kernel_rfl) (fun _ _ _ h => h) (Or.inl ⟨by rfl, fun w' hS' => ?_⟩) (by assumption) ?_
              · (try dsimp only at hS'); go_simp
              try simp only [Act.put, List.setIfInBounds_toArray, List.set_cons_zero, List.set_cons_succ]
              refine wpAnyH_take (i := 24) (oi := ⟨some 94, _, _, _, _, _⟩) (v := .int .i64 ((k : Int) + 1)) rfl (by kernel_rfl) (by kernel_rfl) (by kernel_rfl) (fun _ _ _ h => h) (Or.inl ⟨by rfl, fun w' hS' => ?_⟩) (by assumption) ?_
              · (try dsimp only at hS'); go_simp
              try simp only [Act.put, List.setIfInBounds_toArray, List.set_cons_zero, List.set_cons_succ]
              refine wpAnyH_take (i := 25) (oi := ⟨some 95, _, _, _, _, _⟩) (v := .int .i64 (k : Int)) rfl (by kernel_rfl) (by kernel_rfl) (by kernel_rfl) (fun _ _ _ h => h) (Or.inl ⟨by rfl, fun w' hS' => ?_⟩) (by assumption) ?_
              · (try dsimp only at hS'); go_simp
              try simp only [Act.put, List.setIfInBounds_toArray, List.set_cons_zero, List.set_cons_succ]
              refine wpAnyH_take (i := 26) (oi := ⟨some 96, _, _, _, _, _⟩) (v := .pointer (some ⟨b, off + k * 3, none⟩)) rfl (by kernel_rfl) (by kernel_rfl) (by kernel_rfl) (fun _ _ _ h => h) (Or.inl ⟨by rfl, fun w' hS' => ?_⟩) (by assumption) ?_
              · (try dsimp only at hS'); go_simp
              try simp only [Act.put, List.setIfInBounds_toArray, List.set_cons_zero, List.set_cons_succ]
              refine wpAnyH_take (i := 27) (oi := ⟨some 97, _, _, _, _, _⟩) (v := .pointer (some ⟨b, off + k * 3, none⟩)) rfl (by kernel_rfl) (by kernel_rfl) (by kernel_rfl) (fun _ _ _ h => h) (Or.inl ⟨by rfl, fun w' hS' => ?_⟩) (by assumption) ?_
              · (try dsimp only at hS'); go_simp
              try simp only [Act.put, List.setIfInBounds_toArray, List.set_cons_zero, List.set_cons_succ]
              refine wpAnyH_take (i := 28) (oi := ⟨some 98, _, _, _, _, _⟩) (v := .int .i64 p.client) rfl (by kernel_rfl) (by kernel_rfl) (by kernel_rfl) (fun _ _ _ h => h) (Or.inl ⟨by rfl, fun w' hS' => ?_⟩) (by assumption) ?_
              · (try dsimp only at hS'); go_simp
              try simp only [Act.put, List.setIfInBounds_toArray, List.set_cons_zero, List.set_cons_succ]
              refine wpAnyH_take (i := 29) (oi := ⟨some 99, _, _, _, _, _⟩) (v := .pointer (some ⟨wr.heap.size, 0, none⟩)) rfl (by kernel_rfl) (by kernel_rfl) (by kernel_rfl) (fun _ _ _ h => h) (Or.inl ⟨by rfl, fun w' hS' => ?_⟩) (by assumption) ?_
              · (try dsimp only at hS'); go_simp
              try simp only [Act.put, List.setIfInBounds_toArray, List.set_cons_zero, List.set_cons_succ]
              refine wpAnyH_take (i := 30) (oi := ⟨some 100, _, _, _, _, _⟩) (v := .int .i64 s.client) rfl (by kernel_rfl) (by kernel_rfl) (by kernel_rfl) (fun _ _ _ h => h) (Or.inl ⟨by rfl, fun w' hS' => ?_⟩) (by assumption) ?_
              · (try dsimp only at hS'); go_simp
              try simp only [Act.put, List.setIfInBounds_toArray, List.set_cons_zero, List.set_cons_succ]
              refine wpAnyH_take (i := 31) (oi := ⟨some 101, _, _, _, _, _⟩) (v := .bool false) rfl (by kernel_rfl) (by kernel_rfl) (by kernel_rfl) (fun _ _ _ h => h) (Or.inl ⟨by rfl, fun w' hS' => ?_⟩) (by assumption) ?_
              · (try dsimp only at hS'); go_simp
              try simp only [Act.put, List.setIfInBounds_toArray, List.set_cons_zero, List.set_cons_succ]
              refine wpAnyH_take (i := 32) (oi := ⟨some 102, _, _, _, _, _⟩) (v := .bool false) rfl (by kernel_rfl) (by kernel_rfl) (by kernel_rfl) (fun _ _ _ h => h) (Or.inl ⟨by rfl, fun w' hS' => ?_⟩) (by assumption) ?_
              · (try dsimp only at hS'); go_simp
              try simp only [Act.put, List.setIfInBounds_toArray, List.set_cons_zero, List.set_cons_succ]
              refine wpAnyH_take (i := 33) (oi := ⟨some 103, _, _, _, _, _⟩) (v := .bool false) rfl (by kernel_rfl) (by kernel_rfl) (by kernel_rfl) (fun _ _ _ h => h) (Or.inl ⟨by rfl, fun w' hS' => ?_⟩) (by assumption) ?_
              · (try dsimp only at hS'); go_simp
              try simp only [Act.put, List.setIfInBounds_toArray, List.set_cons_zero, List.set_cons_succ]
              refine wpAnyH_done (by kernel_rfl) ?_ _
              have HK : Below w.heap.size w _ := hbel.trans ((bA.trans (hS.2.2.2.2.2.2.2.2.2.mono bA.size)).mono hbel.size)
              have HBX2 := Lib.hid (bxD.past hS.2.2.2.2.2.2.2.2.2)
              have HKH := Lib.hid HK
              clear hS SX RD HK
              go_wp2
              go_roundw
              case rel => exact ⟨k + 1 + 1, by omega, by go_num, HN.out, HBX2.out, HKH.out⟩
              case measure => simp [intOf]; omega
          -- end2
        · have HE := Lib.hid (show docB x = true by rw [HDC.out, List.drop_eq_nil_of_le (by omega)]; rfl)
          go_wp2
          go_ret
          exact ⟨ret_b HE.out.symm, hbel⟩
theorem specDocOk_d (v : Value) (x : Do) (w : World) (h : RdC w w.heap.size (datDo x) v) (hs : SmDo x) : Calls Tryz.prog 9 #[v] w (Tells (docB x) w) := specDocOk_w v x w h hs.four
end Go.Proofs.YtgfbcpcfdlnbhaaGreat.low


/-
  Applying several operations, and the idle operation: the functions on lists, and the contracts of spec.ApplyAll and spec.Idle.
-/
namespace Go.Proofs.YtgfbcpcfdlnbhaaGreat.low
open Go.RowKit
set_option linter.unusedVariables false

def stepAll (s : Option (List Int)) (ps : List Pt) : Option (List Int) := match s with
  | none => none
  | some t => if fitsB ps t = true then some (applyT ps t) else none
def foldAll (l : List (List Pt)) (t : List Int) : Option (List Int) := l.foldl stepAll (some t)
def applyAllB (l : List (List Pt)) (t : List Int) : Bool := (foldAll l t).isSome && okText t
def applyAllT (l : List (List Pt)) (t : List Int) : List Int := if applyAllB l t = true then (foldAll l t).getD [] else []
theorem foldAll_snoc {l : List (List Pt)} {t : List Int} {k : Nat} {ps : List Pt} (h : l[k]? = some ps) : foldAll (l.take (k + 1)) t = stepAll (foldAll (l.take k) t) ps := by
  unfold foldAll
  rw [List.take_add_one, h]
  simp
theorem fold_none (l : List (List Pt)) : l.foldl stepAll none = none := by
  induction l with
  | nil => rfl
  | cons p l ih => exact ih
theorem foldAll_none {l : List (List Pt)} {t : List Int} {k : Nat} (h : foldAll (l.take k) t = none) : foldAll l t = none := by
  have e : foldAll l t = (l.drop k).foldl stepAll (foldAll (l.take k) t) := by
    unfold foldAll
    rw [← List.foldl_append, List.take_append_drop]
  rw [e, h, fold_none]
/-- what stands behind k operations is the text itself or short -/
theorem foldAll_len {l : List (List Pt)} {t cur : List Int} {k : Nat} (hk : k ≤ l.length) (h : foldAll (l.take k) t = some cur) : cur.length ≤ max t.length 200 := by
  cases k with
  | zero =>
    have : cur = t := by simpa [foldAll] using h.symm
    rw [this]
    omega
  | succ k =>
    obtain ⟨ps, hp⟩ := idx_some (l := l) (i := k) (by omega)
    rw [foldAll_snoc hp] at h
    cases hq : foldAll (l.take k) t with
    | none => rw [hq] at h; cases h
    | some u =>
      rw [hq] at h
      unfold stepAll at h
      simp only at h
      split at h
      · injection h with h
        rw [← h]
        have := apply_len ps u
        omega
      · cases h
theorem nilOwn (d : Dat) {e : TypeId} {sz lo : Nat} (w : World) (hd : d = .rows e sz []) (h : lo ≤ w.heap.size) : Own lo w.heap.size w d (.slice none 0 0) := by
  subst hd
  exact ⟨[], ⟨[], [], World.ownsRow_nil _ _ _ _, ⟨rfl, rfl⟩, rfl⟩, by simp, fun b hb => by simp at hb, Nat.le_refl _, h⟩
theorem ownInts {lo : Nat} {w : World} {A : Option Addr} {n c : Nat} {zs : List Int} (h : w.ownsRow lo 3 1 (.slice A n c) zs.length (zs.map (Value.int .i64))) (hlo : lo ≤ w.heap.size) : Own lo w.heap.size w (encInts zs) (.slice A n c) :=
  ⟨_, ow_ints h, by cases A <;> simp [Value.ownBlock], fun b hb => by
    have hb' : (Value.slice A n c).ownBlock = some b := by simpa using hb
    exact ⟨own_ge h b hb', own_in h hb'⟩, Nat.le_refl _, hlo⟩

end Go.Proofs.YtgfbcpcfdlnbhaaGreat.low


/-
  Contract of spec.TextAt. Written by mkdoc3.py.
-/
namespace Go.Proofs.YtgfbcpcfdlnbhaaGreat.low
open Go.RowKit
set_option linter.unusedVariables false

/-- the text behind the entries -/
def endT (l : List En) (t : List Int) : List Int := l.foldl (fun t e => applyT e.o t) t
theorem endT_snoc {l : List En} {j : Nat} {e : En} (h : l[j]? = some e) (t : List Int) : endT (l.take (j + 1)) t = applyT e.o (endT (l.take j) t) := by
  unfold endT
  rw [List.take_add_one, h]
  simp
def textAtB (x : Do) (r : Int) : Bool := docB x && inB r x.from_ (headRevT x)
def textAtT (x : Do) (r : Int) : List Int := if textAtB x r = true then endT (x.list.take (r - x.from_).toNat) x.text else []
theorem textAt_f {x : Do} {r : Int} (h : textAtB x r = false) : textAtB x r = false ∧ textAtT x r = [] := ⟨h, by unfold textAtT; rw [h]; rfl⟩
theorem docB_of {x : Do} (h : docB x = true) : 0 ≤ x.from_ ∧ x.from_ ≤ 999999000 ∧ x.list.length ≤ 8 ∧ headRevT x = x.from_ + (x.list.length : Int) := by
  unfold docB at h
  simp only [Bool.and_eq_true] at h
  have h1 := of_decide_eq_true h.1.1.1.1.2
  have h2 := of_decide_eq_true h.1.1.2
  refine ⟨h1.1, h1.2, h2, ?_⟩
  unfold headRevT
  exact IntWalk.wrap64_in _ (by omega)
theorem endT_small {l : List En} {t : List Int} (hl : ∀ e ∈ l, SmP e.o) (ht : SmI t) : SmI (endT l t) := by
  induction l generalizing t with
  | nil => exact ht
  | cons e l ih => exact ih (fun q hq => hl q (by simp [hq])) (apply_small (hl e (by simp)) ht)
theorem textAt_small {x : Do} {r : Int} (hs : SmDo x) : SmI (textAtT x r) := by
  unfold textAtT
  split
  · exact endT_small (fun e he => (hs.list.at_ (List.mem_of_mem_take he)).o) hs.text
  · unfold SmI; simp
set_option maxRecDepth 100000 in
set_option maxHeartbeats 6400000 in
theorem specTextAt_d (v : Value) (x : Do) (r : Int) (w : World) (h : RdC w w.heap.size (datDo x) v) (hs : SmDo x) : Calls Tryz.prog 20 #[v, .int .i64 r] w (ResB (encInts (textAtT x r)) (textAtB x r) w) := by
  have HR := Lib.hid h
  obtain ⟨A2, c2, A3, c3, A4, c4, rfl, r2, r3, r4⟩ := aggDo h
  have hl3 := hs.list.len
  have b0 := alloc_below w (.cells #[.string x.name, .int .i64 x.from_, .slice A2 x.text.length c2, .slice A3 x.list.length c3, .slice A4 x.seen.length c4] 32)
  have bx := Bx.new w #[.string x.name, .int .i64 x.from_, .slice A2 x.text.length c2, .slice A3 x.list.length c3, .slice A4 x.seen.length c4] 32
  cases hd : docB x
  · have HN := Lib.hid (show textAtB x r = false ∧ textAtT x r = [] from textAt_f (by unfold textAtB; rw [hd]; rfl))
    go_enter Tryz.func20, Tryz.ntmps20
    go_wp2
    generalize w.alloc (.cells #[.string x.name, .int .i64 x.from_, .slice A2 x.text.length c2, .slice A3 x.list.length c3, .slice A4 x.seen.length c4] 32) = W1 at b0 bx ⊢
    have y0 : W1.cell? ⟨w.heap.size, 0, none⟩ = some (.string x.name) := bx.cell rfl
    have y1 : W1.cell? ⟨w.heap.size, 1, none⟩ = some (.int .i64 x.from_) := bx.cell rfl
    have y2 : W1.cell? ⟨w.heap.size, 2, none⟩ = some (.slice A2 x.text.length c2) := bx.cell rfl
    have y3 : W1.cell? ⟨w.heap.size, 3, none⟩ = some (.slice A3 x.list.length c3) := bx.cell rfl
    have y4 : W1.cell? ⟨w.heap.size, 4, none⟩ = some (.slice A4 x.seen.length c4) := bx.cell rfl
    have lD := bx.lt
    have SX := Lib.hid (show ∀ (W W' : World), (W.cell? ⟨w.heap.size, 0, none⟩ = some (.string x.name) ∧ W.cell? ⟨w.heap.size, 1, none⟩ = some (.int .i64 x.from_) ∧ W.cell? ⟨w.heap.size, 2, none⟩ = some (.slice A2 x.text.length c2) ∧ W.cell? ⟨w.heap.size, 3, none⟩ = some (.slice A3 x.list.length c3) ∧ W.cell? ⟨w.heap.size, 4, none⟩ = some (.slice A4 x.seen.length c4) ∧ KS W1 W) → Below W.heap.size W W' → (W'.cell? ⟨w.heap.size, 0, none⟩ = some (.string x.name) ∧ W'.cell? ⟨w.heap.size, 1, none⟩ = some (.int .i64 x.from_) ∧ W'.cell? ⟨w.heap.size, 2, none⟩ = some (.slice A2 x.text.length c2) ∧ W'.cell? ⟨w.heap.size, 3, none⟩ = some (.slice A3 x.list.length c3) ∧ W'.cell? ⟨w.heap.size, 4, none⟩ = some (.slice A4 x.seen.length c4) ∧ KS W1 W') from fun W W' h hb => by have hk := h.2.2.2.2.2; have hkk : KS W1 W' := hk.trans (hb.mono hk.size); exact ⟨(hkk.cell (p := ⟨w.heap.size, 0, none⟩) lD).trans y0, (hkk.cell (p := ⟨w.heap.size, 1, none⟩) lD).trans y1, (hkk.cell (p := ⟨w.heap.size, 2, none⟩) lD).trans y2, (hkk.cell (p := ⟨w.heap.size, 3, none⟩) lD).trans y3, (hkk.cell (p := ⟨w.heap.size, 4, none⟩) lD).trans y4, hkk⟩)
    have RD := Lib.hid (show ∀ W : World, (W.cell? ⟨w.heap.size, 0, none⟩ = some (.string x.name) ∧ W.cell? ⟨w.heap.size, 1, none⟩ = some (.int .i64 x.from_) ∧ W.cell? ⟨w.heap.size, 2, none⟩ = some (.slice A2 x.text.length c2) ∧ W.cell? ⟨w.heap.size, 3, none⟩ = some (.slice A3 x.list.length c3) ∧ W.cell? ⟨w.heap.size, 4, none⟩ = some (.slice A4 x.seen.length c4) ∧ KS W1 W) → RdC W W.heap.size (datDo x) (.agg #[.string x.name, .int .i64 x.from_, .slice A2 x.text.length c2, .slice A3 x.list.length c3, .slice A4 x.seen.length c4]) from fun W h => by have hk : Below W1.heap.size W1 W := h.2.2.2.2.2; exact (HR.out.past b0).past hk)
    have hS0 : W1.drew.cell? ⟨w.heap.size, 0, none⟩ = some (.string x.name) ∧ W1.drew.cell? ⟨w.heap.size, 1, none⟩ = some (.int .i64 x.from_) ∧ W1.drew.cell? ⟨w.heap.size, 2, none⟩ = some (.slice A2 x.text.length c2) ∧ W1.drew.cell? ⟨w.heap.size, 3, none⟩ = some (.slice A3 x.list.length c3) ∧ W1.drew.cell? ⟨w.heap.size, 4, none⟩ = some (.slice A4 x.seen.length c4) ∧ KS W1 W1.drew := ⟨y0, y1, y2, y3, y4, KS.start _⟩
    clear y0 y1 y2 y3 y4
    refine wp_region_held_drew (S := fun W => W.cell? ⟨w.heap.size, 0, none⟩ = some (.string x.name) ∧ W.cell? ⟨w.heap.size, 1, none⟩ = some (.int .i64 x.from_) ∧ W.cell? ⟨w.heap.size, 2, none⟩ = some (.slice A2 x.text.length c2) ∧ W.cell? ⟨w.heap.size, 3, none⟩ = some (.slice A3 x.list.length c3) ∧ W.cell? ⟨w.heap.size, 4, none⟩ = some (.slice A4 x.seen.length c4) ∧ KS W1 W) (by kernel_rfl) hS0 (fun hS => ?_)
    refine wpAnyH_take (i := 0) (oi := ⟨some 9, _, _, _, _, _⟩) (v := .agg #[.string x.name, .int .i64 x.from_, .slice A2 x.text.length c2, .slice A3 x.list.length c3, .slice A4 x.seen.length c4]) rfl (by kernel_rfl) (by kernel_rfl) (by kernel_rfl) (fun _ _ _ h => h) (Or.inl ⟨by rfl, fun w' hS' => ?_⟩) (by assumption) ?_
    · (try dsimp only at hS'); go_simp
    try simp only [Act.put, List.setIfInBounds_toArray, List.set_cons_zero, List.set_cons_succ]
    refine wpAnyH_ready (rs := [1]) (by kernel_rfl) (by simp) ?_
    refine AllReadyH.cons (o := ⟨some 10, _, _, _, _, _⟩) rfl (fun K hK => ?_) AllReadyH.nil
    go_simp
    refine (specDocOk_d _ x _ (RD.out _ (by assumption)) hs).mono ?_
    rw [hd]
    rintro e w2 ⟨rfl, b2⟩
    refine hK.out _ _ (SX.out _ _ (by assumption) b2) (fun hS => ?_)
    clear hK K
    try simp only [Act.put, List.setIfInBounds_toArray, List.set_cons_zero, List.set_cons_succ]
    refine wpAnyH_take (i := 2) (oi := ⟨some 11, _, _, _, _, _⟩) (v := .bool true) rfl (by kernel_rfl) (by kernel_rfl) (by kernel_rfl) (fun _ _ _ h => h) (Or.inl ⟨by rfl, fun w' hS' => ?_⟩) (by assumption) ?_
    · (try dsimp only at hS'); go_simp
    try simp only [Act.put, List.setIfInBounds_toArray, List.set_cons_zero, List.set_cons_succ]
    refine wpAnyH_take (i := 3) (oi := ⟨some 12, _, _, _, _, _⟩) (v := .bool true) rfl (by kernel_rfl) (by kernel_rfl) (by kernel_rfl) (fun _ _ _ h => h) (Or.inl ⟨by rfl, fun w' hS' => ?_⟩) (by assumption) ?_
    · (try dsimp only at hS'); go_simp
    try simp only [Act.put, List.setIfInBounds_toArray, List.set_cons_zero, List.set_cons_succ]
    refine wpAnyH_take (i := 4) (oi := ⟨some 13, _, _, _, _, _⟩) (v := undef) rfl (by kernel_rfl) (by kernel_rfl) (by kernel_rfl) (fun _ _ _ h => h) (Or.inr ⟨by rfl, rfl⟩) (by assumption) ?_
    try simp only [Act.put, List.setIfInBounds_toArray, List.set_cons_zero, List.set_cons_succ]
    refine wpAnyH_take (i := 5) (oi := ⟨some 14, _, _, _, _, _⟩) (v := undef) rfl (by kernel_rfl) (by kernel_rfl) (by kernel_rfl) (fun _ _ _ h => h) (Or.inr ⟨by rfl, rfl⟩) (by assumption) ?_
    try simp only [Act.put, List.setIfInBounds_toArray, List.set_cons_zero, List.set_cons_succ]
    refine wpAnyH_take (i := 6) (oi := ⟨some 15, _, _, _, _, _⟩) (v := undef) rfl (by kernel_rfl) (by kernel_rfl) (by kernel_rfl) (fun _ _ _ h => h) (Or.inr ⟨by rfl, rfl⟩) (by assumption) ?_
    try simp only [Act.put, List.setIfInBounds_toArray, List.set_cons_zero, List.set_cons_succ]
    refine wpAnyH_take (i := 7) (oi := ⟨some 16, _, _, _, _, _⟩) (v := undef) rfl (by kernel_rfl) (by kernel_rfl) (by kernel_rfl) (fun _ _ _ h => h) (Or.inr ⟨by rfl, rfl⟩) (by assumption) ?_
    try simp only [Act.put, List.setIfInBounds_toArray, List.set_cons_zero, List.set_cons_succ]
    refine wpAnyH_take (i := 8) (oi := ⟨some 17, _, _, _, _, _⟩) (v := undef) rfl (by kernel_rfl) (by kernel_rfl) (by kernel_rfl) (fun _ _ _ h => h) (Or.inr ⟨by rfl, rfl⟩) (by assumption) ?_
    try simp only [Act.put, List.setIfInBounds_toArray, List.set_cons_zero, List.set_cons_succ]
    refine wpAnyH_take (i := 9) (oi := ⟨some 18, _, _, _, _, _⟩) (v := undef) rfl (by kernel_rfl) (by kernel_rfl) (by kernel_rfl) (fun _ _ _ h => h) (Or.inr ⟨by rfl, rfl⟩) (by assumption) ?_
    try simp only [Act.put, List.setIfInBounds_toArray, List.set_cons_zero, List.set_cons_succ]
    refine wpAnyH_take (i := 10) (oi := ⟨some 19, _, _, _, _, _⟩) (v := undef) rfl (by kernel_rfl) (by kernel_rfl) (by kernel_rfl) (fun _ _ _ h => h) (Or.inr ⟨by rfl, rfl⟩) (by assumption) ?_
    try simp only [Act.put, List.setIfInBounds_toArray, List.set_cons_zero, List.set_cons_succ]
    refine wpAnyH_take (i := 11) (oi := ⟨some 20, _, _, _, _, _⟩) (v := .bool true) rfl (by kernel_rfl) (by kernel_rfl) (by kernel_rfl) (fun _ _ _ h => h) (Or.inl ⟨by rfl, fun w' hS' => ?_⟩) (by assumption) ?_
    · (try dsimp only at hS'); go_simp
    try simp only [Act.put, List.setIfInBounds_toArray, List.set_cons_zero, List.set_cons_succ]
    refine wpAnyH_done (by kernel_rfl) ?_ _
    have HK : Below w.heap.size w _ := b0.trans (hS.2.2.2.2.2.mono b0.size)
    have HKH := Lib.hid HK
    clear hS SX RD HK
    go_wp2
    go_ret2
    rw [HN.out.1, HN.out.2]
    exact ⟨_, rfl, nilOwn _ _ rfl HKH.out.size, HKH.out⟩
  cases hi : inB r x.from_ (headRevT x)
  · have HN := Lib.hid (show textAtB x r = false ∧ textAtT x r = [] from textAt_f (by unfold textAtB; rw [hd, hi]; rfl))
    go_enter Tryz.func20, Tryz.ntmps20
    go_wp2
    generalize w.alloc (.cells #[.string x.name, .int .i64 x.from_, .slice A2 x.text.length c2, .slice A3 x.list.length c3, .slice A4 x.seen.length c4] 32) = W1 at b0 bx ⊢
    have y0 : W1.cell? ⟨w.heap.size, 0, none⟩ = some (.string x.name) := bx.cell rfl
    have y1 : W1.cell? ⟨w.heap.size, 1, none⟩ = some (.int .i64 x.from_) := bx.cell rfl
    have y2 : W1.cell? ⟨w.heap.size, 2, none⟩ = some (.slice A2 x.text.length c2) := bx.cell rfl
    have y3 : W1.cell? ⟨w.heap.size, 3, none⟩ = some (.slice A3 x.list.length c3) := bx.cell rfl
    have y4 : W1.cell? ⟨w.heap.size, 4, none⟩ = some (.slice A4 x.seen.length c4) := bx.cell rfl
    have lD := bx.lt
    have SX := Lib.hid (show ∀ (W W' : World), (W.cell? ⟨w.heap.size, 0, none⟩ = some (.string x.name) ∧ W.cell? ⟨w.heap.size, 1, none⟩ = some (.int .i64 x.from_) ∧ W.cell? ⟨w.heap.size, 2, none⟩ = some (.slice A2 x.text.length c2) ∧ W.cell? ⟨w.heap.size, 3, none⟩ = some (.slice A3 x.list.length c3) ∧ W.cell? ⟨w.heap.size, 4, none⟩ = some (.slice A4 x.seen.length c4) ∧ KS W1 W) → Below W.heap.size W W' → (W'.cell? ⟨w.heap.size, 0, none⟩ = some (.string x.name) ∧ W'.cell? ⟨w.heap.size, 1, none⟩ = some (.int .i64 x.from_) ∧ W'.cell? ⟨w.heap.size, 2, none⟩ = some (.slice A2 x.text.length c2) ∧ W'.cell? ⟨w.heap.size, 3, none⟩ = some (.slice A3 x.list.length c3) ∧ W'.cell? ⟨w.heap.size, 4, none⟩ = some (.slice A4 x.seen.length c4) ∧ KS W1 W') from fun W W' h hb => by have hk := h.2.2.2.2.2; have hkk : KS W1 W' := hk.trans (hb.mono hk.size); exact ⟨(hkk.cell (p := ⟨w.heap.size, 0, none⟩) lD).trans y0, (hkk.cell (p := ⟨w.heap.size, 1, none⟩) lD).trans y1, (hkk.cell (p := ⟨w.heap.size, 2, none⟩) lD).trans y2, (hkk.cell (p := ⟨w.heap.size, 3, none⟩) lD).trans y3, (hkk.cell (p := ⟨w.heap.size, 4, none⟩) lD).trans y4, hkk⟩)
    have RD := Lib.hid (show ∀ W : World, (W.cell? ⟨w.heap.size, 0, none⟩ = some (.string x.name) ∧ W.cell? ⟨w.heap.size, 1, none⟩ = some (.int .i64 x.from_) ∧ W.cell? ⟨w.heap.size, 2, none⟩ = some (.slice A2 x.text.length c2) ∧ W.cell? ⟨w.heap.size, 3, none⟩ = some (.slice A3 x.list.length c3) ∧ W.cell? ⟨w.heap.size, 4, none⟩ = some (.slice A4 x.seen.length c4) ∧ KS W1 W) → RdC W W.heap.size (datDo x) (.agg #[.string x.name, .int .i64 x.from_, .slice A2 x.text.length c2, .slice A3 x.list.length c3, .slice A4 x.seen.length c4]) from fun W h => by have hk : Below W1.heap.size W1 W := h.2.2.2.2.2; exact (HR.out.past b0).past hk)
    have hS0 : W1.drew.cell? ⟨w.heap.size, 0, none⟩ = some (.string x.name) ∧ W1.drew.cell? ⟨w.heap.size, 1, none⟩ = some (.int .i64 x.from_) ∧ W1.drew.cell? ⟨w.heap.size, 2, none⟩ = some (.slice A2 x.text.length c2) ∧ W1.drew.cell? ⟨w.heap.size, 3, none⟩ = some (.slice A3 x.list.length c3) ∧ W1.drew.cell? ⟨w.heap.size, 4, none⟩ = some (.slice A4 x.seen.length c4) ∧ KS W1 W1.drew := ⟨y0, y1, y2, y3, y4, KS.start _⟩
    clear y0 y1 y2 y3 y4
    refine wp_region_held_drew (S := fun W => W.cell? ⟨w.heap.size, 0, none⟩ = some (.string x.name) ∧ W.cell? ⟨w.heap.size, 1, none⟩ = some (.int .i64 x.from_) ∧ W.cell? ⟨w.heap.size, 2, none⟩ = some (.slice A2 x.text.length c2) ∧ W.cell? ⟨w.heap.size, 3, none⟩ = some (.slice A3 x.list.length c3) ∧ W.cell? ⟨w.heap.size, 4, none⟩ = some (.slice A4 x.seen.length c4) ∧ KS W1 W) (by kernel_rfl) hS0 (fun hS => ?_)
    refine wpAnyH_take (i := 0) (oi := ⟨some 9, _, _, _, _, _⟩) (v := .agg #[.string x.name, .int .i64 x.from_, .slice A2 x.text.length c2, .slice A3 x.list.length c3, .slice A4 x.seen.length c4]) rfl (by kernel_rfl) (by kernel_rfl) (by kernel_rfl) (fun _ _ _ h => h) (Or.inl ⟨by rfl, fun w' hS' => ?_⟩) (by assumption) ?_
    · (try dsimp only at hS'); go_simp
    try simp only [Act.put, List.setIfInBounds_toArray, List.set_cons_zero, List.set_cons_succ]
    refine wpAnyH_ready (rs := [1]) (by kernel_rfl) (by simp) ?_
    refine AllReadyH.cons (o := ⟨some 10, _, _, _, _, _⟩) rfl (fun K hK => ?_) AllReadyH.nil
    go_simp
    refine (specDocOk_d _ x _ (RD.out _ (by assumption)) hs).mono ?_
    rw [hd]
    rintro e w2 ⟨rfl, b2⟩
    refine hK.out _ _ (SX.out _ _ (by assumption) b2) (fun hS => ?_)
    clear hK K
    try simp only [Act.put, List.setIfInBounds_toArray, List.set_cons_zero, List.set_cons_succ]
    refine wpAnyH_take (i := 2) (oi := ⟨some 11, _, _, _, _, _⟩) (v := .bool false) rfl (by kernel_rfl) (by kernel_rfl) (by kernel_rfl) (fun _ _ _ h => h) (Or.inl ⟨by rfl, fun w' hS' => ?_⟩) (by assumption) ?_
    · (try dsimp only at hS'); go_simp
    try simp only [Act.put, List.setIfInBounds_toArray, List.set_cons_zero, List.set_cons_succ]
    refine wpAnyH_take (i := 3) (oi := ⟨some 12, _, _, _, _, _⟩) (v := .bool false) rfl (by kernel_rfl) (by kernel_rfl) (by kernel_rfl) (fun _ _ _ h => h) (Or.inl ⟨by rfl, fun w' hS' => ?_⟩) (by assumption) ?_
    · (try dsimp only at hS'); go_simp
    try simp only [Act.put, List.setIfInBounds_toArray, List.set_cons_zero, List.set_cons_succ]
    refine wpAnyH_take (i := 4) (oi := ⟨some 13, _, _, _, _, _⟩) (v := .int .i64 r) rfl (by kernel_rfl) (by kernel_rfl) (by kernel_rfl) (fun _ _ _ h => h) (Or.inl ⟨by rfl, fun w' hS' => ?_⟩) (by assumption) ?_
    · (try dsimp only at hS'); go_simp
    try simp only [Act.put, List.setIfInBounds_toArray, List.set_cons_zero, List.set_cons_succ]
    refine wpAnyH_take (i := 5) (oi := ⟨some 14, _, _, _, _, _⟩) (v := .pointer (some ⟨w.heap.size, 1, none⟩)) rfl (by kernel_rfl) (by kernel_rfl) (by kernel_rfl) (fun _ _ _ h => h) (Or.inl ⟨by rfl, fun w' hS' => ?_⟩) (by assumption) ?_
    · (try dsimp only at hS'); go_simp
    try simp only [Act.put, List.setIfInBounds_toArray, List.set_cons_zero, List.set_cons_succ]
    refine wpAnyH_take (i := 6) (oi := ⟨some 15, _, _, _, _, _⟩) (v := .int .i64 x.from_) rfl (by kernel_rfl) (by kernel_rfl) (by kernel_rfl) (fun _ _ _ h => h) (Or.inl ⟨by rfl, fun w' hS' => ?_⟩) (by assumption) ?_
    · (try dsimp only at hS'); go_simp
    try simp only [Act.put, List.setIfInBounds_toArray, List.set_cons_zero, List.set_cons_succ]
    refine wpAnyH_take (i := 7) (oi := ⟨some 16, _, _, _, _, _⟩) (v := .agg #[.string x.name, .int .i64 x.from_, .slice A2 x.text.length c2, .slice A3 x.list.length c3, .slice A4 x.seen.length c4]) rfl (by kernel_rfl) (by kernel_rfl) (by kernel_rfl) (fun _ _ _ h => h) (Or.inl ⟨by rfl, fun w' hS' => ?_⟩) (by assumption) ?_
    · (try dsimp only at hS'); go_simp
    try simp only [Act.put, List.setIfInBounds_toArray, List.set_cons_zero, List.set_cons_succ]
    refine wpAnyH_ready (rs := [8]) (by kernel_rfl) (by simp) ?_
    refine AllReadyH.cons (o := ⟨some 17, _, _, _, _, _⟩) rfl (fun K hK => ?_) AllReadyH.nil
    go_simp
    refine (specHeadRev_d _ x _ (RD.out _ (by assumption)) hs).mono ?_
    rintro e w3 ⟨rfl, b3⟩
    refine hK.out _ _ (SX.out _ _ (by assumption) b3) (fun hS => ?_)
    clear hK K
    try simp only [Act.put, List.setIfInBounds_toArray, List.set_cons_zero, List.set_cons_succ]
    refine wpAnyH_ready (rs := [9]) (by kernel_rfl) (by simp) ?_
    refine AllReadyH.cons (o := ⟨some 18, _, _, _, _, _⟩) rfl (fun K hK => ?_) AllReadyH.nil
    go_simp
    refine (in_any _ _ _ _).mono ?_
    rw [hi]
    rintro e w4 ⟨rfl, rfl⟩
    refine hK.out _ _ (by assumption) (fun hS => ?_)
    clear hK K
    try simp only [Act.put, List.setIfInBounds_toArray, List.set_cons_zero, List.set_cons_succ]
    refine wpAnyH_take (i := 10) (oi := ⟨some 19, _, _, _, _, _⟩) (v := .bool true) rfl (by kernel_rfl) (by kernel_rfl) (by kernel_rfl) (fun _ _ _ h => h) (Or.inl ⟨by rfl, fun w' hS' => ?_⟩) (by assumption) ?_
    · (try dsimp only at hS'); go_simp
    try simp only [Act.put, List.setIfInBounds_toArray, List.set_cons_zero, List.set_cons_succ]
    refine wpAnyH_take (i := 11) (oi := ⟨some 20, _, _, _, _, _⟩) (v := .bool true) rfl (by kernel_rfl) (by kernel_rfl) (by kernel_rfl) (fun _ _ _ h => h) (Or.inl ⟨by rfl, fun w' hS' => ?_⟩) (by assumption) ?_
    · (try dsimp only at hS'); go_simp
    try simp only [Act.put, List.setIfInBounds_toArray, List.set_cons_zero, List.set_cons_succ]
    refine wpAnyH_done (by kernel_rfl) ?_ _
    have HK : Below w.heap.size w _ := b0.trans (hS.2.2.2.2.2.mono b0.size)
    have HKH := Lib.hid HK
    clear hS SX RD HK
    go_wp2
    go_ret2
    rw [HN.out.1, HN.out.2]
    exact ⟨_, rfl, nilOwn _ _ rfl HKH.out.size, HKH.out⟩
  obtain ⟨f0, f1, f2, f3⟩ := docB_of hd
  have hi1 := of_decide_eq_true hi
  rw [f3] at hi1
  clear f3
  obtain ⟨m, hm⟩ : ∃ m : Nat, r = x.from_ + (m : Int) := ⟨(r - x.from_).toNat, by omega⟩
  subst hm
  have hm1 : m ≤ x.list.length := by omega
  have hc3 : x.list.length ≤ c3 := by obtain ⟨A, c, e, hc⟩ := RdC.len r3; injection e with _ _ e3; subst e3; simpa using hc
  have g1 : x.from_ + (m : Int) - x.from_ = (m : Int) := by omega
  have g2 : (m : Int) ≤ (c3 : Int) := by omega
  have HN := Lib.hid (show textAtB x (x.from_ + (m : Int)) = true ∧ textAtT x (x.from_ + (m : Int)) = endT (x.list.take m) x.text by have e1 : textAtB x (x.from_ + (m : Int)) = true := by { unfold textAtB; rw [hd, hi]; rfl }; exact ⟨e1, by unfold textAtT; rw [if_pos e1]; congr 2; omega⟩)
  go_enter Tryz.func20, Tryz.ntmps20
  go_wp2
  generalize w.alloc (.cells #[.string x.name, .int .i64 x.from_, .slice A2 x.text.length c2, .slice A3 x.list.length c3, .slice A4 x.seen.length c4] 32) = W1 at b0 bx ⊢
  have y0 : W1.cell? ⟨w.heap.size, 0, none⟩ = some (.string x.name) := bx.cell rfl
  have y1 : W1.cell? ⟨w.heap.size, 1, none⟩ = some (.int .i64 x.from_) := bx.cell rfl
  have y2 : W1.cell? ⟨w.heap.size, 2, none⟩ = some (.slice A2 x.text.length c2) := bx.cell rfl
  have y3 : W1.cell? ⟨w.heap.size, 3, none⟩ = some (.slice A3 x.list.length c3) := bx.cell rfl
  have y4 : W1.cell? ⟨w.heap.size, 4, none⟩ = some (.slice A4 x.seen.length c4) := bx.cell rfl
  have lD := bx.lt
  have SX := Lib.hid (show ∀ (W W' : World), (W.cell? ⟨w.heap.size, 0, none⟩ = some (.string x.name) ∧ W.cell? ⟨w.heap.size, 1, none⟩ = some (.int .i64 x.from_) ∧ W.cell? ⟨w.heap.size, 2, none⟩ = some (.slice A2 x.text.length c2) ∧ W.cell? ⟨w.heap.size, 3, none⟩ = some (.slice A3 x.list.length c3) ∧ W.cell? ⟨w.heap.size, 4, none⟩ = some (.slice A4 x.seen.length c4) ∧ KS W1 W) → Below W.heap.size W W' → (W'.cell? ⟨w.heap.size, 0, none⟩ = some (.string x.name) ∧ W'.cell? ⟨w.heap.size, 1, none⟩ = some (.int .i64 x.from_) ∧ W'.cell? ⟨w.heap.size, 2, none⟩ = some (.slice A2 x.text.length c2) ∧ W'.cell? ⟨w.heap.size, 3, none⟩ = some (.slice A3 x.list.length c3) ∧ W'.cell? ⟨w.heap.size, 4, none⟩ = some (.slice A4 x.seen.length c4) ∧ KS W1 W') from fun W W' h hb => by have hk := h.2.2.2.2.2; have hkk : KS W1 W' := hk.trans (hb.mono hk.size); exact ⟨(hkk.cell (p := ⟨w.heap.size, 0, none⟩) lD).trans y0, (hkk.cell (p := ⟨w.heap.size, 1, none⟩) lD).trans y1, (hkk.cell (p := ⟨w.heap.size, 2, none⟩) lD).trans y2, (hkk.cell (p := ⟨w.heap.size, 3, none⟩) lD).trans y3, (hkk.cell (p := ⟨w.heap.size, 4, none⟩) lD).trans y4, hkk⟩)
  have RD := Lib.hid (show ∀ W : World, (W.cell? ⟨w.heap.size, 0, none⟩ = some (.string x.name) ∧ W.cell? ⟨w.heap.size, 1, none⟩ = some (.int .i64 x.from_) ∧ W.cell? ⟨w.heap.size, 2, none⟩ = some (.slice A2 x.text.length c2) ∧ W.cell? ⟨w.heap.size, 3, none⟩ = some (.slice A3 x.list.length c3) ∧ W.cell? ⟨w.heap.size, 4, none⟩ = some (.slice A4 x.seen.length c4) ∧ KS W1 W) → RdC W W.heap.size (datDo x) (.agg #[.string x.name, .int .i64 x.from_, .slice A2 x.text.length c2, .slice A3 x.list.length c3, .slice A4 x.seen.length c4]) from fun W h => by have hk : Below W1.heap.size W1 W := h.2.2.2.2.2; exact (HR.out.past b0).past hk)
  have hS0 : W1.drew.cell? ⟨w.heap.size, 0, none⟩ = some (.string x.name) ∧ W1.drew.cell? ⟨w.heap.size, 1, none⟩ = some (.int .i64 x.from_) ∧ W1.drew.cell? ⟨w.heap.size, 2, none⟩ = some (.slice A2 x.text.length c2) ∧ W1.drew.cell? ⟨w.heap.size, 3, none⟩ = some (.slice A3 x.list.length c3) ∧ W1.drew.cell? ⟨w.heap.size, 4, none⟩ = some (.slice A4 x.seen.length c4) ∧ KS W1 W1.drew := ⟨y0, y1, y2, y3, y4, KS.start _⟩
  clear y0 y1 y2 y3 y4
  refine wp_region_held_drew (S := fun W => W.cell? ⟨w.heap.size, 0, none⟩ = some (.string x.name) ∧ W.cell? ⟨w.heap.size, 1, none⟩ = some (.int .i64 x.from_) ∧ W.cell? ⟨w.heap.size, 2, none⟩ = some (.slice A2 x.text.length c2) ∧ W.cell? ⟨w.heap.size, 3, none⟩ = some (.slice A3 x.list.length c3) ∧ W.cell? ⟨w.heap.size, 4, none⟩ = some (.slice A4 x.seen.length c4) ∧ KS W1 W) (by kernel_rfl) hS0 (fun hS => ?_)
  refine wpAnyH_take (i := 0) (oi := ⟨some 9, _, _, _, _, _⟩) (v := .agg #[.string x.name, .int .i64 x.from_, .slice A2 x.text.length c2, .slice A3 x.list.length c3, .slice A4 x.seen.length c4]) rfl (by kernel_rfl) (by kernel_rfl) (by kernel_rfl) (fun _ _ _ h => h) (Or.inl ⟨by rfl, fun w' hS' => ?_⟩) (by assumption) ?_
  · (try dsimp only at hS'); go_simp
  try simp only [Act.put, List.setIfInBounds_toArray, List.set_cons_zero, List.set_cons_succ]
  refine wpAnyH_ready (rs := [1]) (by kernel_rfl) (by simp) ?_
  refine AllReadyH.cons (o := ⟨some 10, _, _, _, _, _⟩) rfl (fun K hK => ?_) AllReadyH.nil
  go_simp
  refine (specDocOk_d _ x _ (RD.out _ (by assumption)) hs).mono ?_
  rw [hd]
  rintro e w2 ⟨rfl, b2⟩
  refine hK.out _ _ (SX.out _ _ (by assumption) b2) (fun hS => ?_)
  clear hK K
  try simp only [Act.put, List.setIfInBounds_toArray, List.set_cons_zero, List.set_cons_succ]
  refine wpAnyH_take (i := 2) (oi := ⟨some 11, _, _, _, _, _⟩) (v := .bool false) rfl (by kernel_rfl) (by kernel_rfl) (by kernel_rfl) (fun _ _ _ h => h) (Or.inl ⟨by rfl, fun w' hS' => ?_⟩) (by assumption) ?_
  · (try dsimp only at hS'); go_simp
  try simp only [Act.put, List.setIfInBounds_toArray, List.set_cons_zero, List.set_cons_succ]
  refine wpAnyH_take (i := 3) (oi := ⟨some 12, _, _, _, _, _⟩) (v := .bool false) rfl (by kernel_rfl) (by kernel_rfl) (by kernel_rfl) (fun _ _ _ h => h) (Or.inl ⟨by rfl, fun w' hS' => ?_⟩) (by assumption) ?_
  · (try dsimp only at hS'); go_simp
  try simp only [Act.put, List.setIfInBounds_toArray, List.set_cons_zero, List.set_cons_succ]
  refine wpAnyH_take (i := 4) (oi := ⟨some 13, _, _, _, _, _⟩) (v := .int .i64 (x.from_ + (m : Int))) rfl (by kernel_rfl) (by kernel_rfl) (by kernel_rfl) (fun _ _ _ h => h) (Or.inl ⟨by rfl, fun w' hS' => ?_⟩) (by assumption) ?_
  · (try dsimp only at hS'); go_simp
  try simp only [Act.put, List.setIfInBounds_toArray, List.set_cons_zero, List.set_cons_succ]
  refine wpAnyH_take (i := 5) (oi := ⟨some 14, _, _, _, _, _⟩) (v := .pointer (some ⟨w.heap.size, 1, none⟩)) rfl (by kernel_rfl) (by kernel_rfl) (by kernel_rfl) (fun _ _ _ h => h) (Or.inl ⟨by rfl, fun w' hS' => ?_⟩) (by assumption) ?_
  · (try dsimp only at hS'); go_simp
  try simp only [Act.put, List.setIfInBounds_toArray, List.set_cons_zero, List.set_cons_succ]
  refine wpAnyH_take (i := 6) (oi := ⟨some 15, _, _, _, _, _⟩) (v := .int .i64 x.from_) rfl (by kernel_rfl) (by kernel_rfl) (by kernel_rfl) (fun _ _ _ h => h) (Or.inl ⟨by rfl, fun w' hS' => ?_⟩) (by assumption) ?_
  · (try dsimp only at hS'); go_simp
  try simp only [Act.put, List.setIfInBounds_toArray, List.set_cons_zero, List.set_cons_succ]
  refine wpAnyH_take (i := 7) (oi := ⟨some 16, _, _, _, _, _⟩) (v := .agg #[.string x.name, .int .i64 x.from_, .slice A2 x.text.length c2, .slice A3 x.list.length c3, .slice A4 x.seen.length c4]) rfl (by kernel_rfl) (by kernel_rfl) (by kernel_rfl) (fun _ _ _ h => h) (Or.inl ⟨by rfl, fun w' hS' => ?_⟩) (by assumption) ?_
  · (try dsimp only at hS'); go_simp
  try simp only [Act.put, List.setIfInBounds_toArray, List.set_cons_zero, List.set_cons_succ]
  refine wpAnyH_ready (rs := [8]) (by kernel_rfl) (by simp) ?_
  refine AllReadyH.cons (o := ⟨some 17, _, _, _, _, _⟩) rfl (fun K hK => ?_) AllReadyH.nil
  go_simp
  refine (specHeadRev_d _ x _ (RD.out _ (by assumption)) hs).mono ?_
  rintro e w3 ⟨rfl, b3⟩
  refine hK.out _ _ (SX.out _ _ (by assumption) b3) (fun hS => ?_)
  clear hK K
  try simp only [Act.put, List.setIfInBounds_toArray, List.set_cons_zero, List.set_cons_succ]
  refine wpAnyH_ready (rs := [9]) (by kernel_rfl) (by simp) ?_
  refine AllReadyH.cons (o := ⟨some 18, _, _, _, _, _⟩) rfl (fun K hK => ?_) AllReadyH.nil
  go_simp
  refine (in_any _ _ _ _).mono ?_
  rw [hi]
  rintro e w4 ⟨rfl, rfl⟩
  refine hK.out _ _ (by assumption) (fun hS => ?_)
  clear hK K
  try simp only [Act.put, List.setIfInBounds_toArray, List.set_cons_zero, List.set_cons_succ]
  refine wpAnyH_take (i := 10) (oi := ⟨some 19, _, _, _, _, _⟩) (v := .bool false) rfl (by kernel_rfl) (by kernel_rfl) (by kernel_rfl) (fun _ _ _ h => h) (Or.inl ⟨by rfl, fun w' hS' => ?_⟩) (by assumption) ?_
  · (try dsimp only at hS'); go_simp
  try simp only [Act.put, List.setIfInBounds_toArray, List.set_cons_zero, List.set_cons_succ]
  refine wpAnyH_take (i := 11) (oi := ⟨some 20, _, _, _, _, _⟩) (v := .bool false) rfl (by kernel_rfl) (by kernel_rfl) (by kernel_rfl) (fun _ _ _ h => h) (Or.inl ⟨by rfl, fun w' hS' => ?_⟩) (by assumption) ?_
  · (try dsimp only at hS'); go_simp
  try simp only [Act.put, List.setIfInBounds_toArray, List.set_cons_zero, List.set_cons_succ]
  refine wpAnyH_done (by kernel_rfl) ?_ _
  have HK : Below w.heap.size w _ := b0.trans (hS.2.2.2.2.2.mono b0.size)
  obtain ⟨y0, y1, y2, y3, y4, hks⟩ := hS
  have lD2 : w.heap.size < w3.heap.size := Nat.lt_of_lt_of_le lD hks.size
  have HKH := Lib.hid HK
  clear SX RD hks hd hi
  have hib : (w3.alloc (.cells #[] 3)).ownsRow w.heap.size 3 1 (.slice (some ⟨w3.heap.size, 0, none⟩) 0 0) 0 [] := ⟨rfl, .inr ⟨w3.heap.size, 0, #[], rfl, HKH.out.size, heap_alloc_new w3 _, Nat.le_refl _, by unfold maxLen; omega, rfl, rfl⟩⟩
  have hbw : Below w.heap.size w (w3.alloc (.cells #[] 3)) := HKH.out.trans ((alloc_below _ _).mono HKH.out.size)
  obtain ⟨A2, c2_, e2, hr2, _⟩ := ints_rd (r2.past hbw)
  injection e2 with e2 _ e3
  subst e2 e3
  have hst : x.text.length ≤ 1048576 := hs.text
  go_wp2_with (at_builtin; refine wpList_append_ints rfl (.tmp 21) (.tmp 23) rfl w.heap.size (.slice (some ⟨w3.heap.size, 0, none⟩) 0 0) [] rfl hib _ x.text.length c2 x.text rfl rfl hr2 (by simp; omega) hbw.size ?_; intro An cn wn hon hgn; have q1 : wn.cell? ⟨w.heap.size, 1, none⟩ = some (.int .i64 x.from_) := (grown_cell (p := ⟨w.heap.size, 1, none⟩) hgn (by simp; omega) (by simp [Value.ownBlock]; omega)).trans (((alloc_below w3 _).cell (p := ⟨w.heap.size, 1, none⟩) lD2).trans y1); have q3 : wn.cell? ⟨w.heap.size, 3, none⟩ = some (.slice A3 x.list.length c3) := (grown_cell (p := ⟨w.heap.size, 3, none⟩) hgn (by simp; omega) (by simp [Value.ownBlock]; omega)).trans (((alloc_below w3 _).cell (p := ⟨w.heap.size, 3, none⟩) lD2).trans y3))
  have hbn := hbw.grown hgn hbw.size (fun q hq => own_ge hib q hq)
  simp only [List.nil_append, List.length_nil, Nat.zero_add] at hon
  have HON := Lib.hid (ownInts hon hbn.size)
  have hsm := hs.text
  clear q1 q3 g1 g2 hon hgn hib hbw
  go_loopw [6, 33] (fun o i wr => ∃ (j : Nat) (cur : List Int), j ≤ m ∧ i = .int .i64 (j : Int) ∧ endT (x.list.take j) x.text = cur ∧ SmI cur ∧ Own w.heap.size wr.heap.size wr (encInts cur) o ∧ Below w.heap.size w wr) (fun _ i _ => m - (intOf i).toNat)
  case atStart => exact ⟨0, x.text, Nat.zero_le _, rfl, rfl, hsm, HON.out, hbn⟩
  case round =>
    obtain ⟨j, cur, hj, rfl, hf, hsc, ho, hbel⟩ := hrel
    clear HON hbn
    have HF := Lib.hid hf
    clear hf
    obtain ⟨Ao, co, rfl⟩ := sliceI ho.read
    have HO := Lib.hid ho
    clear ho
    by_cases hlt : j < m
    · obtain ⟨b, off, e, A5, c5, rfl, hbb, hp, z0, z1, z2, q2⟩ := atEns (r3.below hbel) (i := j) (by omega)
      have hse := hs.list.at_ (List.mem_of_getElem? hp)
      have HN2 := Lib.hid (show endT (x.list.take (j + 1)) x.text = applyT e.o cur by rw [endT_snoc hp, HF.out])
      clear hp
      have bA := alloc_below wr (.cells #[.int .i64 e.client, .int .i64 e.seq, .slice A5 e.o.length c5] 59)
      have q2 := RdC.more hbel.size _ _ q2
      go_wp2_with fail
      generalize wr.alloc (.cells #[.int .i64 e.client, .int .i64 e.seq, .slice A5 e.o.length c5] 59) = W2 at bA ⊢
      refine (specApply_d _ _ e.o cur _ (q2.past bA) (HO.out.past bA).read hse.o hsc).mono ?_
      rintro e' w5 ⟨v5, rfl, o5, b5⟩
      obtain ⟨A6, c6, rfl⟩ := sliceI o5.read
      have O5 := Lib.hid o5
      have d5 := bA.trans (b5.mono bA.size)
      have zz : w.heap.size ≤ W2.heap.size := Nat.le_trans hbel.size bA.size
      clear o5 b5 bA
      go_wp2
      go_roundw
      case rel => exact ⟨j + 1, applyT e.o cur, by omega, by go_num, HN2.out, apply_small hse.o hsc, O5.out.wide zz (Nat.le_refl _) (Nat.le_refl _), hbel.trans (d5.mono hbel.size)⟩
      case measure => simp [intOf]; omega
    · obtain rfl : j = m := by omega
      go_wp2
      go_ret2
      rw [HN.out.1, HN.out.2, HF.out]
      exact ⟨_, rfl, HO.out, hbel⟩
end Go.Proofs.YtgfbcpcfdlnbhaaGreat.low


/-
  Contracts of spec.HeadText and spec.DocNew.
-/
namespace Go.Proofs.YtgfbcpcfdlnbhaaGreat.low
open Go.RowKit
set_option linter.unusedVariables false

def headTextT (x : Do) : List Int := textAtT x (headRevT x)
theorem headText_small {x : Do} (hs : SmDo x) : SmI (headTextT x) := textAt_small hs
set_option maxRecDepth 100000 in
set_option maxHeartbeats 1600000 in
theorem specHeadText_d (v : Value) (x : Do) (w : World) (h : RdC w w.heap.size (datDo x) v) (hs : SmDo x) : Calls Tryz.prog 23 #[v] w (OwnPost (encInts (headTextT x)) w) := by
  have HR := Lib.hid h
  obtain ⟨A2, c2, A3, c3, A4, c4, rfl, r2, r3, r4⟩ := aggDo h
  have b0 := alloc_below w (.cells #[.string x.name, .int .i64 x.from_, .slice A2 x.text.length c2, .slice A3 x.list.length c3, .slice A4 x.seen.length c4] 32)
  have bx := Bx.new w #[.string x.name, .int .i64 x.from_, .slice A2 x.text.length c2, .slice A3 x.list.length c3, .slice A4 x.seen.length c4] 32
  go_enter Tryz.func23, Tryz.ntmps23
  go_wp2
  generalize w.alloc (.cells #[.string x.name, .int .i64 x.from_, .slice A2 x.text.length c2, .slice A3 x.list.length c3, .slice A4 x.seen.length c4] 32) = W1 at b0 bx ⊢
  have y0 : W1.cell? ⟨w.heap.size, 0, none⟩ = some (.string x.name) := bx.cell rfl
  have y1 : W1.cell? ⟨w.heap.size, 1, none⟩ = some (.int .i64 x.from_) := bx.cell rfl
  have y2 : W1.cell? ⟨w.heap.size, 2, none⟩ = some (.slice A2 x.text.length c2) := bx.cell rfl
  have y3 : W1.cell? ⟨w.heap.size, 3, none⟩ = some (.slice A3 x.list.length c3) := bx.cell rfl
  have y4 : W1.cell? ⟨w.heap.size, 4, none⟩ = some (.slice A4 x.seen.length c4) := bx.cell rfl
  have lD := bx.lt
  have SX := Lib.hid (show ∀ (W W' : World), (W.cell? ⟨w.heap.size, 0, none⟩ = some (.string x.name) ∧ W.cell? ⟨w.heap.size, 1, none⟩ = some (.int .i64 x.from_) ∧ W.cell? ⟨w.heap.size, 2, none⟩ = some (.slice A2 x.text.length c2) ∧ W.cell? ⟨w.heap.size, 3, none⟩ = some (.slice A3 x.list.length c3) ∧ W.cell? ⟨w.heap.size, 4, none⟩ = some (.slice A4 x.seen.length c4) ∧ KS W1 W) → Below W.heap.size W W' → (W'.cell? ⟨w.heap.size, 0, none⟩ = some (.string x.name) ∧ W'.cell? ⟨w.heap.size, 1, none⟩ = some (.int .i64 x.from_) ∧ W'.cell? ⟨w.heap.size, 2, none⟩ = some (.slice A2 x.text.length c2) ∧ W'.cell? ⟨w.heap.size, 3, none⟩ = some (.slice A3 x.list.length c3) ∧ W'.cell? ⟨w.heap.size, 4, none⟩ = some (.slice A4 x.seen.length c4) ∧ KS W1 W') from fun W W' h hb => by have hk := h.2.2.2.2.2; have hkk : KS W1 W' := hk.trans (hb.mono hk.size); exact ⟨(hkk.cell (p := ⟨w.heap.size, 0, none⟩) lD).trans y0, (hkk.cell (p := ⟨w.heap.size, 1, none⟩) lD).trans y1, (hkk.cell (p := ⟨w.heap.size, 2, none⟩) lD).trans y2, (hkk.cell (p := ⟨w.heap.size, 3, none⟩) lD).trans y3, (hkk.cell (p := ⟨w.heap.size, 4, none⟩) lD).trans y4, hkk⟩)
  have RD := Lib.hid (show ∀ W : World, (W.cell? ⟨w.heap.size, 0, none⟩ = some (.string x.name) ∧ W.cell? ⟨w.heap.size, 1, none⟩ = some (.int .i64 x.from_) ∧ W.cell? ⟨w.heap.size, 2, none⟩ = some (.slice A2 x.text.length c2) ∧ W.cell? ⟨w.heap.size, 3, none⟩ = some (.slice A3 x.list.length c3) ∧ W.cell? ⟨w.heap.size, 4, none⟩ = some (.slice A4 x.seen.length c4) ∧ KS W1 W) → RdC W W.heap.size (datDo x) (.agg #[.string x.name, .int .i64 x.from_, .slice A2 x.text.length c2, .slice A3 x.list.length c3, .slice A4 x.seen.length c4]) from fun W h => by have hk : Below W1.heap.size W1 W := h.2.2.2.2.2; exact (HR.out.past b0).past hk)
  have hS0 : W1.drew.cell? ⟨w.heap.size, 0, none⟩ = some (.string x.name) ∧ W1.drew.cell? ⟨w.heap.size, 1, none⟩ = some (.int .i64 x.from_) ∧ W1.drew.cell? ⟨w.heap.size, 2, none⟩ = some (.slice A2 x.text.length c2) ∧ W1.drew.cell? ⟨w.heap.size, 3, none⟩ = some (.slice A3 x.list.length c3) ∧ W1.drew.cell? ⟨w.heap.size, 4, none⟩ = some (.slice A4 x.seen.length c4) ∧ KS W1 W1.drew := ⟨y0, y1, y2, y3, y4, KS.start _⟩
  clear y0 y1 y2 y3 y4
  go_region_held3 (fun W => W.cell? ⟨w.heap.size, 0, none⟩ = some (.string x.name) ∧ W.cell? ⟨w.heap.size, 1, none⟩ = some (.int .i64 x.from_) ∧ W.cell? ⟨w.heap.size, 2, none⟩ = some (.slice A2 x.text.length c2) ∧ W.cell? ⟨w.heap.size, 3, none⟩ = some (.slice A3 x.list.length c3) ∧ W.cell? ⟨w.heap.size, 4, none⟩ = some (.slice A4 x.seen.length c4) ∧ KS W1 W)
    (first | assumption | exact hS0 | (exact SX.out _ _ (by assumption) b3) | (exact SX.out _ _ (by assumption) b4))
    (first | (go_at_call 38; refine (specHeadRev_w _ x _ (by exact RD.out _ (by assumption))).mono ?_; rintro e w3 ⟨rfl, b3⟩) | (go_at_call 20; refine (specTextAt_d _ x (headRevT x) _ (by exact RD.out _ (by assumption)) hs).mono ?_; rintro e w4 ⟨v4, rfl, o4, b4⟩; obtain ⟨A5, c5, rfl⟩ := sliceI o4.read))
  rename_i hS2
  have HK : Below w.heap.size w w4 := b0.trans (hS2.2.2.2.2.2.mono b0.size)
  have zz : w.heap.size ≤ w3.heap.size := Nat.le_trans (Nat.le_of_lt lD) b3.size
  have HO := Lib.hid (o4.wide zz (Nat.le_refl _) (Nat.le_refl _))
  have HKH := Lib.hid HK
  clear hS2 hS0 SX RD HK o4
  go_wp2
  go_ret
  exact ⟨_, rfl, HO.out, HKH.out⟩

def newDo (s : ByteArray) (t : List Int) : Do := ⟨s, 0, t, [], []⟩
def noDo : Do := ⟨⟨#[]⟩, 0, [], [], []⟩
def docNewB (s : ByteArray) (t : List Int) : Bool := docB (newDo s t)
def docNewT (s : ByteArray) (t : List Int) : Do := if docNewB s t = true then newDo s t else noDo
theorem newDo_four {s : ByteArray} {t : List Int} (hss : s.size ≤ 1048576) (hs : SmI t) : SmD4 (newDo s t) := ⟨hss, hs, by unfold SmEns totEns sumN newDo; simp, by unfold SmSes totSes sumN newDo; simp⟩
theorem docNew_small {s : ByteArray} {t : List Int} (hss : s.size ≤ 1048576) (hs : SmI t) : SmDo (docNewT s t) := by
  unfold docNewT
  split
  · rename_i h
    unfold docNewB docB at h
    simp only [Bool.and_eq_true] at h
    have h1 : nameB (newDo s t).name = true := h.1.1.1.1.1
    have h2 : okText (newDo s t).text = true := h.1.1.1.2
    unfold nameB at h1
    rw [Bool.and_eq_true] at h1
    have h3 := of_decide_eq_true h1.2
    unfold okText at h2
    rw [Bool.and_eq_true] at h2
    have h4 := of_decide_eq_true h2.2
    have h5 : ((newDo s t).name.size : Int) ≤ 8 := h3.2
    unfold SmDo totDo totI totEns totSes sumN
    have e1 : (newDo s t).list = [] := rfl
    have e2 : (newDo s t).seen = [] := rfl
    rw [e1, e2]
    simp
    omega
  · have e : totDo noDo = 0 := rfl
    unfold SmDo
    rw [e]
    omega
theorem nilOwn0 {lo mid : Nat} {w : World} {e : TypeId} {sz : Nat} (h : lo ≤ mid) (h2 : mid ≤ w.heap.size) : Own lo mid w (.rows e sz []) (.slice none 0 0) := ⟨[], ⟨[], [], World.ownsRow_nil _ _ _ _, ⟨rfl, rfl⟩, rfl⟩, by simp, fun b hb => by simp at hb, h2, h⟩
theorem rd_nil {w : World} {B : Nat} {e : TypeId} {sz : Nat} : RdC w B (.rows e sz []) (.slice none 0 0) := ⟨none, 0, rfl, Nat.le_refl _, fun h => by simp at h⟩
set_option maxRecDepth 100000 in
set_option maxHeartbeats 1600000 in
theorem specDocNew_d (v : Value) (s : ByteArray) (t : List Int) (w : World) (h : RdC w w.heap.size (encInts t) v) (hss : s.size ≤ 1048576) (hs : SmI t) : Calls Tryz.prog 13 #[.string s, v] w (ResB (datDo (docNewT s t)) (docNewB s t) w) := by
  obtain ⟨A, c, rfl, hr, _⟩ := ints_rd h
  have ht : t.length ≤ 1048576 := hs
  have s1 : (w.alloc (.cells #[.string ⟨#[]⟩, .int .i64 0, .slice none 0 0, .slice none 0 0, .slice none 0 0] 32)).heap.size = w.heap.size + 1 := World.size_alloc _ _
  have bz := alloc_below w (.cells #[.string ⟨#[]⟩, .int .i64 0, .slice none 0 0, .slice none 0 0, .slice none 0 0] 32)
  have bxz := Bx.new w #[.string ⟨#[]⟩, .int .i64 0, .slice none 0 0, .slice none 0 0, .slice none 0 0] 32
  have hbw : Below w.heap.size w ((w.alloc (.cells #[.string ⟨#[]⟩, .int .i64 0, .slice none 0 0, .slice none 0 0, .slice none 0 0] 32)).alloc (.cells #[] 3)) := bz.alloc (by omega) _
  have hib : ((w.alloc (.cells #[.string ⟨#[]⟩, .int .i64 0, .slice none 0 0, .slice none 0 0, .slice none 0 0] 32)).alloc (.cells #[] 3)).ownsRow (w.heap.size + 1) 3 1 (.slice (some ⟨w.heap.size + 1, 0, none⟩) 0 0) 0 [] := ⟨rfl, .inr ⟨w.heap.size + 1, 0, #[], rfl, Nat.le_refl _, by rw [← s1]; exact heap_alloc_new _ _, Nat.le_refl _, by unfold maxLen; omega, rfl, rfl⟩⟩
  go_enter Tryz.func13, Tryz.ntmps13
  go_wp2_with (at_builtin; refine wpList_append_ints rfl (.tmp 8) (.tmp 9) rfl (w.heap.size + 1) (.slice (some ⟨w.heap.size + 1, 0, none⟩) 0 0) [] rfl hib A t.length c t rfl rfl (hr.past hbw) (by simp; omega) (by rw [World.size_alloc, World.size_alloc]; omega) ?_; intro An cn wn hon hgn)
  simp only [List.nil_append, List.length_nil, Nat.zero_add] at hon
  have bxw : Bx wn w.heap.size #[.string ⟨#[]⟩, .int .i64 0, .slice none 0 0, .slice none 0 0, .slice none 0 0] 32 := (hgn.block w.heap.size (by rw [World.size_alloc]; omega) (by simp [Value.ownBlock])).trans (bxz.past (alloc_below _ _))
  have dn : Below w.heap.size w wn := hbw.grown hgn hbw.size (fun q hq => Nat.le_of_lt (own_ge hib q hq))
  have hsz : w.heap.size + 1 ≤ wn.heap.size := Nat.le_trans (by rw [World.size_alloc, World.size_alloc]; omega) hgn.size
  have on := ownInts hon hsz
  have bN := alloc_below wn (.cells #[.string s, .int .i64 0, .slice An t.length cn, .slice none 0 0, .slice none 0 0] 32)
  have bxn := Bx.new wn #[.string s, .int .i64 0, .slice An t.length cn, .slice none 0 0, .slice none 0 0] 32
  have ON := Lib.hid (on.past bN)
  have bxw := bxw.past bN
  have d4 := dn.trans (bN.mono dn.size)
  have zN : (wn.alloc (.cells #[.string s, .int .i64 0, .slice An t.length cn, .slice none 0 0, .slice none 0 0] 32)).heap.size = wn.heap.size + 1 := World.size_alloc _ _
  clear hon hgn hib hbw bz bxz on dn bN
  generalize wn.alloc (.cells #[.string s, .int .i64 0, .slice An t.length cn, .slice none 0 0, .slice none 0 0] 32) = U at bxn ON bxw d4 zN ⊢
  refine (specDocOk_w _ (newDo s t) _ (rdDo (newDo s t) ON.out.read rd_nil rd_nil) (newDo_four hss hs)).mono ?_
  rintro e w5 ⟨rfl, b5⟩
  have bxz5 := bxw.past b5
  have bxn5 := bxn.past b5
  have d5 := d4.trans (b5.mono d4.size)
  have O5 := Lib.hid (ON.out.past b5)
  have z5 := b5.size
  clear bxw bxn b5 d4 ON
  cases hdn : docB (newDo s t)
  · have HN := Lib.hid (show docNewB s t = false ∧ docNewT s t = noDo by have e : docNewB s t = false := hdn; exact ⟨e, by unfold docNewT; rw [e]; rfl⟩)
    have k0 : w5.cell? ⟨w.heap.size, 0, none⟩ = some (.string ⟨#[]⟩) := bxz5.cell rfl
    have f0 : w5.frozen? ⟨w.heap.size, 0, none⟩ = false := bxfree bxz5
    have k1 : w5.cell? ⟨w.heap.size, 1, none⟩ = some (.int .i64 0) := bxz5.cell rfl
    have f1 : w5.frozen? ⟨w.heap.size, 1, none⟩ = false := bxfree bxz5
    have k2 : w5.cell? ⟨w.heap.size, 2, none⟩ = some (.slice none 0 0) := bxz5.cell rfl
    have f2 : w5.frozen? ⟨w.heap.size, 2, none⟩ = false := bxfree bxz5
    have k3 : w5.cell? ⟨w.heap.size, 3, none⟩ = some (.slice none 0 0) := bxz5.cell rfl
    have f3 : w5.frozen? ⟨w.heap.size, 3, none⟩ = false := bxfree bxz5
    have k4 : w5.cell? ⟨w.heap.size, 4, none⟩ = some (.slice none 0 0) := bxz5.cell rfl
    have f4 : w5.frozen? ⟨w.heap.size, 4, none⟩ = false := bxfree bxz5
    have hB : Below w.heap.size w (putRow w5 w.heap.size 0 [.string ⟨#[]⟩, .int .i64 0, .slice none 0 0, .slice none 0 0, .slice none 0 0]) := putRow_below (Nat.le_refl _) _ _ _ d5
    go_wp2
    refine bodyPost_ret (v := .tuple #[.agg #[.string ⟨#[]⟩, .int .i64 0, .slice none 0 0, .slice none 0 0, .slice none 0 0], .bool false]) (by simp [results, Tryz.results13, go_sem, k0, k1, k2, k3, k4]) rfl ⟨_, by rw [HN.out.1], by rw [HN.out.2]; exact OwnL.agg (OwnL.flat rfl (OwnL.flat rfl (OwnL.own (nilOwn0 (Nat.le_refl _) hB.size) (OwnL.own (nilOwn0 (Nat.le_refl _) hB.size) (OwnL.own (nilOwn0 (Nat.le_refl _) hB.size) (OwnL.nil (Nat.le_refl _) hB.size)))))), hB⟩
  · have HN := Lib.hid (show docNewB s t = true ∧ docNewT s t = newDo s t by have e : docNewB s t = true := hdn; exact ⟨e, by unfold docNewT; rw [if_pos e]⟩)
    have O6 := O5.out.putRow (g := w.heap.size) (.inl (by omega)) [.string s, .int .i64 0, .slice An t.length cn, .slice none 0 0, .slice none 0 0] w5 0
    have hZ : wn.heap.size ≤ (putRow w5 w.heap.size 0 [.string s, .int .i64 0, .slice An t.length cn, .slice none 0 0, .slice none 0 0]).heap.size := by rw [putRow_size]; omega
    have k0 : w5.cell? ⟨w.heap.size, 0, none⟩ = some (.string ⟨#[]⟩) := bxz5.cell rfl
    have f0 : w5.frozen? ⟨w.heap.size, 0, none⟩ = false := bxfree bxz5
    have n0 : w5.cell? ⟨wn.heap.size, 0, none⟩ = some (.string s) := bxn5.cell rfl
    have k1 : w5.cell? ⟨w.heap.size, 1, none⟩ = some (.int .i64 0) := bxz5.cell rfl
    have f1 : w5.frozen? ⟨w.heap.size, 1, none⟩ = false := bxfree bxz5
    have n1 : w5.cell? ⟨wn.heap.size, 1, none⟩ = some (.int .i64 0) := bxn5.cell rfl
    have k2 : w5.cell? ⟨w.heap.size, 2, none⟩ = some (.slice none 0 0) := bxz5.cell rfl
    have f2 : w5.frozen? ⟨w.heap.size, 2, none⟩ = false := bxfree bxz5
    have n2 : w5.cell? ⟨wn.heap.size, 2, none⟩ = some (.slice An t.length cn) := bxn5.cell rfl
    have k3 : w5.cell? ⟨w.heap.size, 3, none⟩ = some (.slice none 0 0) := bxz5.cell rfl
    have f3 : w5.frozen? ⟨w.heap.size, 3, none⟩ = false := bxfree bxz5
    have n3 : w5.cell? ⟨wn.heap.size, 3, none⟩ = some (.slice none 0 0) := bxn5.cell rfl
    have k4 : w5.cell? ⟨w.heap.size, 4, none⟩ = some (.slice none 0 0) := bxz5.cell rfl
    have f4 : w5.frozen? ⟨w.heap.size, 4, none⟩ = false := bxfree bxz5
    have n4 : w5.cell? ⟨wn.heap.size, 4, none⟩ = some (.slice none 0 0) := bxn5.cell rfl
    have hB : Below w.heap.size w (putRow w5 w.heap.size 0 [.string s, .int .i64 0, .slice An t.length cn, .slice none 0 0, .slice none 0 0]) := putRow_below (Nat.le_refl _) _ _ _ d5
    go_wp2
    refine bodyPost_ret (v := .tuple #[.agg #[.string s, .int .i64 0, .slice An t.length cn, .slice none 0 0, .slice none 0 0], .bool true]) (by simp [results, Tryz.results13, go_sem, k0, k1, k2, k3, k4]) rfl ⟨_, by rw [HN.out.1], by rw [HN.out.2]; exact OwnL.agg (OwnL.flat rfl (OwnL.flat rfl (OwnL.own (O6.wide (by omega) (Nat.le_refl _) (by rw [putRow_size]; omega)) (OwnL.own (nilOwn0 (Nat.le_refl _) hZ) (OwnL.own (nilOwn0 (Nat.le_refl _) hZ) (OwnL.nil (Nat.le_refl _) hZ)))))), hB⟩
end Go.Proofs.YtgfbcpcfdlnbhaaGreat.low


/-
  Contract of spec.DocSame. Written by mkdoc5.py.
-/
namespace Go.Proofs.YtgfbcpcfdlnbhaaGreat.low
open Go.RowKit
set_option linter.unusedVariables false

def seSameB (s s' : Se) : Bool := decide (s.client = s'.client) && decide (s.seq = s'.seq) && decide (s.rev = s'.rev)
def seensB : List Se → List Se → Bool
  | [], [] => true
  | e :: l, e' :: l' => seSameB e e' && seensB l l'
  | _, _ => false
theorem seensB_step {l l' : List Se} {j : Nat} {e e' : Se} (h : l[j]? = some e) (h' : l'[j]? = some e') : seensB (l.drop j) (l'.drop j) = (seSameB e e' && seensB (l.drop (j + 1)) (l'.drop (j + 1))) := by
  obtain ⟨h1, e1⟩ := List.getElem?_eq_some_iff.1 h
  obtain ⟨h2, e2⟩ := List.getElem?_eq_some_iff.1 h'
  rw [List.drop_eq_getElem_cons h1, List.drop_eq_getElem_cons h2, e1, e2]
  rfl
end Go.Proofs.YtgfbcpcfdlnbhaaGreat.low


/-
  The normal form is a function of what the units do to a text of marks; hence composition is associative up to the normal form, and so on.
-/
namespace Go.Proofs.YtgfbcpcfdlnbhaaGreat.low
open Go.RowKit
set_option linter.unusedVariables false

end Go.Proofs.YtgfbcpcfdlnbhaaGreat.low


/-
  Composition and transformation, several units at once.
-/
namespace Go.Proofs.YtgfbcpcfdlnbhaaGreat.low
open Go.RowKit
set_option linter.unusedVariables false

/-- the list does not begin with a deletion, with an insertion -/
def noD : List U → Prop
  | .d :: _ => False
  | _ => True
def noP : List U → Prop
  | .p _ :: _ => False
  | _ => True
theorem comp_ds : ∀ (n : Nat) (a b : List U), comp (List.replicate n .d ++ a) b = List.replicate n .d ++ comp a b
  | 0, a, b => rfl
  | n + 1, a, b => by rw [List.replicate_succ, List.cons_append, comp, comp_ds n a b]; rfl
theorem comp_put1 (a b : List U) (x : Int) (h : noD a) : comp a (.p x :: b) = .p x :: comp a b := by
  cases a with
  | nil => rw [comp]
  | cons u a =>
    cases u with
    | k => rw [comp]
    | p y => rw [comp]
    | d => exact absurd h (by simp [noD])
theorem comp_puts : ∀ (zs : List Int) (a b : List U), noD a → comp a (zs.map .p ++ b) = zs.map .p ++ comp a b
  | [], a, b, _ => rfl
  | z :: zs, a, b, h => by rw [List.map_cons, List.cons_append, comp_put1 a _ z h, comp_puts zs a b h]; rfl
theorem comp_kk : ∀ (n : Nat) (a b : List U), comp (List.replicate n .k ++ a) (List.replicate n .k ++ b) = List.replicate n .k ++ comp a b
  | 0, a, b => rfl
  | n + 1, a, b => by rw [List.replicate_succ, List.cons_append, List.cons_append, comp, comp_kk n a b]; rfl
theorem comp_pk : ∀ (zs : List Int) (a b : List U), comp (zs.map .p ++ a) (List.replicate zs.length .k ++ b) = zs.map .p ++ comp a b
  | [], a, b => rfl
  | z :: zs, a, b => by rw [List.map_cons, List.length_cons, List.replicate_succ, List.cons_append, List.cons_append, comp, comp_pk zs a b]; rfl
theorem xf_puts : ∀ (zs : List Int) (a b : List U), xf (zs.map .p ++ a) b = (zs.map .p ++ (xf a b).1, List.replicate zs.length .k ++ (xf a b).2)
  | [], a, b => rfl
  | z :: zs, a, b => by rw [List.map_cons, List.cons_append, xf, xf_puts zs a b]; rfl
theorem xf_put1 (a b : List U) (x : Int) (h : noP a) : xf a (.p x :: b) = (.k :: (xf a b).1, .p x :: (xf a b).2) := by
  cases a with
  | nil => rw [xf]
  | cons u a =>
    cases u with
    | k => rw [xf]
    | p y => exact absurd h (by simp [noP])
    | d => rw [xf]
theorem xf_putsB : ∀ (zs : List Int) (a b : List U), noP a → xf a (zs.map .p ++ b) = (List.replicate zs.length .k ++ (xf a b).1, zs.map .p ++ (xf a b).2)
  | [], a, b, _ => rfl
  | z :: zs, a, b, h => by rw [List.map_cons, List.cons_append, xf_put1 a _ z h, xf_putsB zs a b h]; rfl
theorem xf_kk : ∀ (n : Nat) (a b : List U), xf (List.replicate n .k ++ a) (List.replicate n .k ++ b) = (List.replicate n .k ++ (xf a b).1, List.replicate n .k ++ (xf a b).2)
  | 0, a, b => rfl
  | n + 1, a, b => by rw [List.replicate_succ, List.cons_append, List.cons_append, xf, xf_kk n a b]; rfl
end Go.Proofs.YtgfbcpcfdlnbhaaGreat.low


/-
  The specification's cursor: l04Left, l04Take, l04Min.
-/
namespace Go.Proofs.YtgfbcpcfdlnbhaaGreat.low
open Go.RowKit
set_option linter.unusedVariables false

theorem Cur.step {g : Nat} {T : TypeId} {w : World} {A : Option Addr} {c : Nat} {ps : List Pt} {at_ done : Nat} (h : Cur g T w A c ps at_ done) (done' : Nat) (h1 : at_ < ps.length) (h2 : ∀ p, ps[at_]? = some p → done' ≤ sizeP p) :
    Cur g T (w.setCell ⟨g, 2, none⟩ (.int .i64 (done' : Int))) A c ps at_ done' := by
  refine ⟨?_, h.le, h2, fun e => by omega⟩
  rw [heap_setCell_same _ _ _ _ _ _ h.box]
  rfl
end Go.Proofs.YtgfbcpcfdlnbhaaGreat.low


/-
  The specification's builder in one word each: keep, put, drop, done.
-/
namespace Go.Proofs.YtgfbcpcfdlnbhaaGreat.low
open Go.RowKit
set_option linter.unusedVariables false

end Go.Proofs.YtgfbcpcfdlnbhaaGreat.low


/-
  The inverse of an operation: the function on lists, and the contract of spec.Invert.
-/
namespace Go.Proofs.YtgfbcpcfdlnbhaaGreat.low
open Go.RowKit
set_option linter.unusedVariables false

end Go.Proofs.YtgfbcpcfdlnbhaaGreat.low


/-
  spec.Compose: the function on lists, and the contract.
-/
namespace Go.Proofs.YtgfbcpcfdlnbhaaGreat.low
open Go.RowKit
set_option linter.unusedVariables false

def kindOf : List U → Int
  | [] => 0
  | .k :: _ => 1
  | .p _ :: _ => 2
  | .d :: _ => 3
end Go.Proofs.YtgfbcpcfdlnbhaaGreat.low


/-
  Composition: the loop's invariant on units, how a round goes on, what a chunk of units is.
-/
namespace Go.Proofs.YtgfbcpcfdlnbhaaGreat.low
open Go.RowKit
set_option linter.unusedVariables false

/-- the loop's invariant -/
structure CInv (a b : List Pt) (RX RY : List U) (L : List Pt) : Prop where
  eq : units L ++ comp RX RY = comp (units a) (units b)
  bal : tgt RX = src RY
  len : L.length + RX.length + RY.length ≤ 2000
theorem CInv.drop {a b : List Pt} {n : Nat} {RX RY : List U} {L : List Pt} (h : CInv a b (List.replicate n .d ++ RX) RY L) (hn : 0 < n) : CInv a b RX RY (L ++ [⟨3, (n : Int), []⟩]) := by
  refine ⟨?_, ?_, ?_⟩
  · rw [← h.eq, comp_ds, units_app]
    simp [units, unitsP]
  · have := h.bal; rwa [tgt_app, (src_rd n).2, Nat.zero_add] at this
  · have := h.len; simp at this ⊢; omega
theorem CInv.put {a b : List Pt} {zs : List Int} {RX RY : List U} {L : List Pt} (h : CInv a b RX (zs.map .p ++ RY) L) (hd : noD RX) (hn : 0 < zs.length) : CInv a b RX RY (L ++ [⟨2, 0, zs⟩]) := by
  refine ⟨?_, ?_, ?_⟩
  · rw [← h.eq, comp_puts zs _ _ hd, units_app]
    simp [units, unitsP]
  · have := h.bal; rwa [src_app, (src_mp zs).1, Nat.zero_add] at this
  · have := h.len; simp at this ⊢; omega
theorem CInv.kk {a b : List Pt} {n : Nat} {RX RY : List U} {L : List Pt} (h : CInv a b (List.replicate n .k ++ RX) (List.replicate n .k ++ RY) L) (hn : 0 < n) : CInv a b RX RY (L ++ [⟨1, (n : Int), []⟩]) := by
  refine ⟨?_, ?_, ?_⟩
  · rw [← h.eq, comp_kk, units_app]
    simp [units, unitsP]
  · have := h.bal; rw [tgt_app, src_app, (src_rk n).1, (src_rk n).2] at this; omega
  · have := h.len; simp at this ⊢; omega
theorem CInv.pk {a b : List Pt} {zs : List Int} {RX RY : List U} {L : List Pt} (h : CInv a b (zs.map .p ++ RX) (List.replicate zs.length .k ++ RY) L) (hn : 0 < zs.length) : CInv a b RX RY (L ++ [⟨2, 0, zs⟩]) := by
  refine ⟨?_, ?_, ?_⟩
  · rw [← h.eq, comp_pk, units_app]
    simp [units, unitsP]
  · have := h.bal; rw [tgt_app, src_app, (src_mp zs).2, (src_rk zs.length).1] at this; omega
  · have := h.len; simp at this ⊢; omega
theorem okOp_partsB {ps : List Pt} (h : okOp ps = true) : partsB ps = true := by
  unfold okOp at h
  cases hp : partsB ps
  · rw [hp] at h; simp at h
  · rfl
/-- m units of the part at which a cursor stands are left: the first m units of R are of one kind -/
def Lead (R : List U) (m : Nat) : Prop := (R = [] ∧ m = 0) ∨ (0 < m ∧ m ≤ 200 ∧ m ≤ R.length ∧ ((kindOf R = 1 ∧ R.take m = List.replicate m .k) ∨ (kindOf R = 3 ∧ R.take m = List.replicate m .d) ∨ (kindOf R = 2 ∧ ∃ zs : List Int, R.take m = zs.map .p)))
theorem take_rep {R : List U} {u : U} {m n : Nat} (h : R.take m = List.replicate m u) (hn : n ≤ m) : R = List.replicate n u ++ R.drop n := by
  have e : R.take n = List.replicate n u := by
    have := congrArg (List.take n) h
    rwa [List.take_take, Nat.min_eq_left hn, List.take_replicate, Nat.min_eq_left hn] at this
  rw [← e, List.take_append_drop]
theorem Lead.k {R : List U} {m n : Nat} (h : Lead R m) (hk : kindOf R = 1) (hn : n ≤ m) : R = List.replicate n .k ++ R.drop n := by
  rcases h with ⟨rfl, rfl⟩ | ⟨_, _, _, ⟨_, h⟩ | ⟨h, _⟩ | ⟨h, _⟩⟩
  · obtain rfl : n = 0 := by omega
    rfl
  · exact take_rep h hn
  · omega
  · omega
theorem Lead.d {R : List U} {m n : Nat} (h : Lead R m) (hk : kindOf R = 3) (hn : n ≤ m) : R = List.replicate n .d ++ R.drop n := by
  rcases h with ⟨rfl, rfl⟩ | ⟨_, _, _, ⟨h, _⟩ | ⟨_, h⟩ | ⟨h, _⟩⟩
  · obtain rfl : n = 0 := by omega
    rfl
  · omega
  · exact take_rep h hn
  · omega
theorem Lead.p {R : List U} {m n : Nat} (h : Lead R m) (hk : kindOf R = 2) (hn : n ≤ m) : ∃ zs : List Int, zs.length = n ∧ R = zs.map .p ++ R.drop n := by
  rcases h with ⟨rfl, rfl⟩ | ⟨_, _, hl, ⟨h, _⟩ | ⟨h, _⟩ | ⟨_, zs, h⟩⟩
  · obtain rfl : n = 0 := by omega
    exact ⟨[], rfl, rfl⟩
  · omega
  · omega
  · have e : R.take n = (zs.take n).map .p := by
      have := congrArg (List.take n) h
      rwa [List.take_take, Nat.min_eq_left hn, ← List.map_take] at this
    have l := congrArg List.length e
    rw [List.length_take, List.length_map] at l
    exact ⟨zs.take n, by omega, by rw [← e, List.take_append_drop]⟩
end Go.Proofs.YtgfbcpcfdlnbhaaGreat.low


/-
  Two cursors of the specification over two operations (Cs), in the words of the units that are left: what each call makes of them.
-/
namespace Go.Proofs.YtgfbcpcfdlnbhaaGreat.low
open Go.RowKit
set_option linter.unusedVariables false

/-- what stays: where the cursors lie, and the operations -/
structure Fx where
  lo : Nat
  gx : Nat
  gy : Nat
  TC : TypeId
  A : Option Addr
  ca : Nat
  a : List Pt
  B : Option Addr
  cb : Nat
  b : List Pt
def Fx.swap (K : Fx) : Fx := ⟨K.lo, K.gy, K.gx, K.TC, K.B, K.cb, K.b, K.A, K.ca, K.a⟩
/-- the cursor stands at a part of which m units are left, or at the end -/
def Sett (ps : List Pt) (at_ done : Nat) : Option Nat → Prop
  | none => True
  | some m => (at_ = ps.length ∧ m = 0) ∨ ∃ p, ps[at_]? = some p ∧ done < sizeP p ∧ m = sizeP p - done
structure Cs (K : Fx) (w : World) (sx sy : Option Nat) (RX RY : List U) : Prop where
  ex : ∃ i d, Cur K.gx K.TC w K.A K.ca K.a i d ∧ rem K.a i d = RX ∧ Sett K.a i d sx
  ey : ∃ i d, Cur K.gy K.TC w K.B K.cb K.b i d ∧ rem K.b i d = RY ∧ Sett K.b i d sy
  ra : RdC w K.lo (encPs K.a) (.slice K.A K.a.length K.ca)
  rb : RdC w K.lo (encPs K.b) (.slice K.B K.b.length K.cb)
  ne : ¬ K.gx = K.gy
  lx : K.lo ≤ K.gx
  ly : K.lo ≤ K.gy
  sa : ∀ p ∈ K.a, szP_ p
  sb : ∀ p ∈ K.b, szP_ p
  na : K.a.length ≤ 1048576
  nb : K.b.length ≤ 1048576
section
variable {K : Fx} {w w' : World} {sx sy : Option Nat} {RX RY : List U}
theorem Cs.swap (h : Cs K w sx sy RX RY) : Cs K.swap w sy sx RY RX := ⟨h.ey, h.ex, h.rb, h.ra, fun e => h.ne e.symm, h.ly, h.lx, h.sb, h.sa, h.nb, h.na⟩
theorem Cs.back (h : Cs K.swap w sx sy RX RY) : Cs K w sy sx RY RX := ⟨h.ey, h.ex, h.rb, h.ra, fun e => h.ne e.symm, h.ly, h.lx, h.sb, h.sa, h.nb, h.na⟩
theorem Cs.xlt (h : Cs K w sx sy RX RY) : K.gx < w.heap.size := by obtain ⟨_, _, hc, _⟩ := h.ex; exact hc.lt
theorem Cs.ylt (h : Cs K w sx sy RX RY) : K.gy < w.heap.size := by obtain ⟨_, _, hc, _⟩ := h.ey; exact hc.lt
theorem Cs.keep (h : Cs K w sx sy RX RY) (hx : w'.heap[K.gx]? = w.heap[K.gx]?) (hy : w'.heap[K.gy]? = w.heap[K.gy]?) (hb : Below K.lo w w') : Cs K w' sx sy RX RY := by
  obtain ⟨i, d, h1, h2, h3⟩ := h.ex
  obtain ⟨j, e, k1, k2, k3⟩ := h.ey
  exact ⟨⟨i, d, h1.keep hx, h2, h3⟩, ⟨j, e, k1.keep hy, k2, k3⟩, h.ra.below hb, h.rb.below hb, h.ne, h.lx, h.ly, h.sa, h.sb, h.na, h.nb⟩
theorem Cs.past (h : Cs K w sx sy RX RY) (hb : Below w.heap.size w w') : Cs K w' sx sy RX RY :=
  h.keep (hb.block _ h.xlt) (hb.block _ h.ylt) (hb.mono (Nat.le_trans h.lx (Nat.le_of_lt h.xlt)))
end
end Go.Proofs.YtgfbcpcfdlnbhaaGreat.low


/-
  Two cursors and a builder (CB): what each call of the specification makes of them.
-/
namespace Go.Proofs.YtgfbcpcfdlnbhaaGreat.low
open Go.RowKit
set_option linter.unusedVariables false

structure CB (K : Fx) (go : Nat) (TB : TypeId) (O : Nat → Prop) (L : List Pt) (w : World) (sx sy : Option Nat) (RX RY : List U) : Prop where
  cs : Cs K w sx sy RX RY
  bd : Bld O K.lo go TB w L
  ox : ¬ O K.gx
  oy : ¬ O K.gy
section
variable {K : Fx} {go : Nat} {TB : TypeId} {O O' : Nat → Prop} {L L' : List Pt} {w w' : World} {sx sy sx' sy' : Option Nat} {RX RY RX' RY' : List U}
theorem CB.past (h : CB K go TB O L w sx sy RX RY) (hb : Below w.heap.size w w') : CB K go TB O L w' sx sy RX RY := ⟨h.cs.past hb, h.bd.past hb, h.ox, h.oy⟩
end
section
variable {K : Fx} {go : Nat} {TB : TypeId} {O : Nat → Prop} {L : List Pt} {w : World} {sx sy : Option Nat} {RX RY : List U}
end
end Go.Proofs.YtgfbcpcfdlnbhaaGreat.low


/-
  Transformation: the loop's invariant on units, how a round goes on; the results.
-/
namespace Go.Proofs.YtgfbcpcfdlnbhaaGreat.low
open Go.RowKit
set_option linter.unusedVariables false

structure XInv (a b : List Pt) (RX RY : List U) (L M : List Pt) : Prop where
  eq1 : units L ++ (xf RX RY).1 = (xf (units a) (units b)).1
  eq2 : units M ++ (xf RX RY).2 = (xf (units a) (units b)).2
  bal : src RX = src RY
  len : L.length + M.length + 2 * RX.length + 2 * RY.length ≤ 4000
section
variable {a b : List Pt} {RX RY : List U} {L M : List Pt}
theorem XInv.px {zs : List Int} (h : XInv a b (zs.map .p ++ RX) RY L M) (hn : 0 < zs.length) : XInv a b RX RY (L ++ [⟨2, 0, zs⟩]) (M ++ [⟨1, (zs.length : Int), []⟩]) := by
  refine ⟨?_, ?_, ?_, ?_⟩
  · rw [← h.eq1, xf_puts, units_app]; simp [units, unitsP]
  · rw [← h.eq2, xf_puts, units_app]; simp [units, unitsP]
  · have := h.bal; rw [src_app, (src_mp zs).1] at this; omega
  · have := h.len; simp at this ⊢; omega
theorem XInv.py {zs : List Int} (h : XInv a b RX (zs.map .p ++ RY) L M) (hp : noP RX) (hn : 0 < zs.length) : XInv a b RX RY (L ++ [⟨1, (zs.length : Int), []⟩]) (M ++ [⟨2, 0, zs⟩]) := by
  refine ⟨?_, ?_, ?_, ?_⟩
  · rw [← h.eq1, xf_putsB _ _ _ hp, units_app]; simp [units, unitsP]
  · rw [← h.eq2, xf_putsB _ _ _ hp, units_app]; simp [units, unitsP]
  · have := h.bal; rw [src_app, (src_mp zs).1] at this; omega
  · have := h.len; simp at this ⊢; omega
theorem XInv.kk {n : Nat} (h : XInv a b (List.replicate n .k ++ RX) (List.replicate n .k ++ RY) L M) (hn : 0 < n) : XInv a b RX RY (L ++ [⟨1, (n : Int), []⟩]) (M ++ [⟨1, (n : Int), []⟩]) := by
  refine ⟨?_, ?_, ?_, ?_⟩
  · rw [← h.eq1, xf_kk, units_app]; simp [units, unitsP]
  · rw [← h.eq2, xf_kk, units_app]; simp [units, unitsP]
  · have := h.bal; rw [src_app, src_app, (src_rk n).1] at this; omega
  · have := h.len; simp at this ⊢; omega
end
/-- two cursors and two builders -/
structure TT (K : Fx) (g1 g2 : Nat) (TB : TypeId) (O P : Nat → Prop) (L M : List Pt) (w : World) (sx sy : Option Nat) (RX RY : List U) : Prop where
  cs : Cs K w sx sy RX RY
  b1 : Bld O K.lo g1 TB w L
  b2 : Bld P K.lo g2 TB w M
  ox : ¬ O K.gx
  oy : ¬ O K.gy
  px : ¬ P K.gx
  py : ¬ P K.gy
  dis : ∀ q, O q → ¬ P q
section
variable {K : Fx} {g1 g2 : Nat} {TB : TypeId} {O O' P P' : Nat → Prop} {L L' M M' : List Pt} {w w' : World} {sx sy sx' sy' : Option Nat} {RX RY RX' RY' : List U}
theorem TT.one (h : TT K g1 g2 TB O P L M w sx sy RX RY) : CB K g1 TB O L w sx sy RX RY := ⟨h.cs, h.b1, h.ox, h.oy⟩
theorem TT.past (h : TT K g1 g2 TB O P L M w sx sy RX RY) (hb : Below w.heap.size w w') : TT K g1 g2 TB O P L M w' sx sy RX RY := ⟨h.cs.past hb, h.b1.past hb, h.b2.past hb, h.ox, h.oy, h.px, h.py, h.dis⟩
end
section
variable {K : Fx} {g1 g2 : Nat} {TB : TypeId} {O P : Nat → Prop} {L M : List Pt} {w : World} {sx sy : Option Nat} {RX RY : List U}
end
end Go.Proofs.YtgfbcpcfdlnbhaaGreat.low


/-
  append(out, x) where out is an owned slice of whatever rows and x is one row of data of the caller's own.
-/
namespace Go.Proofs.YtgfbcpcfdlnbhaaGreat.low
open Go.RowKit
set_option linter.unusedVariables false

theorem wpList_append_row {w : World} {ops : Array Oper} {rest : List Oper} {o : Oper} {a : Act} {Q : Exit → Act → World → Prop} (hgd : o.guard = none) (s x : Operand) (t : TypeId)
    (ho : o.op = .call { callee := .builtin .append, args := #[s, x], argTypes := #[t, t] }) (e : TypeId) (i : TypeInfo) (z : Value) (sz bytes : Nat) (ht : Tryz.prog.underlying t = some (.slice e)) (hi : Tryz.prog.info? e = some i) (hz : i.zero = some z) (hsize : i.size = sz) (hby : i.bytes = bytes) (hzs : z.cells.size = sz) (hsz : 0 < sz) (hbm : bytes ≤ 100000)
    (lo hi' : Nat) (v : Value) (ds : List (List Dat)) (b : List Nat) (h : OwB lo hi' w (.rows e sz ds) v b) (hs : a.eval s = v) (hlen : ds.length ≤ 2000000)
    (ad : Addr) (c0 : Nat) (ys : List Value) (hx : a.eval x = .slice (some ad) 1 c0) (hl : ys.length = sz) (hnews : ∀ j u, ys[j]? = some u → w.cell? (ad.add j) = some u) (h1 : ∀ u ∈ ys, u.oneCell' = true)
    (r : List Dat) (c : List Nat) (hr : OwL w r ys c) (hcn : c.Nodup) (hbc : ∀ q ∈ b, q ∉ c) (hcr : ∀ q ∈ c, lo ≤ q)
    (K : ∀ A' c' w' b', OwB lo w'.heap.size w' (.rows e sz (ds ++ [r])) (.slice A' (ds.length + 1) c') b' → (∀ q ∈ b', q ∈ b ∨ q ∈ c ∨ w.heap.size ≤ q) → Grew (fun q => q ∈ b) (fun q => q ∈ b ∨ w.heap.size ≤ q) w w' → Below lo w w' → wpList Tryz.prog ops Q rest (a.put o.dst (.slice A' (ds.length + 1) c')) w') : wpList Tryz.prog ops Q (o :: rest) a w := by
  have hnd := h.nd
  have hrg := h.rng
  obtain ⟨xs, cs, ho', hor, hb⟩ := h.ow
  refine wpList_append_lies _ hgd s x t ho 0 e i z sz bytes ht hi hz hsize hby hzs hsz v ds.length xs hs ho' ad 1 c0 ys hx (by simp [hl]) hnews h1 (by omega) (by unfold maxLen; omega) ?_ (Nat.zero_le _) _ rfl ?_
  · have : (ds.length + 1) * bytes ≤ 2000001 * 100000 := Nat.mul_le_mul (by omega) hbm
    omega
  intro g cap w' hown hg hat hlt
  rw [hb] at hnd
  obtain ⟨n1, n2, n3⟩ := List.nodup_append.1 hnd
  have own_mem : ∀ q, v.ownBlock = some q → q ∈ b := fun q hq => by rw [hb, hq]; simp
  have hcs : ∀ q ∈ cs, w'.heap[q]? = w.heap[q]? := fun q hq => hg.block q (OwR.lt sz _ _ _ hor q hq) (fun e => n3 q (by rw [← e]; simp) q hq rfl)
  have hcc : ∀ q ∈ c, w'.heap[q]? = w.heap[q]? := fun q hq => hg.block q (OwL.lt _ _ _ hr q hq) (fun e => hbc q (own_mem q e.symm) hq)
  have hor' := (OwR.keep sz _ _ _ hor hcs).append (OwR.one (OwL.keep _ _ _ hr hcc) hl)
  have g1 : g ∉ cs := fun hq => by
    rcases hat with e | e
    · exact n3 g (by rw [e]; simp) g hq rfl
    · have := OwR.lt sz _ _ _ hor g hq; omega
  have g2 : g ∉ c := fun hq => by
    rcases hat with e | e
    · exact hbc g (own_mem g e) hq
    · have := OwL.lt _ _ _ hr g hq; omega
  have g3 : lo ≤ g ∧ (g ∈ b ∨ w.heap.size ≤ g) := by
    rcases hat with e | e
    · exact ⟨(hrg g (own_mem g e)).1, .inl (own_mem g e)⟩
    · have := h.top; have := h.le; exact ⟨by omega, .inr (by omega)⟩
  have hsz' := hg.size
  have ht' := h.top
  refine K _ cap w' (g :: (cs ++ c)) ⟨⟨xs ++ ys, cs ++ c, by rw [List.length_append]; exact hown, hor', rfl⟩, ?_, ?_, Nat.le_refl _, by have := h.le; omega⟩ ?_ ⟨hg.size, fun q hq hn => hg.block q hq (fun e => hn (own_mem q e.symm)), fun q hq => hq⟩ ?_
  · refine List.nodup_cons.2 ⟨fun hq => ?_, List.nodup_append.2 ⟨n2, hcn, fun q hq q' hq' e => ?_⟩⟩
    · rcases List.mem_append.1 hq with hq | hq
      · exact g1 hq
      · exact g2 hq
    · subst e
      exact hbc q (by rw [hb]; simp [hq]) hq'
  · intro q hq
    rcases List.mem_cons.1 hq with rfl | hq
    · exact ⟨g3.1, hlt⟩
    · rcases List.mem_append.1 hq with hq | hq
      · have := hrg q (by rw [hb]; simp [hq]); exact ⟨this.1, by omega⟩
      · have := OwL.lt _ _ _ hr q hq; exact ⟨hcr q hq, by omega⟩
  · intro q hq
    rcases List.mem_cons.1 hq with rfl | hq
    · rcases g3.2 with h | h
      · exact .inl h
      · exact .inr (.inr h)
    · rcases List.mem_append.1 hq with hq | hq
      · exact .inl (by rw [hb]; simp [hq])
      · exact .inr (.inl hq)
  · exact (Below.refl lo w).grown hg (by have := h.le; omega) (fun k hk => (hrg k (own_mem k hk)).1)
/-- one cell that owns a datum -/
theorem OwC.row1 {w : World} {d : Dat} {v : Value} {b : List Nat} (h : OwC w d v b) : OwL w [d] [v] b := ⟨v, [], b, [], rfl, by simp, h, rfl, rfl⟩
end Go.Proofs.YtgfbcpcfdlnbhaaGreat.low


/-
  Contract of spec.l02Copy, and the laws of append in a region that draws its order. Written by mkdoc6.py.
-/
namespace Go.Proofs.YtgfbcpcfdlnbhaaGreat.low
open Go.RowKit
set_option linter.unusedVariables false

theorem OwB.apartG {lo hi : Nat} {w w' : World} {d : Dat} {v : Value} {b : List Nat} {r : Option Nat} (h : OwB lo hi w d v b) (hg : w.grownBy w' r) (hr : ∀ k, r = some k → k < lo ∨ hi ≤ k) : OwB lo hi w' d v b :=
  ⟨OwC.keep d v b h.ow (fun x hx => hg.block x (OwC.lt d v b h.ow x hx) (fun e => by have := h.rng x hx; have := hr x e.symm; omega)), h.nd, h.rng, Nat.le_trans h.top hg.size, h.le⟩
theorem Grew.cellOut {O O' : Nat → Prop} {w w' : World} (h : Grew O O' w w') {p : Addr} (hb : p.block < w.heap.size) (hn : ¬ O p.block) : w'.cell? p = w.cell? p := World.cell?_of_block (w := w) (h.block p.block hb hn)
theorem step_append_zero {P : Program} {w : World} {ops : Array Oper} {o : Oper} {a : Act} {KN : Act → World → Prop} {Q : Exit → Act → World → Prop} {E : Prop} (hgd : o.guard = none) (s x : Operand) (t : TypeId)
    (ho : o.op = .call { callee := .builtin .append, args := #[s, x], argTypes := #[t, t] })
    (base : Nat) (e : TypeId) (i : TypeInfo) (size : Nat) (ht : P.underlying t = some (.slice e)) (hi : P.info? e = some i)
    (v : Value) (n : Nat) (xs : List Value) (hs : a.eval s = v) (hown : w.ownsRow base e size v n xs) (A : Option Addr) (c : Nat) (hx : a.eval x = .slice A 0 c)
    (h : KN (a.put o.dst v) w) : if Region.wanted o (yielded ops a.tmps) = true then Oper.wp P o a w KN Q else E := by
  have hw : Region.wanted o (yielded ops a.tmps) = true := by simp [Region.wanted, hgd]
  rw [if_pos hw]
  have hrun := run_append_zero (P := P) (w := w) base t o.type e i size ht hi v n xs hown A c
  unfold Oper.wp
  simp [execOp, ho, resolve, invoke, builtin, hs, hx, hrun, Result.andThen]
  exact h
theorem step_append_ints {w : World} {ops : Array Oper} {o : Oper} {a : Act} {KN : Act → World → Prop} {Q : Exit → Act → World → Prop} {E : Prop} (hgd : o.guard = none) (s x : Operand)
    (ho : o.op = .call { callee := .builtin .append, args := #[s, x], argTypes := #[22, 22] })
    (base : Nat) (v : Value) (zs : List Int) (hs : a.eval s = v) (hown : w.ownsRow base 3 1 v zs.length (zs.map (Value.int .i64)))
    (A : Option Addr) (m c : Nat) (ys : List Int) (hx : a.eval x = .slice A m c) (hm : ys.length = m) (hr : Row (Value.int .i64) w w.heap.size A ys)
    (h63 : zs.length + m ≤ 1000000000) (hbase : base ≤ w.heap.size)
    (h : ∀ A' c' w', w'.ownsRow base 3 1 (.slice A' (zs.length + m) c') (zs ++ ys).length ((zs ++ ys).map (Value.int .i64)) → w.grownBy w' v.ownBlock → KN (a.put o.dst (.slice A' (zs.length + m) c')) w') : if Region.wanted o (yielded ops a.tmps) = true then Oper.wp Tryz.prog o a w KN Q else E := by
  obtain ⟨i0, hi0, hz0, hz1, hz2⟩ := info_parts ints_info
  by_cases h0 : 0 < m
  · obtain ⟨ad, rfl, hbk, hcs⟩ := hr (by omega)
    refine step_append_lies _ hgd s x 22 ho base 3 i0 (.int .i64 0) 1 8 Tryz.underlying22 hi0 hz0 hz1 hz2 rfl (by decide) v zs.length (zs.map (Value.int .i64)) hs hown ad m c (ys.map (Value.int .i64)) hx (by simp [hm]) (fun j u hu => ?_) (by simp [Value.oneCell']) h0 (by unfold maxLen; omega) (by omega) hbase w.heap.size rfl ?_
    · rw [List.getElem?_map] at hu
      obtain ⟨z, hz, rfl⟩ := Option.map_eq_some_iff.1 hu
      exact hcs j z hz
    · intro g cap w' hown' hg _ _
      exact h _ cap w' (by simpa [hm] using hown') hg
  · have e0 : ys = [] := List.eq_nil_of_length_eq_zero (by omega)
    subst e0
    obtain rfl : m = 0 := by omega
    refine step_append_zero hgd s x 22 ho base 3 i0 1 Tryz.underlying22 hi0 v zs.length (zs.map (Value.int .i64)) hs hown A c hx ?_
    obtain ⟨Av, cv, rfl⟩ := own_form hown
    exact h Av cv w (by simpa using hown) (grown_refl _ _)
theorem step_append_row {w : World} {ops : Array Oper} {o : Oper} {a : Act} {KN : Act → World → Prop} {Q : Exit → Act → World → Prop} {E : Prop} (hgd : o.guard = none) (s x : Operand) (t : TypeId)
    (ho : o.op = .call { callee := .builtin .append, args := #[s, x], argTypes := #[t, t] }) (e : TypeId) (i : TypeInfo) (z : Value) (sz bytes : Nat) (ht : Tryz.prog.underlying t = some (.slice e)) (hi : Tryz.prog.info? e = some i) (hz : i.zero = some z) (hsize : i.size = sz) (hby : i.bytes = bytes) (hzs : z.cells.size = sz) (hsz : 0 < sz) (hbm : bytes ≤ 100000)
    (lo hi' : Nat) (v : Value) (ds : List (List Dat)) (b : List Nat) (h : OwB lo hi' w (.rows e sz ds) v b) (hs : a.eval s = v) (hlen : ds.length ≤ 2000000)
    (ad : Addr) (c0 : Nat) (ys : List Value) (hx : a.eval x = .slice (some ad) 1 c0) (hl : ys.length = sz) (hnews : ∀ j u, ys[j]? = some u → w.cell? (ad.add j) = some u) (h1 : ∀ u ∈ ys, u.oneCell' = true)
    (r : List Dat) (c : List Nat) (hr : OwL w r ys c) (hcn : c.Nodup) (hbc : ∀ q ∈ b, q ∉ c) (hcr : ∀ q ∈ c, lo ≤ q)
    (K : ∀ A' c' w' b', OwB lo w'.heap.size w' (.rows e sz (ds ++ [r])) (.slice A' (ds.length + 1) c') b' → (∀ q ∈ b', q ∈ b ∨ q ∈ c ∨ w.heap.size ≤ q) → Grew (fun q => q ∈ b) (fun q => q ∈ b ∨ w.heap.size ≤ q) w w' → Below lo w w' → KN (a.put o.dst (.slice A' (ds.length + 1) c')) w') : if Region.wanted o (yielded ops a.tmps) = true then Oper.wp Tryz.prog o a w KN Q else E := by
  have hnd := h.nd
  have hrg := h.rng
  obtain ⟨xs, cs, ho', hor, hb⟩ := h.ow
  refine step_append_lies _ hgd s x t ho 0 e i z sz bytes ht hi hz hsize hby hzs hsz v ds.length xs hs ho' ad 1 c0 ys hx (by simp [hl]) hnews h1 (by omega) (by unfold maxLen; omega) ?_ (Nat.zero_le _) _ rfl ?_
  · have : (ds.length + 1) * bytes ≤ 2000001 * 100000 := Nat.mul_le_mul (by omega) hbm
    omega
  intro g cap w' hown hg hat hlt
  rw [hb] at hnd
  obtain ⟨n1, n2, n3⟩ := List.nodup_append.1 hnd
  have own_mem : ∀ q, v.ownBlock = some q → q ∈ b := fun q hq => by rw [hb, hq]; simp
  have hcs : ∀ q ∈ cs, w'.heap[q]? = w.heap[q]? := fun q hq => hg.block q (OwR.lt sz _ _ _ hor q hq) (fun e => n3 q (by rw [← e]; simp) q hq rfl)
  have hcc : ∀ q ∈ c, w'.heap[q]? = w.heap[q]? := fun q hq => hg.block q (OwL.lt _ _ _ hr q hq) (fun e => hbc q (own_mem q e.symm) hq)
  have hor' := (OwR.keep sz _ _ _ hor hcs).append (OwR.one (OwL.keep _ _ _ hr hcc) hl)
  have g1 : g ∉ cs := fun hq => by
    rcases hat with e | e
    · exact n3 g (by rw [e]; simp) g hq rfl
    · have := OwR.lt sz _ _ _ hor g hq; omega
  have g2 : g ∉ c := fun hq => by
    rcases hat with e | e
    · exact hbc g (own_mem g e) hq
    · have := OwL.lt _ _ _ hr g hq; omega
  have g3 : lo ≤ g ∧ (g ∈ b ∨ w.heap.size ≤ g) := by
    rcases hat with e | e
    · exact ⟨(hrg g (own_mem g e)).1, .inl (own_mem g e)⟩
    · have := h.top; have := h.le; exact ⟨by omega, .inr (by omega)⟩
  have hsz' := hg.size
  have ht' := h.top
  refine K _ cap w' (g :: (cs ++ c)) ⟨⟨xs ++ ys, cs ++ c, by rw [List.length_append]; exact hown, hor', rfl⟩, ?_, ?_, Nat.le_refl _, by have := h.le; omega⟩ ?_ ⟨hg.size, fun q hq hn => hg.block q hq (fun e => hn (own_mem q e.symm)), fun q hq => hq⟩ ?_
  · refine List.nodup_cons.2 ⟨fun hq => ?_, List.nodup_append.2 ⟨n2, hcn, fun q hq q' hq' e => ?_⟩⟩
    · rcases List.mem_append.1 hq with hq | hq
      · exact g1 hq
      · exact g2 hq
    · subst e
      exact hbc q (by rw [hb]; simp [hq]) hq'
  · intro q hq
    rcases List.mem_cons.1 hq with rfl | hq
    · exact ⟨g3.1, hlt⟩
    · rcases List.mem_append.1 hq with hq | hq
      · have := hrg q (by rw [hb]; simp [hq]); exact ⟨this.1, by omega⟩
      · have := OwL.lt _ _ _ hr q hq; exact ⟨hcr q hq, by omega⟩
  · intro q hq
    rcases List.mem_cons.1 hq with rfl | hq
    · rcases g3.2 with h | h
      · exact .inl h
      · exact .inr (.inr h)
    · rcases List.mem_append.1 hq with hq | hq
      · exact .inl (by rw [hb]; simp [hq])
      · exact .inr (.inl hq)
  · exact (Below.refl lo w).grown hg (by have := h.le; omega) (fun k hk => (hrg k (own_mem k hk)).1)
set_option maxRecDepth 100000 in
set_option maxHeartbeats 3200000 in
theorem specCopy_d (v : Value) (ps : List Pt) (w : World) (h : RdC w w.heap.size (encPs ps) v) (hs : SmP ps) : Calls Tryz.prog 56 #[v] w (OwnPost (encPs ps) w) := by
  obtain ⟨A, c, rfl, hr, _⟩ := parts_rd h
  have hl := hs.1
  obtain ⟨i0, hi0, hz0, hz1, hz2⟩ := info_parts part_info
  have ob : OwB w.heap.size (w.heap.size + 1) (w.alloc (.cells #[] 86)) (encPs []) (.slice (some ⟨w.heap.size, 0, none⟩) 0 0) [w.heap.size] := ⟨⟨[], [], ⟨rfl, .inr ⟨w.heap.size, 0, #[], rfl, Nat.zero_le _, heap_alloc_new w _, Nat.le_refl _, by unfold maxLen; omega, rfl, rfl⟩⟩, ⟨rfl, rfl⟩, rfl⟩, by simp, fun q hq => by simp at hq; omega, by rw [World.size_alloc]; exact Nat.le_refl _, by omega⟩
  have b0 := alloc_below w (.cells #[] 86)
  have z0 : (w.alloc (.cells #[] 86)).heap.size = w.heap.size + 1 := World.size_alloc _ _
  rw [← z0] at ob
  have OB := Lib.hid ob
  clear ob z0
  go_enter Tryz.func56, Tryz.ntmps56
  go_wp2
  go_loopw [3, 9] (fun ov i wr => ∃ (j : Nat) (A1 : Option Addr) (c1 : Nat) (bs : List Nat), j ≤ ps.length ∧ i = .int .i64 (j : Int) ∧ ov = .slice A1 j c1 ∧ OwB w.heap.size wr.heap.size wr (encPs (ps.take j)) ov bs ∧ Below w.heap.size w wr) (fun _ i _ => ps.length - (intOf i).toNat)
  case atStart => exact ⟨0, _, _, _, Nat.zero_le _, rfl, rfl, OB.out, b0⟩
  case round =>
    obtain ⟨j, A1, c1, bs, hj, rfl, rfl, ho, hbel⟩ := hrel
    clear OB b0
    have HO := Lib.hid ho
    clear ho
    by_cases hlt : j < ps.length
    · obtain ⟨b, off, p, rfl, hbb, hp, hc⟩ := hr.at_ hlt
      obtain ⟨x0, x1, A5, c5, x2, r1⟩ := hc.keep (w' := wr) hbb (fun _ hq => hbel.cell hq)
      have hsp := hs.all p (List.mem_of_getElem? hp)
      have HT := Lib.hid (show ps.take (j + 1) = ps.take j ++ [p] by rw [List.take_add_one, hp]; rfl)
      clear hp hc
      have bA := alloc_below wr (.cells #[.int .i64 p.kind, .int .i64 p.n, .slice A5 p.signs.length c5] 86)
      have bxP := Bx.new wr #[.int .i64 p.kind, .int .i64 p.n, .slice A5 p.signs.length c5] 86
      have HO1 := Lib.hid (HO.out.past bA)
      have zA : (wr.alloc (.cells #[.int .i64 p.kind, .int .i64 p.n, .slice A5 p.signs.length c5] 86)).heap.size = wr.heap.size + 1 := World.size_alloc _ _
      go_wp2
      generalize wr.alloc (.cells #[.int .i64 p.kind, .int .i64 p.n, .slice A5 p.signs.length c5] 86) = W1 at bA bxP HO1 zA ⊢
      have lP := bxP.lt
      have hS0 : W1.drew.cell? ⟨wr.heap.size, 0, none⟩ = some (.int .i64 p.kind) ∧ W1.drew.cell? ⟨wr.heap.size, 1, none⟩ = some (.int .i64 p.n) ∧ W1.drew.cell? ⟨wr.heap.size, 2, none⟩ = some (.slice A5 p.signs.length c5) := ⟨bxP.cell (j := 0) rfl, bxP.cell (j := 1) rfl, bxP.cell (j := 2) rfl⟩
      refine wp_region_held_drew (S := fun W => W.cell? ⟨wr.heap.size, 0, none⟩ = some (.int .i64 p.kind) ∧ W.cell? ⟨wr.heap.size, 1, none⟩ = some (.int .i64 p.n) ∧ W.cell? ⟨wr.heap.size, 2, none⟩ = some (.slice A5 p.signs.length c5)) (by kernel_rfl) hS0 (fun hS => ?_)
      clear hS0
      have bA := bA.trans ((Below.refl _ _).drew.mono bA.size)
      have HO1 := Lib.hid (HO1.out.past (Below.refl _ _).drew)
      have zA : W1.drew.heap.size = wr.heap.size + 1 := zA
      have lP : wr.heap.size < W1.drew.heap.size := lP
      clear bxP
      generalize W1.drew = WD at hS bA HO1 zA lP ⊢
      refine wpAnyH_take (i := 0) (oi := ⟨some 13, _, _, _, _, _⟩) (v := .slice A1 j c1) rfl (by kernel_rfl) (by kernel_rfl) (by kernel_rfl) (fun _ _ _ h => h) (Or.inl ⟨by rfl, fun w' hS' => ?_⟩) (by assumption) ?_
      · (try dsimp only at hS'); go_simp
      try simp only [Act.put, List.setIfInBounds_toArray, List.set_cons_zero, List.set_cons_succ]
      refine wpAnyH_take (i := 1) (oi := ⟨some 14, _, _, _, _, _⟩) (v := .pointer (some ⟨wr.heap.size, 0, none⟩)) rfl (by kernel_rfl) (by kernel_rfl) (by kernel_rfl) (fun _ _ _ h => h) (Or.inl ⟨by rfl, fun w' hS' => ?_⟩) (by assumption) ?_
      · (try dsimp only at hS'); go_simp
      try simp only [Act.put, List.setIfInBounds_toArray, List.set_cons_zero, List.set_cons_succ]
      refine wpAnyH_take (i := 2) (oi := ⟨some 15, _, _, _, _, _⟩) (v := .int .i64 p.kind) rfl (by kernel_rfl) (by kernel_rfl) (by kernel_rfl) (fun _ _ _ h => h) (Or.inl ⟨by rfl, fun w' hS' => ?_⟩) (by assumption) ?_
      · (try dsimp only at hS'); go_simp
      try simp only [Act.put, List.setIfInBounds_toArray, List.set_cons_zero, List.set_cons_succ]
      refine wpAnyH_take (i := 3) (oi := ⟨some 16, _, _, _, _, _⟩) (v := .pointer (some ⟨wr.heap.size, 1, none⟩)) rfl (by kernel_rfl) (by kernel_rfl) (by kernel_rfl) (fun _ _ _ h => h) (Or.inl ⟨by rfl, fun w' hS' => ?_⟩) (by assumption) ?_
      · (try dsimp only at hS'); go_simp
      try simp only [Act.put, List.setIfInBounds_toArray, List.set_cons_zero, List.set_cons_succ]
      refine wpAnyH_take (i := 4) (oi := ⟨some 17, _, _, _, _, _⟩) (v := .int .i64 p.n) rfl (by kernel_rfl) (by kernel_rfl) (by kernel_rfl) (fun _ _ _ h => h) (Or.inl ⟨by rfl, fun w' hS' => ?_⟩) (by assumption) ?_
      · (try dsimp only at hS'); go_simp
      try simp only [Act.put, List.setIfInBounds_toArray, List.set_cons_zero, List.set_cons_succ]
      refine wpAnyH_take (i := 6) (oi := ⟨some 19, _, _, _, _, _⟩) (v := .pointer (some ⟨wr.heap.size, 2, none⟩)) rfl (by kernel_rfl) (by kernel_rfl) (by kernel_rfl) (fun _ _ _ h => h) (Or.inl ⟨by rfl, fun w' hS' => ?_⟩) (by assumption) ?_
      · (try dsimp only at hS'); go_simp
      try simp only [Act.put, List.setIfInBounds_toArray, List.set_cons_zero, List.set_cons_succ]
      refine wpAnyH_take (i := 7) (oi := ⟨some 20, _, _, _, _, _⟩) (v := .slice A5 p.signs.length c5) rfl (by kernel_rfl) (by kernel_rfl) (by kernel_rfl) (fun _ _ _ h => h) (Or.inl ⟨by rfl, fun w' hS' => ?_⟩) (by assumption) ?_
      · (try dsimp only at hS'); go_simp
      try simp only [Act.put, List.setIfInBounds_toArray, List.set_cons_zero, List.set_cons_succ]
      refine wpAnyH_ready (rs := [5]) (by kernel_rfl) (by simp) ?_
      refine AllReadyH.cons (o := ⟨some 18, _, _, _, _, _⟩) rfl (fun K hK => ?_) AllReadyH.nil
      go_simp
      have hS1 : (WD.alloc (.cells #[] 3)).cell? ⟨wr.heap.size, 0, none⟩ = some (.int .i64 p.kind) ∧ (WD.alloc (.cells #[] 3)).cell? ⟨wr.heap.size, 1, none⟩ = some (.int .i64 p.n) ∧ (WD.alloc (.cells #[] 3)).cell? ⟨wr.heap.size, 2, none⟩ = some (.slice A5 p.signs.length c5) := ⟨((alloc_below WD (.cells #[] 3)).cell (p := ⟨wr.heap.size, 0, none⟩) lP).trans hS.1, ((alloc_below WD (.cells #[] 3)).cell (p := ⟨wr.heap.size, 1, none⟩) lP).trans hS.2.1, ((alloc_below WD (.cells #[] 3)).cell (p := ⟨wr.heap.size, 2, none⟩) lP).trans hS.2.2⟩
      refine hK.out _ _ hS1 (fun hS => ?_)
      clear hK K hS1
      try simp only [Act.put, List.setIfInBounds_toArray, List.set_cons_zero, List.set_cons_succ]
      have bD : Below WD.heap.size WD (WD.alloc (.cells #[] 3)) := alloc_below WD (.cells #[] 3)
      have hib : (WD.alloc (.cells #[] 3)).ownsRow (wr.heap.size + 1) 3 1 (.slice (some ⟨wr.heap.size + 1, 0, none⟩) 0 0) 0 [] := ⟨rfl, .inr ⟨wr.heap.size + 1, 0, #[], rfl, Nat.le_refl _, by rw [← zA]; exact heap_alloc_new WD _, Nat.le_refl _, by unfold maxLen; omega, rfl, rfl⟩⟩
      have zD : (WD.alloc (.cells #[] 3)).heap.size = wr.heap.size + 2 := by rw [World.size_alloc]; omega
      have hrow := (((r1.more hbel.size).past bA).past bD)
      have HO2 := Lib.hid (HO1.out.past bD)
      generalize WD.alloc (.cells #[] 3) = W2 at hS bD hib zD hrow HO2 ⊢
      refine wpAnyH_ready (rs := [8]) (by kernel_rfl) (by simp) ?_
      refine AllReadyH.cons (o := ⟨some 21, _, _, _, _, _⟩) rfl (fun K hK => ?_) AllReadyH.nil
      refine step_append_ints (by rfl) (.tmp 18) (.tmp 20) (by rfl) (wr.heap.size + 1) (.slice (some ⟨wr.heap.size + 1, 0, none⟩) 0 0) [] (by rfl) hib A5 p.signs.length c5 p.signs (by rfl) rfl hrow (by simp; omega) (by omega) ?_
      intro An cn wn hon hgn
      simp only [List.nil_append, List.length_nil, Nat.zero_add] at hon ⊢
      have hS1 : wn.cell? ⟨wr.heap.size, 0, none⟩ = some (.int .i64 p.kind) ∧ wn.cell? ⟨wr.heap.size, 1, none⟩ = some (.int .i64 p.n) ∧ wn.cell? ⟨wr.heap.size, 2, none⟩ = some (.slice A5 p.signs.length c5) := ⟨(grown_cell (p := ⟨wr.heap.size, 0, none⟩) hgn (by simp only; omega) (by simp [Value.ownBlock])).trans hS.1, (grown_cell (p := ⟨wr.heap.size, 1, none⟩) hgn (by simp only; omega) (by simp [Value.ownBlock])).trans hS.2.1, (grown_cell (p := ⟨wr.heap.size, 2, none⟩) hgn (by simp only; omega) (by simp [Value.ownBlock])).trans hS.2.2⟩
      refine hK.out _ _ hS1 (fun hS => ?_)
      clear hK K hS1
      try simp only [Act.put, List.setIfInBounds_toArray, List.set_cons_zero, List.set_cons_succ]
      have zn : wr.heap.size + 2 ≤ wn.heap.size := by have := hgn.size; omega
      have on := ownInts hon (by omega)
      have HO3 := Lib.hid (HO2.out.apartG hgn (fun k hk => by simp [Value.ownBlock] at hk; omega))
      have bn : Below wr.heap.size W2 wn := (Below.refl _ _).grown hgn (by omega) (fun q hq => by have := own_ge hib q hq; omega)
      have dn : Below w.heap.size w wn := hbel.trans (((bA.trans (bD.mono bA.size)).trans bn).mono hbel.size)
      clear hon hgn hib hrow HO2 bn bD
      refine wpAnyH_take (i := 9) (oi := ⟨some 22, _, _, _, _, _⟩) (v := .agg #[.int .i64 p.kind, .int .i64 p.n, .slice An p.signs.length cn]) rfl (by kernel_rfl) (by kernel_rfl) (by kernel_rfl) (fun _ _ _ h => h) (Or.inl ⟨by rfl, fun w' hS' => ?_⟩) (by assumption) ?_
      · (try dsimp only at hS'); go_simp
      try simp only [Act.put, List.setIfInBounds_toArray, List.set_cons_zero, List.set_cons_succ]
      refine wpAnyH_ready (rs := [10]) (by kernel_rfl) (by simp) ?_
      refine AllReadyH.cons (o := ⟨some 23, _, _, _, _, _⟩) rfl (fun K hK => ?_) AllReadyH.nil
      go_simp
      have hS1 : (wn.alloc (.cells #[.int .i64 p.kind, .int .i64 p.n, .slice An p.signs.length cn] 86)).cell? ⟨wr.heap.size, 0, none⟩ = some (.int .i64 p.kind) ∧ (wn.alloc (.cells #[.int .i64 p.kind, .int .i64 p.n, .slice An p.signs.length cn] 86)).cell? ⟨wr.heap.size, 1, none⟩ = some (.int .i64 p.n) ∧ (wn.alloc (.cells #[.int .i64 p.kind, .int .i64 p.n, .slice An p.signs.length cn] 86)).cell? ⟨wr.heap.size, 2, none⟩ = some (.slice A5 p.signs.length c5) := ⟨((alloc_below wn (.cells #[.int .i64 p.kind, .int .i64 p.n, .slice An p.signs.length cn] 86)).cell (p := ⟨wr.heap.size, 0, none⟩) (by simp only; omega)).trans hS.1, ((alloc_below wn (.cells #[.int .i64 p.kind, .int .i64 p.n, .slice An p.signs.length cn] 86)).cell (p := ⟨wr.heap.size, 1, none⟩) (by simp only; omega)).trans hS.2.1, ((alloc_below wn (.cells #[.int .i64 p.kind, .int .i64 p.n, .slice An p.signs.length cn] 86)).cell (p := ⟨wr.heap.size, 2, none⟩) (by simp only; omega)).trans hS.2.2⟩
      refine hK.out _ _ hS1 (fun hS => ?_)
      clear hK K hS1
      try simp only [Act.put, List.setIfInBounds_toArray, List.set_cons_zero, List.set_cons_succ]
      have bP := alloc_below wn (.cells #[.int .i64 p.kind, .int .i64 p.n, .slice An p.signs.length cn] 86)
      have HN := Lib.hid (World.news_of_block (cs := #[.int .i64 p.kind, .int .i64 p.n, .slice An p.signs.length cn]) (t := 86) (fr := (0, 0)) (heap_alloc_new wn (.cells #[.int .i64 p.kind, .int .i64 p.n, .slice An p.signs.length cn] 86)))
      obtain ⟨cs, ox⟩ := (on.past bP).blocks
      have OX := Lib.hid ox
      have HO4 := Lib.hid (HO3.out.past bP)
      have zP : (wn.alloc (.cells #[.int .i64 p.kind, .int .i64 p.n, .slice An p.signs.length cn] 86)).heap.size = wn.heap.size + 1 := World.size_alloc _ _
      have d4 := dn.trans (bP.mono dn.size)
      have e1 : ((ps.take j).map encPt).length = j := by simp; omega
      generalize wn.alloc (.cells #[.int .i64 p.kind, .int .i64 p.n, .slice An p.signs.length cn] 86) = W4 at hS HN OX HO4 zP d4 ⊢
      clear on ox bP dn
      refine wpAnyH_ready (rs := [11]) (by kernel_rfl) (by simp) ?_
      refine AllReadyH.cons (o := ⟨some 24, _, _, _, _, _⟩) rfl (fun K hK => ?_) AllReadyH.nil
      refine step_append_row (by rfl) (.tmp 13) (.tmp 23) 57 (by rfl) 86 i0 _ 3 40 Tryz.underlying57 hi0 hz0 hz1 hz2 rfl (by decide) (by decide) w.heap.size _ (.slice A1 j c1) ((ps.take j).map encPt) bs HO4.out (by rfl) (by omega) ⟨wn.heap.size, 0, none⟩ 1 [.int .i64 p.kind, .int .i64 p.n, .slice An p.signs.length cn] (by rfl) rfl HN.out (by simp [Value.oneCell']) (encPt p) cs ⟨_, _, [], cs, rfl, by simp, ⟨rfl, rfl⟩, _, _, [], cs, rfl, by simp, ⟨rfl, rfl⟩, _, [], cs, [], rfl, by simp, OX.out.ow, rfl, rfl⟩ OX.out.nd (fun q hq hq' => by have q1 := (HO4.out.rng q hq).2; have q2 := (OX.out.rng q hq').1; omega) (fun q hq => by have q2 := (OX.out.rng q hq).1; have := hbel.size; omega) ?_
      intro A7 c7 w7 b7 o7 in7 g7 bl7
      rw [e1]
      have hS1 : w7.cell? ⟨wr.heap.size, 0, none⟩ = some (.int .i64 p.kind) ∧ w7.cell? ⟨wr.heap.size, 1, none⟩ = some (.int .i64 p.n) ∧ w7.cell? ⟨wr.heap.size, 2, none⟩ = some (.slice A5 p.signs.length c5) := ⟨(g7.cellOut (p := ⟨wr.heap.size, 0, none⟩) (by simp only; omega) (fun hq => by have := (HO4.out.rng _ hq).2; simp only at this; omega)).trans hS.1, (g7.cellOut (p := ⟨wr.heap.size, 1, none⟩) (by simp only; omega) (fun hq => by have := (HO4.out.rng _ hq).2; simp only at this; omega)).trans hS.2.1, (g7.cellOut (p := ⟨wr.heap.size, 2, none⟩) (by simp only; omega) (fun hq => by have := (HO4.out.rng _ hq).2; simp only at this; omega)).trans hS.2.2⟩
      refine hK.out _ _ hS1 (fun hS => ?_)
      clear hK K hS1
      try simp only [Act.put, List.setIfInBounds_toArray, List.set_cons_zero, List.set_cons_succ]
      refine wpAnyH_take (i := 12) (oi := ⟨some 3, _, _, _, _, _⟩) (v := .slice A7 (j + 1) c7) rfl (by kernel_rfl) (by kernel_rfl) (by kernel_rfl) (fun _ _ _ h => h) (Or.inl ⟨by rfl, fun w' hS' => ?_⟩) (by assumption) ?_
      · (try dsimp only at hS'); go_simp
      try simp only [Act.put, List.setIfInBounds_toArray, List.set_cons_zero, List.set_cons_succ]
      refine wpAnyH_done (by kernel_rfl) ?_ _
      have O7 := Lib.hid (show OwB w.heap.size w7.heap.size w7 (encPs (ps.take (j + 1))) (.slice A7 (j + 1) c7) b7 by rw [HT.out]; rw [e1] at o7; unfold encPs; rw [List.map_append]; exact o7)
      have d7 := d4.trans bl7
      clear o7 hS
      go_wp2
      go_roundw
      case rel => exact ⟨j + 1, A7, c7, b7, by omega, by go_num, rfl, O7.out, d7⟩
      case measure => simp [intOf]; omega
    · obtain rfl : j = ps.length := by omega
      have k1 := HO.out
      rw [List.take_length] at k1
      have K1 := Lib.hid k1
      clear k1
      go_wp2
      go_ret
      exact ⟨_, rfl, ⟨bs, K1.out.ow, K1.out.nd, K1.out.rng, Nat.le_refl _, K1.out.le⟩, hbel⟩
end Go.Proofs.YtgfbcpcfdlnbhaaGreat.low

