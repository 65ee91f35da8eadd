/-
  Texts that the proofs over this seat rest on, one behind the other (3 of 6).
-/
import Derived.Test.YtninppjomdhnmaaGreatM2
import Derived.Deep.AppendLies
import Derived.Test.YtninppjomdhnmaaGreatM1

/-
  Contract of spec.DocOk.
-/
namespace Go.Proofs.YtninppjomdhnmaaGreat.low
open Go.RowKit
set_option linter.unusedVariables false

/-- the entries apply one behind the other, each is valid -/
def chainGo : List En → List Int → Bool
  | [], _ => true
  | e :: l, t => fitsB e.o t && entryB e && okText (applyT e.o t) && chainGo l (applyT e.o t)
theorem chainGo_step {l : List En} {j : Nat} {e : En} (h : l[j]? = some e) (t : List Int) : chainGo (l.drop j) t = (fitsB e.o t && entryB e && okText (applyT e.o t) && chainGo (l.drop (j + 1)) (applyT e.o t)) := by
  obtain ⟨hlt, e'⟩ := List.getElem?_eq_some_iff.1 h
  rw [List.drop_eq_getElem_cons hlt, e']
  rfl
/-- the rows of clients, in ascending order -/
def seenOneB (h : Int) (prev : Option Int) (s : Se) : Bool := inB s.client 1 8 && inB s.seq 1 1000000000 && inB s.rev 1 h && (match prev with | none => true | some p => decide (p < s.client))
def seenAllB (h : Int) : Option Int → List Se → Bool
  | _, [] => true
  | prev, s :: l => seenOneB h prev s && seenAllB h (some s.client) l
def prevOf (l : List Se) : Nat → Option Int
  | 0 => none
  | k + 1 => (l[k]?).map Se.client
theorem seenAllB_step {h : Int} {l : List Se} {j : Nat} {s : Se} (hs : l[j]? = some s) : seenAllB h (prevOf l j) (l.drop j) = (seenOneB h (prevOf l j) s && seenAllB h (prevOf l (j + 1)) (l.drop (j + 1))) := by
  obtain ⟨hlt, e'⟩ := List.getElem?_eq_some_iff.1 hs
  rw [List.drop_eq_getElem_cons hlt, e']
  have : prevOf l (j + 1) = some s.client := by rw [prevOf, hs]; rfl
  rw [this]
  rfl
/-- a document is valid -/
def docB (x : Do) : Bool := nameB x.name && inB x.from_ 0 999999000 && okText x.text && decide (x.list.length ≤ 8) && chainGo x.list x.text && seenAllB (headRevT x) none x.seen
theorem okText_small {t : List Int} (h : okText t = true) : SmI t := by
  unfold okText at h
  rw [Bool.and_eq_true] at h
  have := of_decide_eq_true h.2
  unfold SmI
  omega
theorem SmDo.nameL {x : Do} (h : SmDo x) : x.name.size ≤ 1048576 := by unfold SmDo totDo at h; omega
/-- a document each of whose fields is small -/
structure SmD4 (x : Do) : Prop where
  nameL : x.name.size ≤ 1048576
  text : SmI x.text
  list : SmEns x.list
  seen : SmSes x.seen
theorem SmDo.four {x : Do} (h : SmDo x) : SmD4 x := ⟨h.nameL, h.text, h.list, h.seen⟩
set_option maxRecDepth 100000 in
set_option maxHeartbeats 12800000 in
theorem specDocOk_w (v : Value) (x : Do) (w : World) (h : RdC w w.heap.size (datDo x) v) (hs : SmD4 x) : Calls Tryz.prog 20 #[v] w (Tells (docB x) w) := by
  have HR := Lib.hid h
  obtain ⟨A2, c2, A3, c3, A4, c4, rfl, r2, r3, r4⟩ := aggDo h
  have hl3 := hs.list.len
  have hl4 := hs.seen.len
  have HD := Lib.hid (show docB x = (nameB x.name && inB x.from_ 0 999999000 && okText x.text && decide (x.list.length ≤ 8) && chainGo x.list x.text && seenAllB (headRevT x) none x.seen) from rfl)
  have b0 := alloc_below w (.cells #[.string x.name, .int .i64 x.from_, .slice A2 x.text.length c2, .slice A3 x.list.length c3, .slice A4 x.seen.length c4] 31)
  have bx := Bx.new w #[.string x.name, .int .i64 x.from_, .slice A2 x.text.length c2, .slice A3 x.list.length c3, .slice A4 x.seen.length c4] 31
  go_enter Tryz.func20, Tryz.ntmps20
  go_wp2_with fail
  generalize w.alloc (.cells #[.string x.name, .int .i64 x.from_, .slice A2 x.text.length c2, .slice A3 x.list.length c3, .slice A4 x.seen.length c4] 31) = W0 at b0 bx ⊢
  refine (specNameOk_d x.name _ hs.nameL).mono ?_
  rintro e w1 ⟨rfl, k1⟩
  have bx := bx.past k1
  have d1 := b0.trans (k1.mono b0.size)
  clear k1
  cases hn : nameB x.name
  · go_wp2
    go_ret
    exact ⟨ret_b (by rw [HD.out, hn]; rfl), d1⟩
  have y1 : w1.cell? ⟨w.heap.size, 1, none⟩ = some (.int .i64 x.from_) := bx.cell rfl
  go_wp2_with fail
  refine (in_any _ _ _ _).mono ?_
  rintro e w' ⟨rfl, rfl⟩
  cases hf : inB x.from_ 0 999999000
  · go_wp2
    go_ret
    exact ⟨ret_b (by rw [HD.out, hn, hf]; rfl), d1⟩
  have y2 : w1.cell? ⟨w.heap.size, 2, none⟩ = some (.slice A2 x.text.length c2) := bx.cell rfl
  go_wp2_with fail
  refine (specTextOk_d _ x.text _ (r2.past d1) hs.text).mono ?_
  rintro e w2 ⟨rfl, k2⟩
  have bx := bx.past k2
  have d2 := d1.trans (k2.mono d1.size)
  clear k2 y1 y2
  cases ht : okText x.text
  · go_wp2
    go_ret
    exact ⟨ret_b (by rw [HD.out, hn, hf, ht]; rfl), d2⟩
  have y3 : w2.cell? ⟨w.heap.size, 3, none⟩ = some (.slice A3 x.list.length c3) := bx.cell rfl
  by_cases hw : 8 < x.list.length
  · go_wp2
    go_ret
    exact ⟨ret_b (by rw [HD.out, hn, hf, ht, decide_eq_false (by omega)]; rfl), d2⟩
  have HD2 := Lib.hid (show docB x = (chainGo x.list x.text && seenAllB (headRevT x) none x.seen) by rw [HD.out, hn, hf, ht, decide_eq_true (by omega)]; rfl)
  have hst := okText_small ht
  have y2 : w2.cell? ⟨w.heap.size, 2, none⟩ = some (.slice A2 x.text.length c2) := bx.cell rfl
  have BX := Lib.hid bx
  have R2 := Lib.hid (r2.past d2)
  clear bx hn hf ht HD r2
  go_wp2
  go_loopw [3, 37] (fun tv i wr => ∃ (j : Nat) (t : List Int) (A : Option Addr) (c : Nat), j ≤ x.list.length ∧ i = .int .i64 (j : Int) ∧ tv = .slice A t.length c ∧ RdC wr wr.heap.size (encInts t) tv ∧ SmI t ∧ chainGo x.list x.text = chainGo (x.list.drop j) t ∧ Bx wr w.heap.size #[.string x.name, .int .i64 x.from_, .slice A2 x.text.length c2, .slice A3 x.list.length c3, .slice A4 x.seen.length c4] 31 ∧ Below w.heap.size w wr) (fun _ i _ => x.list.length - (intOf i).toNat)
  case atStart => exact ⟨0, x.text, A2, c2, Nat.zero_le _, rfl, rfl, R2.out, hst, by simp, BX.out, d2⟩
  case round =>
    obtain ⟨j, t, A, c, hj, rfl, rfl, hrt, hst, hch, hbx, hbel⟩ := hrel
    clear BX R2 y2 y3 d2
    have HCH := Lib.hid hch
    have HBX := Lib.hid hbx
    have HRT := Lib.hid hrt
    clear hch hbx hrt
    by_cases hlt : j < x.list.length
    · obtain ⟨b, off, e, A5, c5, rfl, hbb, hp, z0, z1, z2, q2⟩ := atEns (r3.below hbel) hlt
      have HS := Lib.hid (chainGo_step hp t)
      have hse := hs.list.at_ (List.mem_of_getElem? hp)
      clear hp
      have bA := alloc_below wr (.cells #[.int .i64 e.client, .int .i64 e.seq, .slice A5 e.o.length c5] 98)
      have bxE := Bx.new wr #[.int .i64 e.client, .int .i64 e.seq, .slice A5 e.o.length c5] 98
      have q2 := RdC.more hbel.size _ _ q2
      go_wp2_with fail
      generalize wr.alloc (.cells #[.int .i64 e.client, .int .i64 e.seq, .slice A5 e.o.length c5] 98) = W1 at bA bxE ⊢
      refine (specApply_d _ _ e.o t _ (q2.past bA) (HRT.out.past bA) hse.o hst).mono ?_
      rintro e' w3 ⟨v3, rfl, o3, b3⟩
      obtain ⟨A6, c6, rfl⟩ := sliceI o3.read
      have bxE := bxE.past b3
      have d3 := bA.trans (b3.mono bA.size)
      have R3 := Lib.hid o3.read
      clear o3 b3 bA
      cases hfit : fitsB e.o t
      · go_wp2
        go_ret
        exact ⟨ret_b (by rw [HD2.out, HCH.out, HS.out, hfit]; rfl), hbel.trans (d3.mono hbel.size)⟩
      have x0 : w3.cell? ⟨wr.heap.size, 0, none⟩ = some (.int .i64 e.client) := bxE.cell rfl
      have x1 : w3.cell? ⟨wr.heap.size, 1, none⟩ = some (.int .i64 e.seq) := bxE.cell rfl
      have x2 : w3.cell? ⟨wr.heap.size, 2, none⟩ = some (.slice A5 e.o.length c5) := bxE.cell rfl
      go_wp2_with fail
      refine (specEntryOk_d _ e _ (rdEn e (q2.past d3)) hse).mono ?_
      rintro e' w4 ⟨rfl, b4⟩
      have d4 := d3.trans (b4.mono d3.size)
      cases hent : entryB e
      · go_wp2
        go_ret
        exact ⟨ret_b (by rw [HD2.out, HCH.out, HS.out, hfit, hent]; rfl), hbel.trans (d4.mono hbel.size)⟩
      have hs6 : SmI (applyT e.o t) := apply_small hse.o hst
      go_wp2_with fail
      refine (specTextOk_d _ (applyT e.o t) _ (R3.out.past b4) hs6).mono ?_
      rintro e' w5 ⟨rfl, b5⟩
      have d5 := d4.trans (b5.mono d4.size)
      cases hok : okText (applyT e.o t)
      · go_wp2
        go_ret
        exact ⟨ret_b (by rw [HD2.out, HCH.out, HS.out, hfit, hent, hok]; rfl), hbel.trans (d5.mono hbel.size)⟩
      · have HN := Lib.hid (show chainGo x.list x.text = chainGo (x.list.drop (j + 1)) (applyT e.o t) by rw [HCH.out, HS.out, hfit, hent, hok]; rfl)
        go_wp2
        go_roundw
        case rel => exact ⟨j + 1, applyT e.o t, A6, c6, by omega, by go_num, rfl, (R3.out.past b4).past b5, okText_small hok, HN.out, HBX.out.past d5, hbel.trans (d5.mono hbel.size)⟩
        case measure => simp [intOf]; omega
    · have HD3 := Lib.hid (show docB x = seenAllB (headRevT x) none x.seen by rw [HD2.out, HCH.out, List.drop_eq_nil_of_le (by omega)]; rfl)
      have y4 : wr.cell? ⟨w.heap.size, 4, none⟩ = some (.slice A4 x.seen.length c4) := HBX.out.cell rfl
      have HBE := Lib.hid hbel
      clear HRT
      go_wp2
      go_loopw [65] (fun i wq => ∃ j : Nat, j ≤ x.seen.length ∧ i = .int .i64 (j : Int) ∧ docB x = seenAllB (headRevT x) (prevOf x.seen j) (x.seen.drop j) ∧ Bx wq w.heap.size #[.string x.name, .int .i64 x.from_, .slice A2 x.text.length c2, .slice A3 x.list.length c3, .slice A4 x.seen.length c4] 31 ∧ Below w.heap.size w wq) (fun i _ => x.seen.length - (intOf i).toNat)
      case atStart => exact ⟨0, Nat.zero_le _, rfl, by simpa [prevOf] using HD3.out, HBX.out, HBE.out⟩
      case round =>
        obtain ⟨j, hj, rfl, hdc, hbx, hbel⟩ := hrel
        clear HBX HBE HD3 y4
        have HDC := Lib.hid hdc
        have HBX := Lib.hid hbx
        clear hdc hbx
        by_cases hlt : j < x.seen.length
        · obtain ⟨b, off, s, rfl, hbb, hp, z0, z1, z2⟩ := atSes (r4.below hbel) hlt
          have HS := Lib.hid (seenAllB_step (h := headRevT x) hp)
          have HP := Lib.hid hp
          clear hp
          -- round2
          have bA := alloc_below wr (.cells #[.int .i64 s.client, .int .i64 s.seq, .int .i64 s.rev] 102)
          have bxS := Bx.new wr #[.int .i64 s.client, .int .i64 s.seq, .int .i64 s.rev] 102
          have bxD := HBX.out.past bA
          have hbq : b < wr.heap.size := Nat.lt_of_lt_of_le hbb hbel.size
          cases h1 : inB s.client 1 8
          · go_wp2
            generalize wr.alloc (.cells #[.int .i64 s.client, .int .i64 s.seq, .int .i64 s.rev] 102) = W1 at bA bxS bxD ⊢
            have y0 : W1.cell? ⟨wr.heap.size, 0, none⟩ = some (.int .i64 s.client) := bxS.cell rfl
            have y1 : W1.cell? ⟨wr.heap.size, 1, none⟩ = some (.int .i64 s.seq) := bxS.cell rfl
            have y2 : W1.cell? ⟨wr.heap.size, 2, none⟩ = some (.int .i64 s.rev) := bxS.cell rfl
            have y3 : W1.cell? ⟨w.heap.size, 0, none⟩ = some (.string x.name) := bxD.cell rfl
            have y4 : W1.cell? ⟨w.heap.size, 1, none⟩ = some (.int .i64 x.from_) := bxD.cell rfl
            have y5 : W1.cell? ⟨w.heap.size, 2, none⟩ = some (.slice A2 x.text.length c2) := bxD.cell rfl
            have y6 : W1.cell? ⟨w.heap.size, 3, none⟩ = some (.slice A3 x.list.length c3) := bxD.cell rfl
            have y7 : W1.cell? ⟨w.heap.size, 4, none⟩ = some (.slice (some ⟨b, off, none⟩) x.seen.length c4) := bxD.cell rfl
            have lS := bxS.lt
            have lD := bxD.lt
            have SX := Lib.hid (show ∀ (W W' : World), (W.cell? ⟨wr.heap.size, 0, none⟩ = some (.int .i64 s.client) ∧ W.cell? ⟨wr.heap.size, 1, none⟩ = some (.int .i64 s.seq) ∧ W.cell? ⟨wr.heap.size, 2, none⟩ = some (.int .i64 s.rev) ∧ W.cell? ⟨w.heap.size, 0, none⟩ = some (.string x.name) ∧ W.cell? ⟨w.heap.size, 1, none⟩ = some (.int .i64 x.from_) ∧ W.cell? ⟨w.heap.size, 2, none⟩ = some (.slice A2 x.text.length c2) ∧ W.cell? ⟨w.heap.size, 3, none⟩ = some (.slice A3 x.list.length c3) ∧ W.cell? ⟨w.heap.size, 4, none⟩ = some (.slice (some ⟨b, off, none⟩) x.seen.length c4) ∧ KS W1 W) → Below W.heap.size W W' → (W'.cell? ⟨wr.heap.size, 0, none⟩ = some (.int .i64 s.client) ∧ W'.cell? ⟨wr.heap.size, 1, none⟩ = some (.int .i64 s.seq) ∧ W'.cell? ⟨wr.heap.size, 2, none⟩ = some (.int .i64 s.rev) ∧ W'.cell? ⟨w.heap.size, 0, none⟩ = some (.string x.name) ∧ W'.cell? ⟨w.heap.size, 1, none⟩ = some (.int .i64 x.from_) ∧ W'.cell? ⟨w.heap.size, 2, none⟩ = some (.slice A2 x.text.length c2) ∧ W'.cell? ⟨w.heap.size, 3, none⟩ = some (.slice A3 x.list.length c3) ∧ W'.cell? ⟨w.heap.size, 4, none⟩ = some (.slice (some ⟨b, off, none⟩) x.seen.length c4) ∧ KS W1 W') from fun W W' h hb => by have hk := h.2.2.2.2.2.2.2.2; have hkk : KS W1 W' := hk.trans (hb.mono hk.size); exact ⟨(hkk.cell (p := ⟨wr.heap.size, 0, none⟩) lS).trans y0, (hkk.cell (p := ⟨wr.heap.size, 1, none⟩) lS).trans y1, (hkk.cell (p := ⟨wr.heap.size, 2, none⟩) lS).trans y2, (hkk.cell (p := ⟨w.heap.size, 0, none⟩) lD).trans y3, (hkk.cell (p := ⟨w.heap.size, 1, none⟩) lD).trans y4, (hkk.cell (p := ⟨w.heap.size, 2, none⟩) lD).trans y5, (hkk.cell (p := ⟨w.heap.size, 3, none⟩) lD).trans y6, (hkk.cell (p := ⟨w.heap.size, 4, none⟩) lD).trans y7, hkk⟩)
            have RD := Lib.hid (show ∀ W : World, (W.cell? ⟨wr.heap.size, 0, none⟩ = some (.int .i64 s.client) ∧ W.cell? ⟨wr.heap.size, 1, none⟩ = some (.int .i64 s.seq) ∧ W.cell? ⟨wr.heap.size, 2, none⟩ = some (.int .i64 s.rev) ∧ W.cell? ⟨w.heap.size, 0, none⟩ = some (.string x.name) ∧ W.cell? ⟨w.heap.size, 1, none⟩ = some (.int .i64 x.from_) ∧ W.cell? ⟨w.heap.size, 2, none⟩ = some (.slice A2 x.text.length c2) ∧ W.cell? ⟨w.heap.size, 3, none⟩ = some (.slice A3 x.list.length c3) ∧ W.cell? ⟨w.heap.size, 4, none⟩ = some (.slice (some ⟨b, off, none⟩) x.seen.length c4) ∧ KS W1 W) → RdC W W.heap.size (datDo x) (.agg #[.string x.name, .int .i64 x.from_, .slice A2 x.text.length c2, .slice A3 x.list.length c3, .slice (some ⟨b, off, none⟩) x.seen.length c4]) from fun W h => by have hk : Below W1.heap.size W1 W := h.2.2.2.2.2.2.2.2; exact (HR.out.past (hbel.trans (bA.mono hbel.size))).past hk)
            have hS0 : W1.drew.cell? ⟨wr.heap.size, 0, none⟩ = some (.int .i64 s.client) ∧ W1.drew.cell? ⟨wr.heap.size, 1, none⟩ = some (.int .i64 s.seq) ∧ W1.drew.cell? ⟨wr.heap.size, 2, none⟩ = some (.int .i64 s.rev) ∧ W1.drew.cell? ⟨w.heap.size, 0, none⟩ = some (.string x.name) ∧ W1.drew.cell? ⟨w.heap.size, 1, none⟩ = some (.int .i64 x.from_) ∧ W1.drew.cell? ⟨w.heap.size, 2, none⟩ = some (.slice A2 x.text.length c2) ∧ W1.drew.cell? ⟨w.heap.size, 3, none⟩ = some (.slice A3 x.list.length c3) ∧ W1.drew.cell? ⟨w.heap.size, 4, none⟩ = some (.slice (some ⟨b, off, none⟩) x.seen.length c4) ∧ KS W1 W1.drew := ⟨y0, y1, y2, y3, y4, y5, y6, y7, KS.start _⟩
            clear y0 y1 y2 y3 y4 y5 y6 y7
            refine wp_region_held_drew (S := fun W => W.cell? ⟨wr.heap.size, 0, none⟩ = some (.int .i64 s.client) ∧ W.cell? ⟨wr.heap.size, 1, none⟩ = some (.int .i64 s.seq) ∧ W.cell? ⟨wr.heap.size, 2, none⟩ = some (.int .i64 s.rev) ∧ W.cell? ⟨w.heap.size, 0, none⟩ = some (.string x.name) ∧ W.cell? ⟨w.heap.size, 1, none⟩ = some (.int .i64 x.from_) ∧ W.cell? ⟨w.heap.size, 2, none⟩ = some (.slice A2 x.text.length c2) ∧ W.cell? ⟨w.heap.size, 3, none⟩ = some (.slice A3 x.list.length c3) ∧ W.cell? ⟨w.heap.size, 4, none⟩ = some (.slice (some ⟨b, off, none⟩) x.seen.length c4) ∧ KS W1 W) (by kernel_rfl) hS0 (fun hS => ?_)
            clear hS0
            refine tk (v := .pointer (some ⟨wr.heap.size, 0, none⟩)) 0 70 rfl (fun w' hS' => ?_) hS ?_
            · (try dsimp only at hS'); go_simp
            try simp only [Act.put, pa, pb, pc]
            refine tk (v := .int .i64 s.client) 1 71 rfl (fun w' hS' => ?_) hS ?_
            · (try dsimp only at hS'); go_simp
            try simp only [Act.put, pa, pb, pc]
            refine r1 2 (some 72) rfl (fun K hK => ?_)
            go_simp
            refine (in_any _ _ _ _).mono ?_
            rw [h1]
            rintro e w2 ⟨rfl, rfl⟩
            refine hK.out _ _ hS (fun hS => ?_)
            clear hK K
            try simp only [Act.put, pa, pb, pc]
            refine tk (v := .bool true) 3 73 rfl (fun w' hS' => ?_) hS ?_
            · (try dsimp only at hS'); go_simp
            try simp only [Act.put, pa, pb, pc]
            refine tk (v := .bool true) 4 74 rfl (fun w' hS' => ?_) hS ?_
            · (try dsimp only at hS'); go_simp
            try simp only [Act.put, pa, pb, pc]
            refine tu 5 75 rfl hS ?_
            try simp only [Act.put, pa, pb, pc]
            refine tu 6 76 rfl hS ?_
            try simp only [Act.put, pa, pb, pc]
            refine tu 7 77 rfl hS ?_
            try simp only [Act.put, pa, pb, pc]
            refine tu 8 78 rfl hS ?_
            try simp only [Act.put, pa, pb, pc]
            refine tk (v := .bool true) 9 79 rfl (fun w' hS' => ?_) hS ?_
            · (try dsimp only at hS'); go_simp
            try simp only [Act.put, pa, pb, pc]
            refine tk (v := .bool true) 10 80 rfl (fun w' hS' => ?_) hS ?_
            · (try dsimp only at hS'); go_simp
            try simp only [Act.put, pa, pb, pc]
            refine tu 11 81 rfl hS ?_
            try simp only [Act.put, pa, pb, pc]
            refine tu 12 82 rfl hS ?_
            try simp only [Act.put, pa, pb, pc]
            refine tu 13 83 rfl hS ?_
            try simp only [Act.put, pa, pb, pc]
            refine tu 14 84 rfl hS ?_
            try simp only [Act.put, pa, pb, pc]
            refine tu 15 85 rfl hS ?_
            try simp only [Act.put, pa, pb, pc]
            refine tu 16 86 rfl hS ?_
            try simp only [Act.put, pa, pb, pc]
            refine tk (v := .bool true) 17 87 rfl (fun w' hS' => ?_) hS ?_
            · (try dsimp only at hS'); go_simp
            try simp only [Act.put, pa, pb, pc]
            refine tk (v := .bool true) 18 88 rfl (fun w' hS' => ?_) hS ?_
            · (try dsimp only at hS'); go_simp
            try simp only [Act.put, pa, pb, pc]
            refine tu 19 89 rfl hS ?_
            try simp only [Act.put, pa, pb, pc]
            refine tu 20 90 rfl hS ?_
            try simp only [Act.put, pa, pb, pc]
            refine tu 21 91 rfl hS ?_
            try simp only [Act.put, pa, pb, pc]
            refine tu 22 92 rfl hS ?_
            try simp only [Act.put, pa, pb, pc]
            refine tu 23 93 rfl hS ?_
            try simp only [Act.put, pa, pb, pc]
            refine tu 24 94 rfl hS ?_
            try simp only [Act.put, pa, pb, pc]
            refine tu 25 95 rfl hS ?_
            try simp only [Act.put, pa, pb, pc]
            refine tu 26 96 rfl hS ?_
            try simp only [Act.put, pa, pb, pc]
            refine tu 27 97 rfl hS ?_
            try simp only [Act.put, pa, pb, pc]
            refine tu 28 98 rfl hS ?_
            try simp only [Act.put, pa, pb, pc]
            refine tu 29 99 rfl hS ?_
            try simp only [Act.put, pa, pb, pc]
            refine tu 30 100 rfl hS ?_
            try simp only [Act.put, pa, pb, pc]
            refine tu 31 101 rfl hS ?_
            try simp only [Act.put, pa, pb, pc]
            refine tu 32 102 rfl hS ?_
            try simp only [Act.put, pa, pb, pc]
            refine tk (v := .bool true) 33 103 rfl (fun w' hS' => ?_) hS ?_
            · (try dsimp only at hS'); go_simp
            try simp only [Act.put, pa, pb, pc]
            refine wpAnyH_done (by kernel_rfl) ?_ _
            have HK : Below w.heap.size w _ := hbel.trans ((bA.trans (hS.2.2.2.2.2.2.2.2.mono bA.size)).mono hbel.size)
            have HBX2 := Lib.hid (bxD.past hS.2.2.2.2.2.2.2.2)
            have HKH := Lib.hid HK
            clear hS SX RD HK
            go_wp2
            go_ret
            exact ⟨ret_b (by rw [HDC.out, HS.out]; rw [show seenOneB (headRevT x) (prevOf x.seen j) s = false by unfold seenOneB; rw [h1]; simp]; rfl), HKH.out⟩
          cases h2 : inB s.seq 1 1000000000
          · go_wp2
            generalize wr.alloc (.cells #[.int .i64 s.client, .int .i64 s.seq, .int .i64 s.rev] 102) = W1 at bA bxS bxD ⊢
            have y0 : W1.cell? ⟨wr.heap.size, 0, none⟩ = some (.int .i64 s.client) := bxS.cell rfl
            have y1 : W1.cell? ⟨wr.heap.size, 1, none⟩ = some (.int .i64 s.seq) := bxS.cell rfl
            have y2 : W1.cell? ⟨wr.heap.size, 2, none⟩ = some (.int .i64 s.rev) := bxS.cell rfl
            have y3 : W1.cell? ⟨w.heap.size, 0, none⟩ = some (.string x.name) := bxD.cell rfl
            have y4 : W1.cell? ⟨w.heap.size, 1, none⟩ = some (.int .i64 x.from_) := bxD.cell rfl
            have y5 : W1.cell? ⟨w.heap.size, 2, none⟩ = some (.slice A2 x.text.length c2) := bxD.cell rfl
            have y6 : W1.cell? ⟨w.heap.size, 3, none⟩ = some (.slice A3 x.list.length c3) := bxD.cell rfl
            have y7 : W1.cell? ⟨w.heap.size, 4, none⟩ = some (.slice (some ⟨b, off, none⟩) x.seen.length c4) := bxD.cell rfl
            have lS := bxS.lt
            have lD := bxD.lt
            have SX := Lib.hid (show ∀ (W W' : World), (W.cell? ⟨wr.heap.size, 0, none⟩ = some (.int .i64 s.client) ∧ W.cell? ⟨wr.heap.size, 1, none⟩ = some (.int .i64 s.seq) ∧ W.cell? ⟨wr.heap.size, 2, none⟩ = some (.int .i64 s.rev) ∧ W.cell? ⟨w.heap.size, 0, none⟩ = some (.string x.name) ∧ W.cell? ⟨w.heap.size, 1, none⟩ = some (.int .i64 x.from_) ∧ W.cell? ⟨w.heap.size, 2, none⟩ = some (.slice A2 x.text.length c2) ∧ W.cell? ⟨w.heap.size, 3, none⟩ = some (.slice A3 x.list.length c3) ∧ W.cell? ⟨w.heap.size, 4, none⟩ = some (.slice (some ⟨b, off, none⟩) x.seen.length c4) ∧ KS W1 W) → Below W.heap.size W W' → (W'.cell? ⟨wr.heap.size, 0, none⟩ = some (.int .i64 s.client) ∧ W'.cell? ⟨wr.heap.size, 1, none⟩ = some (.int .i64 s.seq) ∧ W'.cell? ⟨wr.heap.size, 2, none⟩ = some (.int .i64 s.rev) ∧ W'.cell? ⟨w.heap.size, 0, none⟩ = some (.string x.name) ∧ W'.cell? ⟨w.heap.size, 1, none⟩ = some (.int .i64 x.from_) ∧ W'.cell? ⟨w.heap.size, 2, none⟩ = some (.slice A2 x.text.length c2) ∧ W'.cell? ⟨w.heap.size, 3, none⟩ = some (.slice A3 x.list.length c3) ∧ W'.cell? ⟨w.heap.size, 4, none⟩ = some (.slice (some ⟨b, off, none⟩) x.seen.length c4) ∧ KS W1 W') from fun W W' h hb => by have hk := h.2.2.2.2.2.2.2.2; have hkk : KS W1 W' := hk.trans (hb.mono hk.size); exact ⟨(hkk.cell (p := ⟨wr.heap.size, 0, none⟩) lS).trans y0, (hkk.cell (p := ⟨wr.heap.size, 1, none⟩) lS).trans y1, (hkk.cell (p := ⟨wr.heap.size, 2, none⟩) lS).trans y2, (hkk.cell (p := ⟨w.heap.size, 0, none⟩) lD).trans y3, (hkk.cell (p := ⟨w.heap.size, 1, none⟩) lD).trans y4, (hkk.cell (p := ⟨w.heap.size, 2, none⟩) lD).trans y5, (hkk.cell (p := ⟨w.heap.size, 3, none⟩) lD).trans y6, (hkk.cell (p := ⟨w.heap.size, 4, none⟩) lD).trans y7, hkk⟩)
            have RD := Lib.hid (show ∀ W : World, (W.cell? ⟨wr.heap.size, 0, none⟩ = some (.int .i64 s.client) ∧ W.cell? ⟨wr.heap.size, 1, none⟩ = some (.int .i64 s.seq) ∧ W.cell? ⟨wr.heap.size, 2, none⟩ = some (.int .i64 s.rev) ∧ W.cell? ⟨w.heap.size, 0, none⟩ = some (.string x.name) ∧ W.cell? ⟨w.heap.size, 1, none⟩ = some (.int .i64 x.from_) ∧ W.cell? ⟨w.heap.size, 2, none⟩ = some (.slice A2 x.text.length c2) ∧ W.cell? ⟨w.heap.size, 3, none⟩ = some (.slice A3 x.list.length c3) ∧ W.cell? ⟨w.heap.size, 4, none⟩ = some (.slice (some ⟨b, off, none⟩) x.seen.length c4) ∧ KS W1 W) → RdC W W.heap.size (datDo x) (.agg #[.string x.name, .int .i64 x.from_, .slice A2 x.text.length c2, .slice A3 x.list.length c3, .slice (some ⟨b, off, none⟩) x.seen.length c4]) from fun W h => by have hk : Below W1.heap.size W1 W := h.2.2.2.2.2.2.2.2; exact (HR.out.past (hbel.trans (bA.mono hbel.size))).past hk)
            have hS0 : W1.drew.cell? ⟨wr.heap.size, 0, none⟩ = some (.int .i64 s.client) ∧ W1.drew.cell? ⟨wr.heap.size, 1, none⟩ = some (.int .i64 s.seq) ∧ W1.drew.cell? ⟨wr.heap.size, 2, none⟩ = some (.int .i64 s.rev) ∧ W1.drew.cell? ⟨w.heap.size, 0, none⟩ = some (.string x.name) ∧ W1.drew.cell? ⟨w.heap.size, 1, none⟩ = some (.int .i64 x.from_) ∧ W1.drew.cell? ⟨w.heap.size, 2, none⟩ = some (.slice A2 x.text.length c2) ∧ W1.drew.cell? ⟨w.heap.size, 3, none⟩ = some (.slice A3 x.list.length c3) ∧ W1.drew.cell? ⟨w.heap.size, 4, none⟩ = some (.slice (some ⟨b, off, none⟩) x.seen.length c4) ∧ KS W1 W1.drew := ⟨y0, y1, y2, y3, y4, y5, y6, y7, KS.start _⟩
            clear y0 y1 y2 y3 y4 y5 y6 y7
            refine wp_region_held_drew (S := fun W => W.cell? ⟨wr.heap.size, 0, none⟩ = some (.int .i64 s.client) ∧ W.cell? ⟨wr.heap.size, 1, none⟩ = some (.int .i64 s.seq) ∧ W.cell? ⟨wr.heap.size, 2, none⟩ = some (.int .i64 s.rev) ∧ W.cell? ⟨w.heap.size, 0, none⟩ = some (.string x.name) ∧ W.cell? ⟨w.heap.size, 1, none⟩ = some (.int .i64 x.from_) ∧ W.cell? ⟨w.heap.size, 2, none⟩ = some (.slice A2 x.text.length c2) ∧ W.cell? ⟨w.heap.size, 3, none⟩ = some (.slice A3 x.list.length c3) ∧ W.cell? ⟨w.heap.size, 4, none⟩ = some (.slice (some ⟨b, off, none⟩) x.seen.length c4) ∧ KS W1 W) (by kernel_rfl) hS0 (fun hS => ?_)
            clear hS0
            refine tk (v := .pointer (some ⟨wr.heap.size, 0, none⟩)) 0 70 rfl (fun w' hS' => ?_) hS ?_
            · (try dsimp only at hS'); go_simp
            try simp only [Act.put, pa, pb, pc]
            refine tk (v := .int .i64 s.client) 1 71 rfl (fun w' hS' => ?_) hS ?_
            · (try dsimp only at hS'); go_simp
            try simp only [Act.put, pa, pb, pc]
            refine r1 2 (some 72) rfl (fun K hK => ?_)
            go_simp
            refine (in_any _ _ _ _).mono ?_
            rw [h1]
            rintro e w2 ⟨rfl, rfl⟩
            refine hK.out _ _ hS (fun hS => ?_)
            clear hK K
            try simp only [Act.put, pa, pb, pc]
            refine tk (v := .bool false) 3 73 rfl (fun w' hS' => ?_) hS ?_
            · (try dsimp only at hS'); go_simp
            try simp only [Act.put, pa, pb, pc]
            refine tk (v := .bool false) 4 74 rfl (fun w' hS' => ?_) hS ?_
            · (try dsimp only at hS'); go_simp
            try simp only [Act.put, pa, pb, pc]
            refine tk (v := .pointer (some ⟨wr.heap.size, 1, none⟩)) 5 75 rfl (fun w' hS' => ?_) hS ?_
            · (try dsimp only at hS'); go_simp
            try simp only [Act.put, pa, pb, pc]
            refine tk (v := .int .i64 s.seq) 6 76 rfl (fun w' hS' => ?_) hS ?_
            · (try dsimp only at hS'); go_simp
            try simp only [Act.put, pa, pb, pc]
            refine r1 7 (some 77) rfl (fun K hK => ?_)
            go_simp
            refine (in_any _ _ _ _).mono ?_
            rw [h2]
            rintro e w2 ⟨rfl, rfl⟩
            refine hK.out _ _ hS (fun hS => ?_)
            clear hK K
            try simp only [Act.put, pa, pb, pc]
            refine tk (v := .bool true) 8 78 rfl (fun w' hS' => ?_) hS ?_
            · (try dsimp only at hS'); go_simp
            try simp only [Act.put, pa, pb, pc]
            refine tk (v := .bool true) 9 79 rfl (fun w' hS' => ?_) hS ?_
            · (try dsimp only at hS'); go_simp
            try simp only [Act.put, pa, pb, pc]
            refine tk (v := .bool true) 10 80 rfl (fun w' hS' => ?_) hS ?_
            · (try dsimp only at hS'); go_simp
            try simp only [Act.put, pa, pb, pc]
            refine tu 11 81 rfl hS ?_
            try simp only [Act.put, pa, pb, pc]
            refine tu 12 82 rfl hS ?_
            try simp only [Act.put, pa, pb, pc]
            refine tu 13 83 rfl hS ?_
            try simp only [Act.put, pa, pb, pc]
            refine tu 14 84 rfl hS ?_
            try simp only [Act.put, pa, pb, pc]
            refine tu 15 85 rfl hS ?_
            try simp only [Act.put, pa, pb, pc]
            refine tu 16 86 rfl hS ?_
            try simp only [Act.put, pa, pb, pc]
            refine tk (v := .bool true) 17 87 rfl (fun w' hS' => ?_) hS ?_
            · (try dsimp only at hS'); go_simp
            try simp only [Act.put, pa, pb, pc]
            refine tk (v := .bool true) 18 88 rfl (fun w' hS' => ?_) hS ?_
            · (try dsimp only at hS'); go_simp
            try simp only [Act.put, pa, pb, pc]
            refine tu 19 89 rfl hS ?_
            try simp only [Act.put, pa, pb, pc]
            refine tu 20 90 rfl hS ?_
            try simp only [Act.put, pa, pb, pc]
            refine tu 21 91 rfl hS ?_
            try simp only [Act.put, pa, pb, pc]
            refine tu 22 92 rfl hS ?_
            try simp only [Act.put, pa, pb, pc]
            refine tu 23 93 rfl hS ?_
            try simp only [Act.put, pa, pb, pc]
            refine tu 24 94 rfl hS ?_
            try simp only [Act.put, pa, pb, pc]
            refine tu 25 95 rfl hS ?_
            try simp only [Act.put, pa, pb, pc]
            refine tu 26 96 rfl hS ?_
            try simp only [Act.put, pa, pb, pc]
            refine tu 27 97 rfl hS ?_
            try simp only [Act.put, pa, pb, pc]
            refine tu 28 98 rfl hS ?_
            try simp only [Act.put, pa, pb, pc]
            refine tu 29 99 rfl hS ?_
            try simp only [Act.put, pa, pb, pc]
            refine tu 30 100 rfl hS ?_
            try simp only [Act.put, pa, pb, pc]
            refine tu 31 101 rfl hS ?_
            try simp only [Act.put, pa, pb, pc]
            refine tu 32 102 rfl hS ?_
            try simp only [Act.put, pa, pb, pc]
            refine tk (v := .bool true) 33 103 rfl (fun w' hS' => ?_) hS ?_
            · (try dsimp only at hS'); go_simp
            try simp only [Act.put, pa, pb, pc]
            refine wpAnyH_done (by kernel_rfl) ?_ _
            have HK : Below w.heap.size w _ := hbel.trans ((bA.trans (hS.2.2.2.2.2.2.2.2.mono bA.size)).mono hbel.size)
            have HBX2 := Lib.hid (bxD.past hS.2.2.2.2.2.2.2.2)
            have HKH := Lib.hid HK
            clear hS SX RD HK
            go_wp2
            go_ret
            exact ⟨ret_b (by rw [HDC.out, HS.out]; rw [show seenOneB (headRevT x) (prevOf x.seen j) s = false by unfold seenOneB; rw [h1, h2]; simp]; rfl), HKH.out⟩
          cases h3 : inB s.rev 1 (headRevT x)
          · go_wp2
            generalize wr.alloc (.cells #[.int .i64 s.client, .int .i64 s.seq, .int .i64 s.rev] 102) = W1 at bA bxS bxD ⊢
            have y0 : W1.cell? ⟨wr.heap.size, 0, none⟩ = some (.int .i64 s.client) := bxS.cell rfl
            have y1 : W1.cell? ⟨wr.heap.size, 1, none⟩ = some (.int .i64 s.seq) := bxS.cell rfl
            have y2 : W1.cell? ⟨wr.heap.size, 2, none⟩ = some (.int .i64 s.rev) := bxS.cell rfl
            have y3 : W1.cell? ⟨w.heap.size, 0, none⟩ = some (.string x.name) := bxD.cell rfl
            have y4 : W1.cell? ⟨w.heap.size, 1, none⟩ = some (.int .i64 x.from_) := bxD.cell rfl
            have y5 : W1.cell? ⟨w.heap.size, 2, none⟩ = some (.slice A2 x.text.length c2) := bxD.cell rfl
            have y6 : W1.cell? ⟨w.heap.size, 3, none⟩ = some (.slice A3 x.list.length c3) := bxD.cell rfl
            have y7 : W1.cell? ⟨w.heap.size, 4, none⟩ = some (.slice (some ⟨b, off, none⟩) x.seen.length c4) := bxD.cell rfl
            have lS := bxS.lt
            have lD := bxD.lt
            have SX := Lib.hid (show ∀ (W W' : World), (W.cell? ⟨wr.heap.size, 0, none⟩ = some (.int .i64 s.client) ∧ W.cell? ⟨wr.heap.size, 1, none⟩ = some (.int .i64 s.seq) ∧ W.cell? ⟨wr.heap.size, 2, none⟩ = some (.int .i64 s.rev) ∧ W.cell? ⟨w.heap.size, 0, none⟩ = some (.string x.name) ∧ W.cell? ⟨w.heap.size, 1, none⟩ = some (.int .i64 x.from_) ∧ W.cell? ⟨w.heap.size, 2, none⟩ = some (.slice A2 x.text.length c2) ∧ W.cell? ⟨w.heap.size, 3, none⟩ = some (.slice A3 x.list.length c3) ∧ W.cell? ⟨w.heap.size, 4, none⟩ = some (.slice (some ⟨b, off, none⟩) x.seen.length c4) ∧ KS W1 W) → Below W.heap.size W W' → (W'.cell? ⟨wr.heap.size, 0, none⟩ = some (.int .i64 s.client) ∧ W'.cell? ⟨wr.heap.size, 1, none⟩ = some (.int .i64 s.seq) ∧ W'.cell? ⟨wr.heap.size, 2, none⟩ = some (.int .i64 s.rev) ∧ W'.cell? ⟨w.heap.size, 0, none⟩ = some (.string x.name) ∧ W'.cell? ⟨w.heap.size, 1, none⟩ = some (.int .i64 x.from_) ∧ W'.cell? ⟨w.heap.size, 2, none⟩ = some (.slice A2 x.text.length c2) ∧ W'.cell? ⟨w.heap.size, 3, none⟩ = some (.slice A3 x.list.length c3) ∧ W'.cell? ⟨w.heap.size, 4, none⟩ = some (.slice (some ⟨b, off, none⟩) x.seen.length c4) ∧ KS W1 W') from fun W W' h hb => by have hk := h.2.2.2.2.2.2.2.2; have hkk : KS W1 W' := hk.trans (hb.mono hk.size); exact ⟨(hkk.cell (p := ⟨wr.heap.size, 0, none⟩) lS).trans y0, (hkk.cell (p := ⟨wr.heap.size, 1, none⟩) lS).trans y1, (hkk.cell (p := ⟨wr.heap.size, 2, none⟩) lS).trans y2, (hkk.cell (p := ⟨w.heap.size, 0, none⟩) lD).trans y3, (hkk.cell (p := ⟨w.heap.size, 1, none⟩) lD).trans y4, (hkk.cell (p := ⟨w.heap.size, 2, none⟩) lD).trans y5, (hkk.cell (p := ⟨w.heap.size, 3, none⟩) lD).trans y6, (hkk.cell (p := ⟨w.heap.size, 4, none⟩) lD).trans y7, hkk⟩)
            have RD := Lib.hid (show ∀ W : World, (W.cell? ⟨wr.heap.size, 0, none⟩ = some (.int .i64 s.client) ∧ W.cell? ⟨wr.heap.size, 1, none⟩ = some (.int .i64 s.seq) ∧ W.cell? ⟨wr.heap.size, 2, none⟩ = some (.int .i64 s.rev) ∧ W.cell? ⟨w.heap.size, 0, none⟩ = some (.string x.name) ∧ W.cell? ⟨w.heap.size, 1, none⟩ = some (.int .i64 x.from_) ∧ W.cell? ⟨w.heap.size, 2, none⟩ = some (.slice A2 x.text.length c2) ∧ W.cell? ⟨w.heap.size, 3, none⟩ = some (.slice A3 x.list.length c3) ∧ W.cell? ⟨w.heap.size, 4, none⟩ = some (.slice (some ⟨b, off, none⟩) x.seen.length c4) ∧ KS W1 W) → RdC W W.heap.size (datDo x) (.agg #[.string x.name, .int .i64 x.from_, .slice A2 x.text.length c2, .slice A3 x.list.length c3, .slice (some ⟨b, off, none⟩) x.seen.length c4]) from fun W h => by have hk : Below W1.heap.size W1 W := h.2.2.2.2.2.2.2.2; exact (HR.out.past (hbel.trans (bA.mono hbel.size))).past hk)
            have hS0 : W1.drew.cell? ⟨wr.heap.size, 0, none⟩ = some (.int .i64 s.client) ∧ W1.drew.cell? ⟨wr.heap.size, 1, none⟩ = some (.int .i64 s.seq) ∧ W1.drew.cell? ⟨wr.heap.size, 2, none⟩ = some (.int .i64 s.rev) ∧ W1.drew.cell? ⟨w.heap.size, 0, none⟩ = some (.string x.name) ∧ W1.drew.cell? ⟨w.heap.size, 1, none⟩ = some (.int .i64 x.from_) ∧ W1.drew.cell? ⟨w.heap.size, 2, none⟩ = some (.slice A2 x.text.length c2) ∧ W1.drew.cell? ⟨w.heap.size, 3, none⟩ = some (.slice A3 x.list.length c3) ∧ W1.drew.cell? ⟨w.heap.size, 4, none⟩ = some (.slice (some ⟨b, off, none⟩) x.seen.length c4) ∧ KS W1 W1.drew := ⟨y0, y1, y2, y3, y4, y5, y6, y7, KS.start _⟩
            clear y0 y1 y2 y3 y4 y5 y6 y7
            refine wp_region_held_drew (S := fun W => W.cell? ⟨wr.heap.size, 0, none⟩ = some (.int .i64 s.client) ∧ W.cell? ⟨wr.heap.size, 1, none⟩ = some (.int .i64 s.seq) ∧ W.cell? ⟨wr.heap.size, 2, none⟩ = some (.int .i64 s.rev) ∧ W.cell? ⟨w.heap.size, 0, none⟩ = some (.string x.name) ∧ W.cell? ⟨w.heap.size, 1, none⟩ = some (.int .i64 x.from_) ∧ W.cell? ⟨w.heap.size, 2, none⟩ = some (.slice A2 x.text.length c2) ∧ W.cell? ⟨w.heap.size, 3, none⟩ = some (.slice A3 x.list.length c3) ∧ W.cell? ⟨w.heap.size, 4, none⟩ = some (.slice (some ⟨b, off, none⟩) x.seen.length c4) ∧ KS W1 W) (by kernel_rfl) hS0 (fun hS => ?_)
            clear hS0
            refine tk (v := .pointer (some ⟨wr.heap.size, 0, none⟩)) 0 70 rfl (fun w' hS' => ?_) hS ?_
            · (try dsimp only at hS'); go_simp
            try simp only [Act.put, pa, pb, pc]
            refine tk (v := .int .i64 s.client) 1 71 rfl (fun w' hS' => ?_) hS ?_
            · (try dsimp only at hS'); go_simp
            try simp only [Act.put, pa, pb, pc]
            refine r1 2 (some 72) rfl (fun K hK => ?_)
            go_simp
            refine (in_any _ _ _ _).mono ?_
            rw [h1]
            rintro e w2 ⟨rfl, rfl⟩
            refine hK.out _ _ hS (fun hS => ?_)
            clear hK K
            try simp only [Act.put, pa, pb, pc]
            refine tk (v := .bool false) 3 73 rfl (fun w' hS' => ?_) hS ?_
            · (try dsimp only at hS'); go_simp
            try simp only [Act.put, pa, pb, pc]
            refine tk (v := .bool false) 4 74 rfl (fun w' hS' => ?_) hS ?_
            · (try dsimp only at hS'); go_simp
            try simp only [Act.put, pa, pb, pc]
            refine tk (v := .pointer (some ⟨wr.heap.size, 1, none⟩)) 5 75 rfl (fun w' hS' => ?_) hS ?_
            · (try dsimp only at hS'); go_simp
            try simp only [Act.put, pa, pb, pc]
            refine tk (v := .int .i64 s.seq) 6 76 rfl (fun w' hS' => ?_) hS ?_
            · (try dsimp only at hS'); go_simp
            try simp only [Act.put, pa, pb, pc]
            refine r1 7 (some 77) rfl (fun K hK => ?_)
            go_simp
            refine (in_any _ _ _ _).mono ?_
            rw [h2]
            rintro e w2 ⟨rfl, rfl⟩
            refine hK.out _ _ hS (fun hS => ?_)
            clear hK K
            try simp only [Act.put, pa, pb, pc]
            refine tk (v := .bool false) 8 78 rfl (fun w' hS' => ?_) hS ?_
            · (try dsimp only at hS'); go_simp
            try simp only [Act.put, pa, pb, pc]
            refine tk (v := .bool false) 9 79 rfl (fun w' hS' => ?_) hS ?_
            · (try dsimp only at hS'); go_simp
            try simp only [Act.put, pa, pb, pc]
            refine tk (v := .bool false) 10 80 rfl (fun w' hS' => ?_) hS ?_
            · (try dsimp only at hS'); go_simp
            try simp only [Act.put, pa, pb, pc]
            refine tk (v := .pointer (some ⟨wr.heap.size, 2, none⟩)) 11 81 rfl (fun w' hS' => ?_) hS ?_
            · (try dsimp only at hS'); go_simp
            try simp only [Act.put, pa, pb, pc]
            refine tk (v := .int .i64 s.rev) 12 82 rfl (fun w' hS' => ?_) hS ?_
            · (try dsimp only at hS'); go_simp
            try simp only [Act.put, pa, pb, pc]
            refine tk (v := .agg #[.string x.name, .int .i64 x.from_, .slice A2 x.text.length c2, .slice A3 x.list.length c3, .slice (some ⟨b, off, none⟩) x.seen.length c4]) 13 83 rfl (fun w' hS' => ?_) hS ?_
            · (try dsimp only at hS'); go_simp
            try simp only [Act.put, pa, pb, pc]
            refine r1 14 (some 84) rfl (fun K hK => ?_)
            go_simp
            refine (specHeadRev_w _ x _ (RD.out _ hS)).mono ?_
            rintro e w2 ⟨rfl, b2⟩
            refine hK.out _ _ (SX.out _ _ hS b2) (fun hS => ?_)
            clear hK K
            try simp only [Act.put, pa, pb, pc]
            refine r1 15 (some 85) rfl (fun K hK => ?_)
            go_simp
            refine (in_any _ _ _ _).mono ?_
            rw [h3]
            rintro e w2 ⟨rfl, rfl⟩
            refine hK.out _ _ hS (fun hS => ?_)
            clear hK K
            try simp only [Act.put, pa, pb, pc]
            refine tk (v := .bool true) 16 86 rfl (fun w' hS' => ?_) hS ?_
            · (try dsimp only at hS'); go_simp
            try simp only [Act.put, pa, pb, pc]
            refine tk (v := .bool true) 17 87 rfl (fun w' hS' => ?_) hS ?_
            · (try dsimp only at hS'); go_simp
            try simp only [Act.put, pa, pb, pc]
            refine tk (v := .bool true) 18 88 rfl (fun w' hS' => ?_) hS ?_
            · (try dsimp only at hS'); go_simp
            try simp only [Act.put, pa, pb, pc]
            refine tu 19 89 rfl hS ?_
            try simp only [Act.put, pa, pb, pc]
            refine tu 20 90 rfl hS ?_
            try simp only [Act.put, pa, pb, pc]
            refine tu 21 91 rfl hS ?_
            try simp only [Act.put, pa, pb, pc]
            refine tu 22 92 rfl hS ?_
            try simp only [Act.put, pa, pb, pc]
            refine tu 23 93 rfl hS ?_
            try simp only [Act.put, pa, pb, pc]
            refine tu 24 94 rfl hS ?_
            try simp only [Act.put, pa, pb, pc]
            refine tu 25 95 rfl hS ?_
            try simp only [Act.put, pa, pb, pc]
            refine tu 26 96 rfl hS ?_
            try simp only [Act.put, pa, pb, pc]
            refine tu 27 97 rfl hS ?_
            try simp only [Act.put, pa, pb, pc]
            refine tu 28 98 rfl hS ?_
            try simp only [Act.put, pa, pb, pc]
            refine tu 29 99 rfl hS ?_
            try simp only [Act.put, pa, pb, pc]
            refine tu 30 100 rfl hS ?_
            try simp only [Act.put, pa, pb, pc]
            refine tu 31 101 rfl hS ?_
            try simp only [Act.put, pa, pb, pc]
            refine tu 32 102 rfl hS ?_
            try simp only [Act.put, pa, pb, pc]
            refine tk (v := .bool true) 33 103 rfl (fun w' hS' => ?_) hS ?_
            · (try dsimp only at hS'); go_simp
            try simp only [Act.put, pa, pb, pc]
            refine wpAnyH_done (by kernel_rfl) ?_ _
            have HK : Below w.heap.size w _ := hbel.trans ((bA.trans (hS.2.2.2.2.2.2.2.2.mono bA.size)).mono hbel.size)
            have HBX2 := Lib.hid (bxD.past hS.2.2.2.2.2.2.2.2)
            have HKH := Lib.hid HK
            clear hS SX RD HK
            go_wp2
            go_ret
            exact ⟨ret_b (by rw [HDC.out, HS.out]; rw [show seenOneB (headRevT x) (prevOf x.seen j) s = false by unfold seenOneB; rw [h1, h2, h3]; simp]; rfl), HKH.out⟩
          cases j with
          | zero =>
            have HN := Lib.hid (show docB x = seenAllB (headRevT x) (prevOf x.seen (0 + 1)) (x.seen.drop (0 + 1)) by rw [HDC.out, HS.out, show seenOneB (headRevT x) (prevOf x.seen 0) s = true by unfold seenOneB prevOf; rw [h1, h2, h3]; rfl]; rfl)
            rw [Nat.zero_mul, Nat.add_zero] at z0
            rw [Nat.zero_mul, Nat.add_zero] at z1
            rw [Nat.zero_mul, Nat.add_zero] at z2
            go_wp2
            generalize wr.alloc (.cells #[.int .i64 s.client, .int .i64 s.seq, .int .i64 s.rev] 102) = W1 at bA bxS bxD ⊢
            have y0 : W1.cell? ⟨wr.heap.size, 0, none⟩ = some (.int .i64 s.client) := bxS.cell rfl
            have y1 : W1.cell? ⟨wr.heap.size, 1, none⟩ = some (.int .i64 s.seq) := bxS.cell rfl
            have y2 : W1.cell? ⟨wr.heap.size, 2, none⟩ = some (.int .i64 s.rev) := bxS.cell rfl
            have y3 : W1.cell? ⟨w.heap.size, 0, none⟩ = some (.string x.name) := bxD.cell rfl
            have y4 : W1.cell? ⟨w.heap.size, 1, none⟩ = some (.int .i64 x.from_) := bxD.cell rfl
            have y5 : W1.cell? ⟨w.heap.size, 2, none⟩ = some (.slice A2 x.text.length c2) := bxD.cell rfl
            have y6 : W1.cell? ⟨w.heap.size, 3, none⟩ = some (.slice A3 x.list.length c3) := bxD.cell rfl
            have y7 : W1.cell? ⟨w.heap.size, 4, none⟩ = some (.slice (some ⟨b, off, none⟩) x.seen.length c4) := bxD.cell rfl
            have lS := bxS.lt
            have lD := bxD.lt
            have SX := Lib.hid (show ∀ (W W' : World), (W.cell? ⟨wr.heap.size, 0, none⟩ = some (.int .i64 s.client) ∧ W.cell? ⟨wr.heap.size, 1, none⟩ = some (.int .i64 s.seq) ∧ W.cell? ⟨wr.heap.size, 2, none⟩ = some (.int .i64 s.rev) ∧ W.cell? ⟨w.heap.size, 0, none⟩ = some (.string x.name) ∧ W.cell? ⟨w.heap.size, 1, none⟩ = some (.int .i64 x.from_) ∧ W.cell? ⟨w.heap.size, 2, none⟩ = some (.slice A2 x.text.length c2) ∧ W.cell? ⟨w.heap.size, 3, none⟩ = some (.slice A3 x.list.length c3) ∧ W.cell? ⟨w.heap.size, 4, none⟩ = some (.slice (some ⟨b, off, none⟩) x.seen.length c4) ∧ KS W1 W) → Below W.heap.size W W' → (W'.cell? ⟨wr.heap.size, 0, none⟩ = some (.int .i64 s.client) ∧ W'.cell? ⟨wr.heap.size, 1, none⟩ = some (.int .i64 s.seq) ∧ W'.cell? ⟨wr.heap.size, 2, none⟩ = some (.int .i64 s.rev) ∧ W'.cell? ⟨w.heap.size, 0, none⟩ = some (.string x.name) ∧ W'.cell? ⟨w.heap.size, 1, none⟩ = some (.int .i64 x.from_) ∧ W'.cell? ⟨w.heap.size, 2, none⟩ = some (.slice A2 x.text.length c2) ∧ W'.cell? ⟨w.heap.size, 3, none⟩ = some (.slice A3 x.list.length c3) ∧ W'.cell? ⟨w.heap.size, 4, none⟩ = some (.slice (some ⟨b, off, none⟩) x.seen.length c4) ∧ KS W1 W') from fun W W' h hb => by have hk := h.2.2.2.2.2.2.2.2; have hkk : KS W1 W' := hk.trans (hb.mono hk.size); exact ⟨(hkk.cell (p := ⟨wr.heap.size, 0, none⟩) lS).trans y0, (hkk.cell (p := ⟨wr.heap.size, 1, none⟩) lS).trans y1, (hkk.cell (p := ⟨wr.heap.size, 2, none⟩) lS).trans y2, (hkk.cell (p := ⟨w.heap.size, 0, none⟩) lD).trans y3, (hkk.cell (p := ⟨w.heap.size, 1, none⟩) lD).trans y4, (hkk.cell (p := ⟨w.heap.size, 2, none⟩) lD).trans y5, (hkk.cell (p := ⟨w.heap.size, 3, none⟩) lD).trans y6, (hkk.cell (p := ⟨w.heap.size, 4, none⟩) lD).trans y7, hkk⟩)
            have RD := Lib.hid (show ∀ W : World, (W.cell? ⟨wr.heap.size, 0, none⟩ = some (.int .i64 s.client) ∧ W.cell? ⟨wr.heap.size, 1, none⟩ = some (.int .i64 s.seq) ∧ W.cell? ⟨wr.heap.size, 2, none⟩ = some (.int .i64 s.rev) ∧ W.cell? ⟨w.heap.size, 0, none⟩ = some (.string x.name) ∧ W.cell? ⟨w.heap.size, 1, none⟩ = some (.int .i64 x.from_) ∧ W.cell? ⟨w.heap.size, 2, none⟩ = some (.slice A2 x.text.length c2) ∧ W.cell? ⟨w.heap.size, 3, none⟩ = some (.slice A3 x.list.length c3) ∧ W.cell? ⟨w.heap.size, 4, none⟩ = some (.slice (some ⟨b, off, none⟩) x.seen.length c4) ∧ KS W1 W) → RdC W W.heap.size (datDo x) (.agg #[.string x.name, .int .i64 x.from_, .slice A2 x.text.length c2, .slice A3 x.list.length c3, .slice (some ⟨b, off, none⟩) x.seen.length c4]) from fun W h => by have hk : Below W1.heap.size W1 W := h.2.2.2.2.2.2.2.2; exact (HR.out.past (hbel.trans (bA.mono hbel.size))).past hk)
            have hS0 : W1.drew.cell? ⟨wr.heap.size, 0, none⟩ = some (.int .i64 s.client) ∧ W1.drew.cell? ⟨wr.heap.size, 1, none⟩ = some (.int .i64 s.seq) ∧ W1.drew.cell? ⟨wr.heap.size, 2, none⟩ = some (.int .i64 s.rev) ∧ W1.drew.cell? ⟨w.heap.size, 0, none⟩ = some (.string x.name) ∧ W1.drew.cell? ⟨w.heap.size, 1, none⟩ = some (.int .i64 x.from_) ∧ W1.drew.cell? ⟨w.heap.size, 2, none⟩ = some (.slice A2 x.text.length c2) ∧ W1.drew.cell? ⟨w.heap.size, 3, none⟩ = some (.slice A3 x.list.length c3) ∧ W1.drew.cell? ⟨w.heap.size, 4, none⟩ = some (.slice (some ⟨b, off, none⟩) x.seen.length c4) ∧ KS W1 W1.drew := ⟨y0, y1, y2, y3, y4, y5, y6, y7, KS.start _⟩
            clear y0 y1 y2 y3 y4 y5 y6 y7
            refine wp_region_held_drew (S := fun W => W.cell? ⟨wr.heap.size, 0, none⟩ = some (.int .i64 s.client) ∧ W.cell? ⟨wr.heap.size, 1, none⟩ = some (.int .i64 s.seq) ∧ W.cell? ⟨wr.heap.size, 2, none⟩ = some (.int .i64 s.rev) ∧ W.cell? ⟨w.heap.size, 0, none⟩ = some (.string x.name) ∧ W.cell? ⟨w.heap.size, 1, none⟩ = some (.int .i64 x.from_) ∧ W.cell? ⟨w.heap.size, 2, none⟩ = some (.slice A2 x.text.length c2) ∧ W.cell? ⟨w.heap.size, 3, none⟩ = some (.slice A3 x.list.length c3) ∧ W.cell? ⟨w.heap.size, 4, none⟩ = some (.slice (some ⟨b, off, none⟩) x.seen.length c4) ∧ KS W1 W) (by kernel_rfl) hS0 (fun hS => ?_)
            clear hS0
            refine tk (v := .pointer (some ⟨wr.heap.size, 0, none⟩)) 0 70 rfl (fun w' hS' => ?_) hS ?_
            · (try dsimp only at hS'); go_simp
            try simp only [Act.put, pa, pb, pc]
            refine tk (v := .int .i64 s.client) 1 71 rfl (fun w' hS' => ?_) hS ?_
            · (try dsimp only at hS'); go_simp
            try simp only [Act.put, pa, pb, pc]
            refine r1 2 (some 72) rfl (fun K hK => ?_)
            go_simp
            refine (in_any _ _ _ _).mono ?_
            rw [h1]
            rintro e w2 ⟨rfl, rfl⟩
            refine hK.out _ _ hS (fun hS => ?_)
            clear hK K
            try simp only [Act.put, pa, pb, pc]
            refine tk (v := .bool false) 3 73 rfl (fun w' hS' => ?_) hS ?_
            · (try dsimp only at hS'); go_simp
            try simp only [Act.put, pa, pb, pc]
            refine tk (v := .bool false) 4 74 rfl (fun w' hS' => ?_) hS ?_
            · (try dsimp only at hS'); go_simp
            try simp only [Act.put, pa, pb, pc]
            refine tk (v := .pointer (some ⟨wr.heap.size, 1, none⟩)) 5 75 rfl (fun w' hS' => ?_) hS ?_
            · (try dsimp only at hS'); go_simp
            try simp only [Act.put, pa, pb, pc]
            refine tk (v := .int .i64 s.seq) 6 76 rfl (fun w' hS' => ?_) hS ?_
            · (try dsimp only at hS'); go_simp
            try simp only [Act.put, pa, pb, pc]
            refine r1 7 (some 77) rfl (fun K hK => ?_)
            go_simp
            refine (in_any _ _ _ _).mono ?_
            rw [h2]
            rintro e w2 ⟨rfl, rfl⟩
            refine hK.out _ _ hS (fun hS => ?_)
            clear hK K
            try simp only [Act.put, pa, pb, pc]
            refine tk (v := .bool false) 8 78 rfl (fun w' hS' => ?_) hS ?_
            · (try dsimp only at hS'); go_simp
            try simp only [Act.put, pa, pb, pc]
            refine tk (v := .bool false) 9 79 rfl (fun w' hS' => ?_) hS ?_
            · (try dsimp only at hS'); go_simp
            try simp only [Act.put, pa, pb, pc]
            refine tk (v := .bool false) 10 80 rfl (fun w' hS' => ?_) hS ?_
            · (try dsimp only at hS'); go_simp
            try simp only [Act.put, pa, pb, pc]
            refine tk (v := .pointer (some ⟨wr.heap.size, 2, none⟩)) 11 81 rfl (fun w' hS' => ?_) hS ?_
            · (try dsimp only at hS'); go_simp
            try simp only [Act.put, pa, pb, pc]
            refine tk (v := .int .i64 s.rev) 12 82 rfl (fun w' hS' => ?_) hS ?_
            · (try dsimp only at hS'); go_simp
            try simp only [Act.put, pa, pb, pc]
            refine tk (v := .agg #[.string x.name, .int .i64 x.from_, .slice A2 x.text.length c2, .slice A3 x.list.length c3, .slice (some ⟨b, off, none⟩) x.seen.length c4]) 13 83 rfl (fun w' hS' => ?_) hS ?_
            · (try dsimp only at hS'); go_simp
            try simp only [Act.put, pa, pb, pc]
            refine r1 14 (some 84) rfl (fun K hK => ?_)
            go_simp
            refine (specHeadRev_w _ x _ (RD.out _ hS)).mono ?_
            rintro e w2 ⟨rfl, b2⟩
            refine hK.out _ _ (SX.out _ _ hS b2) (fun hS => ?_)
            clear hK K
            try simp only [Act.put, pa, pb, pc]
            refine r1 15 (some 85) rfl (fun K hK => ?_)
            go_simp
            refine (in_any _ _ _ _).mono ?_
            rw [h3]
            rintro e w2 ⟨rfl, rfl⟩
            refine hK.out _ _ hS (fun hS => ?_)
            clear hK K
            try simp only [Act.put, pa, pb, pc]
            refine tk (v := .bool false) 16 86 rfl (fun w' hS' => ?_) hS ?_
            · (try dsimp only at hS'); go_simp
            try simp only [Act.put, pa, pb, pc]
            refine tk (v := .bool false) 17 87 rfl (fun w' hS' => ?_) hS ?_
            · (try dsimp only at hS'); go_simp
            try simp only [Act.put, pa, pb, pc]
            refine tk (v := .bool false) 18 88 rfl (fun w' hS' => ?_) hS ?_
            · (try dsimp only at hS'); go_simp
            try simp only [Act.put, pa, pb, pc]
            refine tk (v := .int .i64 (0 : Int)) 19 89 rfl (fun w' hS' => ?_) hS ?_
            · (try dsimp only at hS'); go_simp
            try simp only [Act.put, pa, pb, pc]
            refine tk (v := .bool false) 20 90 rfl (fun w' hS' => ?_) hS ?_
            · (try dsimp only at hS'); go_simp
            try simp only [Act.put, pa, pb, pc]
            refine tk (v := .bool false) 21 91 rfl (fun w' hS' => ?_) hS ?_
            · (try dsimp only at hS'); go_simp
            try simp only [Act.put, pa, pb, pc]
            refine tu 22 92 rfl hS ?_
            try simp only [Act.put, pa, pb, pc]
            refine tu 23 93 rfl hS ?_
            try simp only [Act.put, pa, pb, pc]
            refine tu 24 94 rfl hS ?_
            try simp only [Act.put, pa, pb, pc]
            refine tu 25 95 rfl hS ?_
            try simp only [Act.put, pa, pb, pc]
            refine tu 26 96 rfl hS ?_
            try simp only [Act.put, pa, pb, pc]
            refine tu 27 97 rfl hS ?_
            try simp only [Act.put, pa, pb, pc]
            refine tu 28 98 rfl hS ?_
            try simp only [Act.put, pa, pb, pc]
            refine tu 29 99 rfl hS ?_
            try simp only [Act.put, pa, pb, pc]
            refine tu 30 100 rfl hS ?_
            try simp only [Act.put, pa, pb, pc]
            refine tu 31 101 rfl hS ?_
            try simp only [Act.put, pa, pb, pc]
            refine tk (v := .bool false) 32 102 rfl (fun w' hS' => ?_) hS ?_
            · (try dsimp only at hS'); go_simp
            try simp only [Act.put, pa, pb, pc]
            refine tk (v := .bool false) 33 103 rfl (fun w' hS' => ?_) hS ?_
            · (try dsimp only at hS'); go_simp
            try simp only [Act.put, pa, pb, pc]
            refine wpAnyH_done (by kernel_rfl) ?_ _
            have HK : Below w.heap.size w _ := hbel.trans ((bA.trans (hS.2.2.2.2.2.2.2.2.mono bA.size)).mono hbel.size)
            have HBX2 := Lib.hid (bxD.past hS.2.2.2.2.2.2.2.2)
            have HKH := Lib.hid HK
            clear hS SX RD HK
            go_wp2
            go_roundw
            case rel => exact ⟨0 + 1, by omega, by go_num, HN.out, HBX2.out, HKH.out⟩
            case measure => simp [intOf]; omega
          | succ k =>
            obtain ⟨p, hpk⟩ : ∃ p, x.seen[k]? = some p := ⟨_, List.getElem?_eq_getElem (by omega)⟩
            obtain ⟨b', off', p', e1, _, hp', zp, _, _⟩ := atSes (r4.below hbel) (i := k) (by omega)
            obtain ⟨rfl, rfl⟩ : b = b' ∧ off = off' := by injection e1 with e1; injection e1 with e1 e2; exact ⟨e1, e2⟩
            obtain rfl : p = p' := by rw [hpk] at hp'; injection hp'
            have HPV := Lib.hid (show prevOf x.seen (k + 1) = some p.client by rw [prevOf, hpk]; rfl)
            clear e1 hp' hpk
            have gw2 : IntKind.i64.wrap (k : Int) = (k : Int) := IntWalk.i64_in _ (by omega)
            have gw3 : (0 : Int) ≤ (k : Int) := by omega
            have gw4 : (k : Int) < (x.seen.length : Int) := by omega
            have gj2 : decide ((0 : Int) < (k : Int) + 1) = true := decide_eq_true (by omega)
            by_cases hpc : s.client ≤ p.client
            · have gp : decide (s.client ≤ p.client) = true := decide_eq_true hpc
              go_wp2
              generalize wr.alloc (.cells #[.int .i64 s.client, .int .i64 s.seq, .int .i64 s.rev] 102) = W1 at bA bxS bxD ⊢
              have y0 : W1.cell? ⟨wr.heap.size, 0, none⟩ = some (.int .i64 s.client) := bxS.cell rfl
              have y1 : W1.cell? ⟨wr.heap.size, 1, none⟩ = some (.int .i64 s.seq) := bxS.cell rfl
              have y2 : W1.cell? ⟨wr.heap.size, 2, none⟩ = some (.int .i64 s.rev) := bxS.cell rfl
              have y3 : W1.cell? ⟨w.heap.size, 0, none⟩ = some (.string x.name) := bxD.cell rfl
              have y4 : W1.cell? ⟨w.heap.size, 1, none⟩ = some (.int .i64 x.from_) := bxD.cell rfl
              have y5 : W1.cell? ⟨w.heap.size, 2, none⟩ = some (.slice A2 x.text.length c2) := bxD.cell rfl
              have y6 : W1.cell? ⟨w.heap.size, 3, none⟩ = some (.slice A3 x.list.length c3) := bxD.cell rfl
              have y7 : W1.cell? ⟨w.heap.size, 4, none⟩ = some (.slice (some ⟨b, off, none⟩) x.seen.length c4) := bxD.cell rfl
              have y8 : W1.cell? ⟨b, off + k * 3, none⟩ = some (.int .i64 p.client) := (bA.cell (p := ⟨b, off + k * 3, none⟩) hbq).trans zp
              have lS := bxS.lt
              have lD := bxD.lt
              have lP : b < W1.heap.size := Nat.lt_of_lt_of_le hbq bA.size
              have SX := Lib.hid (show ∀ (W W' : World), (W.cell? ⟨wr.heap.size, 0, none⟩ = some (.int .i64 s.client) ∧ W.cell? ⟨wr.heap.size, 1, none⟩ = some (.int .i64 s.seq) ∧ W.cell? ⟨wr.heap.size, 2, none⟩ = some (.int .i64 s.rev) ∧ W.cell? ⟨w.heap.size, 0, none⟩ = some (.string x.name) ∧ W.cell? ⟨w.heap.size, 1, none⟩ = some (.int .i64 x.from_) ∧ W.cell? ⟨w.heap.size, 2, none⟩ = some (.slice A2 x.text.length c2) ∧ W.cell? ⟨w.heap.size, 3, none⟩ = some (.slice A3 x.list.length c3) ∧ W.cell? ⟨w.heap.size, 4, none⟩ = some (.slice (some ⟨b, off, none⟩) x.seen.length c4) ∧ W.cell? ⟨b, off + k * 3, none⟩ = some (.int .i64 p.client) ∧ KS W1 W) → Below W.heap.size W W' → (W'.cell? ⟨wr.heap.size, 0, none⟩ = some (.int .i64 s.client) ∧ W'.cell? ⟨wr.heap.size, 1, none⟩ = some (.int .i64 s.seq) ∧ W'.cell? ⟨wr.heap.size, 2, none⟩ = some (.int .i64 s.rev) ∧ W'.cell? ⟨w.heap.size, 0, none⟩ = some (.string x.name) ∧ W'.cell? ⟨w.heap.size, 1, none⟩ = some (.int .i64 x.from_) ∧ W'.cell? ⟨w.heap.size, 2, none⟩ = some (.slice A2 x.text.length c2) ∧ W'.cell? ⟨w.heap.size, 3, none⟩ = some (.slice A3 x.list.length c3) ∧ W'.cell? ⟨w.heap.size, 4, none⟩ = some (.slice (some ⟨b, off, none⟩) x.seen.length c4) ∧ W'.cell? ⟨b, off + k * 3, none⟩ = some (.int .i64 p.client) ∧ KS W1 W') from fun W W' h hb => by have hk := h.2.2.2.2.2.2.2.2.2; have hkk : KS W1 W' := hk.trans (hb.mono hk.size); exact ⟨(hkk.cell (p := ⟨wr.heap.size, 0, none⟩) lS).trans y0, (hkk.cell (p := ⟨wr.heap.size, 1, none⟩) lS).trans y1, (hkk.cell (p := ⟨wr.heap.size, 2, none⟩) lS).trans y2, (hkk.cell (p := ⟨w.heap.size, 0, none⟩) lD).trans y3, (hkk.cell (p := ⟨w.heap.size, 1, none⟩) lD).trans y4, (hkk.cell (p := ⟨w.heap.size, 2, none⟩) lD).trans y5, (hkk.cell (p := ⟨w.heap.size, 3, none⟩) lD).trans y6, (hkk.cell (p := ⟨w.heap.size, 4, none⟩) lD).trans y7, (hkk.cell (p := ⟨b, off + k * 3, none⟩) lP).trans y8, hkk⟩)
              have RD := Lib.hid (show ∀ W : World, (W.cell? ⟨wr.heap.size, 0, none⟩ = some (.int .i64 s.client) ∧ W.cell? ⟨wr.heap.size, 1, none⟩ = some (.int .i64 s.seq) ∧ W.cell? ⟨wr.heap.size, 2, none⟩ = some (.int .i64 s.rev) ∧ W.cell? ⟨w.heap.size, 0, none⟩ = some (.string x.name) ∧ W.cell? ⟨w.heap.size, 1, none⟩ = some (.int .i64 x.from_) ∧ W.cell? ⟨w.heap.size, 2, none⟩ = some (.slice A2 x.text.length c2) ∧ W.cell? ⟨w.heap.size, 3, none⟩ = some (.slice A3 x.list.length c3) ∧ W.cell? ⟨w.heap.size, 4, none⟩ = some (.slice (some ⟨b, off, none⟩) x.seen.length c4) ∧ W.cell? ⟨b, off + k * 3, none⟩ = some (.int .i64 p.client) ∧ KS W1 W) → RdC W W.heap.size (datDo x) (.agg #[.string x.name, .int .i64 x.from_, .slice A2 x.text.length c2, .slice A3 x.list.length c3, .slice (some ⟨b, off, none⟩) x.seen.length c4]) from fun W h => by have hk : Below W1.heap.size W1 W := h.2.2.2.2.2.2.2.2.2; exact (HR.out.past (hbel.trans (bA.mono hbel.size))).past hk)
              have hS0 : W1.drew.cell? ⟨wr.heap.size, 0, none⟩ = some (.int .i64 s.client) ∧ W1.drew.cell? ⟨wr.heap.size, 1, none⟩ = some (.int .i64 s.seq) ∧ W1.drew.cell? ⟨wr.heap.size, 2, none⟩ = some (.int .i64 s.rev) ∧ W1.drew.cell? ⟨w.heap.size, 0, none⟩ = some (.string x.name) ∧ W1.drew.cell? ⟨w.heap.size, 1, none⟩ = some (.int .i64 x.from_) ∧ W1.drew.cell? ⟨w.heap.size, 2, none⟩ = some (.slice A2 x.text.length c2) ∧ W1.drew.cell? ⟨w.heap.size, 3, none⟩ = some (.slice A3 x.list.length c3) ∧ W1.drew.cell? ⟨w.heap.size, 4, none⟩ = some (.slice (some ⟨b, off, none⟩) x.seen.length c4) ∧ W1.drew.cell? ⟨b, off + k * 3, none⟩ = some (.int .i64 p.client) ∧ KS W1 W1.drew := ⟨y0, y1, y2, y3, y4, y5, y6, y7, y8, KS.start _⟩
              clear y0 y1 y2 y3 y4 y5 y6 y7 y8
              refine wp_region_held_drew (S := fun W => W.cell? ⟨wr.heap.size, 0, none⟩ = some (.int .i64 s.client) ∧ W.cell? ⟨wr.heap.size, 1, none⟩ = some (.int .i64 s.seq) ∧ W.cell? ⟨wr.heap.size, 2, none⟩ = some (.int .i64 s.rev) ∧ W.cell? ⟨w.heap.size, 0, none⟩ = some (.string x.name) ∧ W.cell? ⟨w.heap.size, 1, none⟩ = some (.int .i64 x.from_) ∧ W.cell? ⟨w.heap.size, 2, none⟩ = some (.slice A2 x.text.length c2) ∧ W.cell? ⟨w.heap.size, 3, none⟩ = some (.slice A3 x.list.length c3) ∧ W.cell? ⟨w.heap.size, 4, none⟩ = some (.slice (some ⟨b, off, none⟩) x.seen.length c4) ∧ W.cell? ⟨b, off + k * 3, none⟩ = some (.int .i64 p.client) ∧ KS W1 W) (by kernel_rfl) hS0 (fun hS => ?_)
              clear hS0
              refine tk (v := .pointer (some ⟨wr.heap.size, 0, none⟩)) 0 70 rfl (fun w' hS' => ?_) hS ?_
              · (try dsimp only at hS'); go_simp
              try simp only [Act.put, pa, pb, pc]
              refine tk (v := .int .i64 s.client) 1 71 rfl (fun w' hS' => ?_) hS ?_
              · (try dsimp only at hS'); go_simp
              try simp only [Act.put, pa, pb, pc]
              refine r1 2 (some 72) rfl (fun K hK => ?_)
              go_simp
              refine (in_any _ _ _ _).mono ?_
              rw [h1]
              rintro e w2 ⟨rfl, rfl⟩
              refine hK.out _ _ hS (fun hS => ?_)
              clear hK K
              try simp only [Act.put, pa, pb, pc]
              refine tk (v := .bool false) 3 73 rfl (fun w' hS' => ?_) hS ?_
              · (try dsimp only at hS'); go_simp
              try simp only [Act.put, pa, pb, pc]
              refine tk (v := .bool false) 4 74 rfl (fun w' hS' => ?_) hS ?_
              · (try dsimp only at hS'); go_simp
              try simp only [Act.put, pa, pb, pc]
              refine tk (v := .pointer (some ⟨wr.heap.size, 1, none⟩)) 5 75 rfl (fun w' hS' => ?_) hS ?_
              · (try dsimp only at hS'); go_simp
              try simp only [Act.put, pa, pb, pc]
              refine tk (v := .int .i64 s.seq) 6 76 rfl (fun w' hS' => ?_) hS ?_
              · (try dsimp only at hS'); go_simp
              try simp only [Act.put, pa, pb, pc]
              refine r1 7 (some 77) rfl (fun K hK => ?_)
              go_simp
              refine (in_any _ _ _ _).mono ?_
              rw [h2]
              rintro e w2 ⟨rfl, rfl⟩
              refine hK.out _ _ hS (fun hS => ?_)
              clear hK K
              try simp only [Act.put, pa, pb, pc]
              refine tk (v := .bool false) 8 78 rfl (fun w' hS' => ?_) hS ?_
              · (try dsimp only at hS'); go_simp
              try simp only [Act.put, pa, pb, pc]
              refine tk (v := .bool false) 9 79 rfl (fun w' hS' => ?_) hS ?_
              · (try dsimp only at hS'); go_simp
              try simp only [Act.put, pa, pb, pc]
              refine tk (v := .bool false) 10 80 rfl (fun w' hS' => ?_) hS ?_
              · (try dsimp only at hS'); go_simp
              try simp only [Act.put, pa, pb, pc]
              refine tk (v := .pointer (some ⟨wr.heap.size, 2, none⟩)) 11 81 rfl (fun w' hS' => ?_) hS ?_
              · (try dsimp only at hS'); go_simp
              try simp only [Act.put, pa, pb, pc]
              refine tk (v := .int .i64 s.rev) 12 82 rfl (fun w' hS' => ?_) hS ?_
              · (try dsimp only at hS'); go_simp
              try simp only [Act.put, pa, pb, pc]
              refine tk (v := .agg #[.string x.name, .int .i64 x.from_, .slice A2 x.text.length c2, .slice A3 x.list.length c3, .slice (some ⟨b, off, none⟩) x.seen.length c4]) 13 83 rfl (fun w' hS' => ?_) hS ?_
              · (try dsimp only at hS'); go_simp
              try simp only [Act.put, pa, pb, pc]
              refine r1 14 (some 84) rfl (fun K hK => ?_)
              go_simp
              refine (specHeadRev_w _ x _ (RD.out _ hS)).mono ?_
              rintro e w2 ⟨rfl, b2⟩
              refine hK.out _ _ (SX.out _ _ hS b2) (fun hS => ?_)
              clear hK K
              try simp only [Act.put, pa, pb, pc]
              refine r1 15 (some 85) rfl (fun K hK => ?_)
              go_simp
              refine (in_any _ _ _ _).mono ?_
              rw [h3]
              rintro e w2 ⟨rfl, rfl⟩
              refine hK.out _ _ hS (fun hS => ?_)
              clear hK K
              try simp only [Act.put, pa, pb, pc]
              refine tk (v := .bool false) 16 86 rfl (fun w' hS' => ?_) hS ?_
              · (try dsimp only at hS'); go_simp
              try simp only [Act.put, pa, pb, pc]
              refine tk (v := .bool false) 17 87 rfl (fun w' hS' => ?_) hS ?_
              · (try dsimp only at hS'); go_simp
              try simp only [Act.put, pa, pb, pc]
              refine tk (v := .bool false) 18 88 rfl (fun w' hS' => ?_) hS ?_
              · (try dsimp only at hS'); go_simp
              try simp only [Act.put, pa, pb, pc]
              refine tk (v := .int .i64 ((k : Int) + 1)) 19 89 rfl (fun w' hS' => ?_) hS ?_
              · (try dsimp only at hS'); go_simp
              try simp only [Act.put, pa, pb, pc]
              refine tk (v := .bool true) 20 90 rfl (fun w' hS' => ?_) hS ?_
              · (try dsimp only at hS'); go_simp
              try simp only [Act.put, pa, pb, pc]
              refine tk (v := .bool true) 21 91 rfl (fun w' hS' => ?_) hS ?_
              · (try dsimp only at hS'); go_simp
              try simp only [Act.put, pa, pb, pc]
              refine tk (v := .pointer (some ⟨w.heap.size, 4, none⟩)) 22 92 rfl (fun w' hS' => ?_) hS ?_
              · (try dsimp only at hS'); go_simp
              try simp only [Act.put, pa, pb, pc]
              refine tk (v := .slice (some ⟨b, off, none⟩) x.seen.length c4) 23 93 rfl (fun w' hS' => ?_) hS ?_
              · (try dsimp only at hS'); go_simp
              try simp only [Act.put, pa, pb, pc]
              refine tk (v := .int .i64 ((k : Int) + 1)) 24 94 rfl (fun w' hS' => ?_) hS ?_
              · (try dsimp only at hS'); go_simp
              try simp only [Act.put, pa, pb, pc]
              refine tk (v := .int .i64 (k : Int)) 25 95 rfl (fun w' hS' => ?_) hS ?_
              · (try dsimp only at hS'); go_simp
              try simp only [Act.put, pa, pb, pc]
              refine tk (v := .pointer (some ⟨b, off + k * 3, none⟩)) 26 96 rfl (fun w' hS' => ?_) hS ?_
              · (try dsimp only at hS'); go_simp
              try simp only [Act.put, pa, pb, pc]
              refine tk (v := .pointer (some ⟨b, off + k * 3, none⟩)) 27 97 rfl (fun w' hS' => ?_) hS ?_
              · (try dsimp only at hS'); go_simp
              try simp only [Act.put, pa, pb, pc]
              refine tk (v := .int .i64 p.client) 28 98 rfl (fun w' hS' => ?_) hS ?_
              · (try dsimp only at hS'); go_simp
              try simp only [Act.put, pa, pb, pc]
              refine tk (v := .pointer (some ⟨wr.heap.size, 0, none⟩)) 29 99 rfl (fun w' hS' => ?_) hS ?_
              · (try dsimp only at hS'); go_simp
              try simp only [Act.put, pa, pb, pc]
              refine tk (v := .int .i64 s.client) 30 100 rfl (fun w' hS' => ?_) hS ?_
              · (try dsimp only at hS'); go_simp
              try simp only [Act.put, pa, pb, pc]
              refine tk (v := .bool true) 31 101 rfl (fun w' hS' => ?_) hS ?_
              · (try dsimp only at hS'); go_simp
              try simp only [Act.put, pa, pb, pc]
              refine tk (v := .bool true) 32 102 rfl (fun w' hS' => ?_) hS ?_
              · (try dsimp only at hS'); go_simp
              try simp only [Act.put, pa, pb, pc]
              refine tk (v := .bool true) 33 103 rfl (fun w' hS' => ?_) hS ?_
              · (try dsimp only at hS'); go_simp
              try simp only [Act.put, pa, pb, pc]
              refine wpAnyH_done (by kernel_rfl) ?_ _
              have HK : Below w.heap.size w _ := hbel.trans ((bA.trans (hS.2.2.2.2.2.2.2.2.2.mono bA.size)).mono hbel.size)
              have HBX2 := Lib.hid (bxD.past hS.2.2.2.2.2.2.2.2.2)
              have HKH := Lib.hid HK
              clear hS SX RD HK
              go_wp2
              go_ret
              exact ⟨ret_b (by rw [HDC.out, HS.out]; rw [show seenOneB (headRevT x) (prevOf x.seen (k + 1)) s = false by unfold seenOneB; rw [h1, h2, h3, HPV.out]; simp; omega]; rfl), HKH.out⟩
            · have gp : decide (s.client ≤ p.client) = false := decide_eq_false hpc
              have HN := Lib.hid (show docB x = seenAllB (headRevT x) (prevOf x.seen (k + 1 + 1)) (x.seen.drop (k + 1 + 1)) by rw [HDC.out, HS.out, show seenOneB (headRevT x) (prevOf x.seen (k + 1)) s = true by unfold seenOneB; rw [h1, h2, h3, HPV.out]; simp; omega]; rfl)
              go_wp2
              generalize wr.alloc (.cells #[.int .i64 s.client, .int .i64 s.seq, .int .i64 s.rev] 102) = W1 at bA bxS bxD ⊢
              have y0 : W1.cell? ⟨wr.heap.size, 0, none⟩ = some (.int .i64 s.client) := bxS.cell rfl
              have y1 : W1.cell? ⟨wr.heap.size, 1, none⟩ = some (.int .i64 s.seq) := bxS.cell rfl
              have y2 : W1.cell? ⟨wr.heap.size, 2, none⟩ = some (.int .i64 s.rev) := bxS.cell rfl
              have y3 : W1.cell? ⟨w.heap.size, 0, none⟩ = some (.string x.name) := bxD.cell rfl
              have y4 : W1.cell? ⟨w.heap.size, 1, none⟩ = some (.int .i64 x.from_) := bxD.cell rfl
              have y5 : W1.cell? ⟨w.heap.size, 2, none⟩ = some (.slice A2 x.text.length c2) := bxD.cell rfl
              have y6 : W1.cell? ⟨w.heap.size, 3, none⟩ = some (.slice A3 x.list.length c3) := bxD.cell rfl
              have y7 : W1.cell? ⟨w.heap.size, 4, none⟩ = some (.slice (some ⟨b, off, none⟩) x.seen.length c4) := bxD.cell rfl
              have y8 : W1.cell? ⟨b, off + k * 3, none⟩ = some (.int .i64 p.client) := (bA.cell (p := ⟨b, off + k * 3, none⟩) hbq).trans zp
              have lS := bxS.lt
              have lD := bxD.lt
              have lP : b < W1.heap.size := Nat.lt_of_lt_of_le hbq bA.size
              have SX := Lib.hid (show ∀ (W W' : World), (W.cell? ⟨wr.heap.size, 0, none⟩ = some (.int .i64 s.client) ∧ W.cell? ⟨wr.heap.size, 1, none⟩ = some (.int .i64 s.seq) ∧ W.cell? ⟨wr.heap.size, 2, none⟩ = some (.int .i64 s.rev) ∧ W.cell? ⟨w.heap.size, 0, none⟩ = some (.string x.name) ∧ W.cell? ⟨w.heap.size, 1, none⟩ = some (.int .i64 x.from_) ∧ W.cell? ⟨w.heap.size, 2, none⟩ = some (.slice A2 x.text.length c2) ∧ W.cell? ⟨w.heap.size, 3, none⟩ = some (.slice A3 x.list.length c3) ∧ W.cell? ⟨w.heap.size, 4, none⟩ = some (.slice (some ⟨b, off, none⟩) x.seen.length c4) ∧ W.cell? ⟨b, off + k * 3, none⟩ = some (.int .i64 p.client) ∧ KS W1 W) → Below W.heap.size W W' → (W'.cell? ⟨wr.heap.size, 0, none⟩ = some (.int .i64 s.client) ∧ W'.cell? ⟨wr.heap.size, 1, none⟩ = some (.int .i64 s.seq) ∧ W'.cell? ⟨wr.heap.size, 2, none⟩ = some (.int .i64 s.rev) ∧ W'.cell? ⟨w.heap.size, 0, none⟩ = some (.string x.name) ∧ W'.cell? ⟨w.heap.size, 1, none⟩ = some (.int .i64 x.from_) ∧ W'.cell? ⟨w.heap.size, 2, none⟩ = some (.slice A2 x.text.length c2) ∧ W'.cell? ⟨w.heap.size, 3, none⟩ = some (.slice A3 x.list.length c3) ∧ W'.cell? ⟨w.heap.size, 4, none⟩ = some (.slice (some ⟨b, off, none⟩) x.seen.length c4) ∧ W'.cell? ⟨b, off + k * 3, none⟩ = some (.int .i64 p.client) ∧ KS W1 W') from fun W W' h hb => by have hk := h.2.2.2.2.2.2.2.2.2; have hkk : KS W1 W' := hk.trans (hb.mono hk.size); exact ⟨(hkk.cell (p := ⟨wr.heap.size, 0, none⟩) lS).trans y0, (hkk.cell (p := ⟨wr.heap.size, 1, none⟩) lS).trans y1, (hkk.cell (p := ⟨wr.heap.size, 2, none⟩) lS).trans y2, (hkk.cell (p := ⟨w.heap.size, 0, none⟩) lD).trans y3, (hkk.cell (p := ⟨w.heap.size, 1, none⟩) lD).trans y4, (hkk.cell (p := ⟨w.heap.size, 2, none⟩) lD).trans y5, (hkk.cell (p := ⟨w.heap.size, 3, none⟩) lD).trans y6, (hkk.cell (p := ⟨w.heap.size, 4, none⟩) lD).trans y7, (hkk.cell (p := ⟨b, off + k * 3, none⟩) lP).trans y8, hkk⟩)
              have RD := Lib.hid (show ∀ W : World, (W.cell? ⟨wr.heap.size, 0, none⟩ = some (.int .i64 s.client) ∧ W.cell? ⟨wr.heap.size, 1, none⟩ = some (.int .i64 s.seq) ∧ W.cell? ⟨wr.heap.size, 2, none⟩ = some (.int .i64 s.rev) ∧ W.cell? ⟨w.heap.size, 0, none⟩ = some (.string x.name) ∧ W.cell? ⟨w.heap.size, 1, none⟩ = some (.int .i64 x.from_) ∧ W.cell? ⟨w.heap.size, 2, none⟩ = some (.slice A2 x.text.length c2) ∧ W.cell? ⟨w.heap.size, 3, none⟩ = some (.slice A3 x.list.length c3) ∧ W.cell? ⟨w.heap.size, 4, none⟩ = some (.slice (some ⟨b, off, none⟩) x.seen.length c4) ∧ W.cell? ⟨b, off + k * 3, none⟩ = some (.int .i64 p.client) ∧ KS W1 W) → RdC W W.heap.size (datDo x) (.agg #[.string x.name, .int .i64 x.from_, .slice A2 x.text.length c2, .slice A3 x.list.length c3, .slice (some ⟨b, off, none⟩) x.seen.length c4]) from fun W h => by have hk : Below W1.heap.size W1 W := h.2.2.2.2.2.2.2.2.2; exact (HR.out.past (hbel.trans (bA.mono hbel.size))).past hk)
              have hS0 : W1.drew.cell? ⟨wr.heap.size, 0, none⟩ = some (.int .i64 s.client) ∧ W1.drew.cell? ⟨wr.heap.size, 1, none⟩ = some (.int .i64 s.seq) ∧ W1.drew.cell? ⟨wr.heap.size, 2, none⟩ = some (.int .i64 s.rev) ∧ W1.drew.cell? ⟨w.heap.size, 0, none⟩ = some (.string x.name) ∧ W1.drew.cell? ⟨w.heap.size, 1, none⟩ = some (.int .i64 x.from_) ∧ W1.drew.cell? ⟨w.heap.size, 2, none⟩ = some (.slice A2 x.text.length c2) ∧ W1.drew.cell? ⟨w.heap.size, 3, none⟩ = some (.slice A3 x.list.length c3) ∧ W1.drew.cell? ⟨w.heap.size, 4, none⟩ = some (.slice (some ⟨b, off, none⟩) x.seen.length c4) ∧ W1.drew.cell? ⟨b, off + k * 3, none⟩ = some (.int .i64 p.client) ∧ KS W1 W1.drew := ⟨y0, y1, y2, y3, y4, y5, y6, y7, y8, KS.start _⟩
              clear y0 y1 y2 y3 y4 y5 y6 y7 y8
              refine wp_region_held_drew (S := fun W => W.cell? ⟨wr.heap.size, 0, none⟩ = some (.int .i64 s.client) ∧ W.cell? ⟨wr.heap.size, 1, none⟩ = some (.int .i64 s.seq) ∧ W.cell? ⟨wr.heap.size, 2, none⟩ = some (.int .i64 s.rev) ∧ W.cell? ⟨w.heap.size, 0, none⟩ = some (.string x.name) ∧ W.cell? ⟨w.heap.size, 1, none⟩ = some (.int .i64 x.from_) ∧ W.cell? ⟨w.heap.size, 2, none⟩ = some (.slice A2 x.text.length c2) ∧ W.cell? ⟨w.heap.size, 3, none⟩ = some (.slice A3 x.list.length c3) ∧ W.cell? ⟨w.heap.size, 4, none⟩ = some (.slice (some ⟨b, off, none⟩) x.seen.length c4) ∧ W.cell? ⟨b, off + k * 3, none⟩ = some (.int .i64 p.client) ∧ KS W1 W) (by kernel_rfl) hS0 (fun hS => ?_)
              clear hS0
              refine tk (v := .pointer (some ⟨wr.heap.size, 0, none⟩)) 0 70 rfl (fun w' hS' => ?_) hS ?_
              · (try dsimp only at hS'); go_simp
              try simp only [Act.put, pa, pb, pc]
              refine tk (v := .int .i64 s.client) 1 71 rfl (fun w' hS' => ?_) hS ?_
              · (try dsimp only at hS'); go_simp
              try simp only [Act.put, pa, pb, pc]
              refine r1 2 (some 72) rfl (fun K hK => ?_)
              go_simp
              refine (in_any _ _ _ _).mono ?_
              rw [h1]
              rintro e w2 ⟨rfl, rfl⟩
              refine hK.out _ _ hS (fun hS => ?_)
              clear hK K
              try simp only [Act.put, pa, pb, pc]
              refine tk (v := .bool false) 3 73 rfl (fun w' hS' => ?_) hS ?_
              · (try dsimp only at hS'); go_simp
              try simp only [Act.put, pa, pb, pc]
              refine tk (v := .bool false) 4 74 rfl (fun w' hS' => ?_) hS ?_
              · (try dsimp only at hS'); go_simp
              try simp only [Act.put, pa, pb, pc]
              refine tk (v := .pointer (some ⟨wr.heap.size, 1, none⟩)) 5 75 rfl (fun w' hS' => ?_) hS ?_
              · (try dsimp only at hS'); go_simp
              try simp only [Act.put, pa, pb, pc]
              refine tk (v := .int .i64 s.seq) 6 76 rfl (fun w' hS' => ?_) hS ?_
              · (try dsimp only at hS'); go_simp
              try simp only [Act.put, pa, pb, pc]
              refine r1 7 (some 77) rfl (fun K hK => ?_)
              go_simp
              refine (in_any _ _ _ _).mono ?_
              rw [h2]
              rintro e w2 ⟨rfl, rfl⟩
              refine hK.out _ _ hS (fun hS => ?_)
              clear hK K
              try simp only [Act.put, pa, pb, pc]
              refine tk (v := .bool false) 8 78 rfl (fun w' hS' => ?_) hS ?_
              · (try dsimp only at hS'); go_simp
              try simp only [Act.put, pa, pb, pc]
              refine tk (v := .bool false) 9 79 rfl (fun w' hS' => ?_) hS ?_
              · (try dsimp only at hS'); go_simp
              try simp only [Act.put, pa, pb, pc]
              refine tk (v := .bool false) 10 80 rfl (fun w' hS' => ?_) hS ?_
              · (try dsimp only at hS'); go_simp
              try simp only [Act.put, pa, pb, pc]
              refine tk (v := .pointer (some ⟨wr.heap.size, 2, none⟩)) 11 81 rfl (fun w' hS' => ?_) hS ?_
              · (try dsimp only at hS'); go_simp
              try simp only [Act.put, pa, pb, pc]
              refine tk (v := .int .i64 s.rev) 12 82 rfl (fun w' hS' => ?_) hS ?_
              · (try dsimp only at hS'); go_simp
              try simp only [Act.put, pa, pb, pc]
              refine tk (v := .agg #[.string x.name, .int .i64 x.from_, .slice A2 x.text.length c2, .slice A3 x.list.length c3, .slice (some ⟨b, off, none⟩) x.seen.length c4]) 13 83 rfl (fun w' hS' => ?_) hS ?_
              · (try dsimp only at hS'); go_simp
              try simp only [Act.put, pa, pb, pc]
              refine r1 14 (some 84) rfl (fun K hK => ?_)
              go_simp
              refine (specHeadRev_w _ x _ (RD.out _ hS)).mono ?_
              rintro e w2 ⟨rfl, b2⟩
              refine hK.out _ _ (SX.out _ _ hS b2) (fun hS => ?_)
              clear hK K
              try simp only [Act.put, pa, pb, pc]
              refine r1 15 (some 85) rfl (fun K hK => ?_)
              go_simp
              refine (in_any _ _ _ _).mono ?_
              rw [h3]
              rintro e w2 ⟨rfl, rfl⟩
              refine hK.out _ _ hS (fun hS => ?_)
              clear hK K
              try simp only [Act.put, pa, pb, pc]
              refine tk (v := .bool false) 16 86 rfl (fun w' hS' => ?_) hS ?_
              · (try dsimp only at hS'); go_simp
              try simp only [Act.put, pa, pb, pc]
              refine tk (v := .bool false) 17 87 rfl (fun w' hS' => ?_) hS ?_
              · (try dsimp only at hS'); go_simp
              try simp only [Act.put, pa, pb, pc]
              refine tk (v := .bool false) 18 88 rfl (fun w' hS' => ?_) hS ?_
              · (try dsimp only at hS'); go_simp
              try simp only [Act.put, pa, pb, pc]
              refine tk (v := .int .i64 ((k : Int) + 1)) 19 89 rfl (fun w' hS' => ?_) hS ?_
              · (try dsimp only at hS'); go_simp
              try simp only [Act.put, pa, pb, pc]
              refine tk (v := .bool true) 20 90 rfl (fun w' hS' => ?_) hS ?_
              · (try dsimp only at hS'); go_simp
              try simp only [Act.put, pa, pb, pc]
              refine tk (v := .bool true) 21 91 rfl (fun w' hS' => ?_) hS ?_
              · (try dsimp only at hS'); go_simp
              try simp only [Act.put, pa, pb, pc]
              refine tk (v := .pointer (some ⟨w.heap.size, 4, none⟩)) 22 92 rfl (fun w' hS' => ?_) hS ?_
              · (try dsimp only at hS'); go_simp
              try simp only [Act.put, pa, pb, pc]
              refine tk (v := .slice (some ⟨b, off, none⟩) x.seen.length c4) 23 93 rfl (fun w' hS' => ?_) hS ?_
              · (try dsimp only at hS'); go_simp
              try simp only [Act.put, pa, pb, pc]
              refine tk (v := .int .i64 ((k : Int) + 1)) 24 94 rfl (fun w' hS' => ?_) hS ?_
              · (try dsimp only at hS'); go_simp
              try simp only [Act.put, pa, pb, pc]
              refine tk (v := .int .i64 (k : Int)) 25 95 rfl (fun w' hS' => ?_) hS ?_
              · (try dsimp only at hS'); go_simp
              try simp only [Act.put, pa, pb, pc]
              refine tk (v := .pointer (some ⟨b, off + k * 3, none⟩)) 26 96 rfl (fun w' hS' => ?_) hS ?_
              · (try dsimp only at hS'); go_simp
              try simp only [Act.put, pa, pb, pc]
              refine tk (v := .pointer (some ⟨b, off + k * 3, none⟩)) 27 97 rfl (fun w' hS' => ?_) hS ?_
              · (try dsimp only at hS'); go_simp
              try simp only [Act.put, pa, pb, pc]
              refine tk (v := .int .i64 p.client) 28 98 rfl (fun w' hS' => ?_) hS ?_
              · (try dsimp only at hS'); go_simp
              try simp only [Act.put, pa, pb, pc]
              refine tk (v := .pointer (some ⟨wr.heap.size, 0, none⟩)) 29 99 rfl (fun w' hS' => ?_) hS ?_
              · (try dsimp only at hS'); go_simp
              try simp only [Act.put, pa, pb, pc]
              refine tk (v := .int .i64 s.client) 30 100 rfl (fun w' hS' => ?_) hS ?_
              · (try dsimp only at hS'); go_simp
              try simp only [Act.put, pa, pb, pc]
              refine tk (v := .bool false) 31 101 rfl (fun w' hS' => ?_) hS ?_
              · (try dsimp only at hS'); go_simp
              try simp only [Act.put, pa, pb, pc]
              refine tk (v := .bool false) 32 102 rfl (fun w' hS' => ?_) hS ?_
              · (try dsimp only at hS'); go_simp
              try simp only [Act.put, pa, pb, pc]
              refine tk (v := .bool false) 33 103 rfl (fun w' hS' => ?_) hS ?_
              · (try dsimp only at hS'); go_simp
              try simp only [Act.put, pa, pb, pc]
              refine wpAnyH_done (by kernel_rfl) ?_ _
              have HK : Below w.heap.size w _ := hbel.trans ((bA.trans (hS.2.2.2.2.2.2.2.2.2.mono bA.size)).mono hbel.size)
              have HBX2 := Lib.hid (bxD.past hS.2.2.2.2.2.2.2.2.2)
              have HKH := Lib.hid HK
              clear hS SX RD HK
              go_wp2
              go_roundw
              case rel => exact ⟨k + 1 + 1, by omega, by go_num, HN.out, HBX2.out, HKH.out⟩
              case measure => simp [intOf]; omega
          -- end2
        · have HE := Lib.hid (show docB x = true by rw [HDC.out, List.drop_eq_nil_of_le (by omega)]; rfl)
          go_wp2
          go_ret
          exact ⟨ret_b HE.out.symm, hbel⟩
theorem specDocOk_d (v : Value) (x : Do) (w : World) (h : RdC w w.heap.size (datDo x) v) (hs : SmDo x) : Calls Tryz.prog 20 #[v] w (Tells (docB x) w) := specDocOk_w v x w h hs.four
end Go.Proofs.YtninppjomdhnmaaGreat.low


/-
  Contract of spec.TextAt. Written by mkdoc3.py.
-/
namespace Go.Proofs.YtninppjomdhnmaaGreat.low
open Go.RowKit
set_option linter.unusedVariables false

/-- the text behind the entries -/
def endT (l : List En) (t : List Int) : List Int := l.foldl (fun t e => applyT e.o t) t
theorem endT_snoc {l : List En} {j : Nat} {e : En} (h : l[j]? = some e) (t : List Int) : endT (l.take (j + 1)) t = applyT e.o (endT (l.take j) t) := by
  unfold endT
  rw [List.take_add_one, h]
  simp
def textAtB (x : Do) (r : Int) : Bool := docB x && inB r x.from_ (headRevT x)
def textAtT (x : Do) (r : Int) : List Int := if textAtB x r = true then endT (x.list.take (r - x.from_).toNat) x.text else []
theorem textAt_f {x : Do} {r : Int} (h : textAtB x r = false) : textAtB x r = false ∧ textAtT x r = [] := ⟨h, by unfold textAtT; rw [h]; rfl⟩
theorem docB_of {x : Do} (h : docB x = true) : 0 ≤ x.from_ ∧ x.from_ ≤ 999999000 ∧ x.list.length ≤ 8 ∧ headRevT x = x.from_ + (x.list.length : Int) := by
  unfold docB at h
  simp only [Bool.and_eq_true] at h
  have h1 := of_decide_eq_true h.1.1.1.1.2
  have h2 := of_decide_eq_true h.1.1.2
  refine ⟨h1.1, h1.2, h2, ?_⟩
  unfold headRevT
  exact IntWalk.wrap64_in _ (by omega)
theorem endT_small {l : List En} {t : List Int} (hl : ∀ e ∈ l, SmP e.o) (ht : SmI t) : SmI (endT l t) := by
  induction l generalizing t with
  | nil => exact ht
  | cons e l ih => exact ih (fun q hq => hl q (by simp [hq])) (apply_small (hl e (by simp)) ht)
theorem textAt_small {x : Do} {r : Int} (hs : SmDo x) : SmI (textAtT x r) := by
  unfold textAtT
  split
  · exact endT_small (fun e he => (hs.list.at_ (List.mem_of_mem_take he)).o) hs.text
  · unfold SmI; simp
set_option maxRecDepth 100000 in
set_option maxHeartbeats 6400000 in
theorem specTextAt_d (v : Value) (x : Do) (r : Int) (w : World) (h : RdC w w.heap.size (datDo x) v) (hs : SmDo x) : Calls Tryz.prog 22 #[v, .int .i64 r] w (ResB (encInts (textAtT x r)) (textAtB x r) w) := by
  have HR := Lib.hid h
  obtain ⟨A2, c2, A3, c3, A4, c4, rfl, r2, r3, r4⟩ := aggDo h
  have hl3 := hs.list.len
  have b0 := alloc_below w (.cells #[.string x.name, .int .i64 x.from_, .slice A2 x.text.length c2, .slice A3 x.list.length c3, .slice A4 x.seen.length c4] 31)
  have bx := Bx.new w #[.string x.name, .int .i64 x.from_, .slice A2 x.text.length c2, .slice A3 x.list.length c3, .slice A4 x.seen.length c4] 31
  cases hd : docB x
  · have HN := Lib.hid (show textAtB x r = false ∧ textAtT x r = [] from textAt_f (by unfold textAtB; rw [hd]; rfl))
    go_enter Tryz.func22, Tryz.ntmps22
    go_wp2
    generalize w.alloc (.cells #[.string x.name, .int .i64 x.from_, .slice A2 x.text.length c2, .slice A3 x.list.length c3, .slice A4 x.seen.length c4] 31) = W1 at b0 bx ⊢
    have y0 : W1.cell? ⟨w.heap.size, 0, none⟩ = some (.string x.name) := bx.cell rfl
    have y1 : W1.cell? ⟨w.heap.size, 1, none⟩ = some (.int .i64 x.from_) := bx.cell rfl
    have y2 : W1.cell? ⟨w.heap.size, 2, none⟩ = some (.slice A2 x.text.length c2) := bx.cell rfl
    have y3 : W1.cell? ⟨w.heap.size, 3, none⟩ = some (.slice A3 x.list.length c3) := bx.cell rfl
    have y4 : W1.cell? ⟨w.heap.size, 4, none⟩ = some (.slice A4 x.seen.length c4) := bx.cell rfl
    have lD := bx.lt
    have SX := Lib.hid (show ∀ (W W' : World), (W.cell? ⟨w.heap.size, 0, none⟩ = some (.string x.name) ∧ W.cell? ⟨w.heap.size, 1, none⟩ = some (.int .i64 x.from_) ∧ W.cell? ⟨w.heap.size, 2, none⟩ = some (.slice A2 x.text.length c2) ∧ W.cell? ⟨w.heap.size, 3, none⟩ = some (.slice A3 x.list.length c3) ∧ W.cell? ⟨w.heap.size, 4, none⟩ = some (.slice A4 x.seen.length c4) ∧ KS W1 W) → Below W.heap.size W W' → (W'.cell? ⟨w.heap.size, 0, none⟩ = some (.string x.name) ∧ W'.cell? ⟨w.heap.size, 1, none⟩ = some (.int .i64 x.from_) ∧ W'.cell? ⟨w.heap.size, 2, none⟩ = some (.slice A2 x.text.length c2) ∧ W'.cell? ⟨w.heap.size, 3, none⟩ = some (.slice A3 x.list.length c3) ∧ W'.cell? ⟨w.heap.size, 4, none⟩ = some (.slice A4 x.seen.length c4) ∧ KS W1 W') from fun W W' h hb => by have hk := h.2.2.2.2.2; have hkk : KS W1 W' := hk.trans (hb.mono hk.size); exact ⟨(hkk.cell (p := ⟨w.heap.size, 0, none⟩) lD).trans y0, (hkk.cell (p := ⟨w.heap.size, 1, none⟩) lD).trans y1, (hkk.cell (p := ⟨w.heap.size, 2, none⟩) lD).trans y2, (hkk.cell (p := ⟨w.heap.size, 3, none⟩) lD).trans y3, (hkk.cell (p := ⟨w.heap.size, 4, none⟩) lD).trans y4, hkk⟩)
    have RD := Lib.hid (show ∀ W : World, (W.cell? ⟨w.heap.size, 0, none⟩ = some (.string x.name) ∧ W.cell? ⟨w.heap.size, 1, none⟩ = some (.int .i64 x.from_) ∧ W.cell? ⟨w.heap.size, 2, none⟩ = some (.slice A2 x.text.length c2) ∧ W.cell? ⟨w.heap.size, 3, none⟩ = some (.slice A3 x.list.length c3) ∧ W.cell? ⟨w.heap.size, 4, none⟩ = some (.slice A4 x.seen.length c4) ∧ KS W1 W) → RdC W W.heap.size (datDo x) (.agg #[.string x.name, .int .i64 x.from_, .slice A2 x.text.length c2, .slice A3 x.list.length c3, .slice A4 x.seen.length c4]) from fun W h => by have hk : Below W1.heap.size W1 W := h.2.2.2.2.2; exact (HR.out.past b0).past hk)
    have hS0 : W1.drew.cell? ⟨w.heap.size, 0, none⟩ = some (.string x.name) ∧ W1.drew.cell? ⟨w.heap.size, 1, none⟩ = some (.int .i64 x.from_) ∧ W1.drew.cell? ⟨w.heap.size, 2, none⟩ = some (.slice A2 x.text.length c2) ∧ W1.drew.cell? ⟨w.heap.size, 3, none⟩ = some (.slice A3 x.list.length c3) ∧ W1.drew.cell? ⟨w.heap.size, 4, none⟩ = some (.slice A4 x.seen.length c4) ∧ KS W1 W1.drew := ⟨y0, y1, y2, y3, y4, KS.start _⟩
    clear y0 y1 y2 y3 y4
    refine wp_region_held_drew (S := fun W => W.cell? ⟨w.heap.size, 0, none⟩ = some (.string x.name) ∧ W.cell? ⟨w.heap.size, 1, none⟩ = some (.int .i64 x.from_) ∧ W.cell? ⟨w.heap.size, 2, none⟩ = some (.slice A2 x.text.length c2) ∧ W.cell? ⟨w.heap.size, 3, none⟩ = some (.slice A3 x.list.length c3) ∧ W.cell? ⟨w.heap.size, 4, none⟩ = some (.slice A4 x.seen.length c4) ∧ KS W1 W) (by kernel_rfl) hS0 (fun hS => ?_)
    refine tk (v := .agg #[.string x.name, .int .i64 x.from_, .slice A2 x.text.length c2, .slice A3 x.list.length c3, .slice A4 x.seen.length c4]) 0 9 rfl (fun w' hS' => ?_) (by assumption) ?_
    · (try dsimp only at hS'); go_simp
    try simp only [Act.put, pa, pb, pc]
    refine r1 1 (some 10) rfl (fun K hK => ?_)
    go_simp
    refine (specDocOk_d _ x _ (RD.out _ (by assumption)) hs).mono ?_
    rw [hd]
    rintro e w2 ⟨rfl, b2⟩
    refine hK.out _ _ (SX.out _ _ (by assumption) b2) (fun hS => ?_)
    clear hK K
    try simp only [Act.put, pa, pb, pc]
    refine tk (v := .bool true) 2 11 rfl (fun w' hS' => ?_) (by assumption) ?_
    · (try dsimp only at hS'); go_simp
    try simp only [Act.put, pa, pb, pc]
    refine tk (v := .bool true) 3 12 rfl (fun w' hS' => ?_) (by assumption) ?_
    · (try dsimp only at hS'); go_simp
    try simp only [Act.put, pa, pb, pc]
    refine tu 4 13 rfl (by assumption) ?_
    try simp only [Act.put, pa, pb, pc]
    refine tu 5 14 rfl (by assumption) ?_
    try simp only [Act.put, pa, pb, pc]
    refine tu 6 15 rfl (by assumption) ?_
    try simp only [Act.put, pa, pb, pc]
    refine tu 7 16 rfl (by assumption) ?_
    try simp only [Act.put, pa, pb, pc]
    refine tu 8 17 rfl (by assumption) ?_
    try simp only [Act.put, pa, pb, pc]
    refine tu 9 18 rfl (by assumption) ?_
    try simp only [Act.put, pa, pb, pc]
    refine tu 10 19 rfl (by assumption) ?_
    try simp only [Act.put, pa, pb, pc]
    refine tk (v := .bool true) 11 20 rfl (fun w' hS' => ?_) (by assumption) ?_
    · (try dsimp only at hS'); go_simp
    try simp only [Act.put, pa, pb, pc]
    refine wpAnyH_done (by kernel_rfl) ?_ _
    have HK : Below w.heap.size w _ := b0.trans (hS.2.2.2.2.2.mono b0.size)
    have HKH := Lib.hid HK
    clear hS SX RD HK
    go_wp2
    go_ret2
    rw [HN.out.1, HN.out.2]
    exact ⟨_, rfl, nilOwn _ _ rfl HKH.out.size, HKH.out⟩
  cases hi : inB r x.from_ (headRevT x)
  · have HN := Lib.hid (show textAtB x r = false ∧ textAtT x r = [] from textAt_f (by unfold textAtB; rw [hd, hi]; rfl))
    go_enter Tryz.func22, Tryz.ntmps22
    go_wp2
    generalize w.alloc (.cells #[.string x.name, .int .i64 x.from_, .slice A2 x.text.length c2, .slice A3 x.list.length c3, .slice A4 x.seen.length c4] 31) = W1 at b0 bx ⊢
    have y0 : W1.cell? ⟨w.heap.size, 0, none⟩ = some (.string x.name) := bx.cell rfl
    have y1 : W1.cell? ⟨w.heap.size, 1, none⟩ = some (.int .i64 x.from_) := bx.cell rfl
    have y2 : W1.cell? ⟨w.heap.size, 2, none⟩ = some (.slice A2 x.text.length c2) := bx.cell rfl
    have y3 : W1.cell? ⟨w.heap.size, 3, none⟩ = some (.slice A3 x.list.length c3) := bx.cell rfl
    have y4 : W1.cell? ⟨w.heap.size, 4, none⟩ = some (.slice A4 x.seen.length c4) := bx.cell rfl
    have lD := bx.lt
    have SX := Lib.hid (show ∀ (W W' : World), (W.cell? ⟨w.heap.size, 0, none⟩ = some (.string x.name) ∧ W.cell? ⟨w.heap.size, 1, none⟩ = some (.int .i64 x.from_) ∧ W.cell? ⟨w.heap.size, 2, none⟩ = some (.slice A2 x.text.length c2) ∧ W.cell? ⟨w.heap.size, 3, none⟩ = some (.slice A3 x.list.length c3) ∧ W.cell? ⟨w.heap.size, 4, none⟩ = some (.slice A4 x.seen.length c4) ∧ KS W1 W) → Below W.heap.size W W' → (W'.cell? ⟨w.heap.size, 0, none⟩ = some (.string x.name) ∧ W'.cell? ⟨w.heap.size, 1, none⟩ = some (.int .i64 x.from_) ∧ W'.cell? ⟨w.heap.size, 2, none⟩ = some (.slice A2 x.text.length c2) ∧ W'.cell? ⟨w.heap.size, 3, none⟩ = some (.slice A3 x.list.length c3) ∧ W'.cell? ⟨w.heap.size, 4, none⟩ = some (.slice A4 x.seen.length c4) ∧ KS W1 W') from fun W W' h hb => by have hk := h.2.2.2.2.2; have hkk : KS W1 W' := hk.trans (hb.mono hk.size); exact ⟨(hkk.cell (p := ⟨w.heap.size, 0, none⟩) lD).trans y0, (hkk.cell (p := ⟨w.heap.size, 1, none⟩) lD).trans y1, (hkk.cell (p := ⟨w.heap.size, 2, none⟩) lD).trans y2, (hkk.cell (p := ⟨w.heap.size, 3, none⟩) lD).trans y3, (hkk.cell (p := ⟨w.heap.size, 4, none⟩) lD).trans y4, hkk⟩)
    have RD := Lib.hid (show ∀ W : World, (W.cell? ⟨w.heap.size, 0, none⟩ = some (.string x.name) ∧ W.cell? ⟨w.heap.size, 1, none⟩ = some (.int .i64 x.from_) ∧ W.cell? ⟨w.heap.size, 2, none⟩ = some (.slice A2 x.text.length c2) ∧ W.cell? ⟨w.heap.size, 3, none⟩ = some (.slice A3 x.list.length c3) ∧ W.cell? ⟨w.heap.size, 4, none⟩ = some (.slice A4 x.seen.length c4) ∧ KS W1 W) → RdC W W.heap.size (datDo x) (.agg #[.string x.name, .int .i64 x.from_, .slice A2 x.text.length c2, .slice A3 x.list.length c3, .slice A4 x.seen.length c4]) from fun W h => by have hk : Below W1.heap.size W1 W := h.2.2.2.2.2; exact (HR.out.past b0).past hk)
    have hS0 : W1.drew.cell? ⟨w.heap.size, 0, none⟩ = some (.string x.name) ∧ W1.drew.cell? ⟨w.heap.size, 1, none⟩ = some (.int .i64 x.from_) ∧ W1.drew.cell? ⟨w.heap.size, 2, none⟩ = some (.slice A2 x.text.length c2) ∧ W1.drew.cell? ⟨w.heap.size, 3, none⟩ = some (.slice A3 x.list.length c3) ∧ W1.drew.cell? ⟨w.heap.size, 4, none⟩ = some (.slice A4 x.seen.length c4) ∧ KS W1 W1.drew := ⟨y0, y1, y2, y3, y4, KS.start _⟩
    clear y0 y1 y2 y3 y4
    refine wp_region_held_drew (S := fun W => W.cell? ⟨w.heap.size, 0, none⟩ = some (.string x.name) ∧ W.cell? ⟨w.heap.size, 1, none⟩ = some (.int .i64 x.from_) ∧ W.cell? ⟨w.heap.size, 2, none⟩ = some (.slice A2 x.text.length c2) ∧ W.cell? ⟨w.heap.size, 3, none⟩ = some (.slice A3 x.list.length c3) ∧ W.cell? ⟨w.heap.size, 4, none⟩ = some (.slice A4 x.seen.length c4) ∧ KS W1 W) (by kernel_rfl) hS0 (fun hS => ?_)
    refine tk (v := .agg #[.string x.name, .int .i64 x.from_, .slice A2 x.text.length c2, .slice A3 x.list.length c3, .slice A4 x.seen.length c4]) 0 9 rfl (fun w' hS' => ?_) (by assumption) ?_
    · (try dsimp only at hS'); go_simp
    try simp only [Act.put, pa, pb, pc]
    refine r1 1 (some 10) rfl (fun K hK => ?_)
    go_simp
    refine (specDocOk_d _ x _ (RD.out _ (by assumption)) hs).mono ?_
    rw [hd]
    rintro e w2 ⟨rfl, b2⟩
    refine hK.out _ _ (SX.out _ _ (by assumption) b2) (fun hS => ?_)
    clear hK K
    try simp only [Act.put, pa, pb, pc]
    refine tk (v := .bool false) 2 11 rfl (fun w' hS' => ?_) (by assumption) ?_
    · (try dsimp only at hS'); go_simp
    try simp only [Act.put, pa, pb, pc]
    refine tk (v := .bool false) 3 12 rfl (fun w' hS' => ?_) (by assumption) ?_
    · (try dsimp only at hS'); go_simp
    try simp only [Act.put, pa, pb, pc]
    refine tk (v := .int .i64 r) 4 13 rfl (fun w' hS' => ?_) (by assumption) ?_
    · (try dsimp only at hS'); go_simp
    try simp only [Act.put, pa, pb, pc]
    refine tk (v := .pointer (some ⟨w.heap.size, 1, none⟩)) 5 14 rfl (fun w' hS' => ?_) (by assumption) ?_
    · (try dsimp only at hS'); go_simp
    try simp only [Act.put, pa, pb, pc]
    refine tk (v := .int .i64 x.from_) 6 15 rfl (fun w' hS' => ?_) (by assumption) ?_
    · (try dsimp only at hS'); go_simp
    try simp only [Act.put, pa, pb, pc]
    refine tk (v := .agg #[.string x.name, .int .i64 x.from_, .slice A2 x.text.length c2, .slice A3 x.list.length c3, .slice A4 x.seen.length c4]) 7 16 rfl (fun w' hS' => ?_) (by assumption) ?_
    · (try dsimp only at hS'); go_simp
    try simp only [Act.put, pa, pb, pc]
    refine r1 8 (some 17) rfl (fun K hK => ?_)
    go_simp
    refine (specHeadRev_d _ x _ (RD.out _ (by assumption)) hs).mono ?_
    rintro e w3 ⟨rfl, b3⟩
    refine hK.out _ _ (SX.out _ _ (by assumption) b3) (fun hS => ?_)
    clear hK K
    try simp only [Act.put, pa, pb, pc]
    refine r1 9 (some 18) rfl (fun K hK => ?_)
    go_simp
    refine (in_any _ _ _ _).mono ?_
    rw [hi]
    rintro e w4 ⟨rfl, rfl⟩
    refine hK.out _ _ (by assumption) (fun hS => ?_)
    clear hK K
    try simp only [Act.put, pa, pb, pc]
    refine tk (v := .bool true) 10 19 rfl (fun w' hS' => ?_) (by assumption) ?_
    · (try dsimp only at hS'); go_simp
    try simp only [Act.put, pa, pb, pc]
    refine tk (v := .bool true) 11 20 rfl (fun w' hS' => ?_) (by assumption) ?_
    · (try dsimp only at hS'); go_simp
    try simp only [Act.put, pa, pb, pc]
    refine wpAnyH_done (by kernel_rfl) ?_ _
    have HK : Below w.heap.size w _ := b0.trans (hS.2.2.2.2.2.mono b0.size)
    have HKH := Lib.hid HK
    clear hS SX RD HK
    go_wp2
    go_ret2
    rw [HN.out.1, HN.out.2]
    exact ⟨_, rfl, nilOwn _ _ rfl HKH.out.size, HKH.out⟩
  obtain ⟨f0, f1, f2, f3⟩ := docB_of hd
  have hi1 := of_decide_eq_true hi
  rw [f3] at hi1
  clear f3
  obtain ⟨m, hm⟩ : ∃ m : Nat, r = x.from_ + (m : Int) := ⟨(r - x.from_).toNat, by omega⟩
  subst hm
  have hm1 : m ≤ x.list.length := by omega
  have hc3 : x.list.length ≤ c3 := by obtain ⟨A, c, e, hc⟩ := RdC.len r3; injection e with _ _ e3; subst e3; simpa using hc
  have g1 : x.from_ + (m : Int) - x.from_ = (m : Int) := by omega
  have g2 : (m : Int) ≤ (c3 : Int) := by omega
  have HN := Lib.hid (show textAtB x (x.from_ + (m : Int)) = true ∧ textAtT x (x.from_ + (m : Int)) = endT (x.list.take m) x.text by have e1 : textAtB x (x.from_ + (m : Int)) = true := by { unfold textAtB; rw [hd, hi]; rfl }; exact ⟨e1, by unfold textAtT; rw [if_pos e1]; congr 2; omega⟩)
  go_enter Tryz.func22, Tryz.ntmps22
  go_wp2
  generalize w.alloc (.cells #[.string x.name, .int .i64 x.from_, .slice A2 x.text.length c2, .slice A3 x.list.length c3, .slice A4 x.seen.length c4] 31) = W1 at b0 bx ⊢
  have y0 : W1.cell? ⟨w.heap.size, 0, none⟩ = some (.string x.name) := bx.cell rfl
  have y1 : W1.cell? ⟨w.heap.size, 1, none⟩ = some (.int .i64 x.from_) := bx.cell rfl
  have y2 : W1.cell? ⟨w.heap.size, 2, none⟩ = some (.slice A2 x.text.length c2) := bx.cell rfl
  have y3 : W1.cell? ⟨w.heap.size, 3, none⟩ = some (.slice A3 x.list.length c3) := bx.cell rfl
  have y4 : W1.cell? ⟨w.heap.size, 4, none⟩ = some (.slice A4 x.seen.length c4) := bx.cell rfl
  have lD := bx.lt
  have SX := Lib.hid (show ∀ (W W' : World), (W.cell? ⟨w.heap.size, 0, none⟩ = some (.string x.name) ∧ W.cell? ⟨w.heap.size, 1, none⟩ = some (.int .i64 x.from_) ∧ W.cell? ⟨w.heap.size, 2, none⟩ = some (.slice A2 x.text.length c2) ∧ W.cell? ⟨w.heap.size, 3, none⟩ = some (.slice A3 x.list.length c3) ∧ W.cell? ⟨w.heap.size, 4, none⟩ = some (.slice A4 x.seen.length c4) ∧ KS W1 W) → Below W.heap.size W W' → (W'.cell? ⟨w.heap.size, 0, none⟩ = some (.string x.name) ∧ W'.cell? ⟨w.heap.size, 1, none⟩ = some (.int .i64 x.from_) ∧ W'.cell? ⟨w.heap.size, 2, none⟩ = some (.slice A2 x.text.length c2) ∧ W'.cell? ⟨w.heap.size, 3, none⟩ = some (.slice A3 x.list.length c3) ∧ W'.cell? ⟨w.heap.size, 4, none⟩ = some (.slice A4 x.seen.length c4) ∧ KS W1 W') from fun W W' h hb => by have hk := h.2.2.2.2.2; have hkk : KS W1 W' := hk.trans (hb.mono hk.size); exact ⟨(hkk.cell (p := ⟨w.heap.size, 0, none⟩) lD).trans y0, (hkk.cell (p := ⟨w.heap.size, 1, none⟩) lD).trans y1, (hkk.cell (p := ⟨w.heap.size, 2, none⟩) lD).trans y2, (hkk.cell (p := ⟨w.heap.size, 3, none⟩) lD).trans y3, (hkk.cell (p := ⟨w.heap.size, 4, none⟩) lD).trans y4, hkk⟩)
  have RD := Lib.hid (show ∀ W : World, (W.cell? ⟨w.heap.size, 0, none⟩ = some (.string x.name) ∧ W.cell? ⟨w.heap.size, 1, none⟩ = some (.int .i64 x.from_) ∧ W.cell? ⟨w.heap.size, 2, none⟩ = some (.slice A2 x.text.length c2) ∧ W.cell? ⟨w.heap.size, 3, none⟩ = some (.slice A3 x.list.length c3) ∧ W.cell? ⟨w.heap.size, 4, none⟩ = some (.slice A4 x.seen.length c4) ∧ KS W1 W) → RdC W W.heap.size (datDo x) (.agg #[.string x.name, .int .i64 x.from_, .slice A2 x.text.length c2, .slice A3 x.list.length c3, .slice A4 x.seen.length c4]) from fun W h => by have hk : Below W1.heap.size W1 W := h.2.2.2.2.2; exact (HR.out.past b0).past hk)
  have hS0 : W1.drew.cell? ⟨w.heap.size, 0, none⟩ = some (.string x.name) ∧ W1.drew.cell? ⟨w.heap.size, 1, none⟩ = some (.int .i64 x.from_) ∧ W1.drew.cell? ⟨w.heap.size, 2, none⟩ = some (.slice A2 x.text.length c2) ∧ W1.drew.cell? ⟨w.heap.size, 3, none⟩ = some (.slice A3 x.list.length c3) ∧ W1.drew.cell? ⟨w.heap.size, 4, none⟩ = some (.slice A4 x.seen.length c4) ∧ KS W1 W1.drew := ⟨y0, y1, y2, y3, y4, KS.start _⟩
  clear y0 y1 y2 y3 y4
  refine wp_region_held_drew (S := fun W => W.cell? ⟨w.heap.size, 0, none⟩ = some (.string x.name) ∧ W.cell? ⟨w.heap.size, 1, none⟩ = some (.int .i64 x.from_) ∧ W.cell? ⟨w.heap.size, 2, none⟩ = some (.slice A2 x.text.length c2) ∧ W.cell? ⟨w.heap.size, 3, none⟩ = some (.slice A3 x.list.length c3) ∧ W.cell? ⟨w.heap.size, 4, none⟩ = some (.slice A4 x.seen.length c4) ∧ KS W1 W) (by kernel_rfl) hS0 (fun hS => ?_)
  refine tk (v := .agg #[.string x.name, .int .i64 x.from_, .slice A2 x.text.length c2, .slice A3 x.list.length c3, .slice A4 x.seen.length c4]) 0 9 rfl (fun w' hS' => ?_) (by assumption) ?_
  · (try dsimp only at hS'); go_simp
  try simp only [Act.put, pa, pb, pc]
  refine r1 1 (some 10) rfl (fun K hK => ?_)
  go_simp
  refine (specDocOk_d _ x _ (RD.out _ (by assumption)) hs).mono ?_
  rw [hd]
  rintro e w2 ⟨rfl, b2⟩
  refine hK.out _ _ (SX.out _ _ (by assumption) b2) (fun hS => ?_)
  clear hK K
  try simp only [Act.put, pa, pb, pc]
  refine tk (v := .bool false) 2 11 rfl (fun w' hS' => ?_) (by assumption) ?_
  · (try dsimp only at hS'); go_simp
  try simp only [Act.put, pa, pb, pc]
  refine tk (v := .bool false) 3 12 rfl (fun w' hS' => ?_) (by assumption) ?_
  · (try dsimp only at hS'); go_simp
  try simp only [Act.put, pa, pb, pc]
  refine tk (v := .int .i64 (x.from_ + (m : Int))) 4 13 rfl (fun w' hS' => ?_) (by assumption) ?_
  · (try dsimp only at hS'); go_simp
  try simp only [Act.put, pa, pb, pc]
  refine tk (v := .pointer (some ⟨w.heap.size, 1, none⟩)) 5 14 rfl (fun w' hS' => ?_) (by assumption) ?_
  · (try dsimp only at hS'); go_simp
  try simp only [Act.put, pa, pb, pc]
  refine tk (v := .int .i64 x.from_) 6 15 rfl (fun w' hS' => ?_) (by assumption) ?_
  · (try dsimp only at hS'); go_simp
  try simp only [Act.put, pa, pb, pc]
  refine tk (v := .agg #[.string x.name, .int .i64 x.from_, .slice A2 x.text.length c2, .slice A3 x.list.length c3, .slice A4 x.seen.length c4]) 7 16 rfl (fun w' hS' => ?_) (by assumption) ?_
  · (try dsimp only at hS'); go_simp
  try simp only [Act.put, pa, pb, pc]
  refine r1 8 (some 17) rfl (fun K hK => ?_)
  go_simp
  refine (specHeadRev_d _ x _ (RD.out _ (by assumption)) hs).mono ?_
  rintro e w3 ⟨rfl, b3⟩
  refine hK.out _ _ (SX.out _ _ (by assumption) b3) (fun hS => ?_)
  clear hK K
  try simp only [Act.put, pa, pb, pc]
  refine r1 9 (some 18) rfl (fun K hK => ?_)
  go_simp
  refine (in_any _ _ _ _).mono ?_
  rw [hi]
  rintro e w4 ⟨rfl, rfl⟩
  refine hK.out _ _ (by assumption) (fun hS => ?_)
  clear hK K
  try simp only [Act.put, pa, pb, pc]
  refine tk (v := .bool false) 10 19 rfl (fun w' hS' => ?_) (by assumption) ?_
  · (try dsimp only at hS'); go_simp
  try simp only [Act.put, pa, pb, pc]
  refine tk (v := .bool false) 11 20 rfl (fun w' hS' => ?_) (by assumption) ?_
  · (try dsimp only at hS'); go_simp
  try simp only [Act.put, pa, pb, pc]
  refine wpAnyH_done (by kernel_rfl) ?_ _
  have HK : Below w.heap.size w _ := b0.trans (hS.2.2.2.2.2.mono b0.size)
  obtain ⟨y0, y1, y2, y3, y4, hks⟩ := hS
  have lD2 : w.heap.size < w3.heap.size := Nat.lt_of_lt_of_le lD hks.size
  have HKH := Lib.hid HK
  clear SX RD hks hd hi
  have hib : (w3.alloc (.cells #[] 3)).ownsRow w.heap.size 3 1 (.slice (some ⟨w3.heap.size, 0, none⟩) 0 0) 0 [] := ⟨rfl, .inr ⟨w3.heap.size, 0, #[], rfl, HKH.out.size, heap_alloc_new w3 _, Nat.le_refl _, by unfold maxLen; omega, rfl, rfl⟩⟩
  have hbw : Below w.heap.size w (w3.alloc (.cells #[] 3)) := HKH.out.trans ((alloc_below _ _).mono HKH.out.size)
  obtain ⟨A2, c2_, e2, hr2, _⟩ := ints_rd (r2.past hbw)
  injection e2 with e2 _ e3
  subst e2 e3
  have hst : x.text.length ≤ 1048576 := hs.text
  go_wp2_with (at_builtin; refine wpList_append_ints rfl (.tmp 21) (.tmp 23) rfl w.heap.size (.slice (some ⟨w3.heap.size, 0, none⟩) 0 0) [] rfl hib _ x.text.length c2 x.text rfl rfl hr2 (by simp; omega) hbw.size ?_; intro An cn wn hon hgn; have q1 : wn.cell? ⟨w.heap.size, 1, none⟩ = some (.int .i64 x.from_) := (grown_cell (p := ⟨w.heap.size, 1, none⟩) hgn (by simp; omega) (by simp [Value.ownBlock]; omega)).trans (((alloc_below w3 _).cell (p := ⟨w.heap.size, 1, none⟩) lD2).trans y1); have q3 : wn.cell? ⟨w.heap.size, 3, none⟩ = some (.slice A3 x.list.length c3) := (grown_cell (p := ⟨w.heap.size, 3, none⟩) hgn (by simp; omega) (by simp [Value.ownBlock]; omega)).trans (((alloc_below w3 _).cell (p := ⟨w.heap.size, 3, none⟩) lD2).trans y3))
  have hbn := hbw.grown hgn hbw.size (fun q hq => own_ge hib q hq)
  simp only [List.nil_append, List.length_nil, Nat.zero_add] at hon
  have HON := Lib.hid (ownInts hon hbn.size)
  have hsm := hs.text
  clear q1 q3 g1 g2 hon hgn hib hbw
  go_loopw [6, 33] (fun o i wr => ∃ (j : Nat) (cur : List Int), j ≤ m ∧ i = .int .i64 (j : Int) ∧ endT (x.list.take j) x.text = cur ∧ SmI cur ∧ Own w.heap.size wr.heap.size wr (encInts cur) o ∧ Below w.heap.size w wr) (fun _ i _ => m - (intOf i).toNat)
  case atStart => exact ⟨0, x.text, Nat.zero_le _, rfl, rfl, hsm, HON.out, hbn⟩
  case round =>
    obtain ⟨j, cur, hj, rfl, hf, hsc, ho, hbel⟩ := hrel
    clear HON hbn
    have HF := Lib.hid hf
    clear hf
    obtain ⟨Ao, co, rfl⟩ := sliceI ho.read
    have HO := Lib.hid ho
    clear ho
    by_cases hlt : j < m
    · obtain ⟨b, off, e, A5, c5, rfl, hbb, hp, z0, z1, z2, q2⟩ := atEns (r3.below hbel) (i := j) (by omega)
      have hse := hs.list.at_ (List.mem_of_getElem? hp)
      have HN2 := Lib.hid (show endT (x.list.take (j + 1)) x.text = applyT e.o cur by rw [endT_snoc hp, HF.out])
      clear hp
      have bA := alloc_below wr (.cells #[.int .i64 e.client, .int .i64 e.seq, .slice A5 e.o.length c5] 98)
      have q2 := RdC.more hbel.size _ _ q2
      go_wp2_with fail
      generalize wr.alloc (.cells #[.int .i64 e.client, .int .i64 e.seq, .slice A5 e.o.length c5] 98) = W2 at bA ⊢
      refine (specApply_d _ _ e.o cur _ (q2.past bA) (HO.out.past bA).read hse.o hsc).mono ?_
      rintro e' w5 ⟨v5, rfl, o5, b5⟩
      obtain ⟨A6, c6, rfl⟩ := sliceI o5.read
      have O5 := Lib.hid o5
      have d5 := bA.trans (b5.mono bA.size)
      have zz : w.heap.size ≤ W2.heap.size := Nat.le_trans hbel.size bA.size
      clear o5 b5 bA
      go_wp2
      go_roundw
      case rel => exact ⟨j + 1, applyT e.o cur, by omega, by go_num, HN2.out, apply_small hse.o hsc, O5.out.wide zz (Nat.le_refl _) (Nat.le_refl _), hbel.trans (d5.mono hbel.size)⟩
      case measure => simp [intOf]; omega
    · obtain rfl : j = m := by omega
      go_wp2
      go_ret2
      rw [HN.out.1, HN.out.2, HF.out]
      exact ⟨_, rfl, HO.out, hbel⟩
end Go.Proofs.YtninppjomdhnmaaGreat.low


/-
  Contracts of spec.HeadText and spec.DocNew.
-/
namespace Go.Proofs.YtninppjomdhnmaaGreat.low
open Go.RowKit
set_option linter.unusedVariables false

def noDo : Do := ⟨⟨#[]⟩, 0, [], [], []⟩
end Go.Proofs.YtninppjomdhnmaaGreat.low


/-
  Contract of spec.DocSame. Written by mkdoc5.py.
-/
namespace Go.Proofs.YtninppjomdhnmaaGreat.low
open Go.RowKit
set_option linter.unusedVariables false

def seSameB (s s' : Se) : Bool := decide (s.client = s'.client) && decide (s.seq = s'.seq) && decide (s.rev = s'.rev)
def seensB : List Se → List Se → Bool
  | [], [] => true
  | e :: l, e' :: l' => seSameB e e' && seensB l l'
  | _, _ => false
theorem seensB_step {l l' : List Se} {j : Nat} {e e' : Se} (h : l[j]? = some e) (h' : l'[j]? = some e') : seensB (l.drop j) (l'.drop j) = (seSameB e e' && seensB (l.drop (j + 1)) (l'.drop (j + 1))) := by
  obtain ⟨h1, e1⟩ := List.getElem?_eq_some_iff.1 h
  obtain ⟨h2, e2⟩ := List.getElem?_eq_some_iff.1 h'
  rw [List.drop_eq_getElem_cons h1, List.drop_eq_getElem_cons h2, e1, e2]
  rfl
end Go.Proofs.YtninppjomdhnmaaGreat.low


/-
  Contract of spec.l02Copy, and the laws of append in a region that draws its order. Written by mkdoc6.py.
-/
namespace Go.Proofs.YtninppjomdhnmaaGreat.low
open Go.RowKit
set_option linter.unusedVariables false

theorem OwB.apartG {lo hi : Nat} {w w' : World} {d : Dat} {v : Value} {b : List Nat} {r : Option Nat} (h : OwB lo hi w d v b) (hg : w.grownBy w' r) (hr : ∀ k, r = some k → k < lo ∨ hi ≤ k) : OwB lo hi w' d v b :=
  ⟨OwC.keep d v b h.ow (fun x hx => hg.block x (OwC.lt d v b h.ow x hx) (fun e => by have := h.rng x hx; have := hr x e.symm; omega)), h.nd, h.rng, Nat.le_trans h.top hg.size, h.le⟩
theorem Grew.cellOut {O O' : Nat → Prop} {w w' : World} (h : Grew O O' w w') {p : Addr} (hb : p.block < w.heap.size) (hn : ¬ O p.block) : w'.cell? p = w.cell? p := World.cell?_of_block (w := w) (h.block p.block hb hn)
theorem step_append_zero {P : Program} {w : World} {ops : Array Oper} {o : Oper} {a : Act} {KN : Act → World → Prop} {Q : Exit → Act → World → Prop} {E : Prop} (hgd : o.guard = none) (s x : Operand) (t : TypeId)
    (ho : o.op = .call { callee := .builtin .append, args := #[s, x], argTypes := #[t, t] })
    (base : Nat) (e : TypeId) (i : TypeInfo) (size : Nat) (ht : P.underlying t = some (.slice e)) (hi : P.info? e = some i)
    (v : Value) (n : Nat) (xs : List Value) (hs : a.eval s = v) (hown : w.ownsRow base e size v n xs) (A : Option Addr) (c : Nat) (hx : a.eval x = .slice A 0 c)
    (h : KN (a.put o.dst v) w) : if Region.wanted o (yielded ops a.tmps) = true then Oper.wp P o a w KN Q else E := by
  have hw : Region.wanted o (yielded ops a.tmps) = true := by simp [Region.wanted, hgd]
  rw [if_pos hw]
  have hrun := run_append_zero (P := P) (w := w) base t o.type e i size ht hi v n xs hown A c
  unfold Oper.wp
  simp [execOp, ho, resolve, invoke, builtin, hs, hx, hrun, Result.andThen]
  exact h
theorem step_append_ints {w : World} {ops : Array Oper} {o : Oper} {a : Act} {KN : Act → World → Prop} {Q : Exit → Act → World → Prop} {E : Prop} (hgd : o.guard = none) (s x : Operand)
    (ho : o.op = .call { callee := .builtin .append, args := #[s, x], argTypes := #[22, 22] })
    (base : Nat) (v : Value) (zs : List Int) (hs : a.eval s = v) (hown : w.ownsRow base 3 1 v zs.length (zs.map (Value.int .i64)))
    (A : Option Addr) (m c : Nat) (ys : List Int) (hx : a.eval x = .slice A m c) (hm : ys.length = m) (hr : Row (Value.int .i64) w w.heap.size A ys)
    (h63 : zs.length + m ≤ 1000000000) (hbase : base ≤ w.heap.size)
    (h : ∀ A' c' w', w'.ownsRow base 3 1 (.slice A' (zs.length + m) c') (zs ++ ys).length ((zs ++ ys).map (Value.int .i64)) → w.grownBy w' v.ownBlock → KN (a.put o.dst (.slice A' (zs.length + m) c')) w') : if Region.wanted o (yielded ops a.tmps) = true then Oper.wp Tryz.prog o a w KN Q else E := by
  obtain ⟨i0, hi0, hz0, hz1, hz2⟩ := info_parts ints_info
  by_cases h0 : 0 < m
  · obtain ⟨ad, rfl, hbk, hcs⟩ := hr (by omega)
    refine step_append_lies _ hgd s x 22 ho base 3 i0 (.int .i64 0) 1 8 Tryz.underlying22 hi0 hz0 hz1 hz2 rfl (by decide) v zs.length (zs.map (Value.int .i64)) hs hown ad m c (ys.map (Value.int .i64)) hx (by simp [hm]) (fun j u hu => ?_) (by simp [Value.oneCell']) h0 (by unfold maxLen; omega) (by omega) hbase w.heap.size rfl ?_
    · rw [List.getElem?_map] at hu
      obtain ⟨z, hz, rfl⟩ := Option.map_eq_some_iff.1 hu
      exact hcs j z hz
    · intro g cap w' hown' hg _ _
      exact h _ cap w' (by simpa [hm] using hown') hg
  · have e0 : ys = [] := List.eq_nil_of_length_eq_zero (by omega)
    subst e0
    obtain rfl : m = 0 := by omega
    refine step_append_zero hgd s x 22 ho base 3 i0 1 Tryz.underlying22 hi0 v zs.length (zs.map (Value.int .i64)) hs hown A c hx ?_
    obtain ⟨Av, cv, rfl⟩ := own_form hown
    exact h Av cv w (by simpa using hown) (grown_refl _ _)
theorem step_append_row {w : World} {ops : Array Oper} {o : Oper} {a : Act} {KN : Act → World → Prop} {Q : Exit → Act → World → Prop} {E : Prop} (hgd : o.guard = none) (s x : Operand) (t : TypeId)
    (ho : o.op = .call { callee := .builtin .append, args := #[s, x], argTypes := #[t, t] }) (e : TypeId) (i : TypeInfo) (z : Value) (sz bytes : Nat) (ht : Tryz.prog.underlying t = some (.slice e)) (hi : Tryz.prog.info? e = some i) (hz : i.zero = some z) (hsize : i.size = sz) (hby : i.bytes = bytes) (hzs : z.cells.size = sz) (hsz : 0 < sz) (hbm : bytes ≤ 100000)
    (lo hi' : Nat) (v : Value) (ds : List (List Dat)) (b : List Nat) (h : OwB lo hi' w (.rows e sz ds) v b) (hs : a.eval s = v) (hlen : ds.length ≤ 2000000)
    (ad : Addr) (c0 : Nat) (ys : List Value) (hx : a.eval x = .slice (some ad) 1 c0) (hl : ys.length = sz) (hnews : ∀ j u, ys[j]? = some u → w.cell? (ad.add j) = some u) (h1 : ∀ u ∈ ys, u.oneCell' = true)
    (r : List Dat) (c : List Nat) (hr : OwL w r ys c) (hcn : c.Nodup) (hbc : ∀ q ∈ b, q ∉ c) (hcr : ∀ q ∈ c, lo ≤ q)
    (K : ∀ A' c' w' b', OwB lo w'.heap.size w' (.rows e sz (ds ++ [r])) (.slice A' (ds.length + 1) c') b' → (∀ q ∈ b', q ∈ b ∨ q ∈ c ∨ w.heap.size ≤ q) → Grew (fun q => q ∈ b) (fun q => q ∈ b ∨ w.heap.size ≤ q) w w' → Below lo w w' → KN (a.put o.dst (.slice A' (ds.length + 1) c')) w') : if Region.wanted o (yielded ops a.tmps) = true then Oper.wp Tryz.prog o a w KN Q else E := by
  have hnd := h.nd
  have hrg := h.rng
  obtain ⟨xs, cs, ho', hor, hb⟩ := h.ow
  refine step_append_lies _ hgd s x t ho 0 e i z sz bytes ht hi hz hsize hby hzs hsz v ds.length xs hs ho' ad 1 c0 ys hx (by simp [hl]) hnews h1 (by omega) (by unfold maxLen; omega) ?_ (Nat.zero_le _) _ rfl ?_
  · have : (ds.length + 1) * bytes ≤ 2000001 * 100000 := Nat.mul_le_mul (by omega) hbm
    omega
  intro g cap w' hown hg hat hlt
  rw [hb] at hnd
  obtain ⟨n1, n2, n3⟩ := List.nodup_append.1 hnd
  have own_mem : ∀ q, v.ownBlock = some q → q ∈ b := fun q hq => by rw [hb, hq]; simp
  have hcs : ∀ q ∈ cs, w'.heap[q]? = w.heap[q]? := fun q hq => hg.block q (OwR.lt sz _ _ _ hor q hq) (fun e => n3 q (by rw [← e]; simp) q hq rfl)
  have hcc : ∀ q ∈ c, w'.heap[q]? = w.heap[q]? := fun q hq => hg.block q (OwL.lt _ _ _ hr q hq) (fun e => hbc q (own_mem q e.symm) hq)
  have hor' := (OwR.keep sz _ _ _ hor hcs).append (OwR.one (OwL.keep _ _ _ hr hcc) hl)
  have g1 : g ∉ cs := fun hq => by
    rcases hat with e | e
    · exact n3 g (by rw [e]; simp) g hq rfl
    · have := OwR.lt sz _ _ _ hor g hq; omega
  have g2 : g ∉ c := fun hq => by
    rcases hat with e | e
    · exact hbc g (own_mem g e) hq
    · have := OwL.lt _ _ _ hr g hq; omega
  have g3 : lo ≤ g ∧ (g ∈ b ∨ w.heap.size ≤ g) := by
    rcases hat with e | e
    · exact ⟨(hrg g (own_mem g e)).1, .inl (own_mem g e)⟩
    · have := h.top; have := h.le; exact ⟨by omega, .inr (by omega)⟩
  have hsz' := hg.size
  have ht' := h.top
  refine K _ cap w' (g :: (cs ++ c)) ⟨⟨xs ++ ys, cs ++ c, by rw [List.length_append]; exact hown, hor', rfl⟩, ?_, ?_, Nat.le_refl _, by have := h.le; omega⟩ ?_ ⟨hg.size, fun q hq hn => hg.block q hq (fun e => hn (own_mem q e.symm)), fun q hq => hq⟩ ?_
  · refine List.nodup_cons.2 ⟨fun hq => ?_, List.nodup_append.2 ⟨n2, hcn, fun q hq q' hq' e => ?_⟩⟩
    · rcases List.mem_append.1 hq with hq | hq
      · exact g1 hq
      · exact g2 hq
    · subst e
      exact hbc q (by rw [hb]; simp [hq]) hq'
  · intro q hq
    rcases List.mem_cons.1 hq with rfl | hq
    · exact ⟨g3.1, hlt⟩
    · rcases List.mem_append.1 hq with hq | hq
      · have := hrg q (by rw [hb]; simp [hq]); exact ⟨this.1, by omega⟩
      · have := OwL.lt _ _ _ hr q hq; exact ⟨hcr q hq, by omega⟩
  · intro q hq
    rcases List.mem_cons.1 hq with rfl | hq
    · rcases g3.2 with h | h
      · exact .inl h
      · exact .inr (.inr h)
    · rcases List.mem_append.1 hq with hq | hq
      · exact .inl (by rw [hb]; simp [hq])
      · exact .inr (.inl hq)
  · exact (Below.refl lo w).grown hg (by have := h.le; omega) (fun k hk => (hrg k (own_mem k hk)).1)
set_option maxRecDepth 100000 in
set_option maxHeartbeats 3200000 in
theorem specCopy_d (v : Value) (ps : List Pt) (w : World) (h : RdC w w.heap.size (encPs ps) v) (hs : SmP ps) : Calls Tryz.prog 85 #[v] w (OwnPost (encPs ps) w) := by
  obtain ⟨A, c, rfl, hr, _⟩ := parts_rd h
  have hl := hs.1
  obtain ⟨i0, hi0, hz0, hz1, hz2⟩ := info_parts part_info
  have ob : OwB w.heap.size (w.heap.size + 1) (w.alloc (.cells #[] 131)) (encPs []) (.slice (some ⟨w.heap.size, 0, none⟩) 0 0) [w.heap.size] := ⟨⟨[], [], ⟨rfl, .inr ⟨w.heap.size, 0, #[], rfl, Nat.zero_le _, heap_alloc_new w _, Nat.le_refl _, by unfold maxLen; omega, rfl, rfl⟩⟩, ⟨rfl, rfl⟩, rfl⟩, by simp, fun q hq => by simp at hq; omega, by rw [World.size_alloc]; exact Nat.le_refl _, by omega⟩
  have b0 := alloc_below w (.cells #[] 131)
  have z0 : (w.alloc (.cells #[] 131)).heap.size = w.heap.size + 1 := World.size_alloc _ _
  rw [← z0] at ob
  have OB := Lib.hid ob
  clear ob z0
  go_enter Tryz.func85, Tryz.ntmps85
  go_wp2
  go_loopw [3, 9] (fun ov i wr => ∃ (j : Nat) (A1 : Option Addr) (c1 : Nat) (bs : List Nat), j ≤ ps.length ∧ i = .int .i64 (j : Int) ∧ ov = .slice A1 j c1 ∧ OwB w.heap.size wr.heap.size wr (encPs (ps.take j)) ov bs ∧ Below w.heap.size w wr) (fun _ i _ => ps.length - (intOf i).toNat)
  case atStart => exact ⟨0, _, _, _, Nat.zero_le _, rfl, rfl, OB.out, b0⟩
  case round =>
    obtain ⟨j, A1, c1, bs, hj, rfl, rfl, ho, hbel⟩ := hrel
    clear OB b0
    have HO := Lib.hid ho
    clear ho
    by_cases hlt : j < ps.length
    · obtain ⟨b, off, p, rfl, hbb, hp, hc⟩ := hr.at_ hlt
      obtain ⟨x0, x1, A5, c5, x2, r1⟩ := hc.keep (w' := wr) hbb (fun _ hq => hbel.cell hq)
      have hsp := hs.all p (List.mem_of_getElem? hp)
      have HT := Lib.hid (show ps.take (j + 1) = ps.take j ++ [p] by rw [List.take_add_one, hp]; rfl)
      clear hp hc
      have bA := alloc_below wr (.cells #[.int .i64 p.kind, .int .i64 p.n, .slice A5 p.signs.length c5] 131)
      have bxP := Bx.new wr #[.int .i64 p.kind, .int .i64 p.n, .slice A5 p.signs.length c5] 131
      have HO1 := Lib.hid (HO.out.past bA)
      have zA : (wr.alloc (.cells #[.int .i64 p.kind, .int .i64 p.n, .slice A5 p.signs.length c5] 131)).heap.size = wr.heap.size + 1 := World.size_alloc _ _
      go_wp2
      generalize wr.alloc (.cells #[.int .i64 p.kind, .int .i64 p.n, .slice A5 p.signs.length c5] 131) = W1 at bA bxP HO1 zA ⊢
      have lP := bxP.lt
      have hS0 : W1.drew.cell? ⟨wr.heap.size, 0, none⟩ = some (.int .i64 p.kind) ∧ W1.drew.cell? ⟨wr.heap.size, 1, none⟩ = some (.int .i64 p.n) ∧ W1.drew.cell? ⟨wr.heap.size, 2, none⟩ = some (.slice A5 p.signs.length c5) := ⟨bxP.cell (j := 0) rfl, bxP.cell (j := 1) rfl, bxP.cell (j := 2) rfl⟩
      refine wp_region_held_drew (S := fun W => W.cell? ⟨wr.heap.size, 0, none⟩ = some (.int .i64 p.kind) ∧ W.cell? ⟨wr.heap.size, 1, none⟩ = some (.int .i64 p.n) ∧ W.cell? ⟨wr.heap.size, 2, none⟩ = some (.slice A5 p.signs.length c5)) (by kernel_rfl) hS0 (fun hS => ?_)
      clear hS0
      have bA := bA.trans ((Below.refl _ _).drew.mono bA.size)
      have HO1 := Lib.hid (HO1.out.past (Below.refl _ _).drew)
      have zA : W1.drew.heap.size = wr.heap.size + 1 := zA
      have lP : wr.heap.size < W1.drew.heap.size := lP
      clear bxP
      generalize W1.drew = WD at hS bA HO1 zA lP ⊢
      refine tk (v := .slice A1 j c1) 0 13 rfl (fun w' hS' => ?_) (by assumption) ?_
      · (try dsimp only at hS'); go_simp
      try simp only [Act.put, pa, pb, pc]
      refine tk (v := .pointer (some ⟨wr.heap.size, 0, none⟩)) 1 14 rfl (fun w' hS' => ?_) (by assumption) ?_
      · (try dsimp only at hS'); go_simp
      try simp only [Act.put, pa, pb, pc]
      refine tk (v := .int .i64 p.kind) 2 15 rfl (fun w' hS' => ?_) (by assumption) ?_
      · (try dsimp only at hS'); go_simp
      try simp only [Act.put, pa, pb, pc]
      refine tk (v := .pointer (some ⟨wr.heap.size, 1, none⟩)) 3 16 rfl (fun w' hS' => ?_) (by assumption) ?_
      · (try dsimp only at hS'); go_simp
      try simp only [Act.put, pa, pb, pc]
      refine tk (v := .int .i64 p.n) 4 17 rfl (fun w' hS' => ?_) (by assumption) ?_
      · (try dsimp only at hS'); go_simp
      try simp only [Act.put, pa, pb, pc]
      refine tk (v := .pointer (some ⟨wr.heap.size, 2, none⟩)) 6 19 rfl (fun w' hS' => ?_) (by assumption) ?_
      · (try dsimp only at hS'); go_simp
      try simp only [Act.put, pa, pb, pc]
      refine tk (v := .slice A5 p.signs.length c5) 7 20 rfl (fun w' hS' => ?_) (by assumption) ?_
      · (try dsimp only at hS'); go_simp
      try simp only [Act.put, pa, pb, pc]
      refine low.r1 5 (some 18) rfl (fun K hK => ?_)
      go_simp
      have hS1 : (WD.alloc (.cells #[] 3)).cell? ⟨wr.heap.size, 0, none⟩ = some (.int .i64 p.kind) ∧ (WD.alloc (.cells #[] 3)).cell? ⟨wr.heap.size, 1, none⟩ = some (.int .i64 p.n) ∧ (WD.alloc (.cells #[] 3)).cell? ⟨wr.heap.size, 2, none⟩ = some (.slice A5 p.signs.length c5) := ⟨((alloc_below WD (.cells #[] 3)).cell (p := ⟨wr.heap.size, 0, none⟩) lP).trans hS.1, ((alloc_below WD (.cells #[] 3)).cell (p := ⟨wr.heap.size, 1, none⟩) lP).trans hS.2.1, ((alloc_below WD (.cells #[] 3)).cell (p := ⟨wr.heap.size, 2, none⟩) lP).trans hS.2.2⟩
      refine hK.out _ _ hS1 (fun hS => ?_)
      clear hK K hS1
      try simp only [Act.put, pa, pb, pc]
      have bD : Below WD.heap.size WD (WD.alloc (.cells #[] 3)) := alloc_below WD (.cells #[] 3)
      have hib : (WD.alloc (.cells #[] 3)).ownsRow (wr.heap.size + 1) 3 1 (.slice (some ⟨wr.heap.size + 1, 0, none⟩) 0 0) 0 [] := ⟨rfl, .inr ⟨wr.heap.size + 1, 0, #[], rfl, Nat.le_refl _, by rw [← zA]; exact heap_alloc_new WD _, Nat.le_refl _, by unfold maxLen; omega, rfl, rfl⟩⟩
      have zD : (WD.alloc (.cells #[] 3)).heap.size = wr.heap.size + 2 := by rw [World.size_alloc]; omega
      have hrow := (((r1.more hbel.size).past bA).past bD)
      have HO2 := Lib.hid (HO1.out.past bD)
      generalize WD.alloc (.cells #[] 3) = W2 at hS bD hib zD hrow HO2 ⊢
      refine low.r1 8 (some 21) rfl (fun K hK => ?_)
      refine step_append_ints (by rfl) (.tmp 18) (.tmp 20) (by rfl) (wr.heap.size + 1) (.slice (some ⟨wr.heap.size + 1, 0, none⟩) 0 0) [] (by rfl) hib A5 p.signs.length c5 p.signs (by rfl) rfl hrow (by simp; omega) (by omega) ?_
      intro An cn wn hon hgn
      simp only [List.nil_append, List.length_nil, Nat.zero_add] at hon ⊢
      have hS1 : wn.cell? ⟨wr.heap.size, 0, none⟩ = some (.int .i64 p.kind) ∧ wn.cell? ⟨wr.heap.size, 1, none⟩ = some (.int .i64 p.n) ∧ wn.cell? ⟨wr.heap.size, 2, none⟩ = some (.slice A5 p.signs.length c5) := ⟨(grown_cell (p := ⟨wr.heap.size, 0, none⟩) hgn (by simp only; omega) (by simp [Value.ownBlock])).trans hS.1, (grown_cell (p := ⟨wr.heap.size, 1, none⟩) hgn (by simp only; omega) (by simp [Value.ownBlock])).trans hS.2.1, (grown_cell (p := ⟨wr.heap.size, 2, none⟩) hgn (by simp only; omega) (by simp [Value.ownBlock])).trans hS.2.2⟩
      refine hK.out _ _ hS1 (fun hS => ?_)
      clear hK K hS1
      try simp only [Act.put, pa, pb, pc]
      have zn : wr.heap.size + 2 ≤ wn.heap.size := by have := hgn.size; omega
      have on := ownInts hon (by omega)
      have HO3 := Lib.hid (HO2.out.apartG hgn (fun k hk => by simp [Value.ownBlock] at hk; omega))
      have bn : Below wr.heap.size W2 wn := (Below.refl _ _).grown hgn (by omega) (fun q hq => by have := own_ge hib q hq; omega)
      have dn : Below w.heap.size w wn := hbel.trans (((bA.trans (bD.mono bA.size)).trans bn).mono hbel.size)
      clear hon hgn hib hrow HO2 bn bD
      refine tk (v := .agg #[.int .i64 p.kind, .int .i64 p.n, .slice An p.signs.length cn]) 9 22 rfl (fun w' hS' => ?_) (by assumption) ?_
      · (try dsimp only at hS'); go_simp
      try simp only [Act.put, pa, pb, pc]
      refine low.r1 10 (some 23) rfl (fun K hK => ?_)
      go_simp
      have hS1 : (wn.alloc (.cells #[.int .i64 p.kind, .int .i64 p.n, .slice An p.signs.length cn] 131)).cell? ⟨wr.heap.size, 0, none⟩ = some (.int .i64 p.kind) ∧ (wn.alloc (.cells #[.int .i64 p.kind, .int .i64 p.n, .slice An p.signs.length cn] 131)).cell? ⟨wr.heap.size, 1, none⟩ = some (.int .i64 p.n) ∧ (wn.alloc (.cells #[.int .i64 p.kind, .int .i64 p.n, .slice An p.signs.length cn] 131)).cell? ⟨wr.heap.size, 2, none⟩ = some (.slice A5 p.signs.length c5) := ⟨((alloc_below wn (.cells #[.int .i64 p.kind, .int .i64 p.n, .slice An p.signs.length cn] 131)).cell (p := ⟨wr.heap.size, 0, none⟩) (by simp only; omega)).trans hS.1, ((alloc_below wn (.cells #[.int .i64 p.kind, .int .i64 p.n, .slice An p.signs.length cn] 131)).cell (p := ⟨wr.heap.size, 1, none⟩) (by simp only; omega)).trans hS.2.1, ((alloc_below wn (.cells #[.int .i64 p.kind, .int .i64 p.n, .slice An p.signs.length cn] 131)).cell (p := ⟨wr.heap.size, 2, none⟩) (by simp only; omega)).trans hS.2.2⟩
      refine hK.out _ _ hS1 (fun hS => ?_)
      clear hK K hS1
      try simp only [Act.put, pa, pb, pc]
      have bP := alloc_below wn (.cells #[.int .i64 p.kind, .int .i64 p.n, .slice An p.signs.length cn] 131)
      have HN := Lib.hid (World.news_of_block (cs := #[.int .i64 p.kind, .int .i64 p.n, .slice An p.signs.length cn]) (t := 131) (fr := (0, 0)) (heap_alloc_new wn (.cells #[.int .i64 p.kind, .int .i64 p.n, .slice An p.signs.length cn] 131)))
      obtain ⟨cs, ox⟩ := (on.past bP).blocks
      have OX := Lib.hid ox
      have HO4 := Lib.hid (HO3.out.past bP)
      have zP : (wn.alloc (.cells #[.int .i64 p.kind, .int .i64 p.n, .slice An p.signs.length cn] 131)).heap.size = wn.heap.size + 1 := World.size_alloc _ _
      have d4 := dn.trans (bP.mono dn.size)
      have e1 : ((ps.take j).map encPt).length = j := by simp; omega
      generalize wn.alloc (.cells #[.int .i64 p.kind, .int .i64 p.n, .slice An p.signs.length cn] 131) = W4 at hS HN OX HO4 zP d4 ⊢
      clear on ox bP dn
      refine low.r1 11 (some 24) rfl (fun K hK => ?_)
      refine step_append_row (by rfl) (.tmp 13) (.tmp 23) 96 (by rfl) 131 i0 _ 3 40 Tryz.underlying96 hi0 hz0 hz1 hz2 rfl (by decide) (by decide) w.heap.size _ (.slice A1 j c1) ((ps.take j).map encPt) bs HO4.out (by rfl) (by omega) ⟨wn.heap.size, 0, none⟩ 1 [.int .i64 p.kind, .int .i64 p.n, .slice An p.signs.length cn] (by rfl) rfl HN.out (by simp [Value.oneCell']) (encPt p) cs ⟨_, _, [], cs, rfl, by simp, ⟨rfl, rfl⟩, _, _, [], cs, rfl, by simp, ⟨rfl, rfl⟩, _, [], cs, [], rfl, by simp, OX.out.ow, rfl, rfl⟩ OX.out.nd (fun q hq hq' => by have q1 := (HO4.out.rng q hq).2; have q2 := (OX.out.rng q hq').1; omega) (fun q hq => by have q2 := (OX.out.rng q hq).1; have := hbel.size; omega) ?_
      intro A7 c7 w7 b7 o7 in7 g7 bl7
      rw [e1]
      have hS1 : w7.cell? ⟨wr.heap.size, 0, none⟩ = some (.int .i64 p.kind) ∧ w7.cell? ⟨wr.heap.size, 1, none⟩ = some (.int .i64 p.n) ∧ w7.cell? ⟨wr.heap.size, 2, none⟩ = some (.slice A5 p.signs.length c5) := ⟨(g7.cellOut (p := ⟨wr.heap.size, 0, none⟩) (by simp only; omega) (fun hq => by have := (HO4.out.rng _ hq).2; simp only at this; omega)).trans hS.1, (g7.cellOut (p := ⟨wr.heap.size, 1, none⟩) (by simp only; omega) (fun hq => by have := (HO4.out.rng _ hq).2; simp only at this; omega)).trans hS.2.1, (g7.cellOut (p := ⟨wr.heap.size, 2, none⟩) (by simp only; omega) (fun hq => by have := (HO4.out.rng _ hq).2; simp only at this; omega)).trans hS.2.2⟩
      refine hK.out _ _ hS1 (fun hS => ?_)
      clear hK K hS1
      try simp only [Act.put, pa, pb, pc]
      refine tk (v := .slice A7 (j + 1) c7) 12 3 rfl (fun w' hS' => ?_) (by assumption) ?_
      · (try dsimp only at hS'); go_simp
      try simp only [Act.put, pa, pb, pc]
      refine wpAnyH_done (by kernel_rfl) ?_ _
      have O7 := Lib.hid (show OwB w.heap.size w7.heap.size w7 (encPs (ps.take (j + 1))) (.slice A7 (j + 1) c7) b7 by rw [HT.out]; rw [e1] at o7; unfold encPs; rw [List.map_append]; exact o7)
      have d7 := d4.trans bl7
      clear o7 hS
      go_wp2
      go_roundw
      case rel => exact ⟨j + 1, A7, c7, b7, by omega, by go_num, rfl, O7.out, d7⟩
      case measure => simp [intOf]; omega
    · obtain rfl : j = ps.length := by omega
      have k1 := HO.out
      rw [List.take_length] at k1
      have K1 := Lib.hid k1
      clear k1
      go_wp2
      go_ret
      exact ⟨_, rfl, ⟨bs, K1.out.ow, K1.out.nd, K1.out.rng, Nat.le_refl _, K1.out.le⟩, hbel⟩
end Go.Proofs.YtninppjomdhnmaaGreat.low


/-
  Contract of spec.OpsSince. Written by mkdoc7.py.
-/
namespace Go.Proofs.YtninppjomdhnmaaGreat.low
open Go.RowKit
set_option linter.unusedVariables false

end Go.Proofs.YtninppjomdhnmaaGreat.low


/-
  The specification's side of stage 8 (documents), gathered; spec.Forget is wanted.
-/
namespace Go.Proofs.YtninppjomdhnmaaGreat.low
set_option linter.unusedVariables false
end Go.Proofs.YtninppjomdhnmaaGreat.low


/-
  The loop of spec.Compose: its body, taken out of the translation; its invariant over the frame.
-/
namespace Go.Proofs.YtninppjomdhnmaaGreat.low
open Go.RowKit
set_option linter.unusedVariables false

/-- the loop's invariant -/
def CoR (K : Fx) (go : Nat) (w0 w' : World) : Prop := ∃ O L RX RY, CB K go 164 O L w' none none RX RY ∧ CInv K.a K.b RX RY L ∧ Below K.lo w0 w'
theorem CoR.mk {K : Fx} {go : Nat} {w0 w' : World} {O : Nat → Prop} {L : List Pt} {RX RY : List U} (h : CB K go 164 O L w' none none RX RY) (hi : CInv K.a K.b RX RY L) (D : Below K.lo w0 w') : CoR K go w0 w' := ⟨O, L, RX, RY, h, hi, D⟩
end Go.Proofs.YtninppjomdhnmaaGreat.low


/-
  The loop of spec.Compose: the cases of a round, each a theorem over the frame; the round; the loop.
-/
namespace Go.Proofs.YtninppjomdhnmaaGreat.low
open Go.RowKit
set_option linter.unusedVariables false

end Go.Proofs.YtninppjomdhnmaaGreat.low


/-
  Contract of spec.Compose.
-/
namespace Go.Proofs.YtninppjomdhnmaaGreat.low
open Go.RowKit
set_option linter.unusedVariables false

theorem heap_old (w : World) (o : Obj) {g : Nat} {x : Obj} (h : w.heap[g]? = some x) : (w.alloc o).heap[g]? = some x := by
  rw [Below.heap_alloc _ _ _ (lt_of_some h)]
  exact h
theorem cur_new {w : World} {g : Nat} {T : TypeId} {A : Option Addr} {c : Nat} {ps : List Pt} (h : w.heap[g]? = some (.cells #[.slice A ps.length c, .int .i64 0, .int .i64 0] T (0, 0))) : ∃ i d, Cur g T w A c ps i d ∧ rem ps i d = units ps ∧ Sett ps i d none :=
  ⟨0, 0, ⟨h, Nat.zero_le _, fun _ _ => Nat.zero_le _, fun _ => rfl⟩, by simp [rem], trivial⟩
/-- two cursors as they are made, at w.heap.size and behind it -/
theorem Cs.new {w w' : World} {A B : Option Addr} {ca cb lo : Nat} {a b : List Pt} {TC : TypeId} (hlo : lo ≤ w.heap.size) (ra : RdC w lo (encPs a) (.slice A a.length ca)) (rb : RdC w lo (encPs b) (.slice B b.length cb)) (sa : ∀ p ∈ a, szP_ p) (sb : ∀ p ∈ b, szP_ p) (na : a.length ≤ 1048576) (nb : b.length ≤ 1048576)
    (hx : w'.heap[w.heap.size]? = some (.cells #[.slice A a.length ca, .int .i64 0, .int .i64 0] TC (0, 0))) (hy : w'.heap[w.heap.size + 1]? = some (.cells #[.slice B b.length cb, .int .i64 0, .int .i64 0] TC (0, 0))) (hb : Below lo w w') : Cs ⟨lo, w.heap.size, w.heap.size + 1, TC, A, ca, a, B, cb, b⟩ w' none none (units a) (units b) :=
  ⟨cur_new hx, cur_new hy, ra.below hb, rb.below hb, by simp, hlo, Nat.le_succ_of_le hlo, sa, sb, na, nb⟩

theorem CB.new {w : World} {A B : Option Addr} {ca cb lo : Nat} {a b : List Pt} {TC TB : TypeId} (hlo : lo ≤ w.heap.size) (ra : RdC w lo (encPs a) (.slice A a.length ca)) (rb : RdC w lo (encPs b) (.slice B b.length cb)) (sa : ∀ p ∈ a, szP_ p) (sb : ∀ p ∈ b, szP_ p) (na : a.length ≤ 1048576) (nb : b.length ≤ 1048576) :
    CB ⟨lo, w.heap.size, w.heap.size + 1, TC, A, ca, a, B, cb, b⟩ (w.heap.size + 1 + 1) TB (fun q => q = w.heap.size + 1 + 1) [] (((w.alloc (.cells #[.slice A a.length ca, .int .i64 0, .int .i64 0] TC)).alloc (.cells #[.slice B b.length cb, .int .i64 0, .int .i64 0] TC)).alloc (.cells #[.slice none 0 0, .slice none 0 0, .int .i64 0] TB)) none none (units a) (units b) ∧
    Below lo w (((w.alloc (.cells #[.slice A a.length ca, .int .i64 0, .int .i64 0] TC)).alloc (.cells #[.slice B b.length cb, .int .i64 0, .int .i64 0] TC)).alloc (.cells #[.slice none 0 0, .slice none 0 0, .int .i64 0] TB)) := by
  have s1 : (w.alloc (.cells #[.slice A a.length ca, .int .i64 0, .int .i64 0] TC)).heap.size = w.heap.size + 1 := Array.size_push ..
  have s2 : ((w.alloc (.cells #[.slice A a.length ca, .int .i64 0, .int .i64 0] TC)).alloc (.cells #[.slice B b.length cb, .int .i64 0, .int .i64 0] TC)).heap.size = w.heap.size + 1 + 1 := by rw [← s1]; exact Array.size_push ..
  have b1 := (((alloc_below w (.cells #[.slice A a.length ca, .int .i64 0, .int .i64 0] TC)).mono hlo).alloc (by rw [s1]; omega) (.cells #[.slice B b.length cb, .int .i64 0, .int .i64 0] TC)).alloc (by rw [s2]; omega) (.cells #[.slice none 0 0, .slice none 0 0, .int .i64 0] TB)
  have hb := Bld.new lo TB ((w.alloc (.cells #[.slice A a.length ca, .int .i64 0, .int .i64 0] TC)).alloc (.cells #[.slice B b.length cb, .int .i64 0, .int .i64 0] TC)) (by rw [s2]; omega)
  rw [s2] at hb
  exact ⟨⟨Cs.new hlo ra rb sa sb na nb (heap_old _ _ (heap_old _ _ (heap_alloc_new w _))) (heap_old _ _ (by rw [← s1]; exact heap_alloc_new _ _)) b1, hb, by show ¬ w.heap.size = _; omega, by show ¬ w.heap.size + 1 = _; omega⟩, b1⟩
end Go.Proofs.YtninppjomdhnmaaGreat.low


/-
  Composing several operations, and counting parts: the functions on lists, and the contracts of spec.ComposeAll and spec.PartCount.
-/
namespace Go.Proofs.YtninppjomdhnmaaGreat.low
open Go.RowKit
set_option linter.unusedVariables false

end Go.Proofs.YtninppjomdhnmaaGreat.low


/-
  The algebra of operations: what is made of units is valid and normal; applying, composing, inverting and transforming valid operations, in the words of the contracts.
-/
namespace Go.Proofs.YtninppjomdhnmaaGreat.low
open Go.RowKit
set_option linter.unusedVariables false

/-- all that is inserted are characters -/
def goodU (us : List U) : Prop := ∀ x, U.p x ∈ us → signB x = true
/-- a valid operation's units -/
theorem op_units {a : List Pt} (h : okOp a = true) : (src (units a) : Int) = sumK a + sumD a ∧ (tgt (units a) : Int) = sumK a + sumP a ∧ src (units a) ≤ 200 ∧ tgt (units a) ≤ 200 ∧ goodU (units a) := by
  obtain ⟨h1, h2, h3, h4, h5, h6, h7⟩ := okOp_of h
  obtain ⟨t1, t2, t3⟩ := sum_t (okOp_partsB h)
  obtain ⟨s1, s2⟩ := src_units (okPs_sz h1)
  refine ⟨by rw [t1, t3]; exact s1, by rw [t1, t2]; exact s2, by omega, by omega, fun x hx => ?_⟩
  unfold units at hx
  obtain ⟨p, hp, hx⟩ := List.mem_flatMap.1 hx
  have ha := okPs_allB h1 p hp
  unfold unitsP at hx
  split at hx
  · have := List.eq_of_mem_replicate hx; cases this
  · split at hx
    · obtain ⟨z, hz, e⟩ := List.mem_map.1 hx
      injection e with e
      subst e
      unfold allB at ha
      exact List.all_eq_true.1 ha z hz
    · have := List.eq_of_mem_replicate hx; cases this
theorem apply_mem : ∀ (us : List U) (t : List Int) (x : Int), x ∈ applyU us t → x ∈ t ∨ U.p x ∈ us
  | [], t, x, h => by simp [applyU] at h
  | .k :: us, t, x, h => by
    rw [applyU] at h
    rcases List.mem_append.1 h with h | h
    · exact .inl (List.mem_of_mem_take h)
    · rcases apply_mem us _ x h with h | h
      · exact .inl (List.mem_of_mem_drop h)
      · exact .inr (by simp [h])
  | .p y :: us, t, x, h => by
    rw [applyU] at h
    rcases List.mem_cons.1 h with rfl | h
    · exact .inr (by simp)
    · rcases apply_mem us _ x h with h | h
      · exact .inl h
      · exact .inr (by simp [h])
  | .d :: us, t, x, h => by
    rw [applyU] at h
    rcases apply_mem us _ x h with h | h
    · exact .inl (List.mem_of_mem_drop h)
    · exact .inr (by simp [h])
theorem okText_mem {t : List Int} (h : okText t = true) : ∀ x ∈ t, signB x = true := fun x hx => by
  unfold okText at h
  rw [Bool.and_eq_true] at h
  exact List.all_eq_true.1 h.1 x hx
theorem okText_mk {t : List Int} (h : ∀ x ∈ t, signB x = true) (hl : t.length ≤ 200) : okText t = true := by
  unfold okText allB
  rw [decide_eq_true hl, List.all_eq_true.2 h]
  rfl
theorem fits_mk {a : List Pt} {t : List Int} (ha : okOp a = true) (ht : okText t = true) (hs : sumK a + sumD a = (t.length : Int)) : fitsB a t = true := by
  unfold fitsB
  rw [ha, ht, decide_eq_true hs]
  rfl
/-- applying a valid operation to a text that fits -/
theorem apply_ok {a : List Pt} {t : List Int} (ha : okOp a = true) (ht : okText t = true) (hs : sumK a + sumD a = (t.length : Int)) : fitsB a t = true ∧ applyT a t = applyU (units a) t ∧ okText (applyT a t) = true ∧ ((applyT a t).length : Int) = sumK a + sumP a ∧ src (units a) = t.length := by
  have hf := fits_mk ha ht hs
  obtain ⟨u1, u2, u3, u4, u5⟩ := op_units ha
  have hsrc : src (units a) = t.length := by omega
  have he := applyT_units hf
  have hl := apply_len_u (units a) t hsrc
  refine ⟨hf, he, ?_, by rw [he, hl]; exact u2, hsrc⟩
  rw [he]
  refine okText_mk (fun x hx => ?_) (by omega)
  rcases apply_mem _ _ _ hx with h | h
  · exact okText_mem ht x h
  · exact u5 x h
end Go.Proofs.YtninppjomdhnmaaGreat.low


/-
  A valid document is small: bounds read off its validity.
-/
namespace Go.Proofs.YtninppjomdhnmaaGreat.low
open Go.RowKit
set_option linter.unusedVariables false

theorem signs_put : ∀ {ps : List Pt}, okPs ps = true → (signsIn ps : Int) = sumOf putOf ps
  | [], _ => by simp [signsIn, sumOf]
  | p :: ps, h => by
    unfold okPs at h
    rw [List.all_cons, Bool.and_eq_true] at h
    have ih := signs_put (ps := ps) h.2
    have e1 : signsIn (p :: ps) = p.signs.length + signsIn ps := by simp [signsIn]
    have e2 : sumOf putOf (p :: ps) = putOf p + sumOf putOf ps := by simp [sumOf]
    rw [e1, e2, ← ih]
    have := of_okPt h.1
    unfold putOf
    split <;> omega
theorem op_800 {o : List Pt} (h : okOp o = true) : o.length + signsIn o ≤ 800 := by
  have hh := h
  unfold okOp at h
  rw [Bool.and_eq_true, Bool.and_eq_true] at h
  obtain ⟨⟨h1, _⟩, h3⟩ := h
  have h3 := of_decide_eq_true h3
  obtain ⟨t1, t2, _⟩ := sum_t h1
  unfold partsB at h1
  rw [Bool.and_eq_true] at h1
  have h4 := of_decide_eq_true h1.2
  have hb := sums_bd h1.1 h4
  have hs := signs_put h1.1
  rw [t1, t2] at h3
  omega
theorem isNorm_800 {o : List Pt} (h : isNormL o = true) : o.length + signsIn o ≤ 800 := by
  unfold isNormL at h
  rw [Bool.and_eq_true] at h
  exact op_800 h.1
theorem chain_tot : ∀ {l : List En} {t : List Int}, chainGo l t = true → sumN totEn l ≤ 800 * l.length
  | [], _, _ => by simp [sumN]
  | e :: l, t, h => by
    unfold chainGo at h
    simp only [Bool.and_eq_true] at h
    have ih := chain_tot h.2
    have he : entryB e = true := h.1.1.2
    unfold entryB at he
    rw [Bool.and_eq_true] at he
    have := isNorm_800 he.2
    have e1 : totEn e = e.o.length + signsIn e.o := rfl
    rw [sumN_cons, List.length_cons, e1]
    omega
theorem seen_le : ∀ {l : List Se} {h : Int} {p : Int}, seenAllB h (some p) l = true → 0 ≤ p → p ≤ 8 → (l.length : Int) + p ≤ 8
  | [], _, _, _, _, _ => by simp; omega
  | s :: l, hh, p, h, h0, h8 => by
    unfold seenAllB seenOneB at h
    simp only [Bool.and_eq_true] at h
    have h1 := h.1.1.1.1
    have h2 := h.1.2
    unfold inB at h1
    have h1 := of_decide_eq_true h1
    have h2 : p < s.client := of_decide_eq_true h2
    have ih := seen_le h.2 (by omega) (by omega)
    rw [List.length_cons]
    omega
theorem seen_8 {l : List Se} {h : Int} (hs : seenAllB h none l = true) : l.length ≤ 8 := by
  cases l with
  | nil => simp
  | cons s l =>
    unfold seenAllB seenOneB at hs
    simp only [Bool.and_eq_true] at hs
    have h1 := hs.1.1.1.1
    unfold inB at h1
    have h1 := of_decide_eq_true h1
    have ih := seen_le hs.2 (by omega) (by omega)
    rw [List.length_cons]
    omega
structure DocIn (x : Do) : Prop where
  name : x.name.size ≤ 8
  from0 : 0 ≤ x.from_
  from1 : x.from_ ≤ 999999000
  text : x.text.length ≤ 200
  list : x.list.length ≤ 8
  ops : sumN totEn x.list ≤ 6400
  seen : x.seen.length ≤ 8
  head : headRevT x = x.from_ + (x.list.length : Int)
theorem docB_in {x : Do} (h : docB x = true) : DocIn x := by
  have hh := docB_of h
  unfold docB at h
  simp only [Bool.and_eq_true] at h
  obtain ⟨⟨⟨⟨⟨h1, h2⟩, h3⟩, h4⟩, h5⟩, h6⟩ := h
  unfold nameB inB at h1
  rw [Bool.and_eq_true] at h1
  have h1 := of_decide_eq_true h1.2
  unfold okText at h3
  rw [Bool.and_eq_true] at h3
  have h3 := of_decide_eq_true h3.2
  have h4 := of_decide_eq_true h4
  have h5 := chain_tot h5
  exact ⟨by omega, hh.1, hh.2.1, h3, h4, by omega, seen_8 h6, hh.2.2.2⟩
theorem sumSe (l : List Se) : sumN totSe l = 0 := by
  induction l with
  | nil => rfl
  | cons s l ih => rw [sumN_cons, ih]; rfl
theorem do_tot {x : Do} (h1 : x.name.size ≤ 8) (h2 : x.text.length ≤ 200) (h3 : x.list.length ≤ 9) (h4 : sumN totEn x.list ≤ 100000) (h5 : x.seen.length ≤ 9) : totDo x ≤ 100300 := by
  unfold totDo totI totEns totSes
  rw [sumSe]
  omega
theorem sumN_drop {α : Type} (f : α → Nat) : ∀ (l : List α) (k : Nat), sumN f (l.drop k) ≤ sumN f l
  | _, 0 => by simp
  | [], k + 1 => by simp
  | x :: l, k + 1 => by
    have := sumN_drop f l k
    rw [List.drop_succ_cons, sumN_cons]
    omega
theorem docB_chain {x : Do} (h : docB x = true) : chainGo x.list x.text = true := by
  unfold docB at h
  simp only [Bool.and_eq_true] at h
  exact h.1.2
theorem chain_all : ∀ {l : List En} {t : List Int}, chainGo l t = true → ∀ e ∈ l, okOp e.o = true
  | [], _, _, e, he => by simp at he
  | e :: l, t, h, x, hx => by
    unfold chainGo at h
    simp only [Bool.and_eq_true] at h
    rcases List.mem_cons.1 hx with rfl | hx
    · have he : entryB x = true := h.1.1.2
      unfold entryB isNormL at he
      simp only [Bool.and_eq_true] at he
      exact he.2.1
    · exact chain_all h.2 x hx
theorem apply_200 {o : List Pt} {t : List Int} : (applyT o t).length ≤ 200 := by
  by_cases h : fitsB o t = true
  · have h' := h
    unfold fitsB at h'
    simp only [Bool.and_eq_true] at h'
    have h2 := (apply_ok h'.1.1 h'.1.2 (of_decide_eq_true h'.2)).2.2.1
    unfold okText at h2
    rw [Bool.and_eq_true] at h2
    exact of_decide_eq_true h2.2
  · unfold applyT
    rw [if_neg h]
    simp
theorem endT_200 : ∀ {l : List En} {t : List Int}, (∀ e ∈ l, okOp e.o = true) → t.length ≤ 200 → (endT l t).length ≤ 200
  | [], _, _, ht => ht
  | e :: l, t, h, _ => endT_200 (l := l) (t := applyT e.o t) (fun x hx => h x (by simp [hx])) apply_200
theorem smEns_drop {l : List En} (h : SmEns l) (m : Nat) : SmEns (l.drop m) := by
  unfold SmEns totEns at *
  have := sumN_drop totEn l m
  rw [List.length_drop]
  omega
end Go.Proofs.YtninppjomdhnmaaGreat.low


/-
  Contracts of spec.l08Entry, l08Entries, l08Copy and Forget, in the words of Ms. Written by mkdoc8.py.
-/
namespace Go.Proofs.YtninppjomdhnmaaGreat.low
open Go.RowKit
set_option linter.unusedVariables false

theorem elt_of {t e : TypeId} {z : Value} {sz bytes : Nat} (hu : Tryz.prog.underlying t = some (.slice e)) (hi : (Tryz.prog.info? e).map (fun i => (i.zero, i.size, i.bytes)) = some (some z, sz, bytes)) (h1 : z.cells.size = sz) (h2 : 0 < sz) (h3 : bytes ≤ 100000) : Elt t e z sz bytes := by
  obtain ⟨i, k1, k2⟩ := Option.map_eq_some_iff.1 hi
  simp only [Prod.mk.injEq] at k2
  exact ⟨i, hu, k1, k2.1, k2.2.1, k2.2.2, h1, h2, h3⟩
theorem eltInt : Elt 22 3 (.int .i64 0) 1 8 := elt_of (by kernel_rfl) (by kernel_rfl) rfl (by omega) (by omega)
theorem eltEn : Elt 28 98 (.agg #[.int .i64 0, .int .i64 0, .slice none 0 0]) 3 40 := elt_of (by kernel_rfl) (by kernel_rfl) rfl (by omega) (by omega)
theorem eltSe : Elt 29 102 (.agg #[.int .i64 0, .int .i64 0, .int .i64 0]) 3 24 := elt_of (by kernel_rfl) (by kernel_rfl) rfl (by omega) (by omega)
theorem flatI (zs : List Int) : FlatR (zs.map fun z => [.int z]) 1 := fun r hr => by
  obtain ⟨z, _, rfl⟩ := List.mem_map.1 hr
  exact ⟨rfl, fun d hd => by rw [List.mem_singleton] at hd; subst hd; exact ⟨_, rfl, rfl⟩⟩
theorem flatSe (l : List Se) : FlatR (l.map encSe) 3 := fun r hr => by
  obtain ⟨z, _, rfl⟩ := List.mem_map.1 hr
  refine ⟨rfl, fun d hd => ?_⟩
  unfold encSe at hd
  simp only [List.mem_cons, List.not_mem_nil, or_false] at hd
  rcases hd with rfl | rfl | rfl <;> exact ⟨_, rfl, rfl⟩

set_option maxRecDepth 100000 in
set_option maxHeartbeats 3200000 in
theorem specEntryC_d (v : Value) (x : En) (w : World) (h : RdC w w.heap.size (datEn x) v) (hs : SmEn x) : Calls Tryz.prog 58 #[v] w (OwnPost (datEn x) w) := by
  obtain ⟨A2, c2, rfl, r2⟩ := aggEn h
  have HR := Lib.hid r2
  clear h r2
  have HM := Lib.hid (Ms.start w)
  replace HM := Lib.hid (HM.out.new #[.int .i64 x.client, .int .i64 x.seq, .slice A2 x.o.length c2] 98)
  have hm := HM.out.new #[.int .i64 0, .int .i64 0, .slice none 0 0] 98
  simp only [World.size_alloc] at hm
  replace HM := Lib.hid hm
  clear hm
  go_enter Tryz.func58, Tryz.ntmps58
  go_wp2
  obtain ⟨W1, hW, hm⟩ := HM.out.name
  rw [← hW]
  replace HM := Lib.hid hm
  clear hm hW
  replace HM := Lib.hid (HM.out.drew)
  refine wp_region_held_drew (S := fun W => Ms w [.bx w.heap.size (.cells #[.int .i64 x.client, .int .i64 x.seq, .slice A2 x.o.length c2] 98 (0, 0))] W) (by kernel_rfl) (HM.out.pick (ks := [1]) (by decide) rfl) (fun hS => ?_)
  generalize W1.drew = W2 at HM hS  ⊢
  refine tk (v := ?_) 0 3 rfl (fun w' hS' => ?_) hS ?_
  rotate_left
  · go_simp; all_goals (with_reducible rfl)
  try simp only [Act.put, pa, pb, pc]
  refine tk (v := ?_) 1 4 rfl (fun w' hS' => ?_) hS ?_
  rotate_left
  · (try dsimp only at hS'); obtain ⟨q0, q1, q2⟩ := hS'.c3 0 rfl; go_simp; all_goals (with_reducible rfl)
  try simp only [Act.put, pa, pb, pc]
  refine tk (v := ?_) 2 5 rfl (fun w' hS' => ?_) hS ?_
  rotate_left
  · go_simp; all_goals (with_reducible rfl)
  try simp only [Act.put, pa, pb, pc]
  refine tk (v := ?_) 3 6 rfl (fun w' hS' => ?_) hS ?_
  rotate_left
  · (try dsimp only at hS'); obtain ⟨q0, q1, q2⟩ := hS'.c3 0 rfl; go_simp; all_goals (with_reducible rfl)
  try simp only [Act.put, pa, pb, pc]
  refine tk (v := ?_) 4 7 rfl (fun w' hS' => ?_) hS ?_
  rotate_left
  · go_simp; all_goals (with_reducible rfl)
  try simp only [Act.put, pa, pb, pc]
  refine tk (v := ?_) 5 8 rfl (fun w' hS' => ?_) hS ?_
  rotate_left
  · (try dsimp only at hS'); obtain ⟨q0, q1, q2⟩ := hS'.c3 0 rfl; go_simp; all_goals (with_reducible rfl)
  try simp only [Act.put, pa, pb, pc]
  refine r1 6 (some 9) rfl (fun K hK => ?_)
  go_simp
  refine (specCopy_d _ x.o _ (HM.out.arg HR.out) hs.o).mono ?_
  rintro e' W3 ⟨v', rfl, o', b'⟩
  obtain ⟨An, cn, rfl⟩ := sliceP o'.read
  obtain ⟨bo, hm⟩ := HM.out.got o' b'
  clear o' b'
  replace HM := Lib.hid hm
  clear hm
  clear hS
  refine hK.out _ _ (HM.out.pick (ks := [2]) (by decide) rfl) (fun hS => ?_)
  clear hK K
  try simp only [Act.put, pa, pb, pc]
  refine tk (v := ?_) 7 10 rfl (fun w' hS' => ?_) hS ?_
  rotate_left
  · go_simp; all_goals (with_reducible rfl)
  try simp only [Act.put, pa, pb, pc]
  refine r1 8 none rfl (fun K hK => ?_)
  obtain ⟨kr0, kr1, kr2⟩ := HM.out.c3 1 rfl
  obtain ⟨fr0, fr1, fr2⟩ := HM.out.f3 1 rfl
  go_simp
  clear hS kr0 kr1 kr2 fr0 fr1 fr2
  have hm := HM.out.pk [1, 0, 2] (by decide) (by simp)
  simp only [low.pk, List.getElem?_cons_zero, List.getElem?_cons_succ] at hm
  replace HM := Lib.hid hm
  clear hm
  have hm := HM.out.putRow (ys := [.int .i64 x.client, .int .i64 x.seq, .slice An x.o.length cn]) rfl
  simp only [low.putRow, Nat.zero_add, Nat.reduceAdd] at hm
  replace HM := Lib.hid hm
  clear hm
  obtain ⟨W4, hW, hm⟩ := HM.out.name
  rw [← hW]
  replace HM := Lib.hid hm
  clear hm hW
  refine hK.out _ _ (HM.out.pick (ks := [2]) (by decide) rfl) (fun hS => ?_)
  clear hK K
  try simp only [Act.put]
  refine wpAnyH_done (by kernel_rfl) ?_ _
  clear hS
  go_wp2
  obtain ⟨kr0, kr1, kr2⟩ := HM.out.c3 0 rfl
  have hm := HM.out.pk [1, 0, 2] (by decide) (by simp)
  simp only [low.pk, List.getElem?_cons_zero, List.getElem?_cons_succ] at hm
  replace HM := Lib.hid hm
  clear hm
  exact bodyPost_ret (v := .agg #[.int .i64 x.client, .int .i64 x.seq, .slice An x.o.length cn]) (by simp [results, Tryz.results58, go_sem, kr0, kr1, kr2]) rfl (show Ms w (.dt (datEn x) (.agg #[.int .i64 x.client, .int .i64 x.seq, .slice An x.o.length cn]) (bo ++ []) :: _) _ from (HM.out.pk0.pkO.pkF rfl).pkF rfl).post
set_option maxRecDepth 100000 in
set_option maxHeartbeats 3200000 in
theorem specEntriesC_d (v : Value) (l : List En) (w : World) (h : RdC w w.heap.size (encEns l) v) (hs : SmEns l) : Calls Tryz.prog 23 #[v] w (OwnPost (encEns l) w) := by
  obtain ⟨A, c, rfl⟩ := sliceEns h
  have hl := hs.len
  have HR := Lib.hid h
  clear h
  have HM := Lib.hid (Ms.start w)
  replace HM := Lib.hid (HM.out.empty 98 3)
  go_enter Tryz.func23, Tryz.ntmps23
  go_wp2
  go_loopw [3, 9] (fun ov i wr => ∃ (j : Nat) (A1 : Option Addr) (c1 : Nat) (bs : List Nat), j ≤ l.length ∧ i = .int .i64 (j : Int) ∧ ov = .slice A1 j c1 ∧ Ms w [.dt (.rows 98 3 ((l.take j).map encEn)) (.slice A1 j c1) bs] wr) (fun _ i _ => l.length - (intOf i).toNat)
  case atStart => exact ⟨0, _, _, _, Nat.zero_le _, rfl, rfl, HM.out⟩
  case round =>
    obtain ⟨j, A1, c1, bs, hj, rfl, rfl, hm⟩ := hrel
    clear HM
    have HM := Lib.hid hm
    clear hm
    by_cases hlt : j < l.length
    · obtain ⟨b, off, e, A5, c5, rfl, hbb, hp, y0, y1, y2, q2⟩ := atEns HR.out hlt
      have x0 := (HM.out.bl.cell (p := ⟨b, off + j * 3, none⟩) hbb).trans y0
      have x1 := (HM.out.bl.cell (p := ⟨b, off + j * 3 + 1, none⟩) hbb).trans y1
      have x2 := (HM.out.bl.cell (p := ⟨b, off + j * 3 + 2, none⟩) hbb).trans y2
      clear y0 y1 y2
      have hse := hs.at_ (List.mem_of_getElem? hp)
      have HT := Lib.hid (show (l.take (j + 1)).map encEn = (l.take j).map encEn ++ [encEn e] by rw [List.take_add_one, hp]; simp)
      clear hp
      replace HM := Lib.hid (HM.out.new #[.int .i64 e.client, .int .i64 e.seq, .slice A5 e.o.length c5] 98)
      go_wp2_with fail
      obtain ⟨W1, hW, hm⟩ := HM.out.name
      rw [← hW]
      replace HM := Lib.hid hm
      clear hm hW
      refine (specEntryC_d _ e _ (rdEn e (HM.out.arg q2)) hse).mono ?_
      rintro e' W2 ⟨v', rfl, o', b'⟩
      obtain ⟨A6, c6, rfl, -⟩ := aggEn o'.read
      obtain ⟨bn, hm⟩ := HM.out.got o' b'
      clear o' b'
      replace HM := Lib.hid hm
      clear hm
      clear x0 x1 x2
      replace HM := Lib.hid (HM.out.new #[.int .i64 e.client, .int .i64 e.seq, .slice A6 e.o.length c6] 98)
      have hm := HM.out.pk [3, 1, 0, 2] (by decide) (by simp)
      simp only [low.pk, List.getElem?_cons_zero, List.getElem?_cons_succ] at hm
      replace HM := Lib.hid hm
      clear hm
      go_wp2_with (at_builtin; refine wpList_ms1 rfl (.tmp 13) (.tmp 16) 28 rfl eltEn HM.out rfl (by simp; omega) W2.heap.size _ rfl (HM.out.at_ (i := 2) rfl) rfl (by simp [Value.oneCell']) ?_; intro A7 c7 w7 b7 hm)
      have e1 : ((l.take j).map encEn).length = j := by simp; omega
      rw [e1] at hm
      try rw [e1]
      rw [HT.out.symm] at hm
      have HM7 := Lib.hid hm
      clear hm e1 HM
      go_wp2
      go_roundw
      case rel => exact ⟨j + 1, A7, c7, b7, by omega, by go_num, rfl, HM7.out.pick (ks := [0]) (by decide) rfl⟩
      case measure => simp [intOf]; omega
    · obtain rfl : j = l.length := by omega
      have hm := HM.out
      rw [List.take_length] at hm
      have HM7 := Lib.hid hm
      clear hm HM
      go_wp2
      go_ret
      exact (show Ms w [.dt (encEns l) _ _] _ from HM7.out).post
set_option maxRecDepth 100000 in
set_option maxHeartbeats 3200000 in
theorem specCopyD_d (v : Value) (x : Do) (w : World) (h : RdC w w.heap.size (datDo x) v) (hs : SmDo x) : Calls Tryz.prog 21 #[v] w (OwnPost (datDo x) w) := by
  obtain ⟨A2, c2, A3, c3, A4, c4, rfl, r2, r3, r4⟩ := aggDo h
  have ht : x.text.length ≤ 1048576 := hs.text
  have hl := hs.list.len
  have hl4 := hs.seen.len
  have R2 := Lib.hid r2
  have R3 := Lib.hid r3
  have R4 := Lib.hid r4
  clear h r2 r3 r4
  have HM := Lib.hid (Ms.start w)
  replace HM := Lib.hid (HM.out.new #[.string x.name, .int .i64 x.from_, .slice A2 x.text.length c2, .slice A3 x.list.length c3, .slice A4 x.seen.length c4] 31)
  have hm := HM.out.new #[.string ⟨#[]⟩, .int .i64 0, .slice none 0 0, .slice none 0 0, .slice none 0 0] 31
  simp only [World.size_alloc] at hm
  replace HM := Lib.hid hm
  clear hm
  go_enter Tryz.func21, Tryz.ntmps21
  go_wp2
  obtain ⟨W1, hW, hm⟩ := HM.out.name
  rw [← hW]
  replace HM := Lib.hid hm
  clear hm hW
  replace HM := Lib.hid (HM.out.drew)
  refine wp_region_held_drew (S := fun W => Ms w [.bx w.heap.size (.cells #[.string x.name, .int .i64 x.from_, .slice A2 x.text.length c2, .slice A3 x.list.length c3, .slice A4 x.seen.length c4] 31 (0, 0))] W) (by kernel_rfl) (HM.out.pick (ks := [1]) (by decide) rfl) (fun hS => ?_)
  generalize W1.drew = W2 at HM hS  ⊢
  refine tk (v := ?_) 0 3 rfl (fun w' hS' => ?_) hS ?_
  rotate_left
  · go_simp; all_goals (with_reducible rfl)
  try simp only [Act.put, pa, pb, pc]
  refine tk (v := ?_) 1 4 rfl (fun w' hS' => ?_) hS ?_
  rotate_left
  · (try dsimp only at hS'); obtain ⟨q0, q1, q2, q3, q4⟩ := hS'.c5 0 rfl; go_simp; all_goals (with_reducible rfl)
  try simp only [Act.put, pa, pb, pc]
  refine tk (v := ?_) 2 5 rfl (fun w' hS' => ?_) hS ?_
  rotate_left
  · go_simp; all_goals (with_reducible rfl)
  try simp only [Act.put, pa, pb, pc]
  refine tk (v := ?_) 3 6 rfl (fun w' hS' => ?_) hS ?_
  rotate_left
  · (try dsimp only at hS'); obtain ⟨q0, q1, q2, q3, q4⟩ := hS'.c5 0 rfl; go_simp; all_goals (with_reducible rfl)
  try simp only [Act.put, pa, pb, pc]
  refine tk (v := ?_) 5 8 rfl (fun w' hS' => ?_) hS ?_
  rotate_left
  · go_simp; all_goals (with_reducible rfl)
  try simp only [Act.put, pa, pb, pc]
  refine tk (v := ?_) 6 9 rfl (fun w' hS' => ?_) hS ?_
  rotate_left
  · (try dsimp only at hS'); obtain ⟨q0, q1, q2, q3, q4⟩ := hS'.c5 0 rfl; go_simp; all_goals (with_reducible rfl)
  try simp only [Act.put, pa, pb, pc]
  refine tk (v := ?_) 8 11 rfl (fun w' hS' => ?_) hS ?_
  rotate_left
  · go_simp; all_goals (with_reducible rfl)
  try simp only [Act.put, pa, pb, pc]
  refine tk (v := ?_) 9 12 rfl (fun w' hS' => ?_) hS ?_
  rotate_left
  · (try dsimp only at hS'); obtain ⟨q0, q1, q2, q3, q4⟩ := hS'.c5 0 rfl; go_simp; all_goals (with_reducible rfl)
  try simp only [Act.put, pa, pb, pc]
  refine tk (v := ?_) 12 15 rfl (fun w' hS' => ?_) hS ?_
  rotate_left
  · go_simp; all_goals (with_reducible rfl)
  try simp only [Act.put, pa, pb, pc]
  refine tk (v := ?_) 13 16 rfl (fun w' hS' => ?_) hS ?_
  rotate_left
  · (try dsimp only at hS'); obtain ⟨q0, q1, q2, q3, q4⟩ := hS'.c5 0 rfl; go_simp; all_goals (with_reducible rfl)
  try simp only [Act.put, pa, pb, pc]
  refine wpAnyH_ready (rs := [4, 11]) (by kernel_rfl) (by simp) ?_
  refine AllReadyH.cons (o := ⟨some 7, _, _, _, _, _⟩) rfl (fun K hK => ?_) ?_
  · go_simp
    replace HM := Lib.hid (HM.out.empty 3 1)
    obtain ⟨W3, hW, hm⟩ := HM.out.name
    rw [← hW]
    replace HM := Lib.hid hm
    clear hm hW
    clear hS
    refine hK.out _ _ (HM.out.pick (ks := [2]) (by decide) rfl) (fun hS => ?_)
    clear hK K
    try simp only [Act.put, pa, pb, pc]
    refine wpAnyH_ready (rs := [7, 11]) (by kernel_rfl) (by simp) ?_
    refine AllReadyH.cons (o := ⟨some 10, _, _, _, _, _⟩) rfl (fun K hK => ?_) ?_
    · refine step_msAll (by rfl) (.tmp 7) (.tmp 9) 22 (by rfl) eltInt HM.out (by rfl) A2 x.text.length c2 (by rfl) (HM.out.arg R2.out) (flatI _) (by simp; omega) ?_
      intro Ant cnt W4 bnt hm
      simp only [List.nil_append, List.length_nil, Nat.zero_add] at hm ⊢
      replace HM := Lib.hid hm
      clear hm
      clear hS
      refine hK.out _ _ (HM.out.pick (ks := [2]) (by decide) rfl) (fun hS => ?_)
      clear hK K
      try simp only [Act.put, pa, pb, pc]
      refine wpAnyH_ready (rs := [10, 11]) (by kernel_rfl) (by simp) ?_
      refine AllReadyH.cons (o := ⟨some 13, _, _, _, _, _⟩) rfl (fun K hK => ?_) ?_
      · go_simp
        refine (specEntriesC_d _ x.list _ (HM.out.arg R3.out) hs.list).mono ?_
        rintro e' W5 ⟨v', rfl, o', b'⟩
        obtain ⟨Anl, cnl, rfl⟩ := sliceEns o'.read
        obtain ⟨bl, hm⟩ := HM.out.got o' b'
        clear o' b'
        replace HM := Lib.hid hm
        clear hm
        clear hS
        refine hK.out _ _ (HM.out.pick (ks := [3]) (by decide) rfl) (fun hS => ?_)
        clear hK K
        try simp only [Act.put, pa, pb, pc]
        refine r1 11 (some 14) rfl (fun K hK => ?_)
        go_simp
        replace HM := Lib.hid (HM.out.empty 102 3)
        obtain ⟨W6, hW, hm⟩ := HM.out.name
        rw [← hW]
        replace HM := Lib.hid hm
        clear hm hW
        clear hS
        refine hK.out _ _ (HM.out.pick (ks := [4]) (by decide) rfl) (fun hS => ?_)
        clear hK K
        try simp only [Act.put, pa, pb, pc]
        refine r1 14 (some 17) rfl (fun K hK => ?_)
        refine step_msAll (by rfl) (.tmp 14) (.tmp 16) 29 (by rfl) eltSe HM.out (by rfl) A4 x.seen.length c4 (by rfl) (HM.out.arg R4.out) (flatSe _) (by simp; omega) ?_
        intro Ans cns W7 bns hm
        simp only [List.nil_append, List.length_nil, Nat.zero_add] at hm ⊢
        replace HM := Lib.hid hm
        clear hm
        clear hS
        refine hK.out _ _ (HM.out.pick (ks := [4]) (by decide) rfl) (fun hS => ?_)
        clear hK K
        try simp only [Act.put, pa, pb, pc]
        refine tk (v := ?_) 15 18 rfl (fun w' hS' => ?_) hS ?_
        rotate_left
        · go_simp; all_goals (with_reducible rfl)
        try simp only [Act.put, pa, pb, pc]
        refine r1 16 none rfl (fun K hK => ?_)
        obtain ⟨kr0, kr1, kr2, kr3, kr4⟩ := HM.out.c5 3 rfl
        obtain ⟨fr0, fr1, fr2, fr3, fr4⟩ := HM.out.f5 3 rfl
        go_simp
        clear hS kr0 kr1 kr2 kr3 kr4 fr0 fr1 fr2 fr3 fr4
        have hm := HM.out.pk [3, 0, 1, 2, 4] (by decide) (by simp)
        simp only [low.pk, List.getElem?_cons_zero, List.getElem?_cons_succ] at hm
        replace HM := Lib.hid hm
        clear hm
        have hm := HM.out.putRow (ys := [.string x.name, .int .i64 x.from_, .slice Ant x.text.length cnt, .slice Anl x.list.length cnl, .slice Ans x.seen.length cns]) rfl
        simp only [low.putRow, Nat.zero_add, Nat.reduceAdd] at hm
        replace HM := Lib.hid hm
        clear hm
        obtain ⟨W8, hW, hm⟩ := HM.out.name
        rw [← hW]
        replace HM := Lib.hid hm
        clear hm hW
        refine hK.out _ _ (HM.out.pick (ks := [4]) (by decide) rfl) (fun hS => ?_)
        clear hK K
        try simp only [Act.put]
        refine wpAnyH_done (by kernel_rfl) ?_ _
        clear hS
        go_wp2
        obtain ⟨kr0, kr1, kr2, kr3, kr4⟩ := HM.out.c5 0 rfl
        have hm := HM.out.pk [1, 2, 3, 0, 4] (by decide) (by simp)
        simp only [low.pk, List.getElem?_cons_zero, List.getElem?_cons_succ] at hm
        replace HM := Lib.hid hm
        clear hm
        exact bodyPost_ret (v := .agg #[.string x.name, .int .i64 x.from_, .slice Ant x.text.length cnt, .slice Anl x.list.length cnl, .slice Ans x.seen.length cns]) (by simp [results, Tryz.results21, go_sem, kr0, kr1, kr2, kr3, kr4]) rfl (show Ms w (.dt (datDo x) (.agg #[.string x.name, .int .i64 x.from_, .slice Ant x.text.length cnt, .slice Anl x.list.length cnl, .slice Ans x.seen.length cns]) _ :: _) _ from (HM.out.pk0.pkO.pkO.pkO.pkF rfl).pkF rfl).post
      refine AllReadyH.cons (o := ⟨some 14, _, _, _, _, _⟩) rfl (fun K hK => ?_) AllReadyH.nil
      go_simp
      replace HM := Lib.hid (HM.out.empty 102 3)
      obtain ⟨W9, hW, hm⟩ := HM.out.name
      rw [← hW]
      replace HM := Lib.hid hm
      clear hm hW
      clear hS
      refine hK.out _ _ (HM.out.pick (ks := [3]) (by decide) rfl) (fun hS => ?_)
      clear hK K
      try simp only [Act.put, pa, pb, pc]
      refine r1 10 (some 13) rfl (fun K hK => ?_)
      go_simp
      refine (specEntriesC_d _ x.list _ (HM.out.arg R3.out) hs.list).mono ?_
      rintro e' W10 ⟨v', rfl, o', b'⟩
      obtain ⟨Anl, cnl, rfl⟩ := sliceEns o'.read
      obtain ⟨bl, hm⟩ := HM.out.got o' b'
      clear o' b'
      replace HM := Lib.hid hm
      clear hm
      clear hS
      refine hK.out _ _ (HM.out.pick (ks := [4]) (by decide) rfl) (fun hS => ?_)
      clear hK K
      try simp only [Act.put, pa, pb, pc]
      refine r1 14 (some 17) rfl (fun K hK => ?_)
      have hm := HM.out.pk [1, 0, 2, 3, 4] (by decide) (by simp)
      simp only [low.pk, List.getElem?_cons_zero, List.getElem?_cons_succ] at hm
      replace HM := Lib.hid hm
      clear hm
      refine step_msAll (by rfl) (.tmp 14) (.tmp 16) 29 (by rfl) eltSe HM.out (by rfl) A4 x.seen.length c4 (by rfl) (HM.out.arg R4.out) (flatSe _) (by simp; omega) ?_
      intro Ans cns W11 bns hm
      simp only [List.nil_append, List.length_nil, Nat.zero_add] at hm ⊢
      replace HM := Lib.hid hm
      clear hm
      clear hS
      refine hK.out _ _ (HM.out.pick (ks := [4]) (by decide) rfl) (fun hS => ?_)
      clear hK K
      try simp only [Act.put, pa, pb, pc]
      refine tk (v := ?_) 15 18 rfl (fun w' hS' => ?_) hS ?_
      rotate_left
      · go_simp; all_goals (with_reducible rfl)
      try simp only [Act.put, pa, pb, pc]
      refine r1 16 none rfl (fun K hK => ?_)
      obtain ⟨kr0, kr1, kr2, kr3, kr4⟩ := HM.out.c5 3 rfl
      obtain ⟨fr0, fr1, fr2, fr3, fr4⟩ := HM.out.f5 3 rfl
      go_simp
      clear hS kr0 kr1 kr2 kr3 kr4 fr0 fr1 fr2 fr3 fr4
      have hm := HM.out.pk [3, 0, 1, 2, 4] (by decide) (by simp)
      simp only [low.pk, List.getElem?_cons_zero, List.getElem?_cons_succ] at hm
      replace HM := Lib.hid hm
      clear hm
      have hm := HM.out.putRow (ys := [.string x.name, .int .i64 x.from_, .slice Ant x.text.length cnt, .slice Anl x.list.length cnl, .slice Ans x.seen.length cns]) rfl
      simp only [low.putRow, Nat.zero_add, Nat.reduceAdd] at hm
      replace HM := Lib.hid hm
      clear hm
      obtain ⟨W12, hW, hm⟩ := HM.out.name
      rw [← hW]
      replace HM := Lib.hid hm
      clear hm hW
      refine hK.out _ _ (HM.out.pick (ks := [4]) (by decide) rfl) (fun hS => ?_)
      clear hK K
      try simp only [Act.put]
      refine wpAnyH_done (by kernel_rfl) ?_ _
      clear hS
      go_wp2
      obtain ⟨kr0, kr1, kr2, kr3, kr4⟩ := HM.out.c5 0 rfl
      have hm := HM.out.pk [1, 2, 3, 0, 4] (by decide) (by simp)
      simp only [low.pk, List.getElem?_cons_zero, List.getElem?_cons_succ] at hm
      replace HM := Lib.hid hm
      clear hm
      exact bodyPost_ret (v := .agg #[.string x.name, .int .i64 x.from_, .slice Ant x.text.length cnt, .slice Anl x.list.length cnl, .slice Ans x.seen.length cns]) (by simp [results, Tryz.results21, go_sem, kr0, kr1, kr2, kr3, kr4]) rfl (show Ms w (.dt (datDo x) (.agg #[.string x.name, .int .i64 x.from_, .slice Ant x.text.length cnt, .slice Anl x.list.length cnl, .slice Ans x.seen.length cns]) _ :: _) _ from (HM.out.pk0.pkO.pkO.pkO.pkF rfl).pkF rfl).post
    refine AllReadyH.cons (o := ⟨some 14, _, _, _, _, _⟩) rfl (fun K hK => ?_) AllReadyH.nil
    go_simp
    replace HM := Lib.hid (HM.out.empty 102 3)
    obtain ⟨W13, hW, hm⟩ := HM.out.name
    rw [← hW]
    replace HM := Lib.hid hm
    clear hm hW
    clear hS
    refine hK.out _ _ (HM.out.pick (ks := [3]) (by decide) rfl) (fun hS => ?_)
    clear hK K
    try simp only [Act.put, pa, pb, pc]
    refine r1 7 (some 10) rfl (fun K hK => ?_)
    have hm := HM.out.pk [1, 0, 2, 3] (by decide) (by simp)
    simp only [low.pk, List.getElem?_cons_zero, List.getElem?_cons_succ] at hm
    replace HM := Lib.hid hm
    clear hm
    refine step_msAll (by rfl) (.tmp 7) (.tmp 9) 22 (by rfl) eltInt HM.out (by rfl) A2 x.text.length c2 (by rfl) (HM.out.arg R2.out) (flatI _) (by simp; omega) ?_
    intro Ant cnt W14 bnt hm
    simp only [List.nil_append, List.length_nil, Nat.zero_add] at hm ⊢
    replace HM := Lib.hid hm
    clear hm
    clear hS
    refine hK.out _ _ (HM.out.pick (ks := [3]) (by decide) rfl) (fun hS => ?_)
    clear hK K
    try simp only [Act.put, pa, pb, pc]
    refine r1 10 (some 13) rfl (fun K hK => ?_)
    go_simp
    refine (specEntriesC_d _ x.list _ (HM.out.arg R3.out) hs.list).mono ?_
    rintro e' W15 ⟨v', rfl, o', b'⟩
    obtain ⟨Anl, cnl, rfl⟩ := sliceEns o'.read
    obtain ⟨bl, hm⟩ := HM.out.got o' b'
    clear o' b'
    replace HM := Lib.hid hm
    clear hm
    clear hS
    refine hK.out _ _ (HM.out.pick (ks := [4]) (by decide) rfl) (fun hS => ?_)
    clear hK K
    try simp only [Act.put, pa, pb, pc]
    refine r1 14 (some 17) rfl (fun K hK => ?_)
    have hm := HM.out.pk [2, 0, 1, 3, 4] (by decide) (by simp)
    simp only [low.pk, List.getElem?_cons_zero, List.getElem?_cons_succ] at hm
    replace HM := Lib.hid hm
    clear hm
    refine step_msAll (by rfl) (.tmp 14) (.tmp 16) 29 (by rfl) eltSe HM.out (by rfl) A4 x.seen.length c4 (by rfl) (HM.out.arg R4.out) (flatSe _) (by simp; omega) ?_
    intro Ans cns W16 bns hm
    simp only [List.nil_append, List.length_nil, Nat.zero_add] at hm ⊢
    replace HM := Lib.hid hm
    clear hm
    clear hS
    refine hK.out _ _ (HM.out.pick (ks := [4]) (by decide) rfl) (fun hS => ?_)
    clear hK K
    try simp only [Act.put, pa, pb, pc]
    refine tk (v := ?_) 15 18 rfl (fun w' hS' => ?_) hS ?_
    rotate_left
    · go_simp; all_goals (with_reducible rfl)
    try simp only [Act.put, pa, pb, pc]
    refine r1 16 none rfl (fun K hK => ?_)
    obtain ⟨kr0, kr1, kr2, kr3, kr4⟩ := HM.out.c5 3 rfl
    obtain ⟨fr0, fr1, fr2, fr3, fr4⟩ := HM.out.f5 3 rfl
    go_simp
    clear hS kr0 kr1 kr2 kr3 kr4 fr0 fr1 fr2 fr3 fr4
    have hm := HM.out.pk [3, 0, 1, 2, 4] (by decide) (by simp)
    simp only [low.pk, List.getElem?_cons_zero, List.getElem?_cons_succ] at hm
    replace HM := Lib.hid hm
    clear hm
    have hm := HM.out.putRow (ys := [.string x.name, .int .i64 x.from_, .slice Ant x.text.length cnt, .slice Anl x.list.length cnl, .slice Ans x.seen.length cns]) rfl
    simp only [low.putRow, Nat.zero_add, Nat.reduceAdd] at hm
    replace HM := Lib.hid hm
    clear hm
    obtain ⟨W17, hW, hm⟩ := HM.out.name
    rw [← hW]
    replace HM := Lib.hid hm
    clear hm hW
    refine hK.out _ _ (HM.out.pick (ks := [4]) (by decide) rfl) (fun hS => ?_)
    clear hK K
    try simp only [Act.put]
    refine wpAnyH_done (by kernel_rfl) ?_ _
    clear hS
    go_wp2
    obtain ⟨kr0, kr1, kr2, kr3, kr4⟩ := HM.out.c5 0 rfl
    have hm := HM.out.pk [1, 2, 3, 0, 4] (by decide) (by simp)
    simp only [low.pk, List.getElem?_cons_zero, List.getElem?_cons_succ] at hm
    replace HM := Lib.hid hm
    clear hm
    exact bodyPost_ret (v := .agg #[.string x.name, .int .i64 x.from_, .slice Ant x.text.length cnt, .slice Anl x.list.length cnl, .slice Ans x.seen.length cns]) (by simp [results, Tryz.results21, go_sem, kr0, kr1, kr2, kr3, kr4]) rfl (show Ms w (.dt (datDo x) (.agg #[.string x.name, .int .i64 x.from_, .slice Ant x.text.length cnt, .slice Anl x.list.length cnl, .slice Ans x.seen.length cns]) _ :: _) _ from (HM.out.pk0.pkO.pkO.pkO.pkF rfl).pkF rfl).post
  refine AllReadyH.cons (o := ⟨some 14, _, _, _, _, _⟩) rfl (fun K hK => ?_) AllReadyH.nil
  go_simp
  replace HM := Lib.hid (HM.out.empty 102 3)
  obtain ⟨W18, hW, hm⟩ := HM.out.name
  rw [← hW]
  replace HM := Lib.hid hm
  clear hm hW
  clear hS
  refine hK.out _ _ (HM.out.pick (ks := [2]) (by decide) rfl) (fun hS => ?_)
  clear hK K
  try simp only [Act.put, pa, pb, pc]
  refine r1 4 (some 7) rfl (fun K hK => ?_)
  go_simp
  replace HM := Lib.hid (HM.out.empty 3 1)
  obtain ⟨W19, hW, hm⟩ := HM.out.name
  rw [← hW]
  replace HM := Lib.hid hm
  clear hm hW
  clear hS
  refine hK.out _ _ (HM.out.pick (ks := [3]) (by decide) rfl) (fun hS => ?_)
  clear hK K
  try simp only [Act.put, pa, pb, pc]
  refine r1 7 (some 10) rfl (fun K hK => ?_)
  refine step_msAll (by rfl) (.tmp 7) (.tmp 9) 22 (by rfl) eltInt HM.out (by rfl) A2 x.text.length c2 (by rfl) (HM.out.arg R2.out) (flatI _) (by simp; omega) ?_
  intro Ant cnt W20 bnt hm
  simp only [List.nil_append, List.length_nil, Nat.zero_add] at hm ⊢
  replace HM := Lib.hid hm
  clear hm
  clear hS
  refine hK.out _ _ (HM.out.pick (ks := [3]) (by decide) rfl) (fun hS => ?_)
  clear hK K
  try simp only [Act.put, pa, pb, pc]
  refine r1 10 (some 13) rfl (fun K hK => ?_)
  go_simp
  refine (specEntriesC_d _ x.list _ (HM.out.arg R3.out) hs.list).mono ?_
  rintro e' W21 ⟨v', rfl, o', b'⟩
  obtain ⟨Anl, cnl, rfl⟩ := sliceEns o'.read
  obtain ⟨bl, hm⟩ := HM.out.got o' b'
  clear o' b'
  replace HM := Lib.hid hm
  clear hm
  clear hS
  refine hK.out _ _ (HM.out.pick (ks := [4]) (by decide) rfl) (fun hS => ?_)
  clear hK K
  try simp only [Act.put, pa, pb, pc]
  refine r1 14 (some 17) rfl (fun K hK => ?_)
  have hm := HM.out.pk [2, 0, 1, 3, 4] (by decide) (by simp)
  simp only [low.pk, List.getElem?_cons_zero, List.getElem?_cons_succ] at hm
  replace HM := Lib.hid hm
  clear hm
  refine step_msAll (by rfl) (.tmp 14) (.tmp 16) 29 (by rfl) eltSe HM.out (by rfl) A4 x.seen.length c4 (by rfl) (HM.out.arg R4.out) (flatSe _) (by simp; omega) ?_
  intro Ans cns W22 bns hm
  simp only [List.nil_append, List.length_nil, Nat.zero_add] at hm ⊢
  replace HM := Lib.hid hm
  clear hm
  clear hS
  refine hK.out _ _ (HM.out.pick (ks := [4]) (by decide) rfl) (fun hS => ?_)
  clear hK K
  try simp only [Act.put, pa, pb, pc]
  refine tk (v := ?_) 15 18 rfl (fun w' hS' => ?_) hS ?_
  rotate_left
  · go_simp; all_goals (with_reducible rfl)
  try simp only [Act.put, pa, pb, pc]
  refine r1 16 none rfl (fun K hK => ?_)
  obtain ⟨kr0, kr1, kr2, kr3, kr4⟩ := HM.out.c5 3 rfl
  obtain ⟨fr0, fr1, fr2, fr3, fr4⟩ := HM.out.f5 3 rfl
  go_simp
  clear hS kr0 kr1 kr2 kr3 kr4 fr0 fr1 fr2 fr3 fr4
  have hm := HM.out.pk [3, 0, 1, 2, 4] (by decide) (by simp)
  simp only [low.pk, List.getElem?_cons_zero, List.getElem?_cons_succ] at hm
  replace HM := Lib.hid hm
  clear hm
  have hm := HM.out.putRow (ys := [.string x.name, .int .i64 x.from_, .slice Ant x.text.length cnt, .slice Anl x.list.length cnl, .slice Ans x.seen.length cns]) rfl
  simp only [low.putRow, Nat.zero_add, Nat.reduceAdd] at hm
  replace HM := Lib.hid hm
  clear hm
  obtain ⟨W23, hW, hm⟩ := HM.out.name
  rw [← hW]
  replace HM := Lib.hid hm
  clear hm hW
  refine hK.out _ _ (HM.out.pick (ks := [4]) (by decide) rfl) (fun hS => ?_)
  clear hK K
  try simp only [Act.put]
  refine wpAnyH_done (by kernel_rfl) ?_ _
  clear hS
  go_wp2
  obtain ⟨kr0, kr1, kr2, kr3, kr4⟩ := HM.out.c5 0 rfl
  have hm := HM.out.pk [1, 2, 3, 0, 4] (by decide) (by simp)
  simp only [low.pk, List.getElem?_cons_zero, List.getElem?_cons_succ] at hm
  replace HM := Lib.hid hm
  clear hm
  exact bodyPost_ret (v := .agg #[.string x.name, .int .i64 x.from_, .slice Ant x.text.length cnt, .slice Anl x.list.length cnl, .slice Ans x.seen.length cns]) (by simp [results, Tryz.results21, go_sem, kr0, kr1, kr2, kr3, kr4]) rfl (show Ms w (.dt (datDo x) (.agg #[.string x.name, .int .i64 x.from_, .slice Ant x.text.length cnt, .slice Anl x.list.length cnl, .slice Ans x.seen.length cns]) _ :: _) _ from (HM.out.pk0.pkO.pkO.pkO.pkF rfl).pkF rfl).post
end Go.Proofs.YtninppjomdhnmaaGreat.low


/-
  Contract of spec.Forget. Written by mkdoc8.py.
-/
namespace Go.Proofs.YtninppjomdhnmaaGreat.low
open Go.RowKit
set_option linter.unusedVariables false

/-- forgetting -/
def forgetB (x : Do) (n : Int) : Bool := docB x && !decide (n < 0)
def forgetT (x : Do) (n : Int) : Do := if forgetB x n = true then (if (x.list.length : Int) - n ≤ 0 then x else ⟨x.name, x.from_ + ((x.list.length : Int) - n), textAtT x (x.from_ + ((x.list.length : Int) - n)), x.list.drop ((x.list.length : Int) - n).toNat, x.seen⟩) else noDo
/-- the capacity of a document's list -/
def capOf : Value → Nat
  | .agg a => match (a[3]? : Option Value) with | some (Value.slice _ _ c) => c | _ => 0
  | _ => 0
theorem rdEns_drop0 {w : World} {B c m : Nat} {A : Option Addr} {l : List En} (h : l.length - m = 0) : RdC w B (encEns (l.drop m)) (.slice A 0 c) := by
  rw [List.drop_eq_nil_of_le (by omega)]
  exact ⟨A, c, rfl, Nat.zero_le _, fun h => absurd h (by simp)⟩
theorem forget_f {x : Do} {n : Int} (h : forgetB x n = false) : forgetB x n = false ∧ forgetT x n = noDo := ⟨h, by unfold forgetT; rw [h]; rfl⟩
theorem forget_small {x : Do} {n : Int} (hs : SmDo x) : SmDo (forgetT x n) := by
  unfold forgetT
  split
  · rename_i h
    split
    · exact hs
    · unfold forgetB at h
      rw [Bool.and_eq_true] at h
      have hi := docB_in h.1
      have h1 := sumN_drop totEn x.list ((x.list.length : Int) - n).toNat
      have h2 : (textAtT x (x.from_ + ((x.list.length : Int) - n))).length ≤ 200 := by
        unfold textAtT
        split
        · exact endT_200 (fun e he => by
            have := chain_all (docB_chain h.1) e (List.mem_of_mem_take he)
            exact this) hi.text
        · simp
      have h3 := hi.list
      have h4 := hi.ops
      have := do_tot (x := ⟨x.name, x.from_ + ((x.list.length : Int) - n), textAtT x (x.from_ + ((x.list.length : Int) - n)), x.list.drop ((x.list.length : Int) - n).toNat, x.seen⟩) hi.name h2 (by simp; omega) (by simp only; omega) (by have := hi.seen; simp only; omega)
      unfold SmDo
      omega
  · have e : totDo noDo = 0 := rfl
    unfold SmDo
    rw [e]
    omega
theorem Ms.noDo {w0 W : World} {L : List It} (h : Ms w0 L W) : Ms w0 (.dt (datDo noDo) (.agg #[.string ⟨#[]⟩, .int .i64 0, .slice none 0 0, .slice none 0 0, .slice none 0 0]) [] :: L) W := (((h.nil 3 1).nil 98 3).nil 102 3).pk0.pkO.pkO.pkO.pkF rfl |>.pkF rfl
set_option maxRecDepth 100000 in
set_option maxHeartbeats 3200000 in
theorem specForget_a (v : Value) (x : Do) (n : Int) (w : World) (h : RdC w w.heap.size (datDo x) v) (hs : SmDo x) (hn : n < 9223372036854775808) (hd : docB x = false) : Calls Tryz.prog 6 #[v, .int .i64 n] w (ResB (datDo (forgetT x n)) (forgetB x n) w) := by
  have HR := Lib.hid h
  obtain ⟨A2, c2, A3, c3, A4, c4, rfl, r2, r3, r4⟩ := aggDo h
  have hl := hs.list.len
  have R3 := Lib.hid r3
  clear r2 r3 r4 h
  have HN := Lib.hid (forget_f (show forgetB x n = false from by unfold forgetB; simp [hd]))
  have HM := Lib.hid (Ms.start w)
  replace HM := Lib.hid (HM.out.new #[.string x.name, .int .i64 x.from_, .slice A2 x.text.length c2, .slice A3 x.list.length c3, .slice A4 x.seen.length c4] 31)
  have hm := HM.out.new #[.string ⟨#[]⟩, .int .i64 0, .slice none 0 0, .slice none 0 0, .slice none 0 0] 31
  simp only [World.size_alloc] at hm
  replace HM := Lib.hid hm
  clear hm
  go_enter Tryz.func6, Tryz.ntmps6
  go_wp2_with fail
  obtain ⟨W1, hW, hm⟩ := HM.out.name
  rw [← hW]
  replace HM := Lib.hid hm
  clear hm hW
  refine (specDocOk_d _ x _ (HM.out.arg HR.out) hs).mono ?_
  rw [hd]
  rintro e' W2 ⟨rfl, b'⟩
  replace HM := Lib.hid (HM.out.past b')
  clear b'
  obtain ⟨kr0, kr1, kr2, kr3, kr4⟩ := HM.out.c5 0 rfl
  obtain ⟨fr0, fr1, fr2, fr3, fr4⟩ := HM.out.f5 0 rfl
  go_wp2
  clear kr0 kr1 kr2 kr3 kr4 fr0 fr1 fr2 fr3 fr4
  have hm := HM.out.putRow (ys := [.string ⟨#[]⟩, .int .i64 0, .slice none 0 0, .slice none 0 0, .slice none 0 0]) rfl
  simp only [low.putRow, Nat.zero_add, Nat.reduceAdd] at hm
  replace HM := Lib.hid hm
  clear hm
  obtain ⟨W3, hW, hm⟩ := HM.out.name
  rw [← hW]
  replace HM := Lib.hid hm
  clear hm hW
  obtain ⟨kr0, kr1, kr2, kr3, kr4⟩ := HM.out.c5 0 rfl
  rw [HN.out.1, HN.out.2]
  exact bodyPost_ret (v := .tuple #[.agg #[.string ⟨#[]⟩, .int .i64 0, .slice none 0 0, .slice none 0 0, .slice none 0 0], .bool false]) (by simp [results, Tryz.results6, go_sem, kr0, kr1, kr2, kr3, kr4]) rfl (HM.out.noDo.resB false)
set_option maxRecDepth 100000 in
set_option maxHeartbeats 3200000 in
theorem specForget_b (v : Value) (x : Do) (n : Int) (w : World) (h : RdC w w.heap.size (datDo x) v) (hs : SmDo x) (hn : n < 9223372036854775808) (hd : docB x = true) (hneg : n < 0) : Calls Tryz.prog 6 #[v, .int .i64 n] w (ResB (datDo (forgetT x n)) (forgetB x n) w) := by
  have HR := Lib.hid h
  obtain ⟨A2, c2, A3, c3, A4, c4, rfl, r2, r3, r4⟩ := aggDo h
  have hl := hs.list.len
  have R3 := Lib.hid r3
  clear r2 r3 r4 h
  have HN := Lib.hid (forget_f (show forgetB x n = false from by unfold forgetB; simp [hneg]))
  have hneg : decide (n < 0) = true := decide_eq_true hneg
  have HM := Lib.hid (Ms.start w)
  replace HM := Lib.hid (HM.out.new #[.string x.name, .int .i64 x.from_, .slice A2 x.text.length c2, .slice A3 x.list.length c3, .slice A4 x.seen.length c4] 31)
  have hm := HM.out.new #[.string ⟨#[]⟩, .int .i64 0, .slice none 0 0, .slice none 0 0, .slice none 0 0] 31
  simp only [World.size_alloc] at hm
  replace HM := Lib.hid hm
  clear hm
  go_enter Tryz.func6, Tryz.ntmps6
  go_wp2_with fail
  obtain ⟨W1, hW, hm⟩ := HM.out.name
  rw [← hW]
  replace HM := Lib.hid hm
  clear hm hW
  refine (specDocOk_d _ x _ (HM.out.arg HR.out) hs).mono ?_
  rw [hd]
  rintro e' W2 ⟨rfl, b'⟩
  replace HM := Lib.hid (HM.out.past b')
  clear b'
  obtain ⟨kr0, kr1, kr2, kr3, kr4⟩ := HM.out.c5 0 rfl
  obtain ⟨fr0, fr1, fr2, fr3, fr4⟩ := HM.out.f5 0 rfl
  go_wp2
  clear kr0 kr1 kr2 kr3 kr4 fr0 fr1 fr2 fr3 fr4
  have hm := HM.out.putRow (ys := [.string ⟨#[]⟩, .int .i64 0, .slice none 0 0, .slice none 0 0, .slice none 0 0]) rfl
  simp only [low.putRow, Nat.zero_add, Nat.reduceAdd] at hm
  replace HM := Lib.hid hm
  clear hm
  obtain ⟨W3, hW, hm⟩ := HM.out.name
  rw [← hW]
  replace HM := Lib.hid hm
  clear hm hW
  obtain ⟨kr0, kr1, kr2, kr3, kr4⟩ := HM.out.c5 0 rfl
  rw [HN.out.1, HN.out.2]
  exact bodyPost_ret (v := .tuple #[.agg #[.string ⟨#[]⟩, .int .i64 0, .slice none 0 0, .slice none 0 0, .slice none 0 0], .bool false]) (by simp [results, Tryz.results6, go_sem, kr0, kr1, kr2, kr3, kr4]) rfl (HM.out.noDo.resB false)
set_option maxRecDepth 100000 in
set_option maxHeartbeats 3200000 in
theorem specForget_c (v : Value) (x : Do) (n : Int) (w : World) (h : RdC w w.heap.size (datDo x) v) (hs : SmDo x) (hn : n < 9223372036854775808) (hd : docB x = true) (h0 : 0 ≤ n) (hk : (x.list.length : Int) - n ≤ 0) : Calls Tryz.prog 6 #[v, .int .i64 n] w (ResB (datDo (forgetT x n)) (forgetB x n) w) := by
  have HR := Lib.hid h
  obtain ⟨A2, c2, A3, c3, A4, c4, rfl, r2, r3, r4⟩ := aggDo h
  have hl := hs.list.len
  have R3 := Lib.hid r3
  clear r2 r3 r4 h
  have hF := Lib.hid (show forgetB x n = true by unfold forgetB; rw [hd]; simp; omega)
  have hneg : decide (n < 0) = false := by simp; omega
  have hi := docB_in hd
  have h8 := hi.list
  have hf0 := hi.from0
  have hf1 := hi.from1
  have HH := Lib.hid hi.head
  clear hi
  have HN := Lib.hid (show forgetT x n = x by unfold forgetT; rw [if_pos hF.out, if_pos hk])
  have hkd : decide ((x.list.length : Int) - n ≤ 0) = true := decide_eq_true hk
  have HM := Lib.hid (Ms.start w)
  replace HM := Lib.hid (HM.out.new #[.string x.name, .int .i64 x.from_, .slice A2 x.text.length c2, .slice A3 x.list.length c3, .slice A4 x.seen.length c4] 31)
  have hm := HM.out.new #[.string ⟨#[]⟩, .int .i64 0, .slice none 0 0, .slice none 0 0, .slice none 0 0] 31
  simp only [World.size_alloc] at hm
  replace HM := Lib.hid hm
  clear hm
  go_enter Tryz.func6, Tryz.ntmps6
  go_wp2_with fail
  obtain ⟨W1, hW, hm⟩ := HM.out.name
  rw [← hW]
  replace HM := Lib.hid hm
  clear hm hW
  refine (specDocOk_d _ x _ (HM.out.arg HR.out) hs).mono ?_
  rw [hd]
  rintro e' W2 ⟨rfl, b'⟩
  replace HM := Lib.hid (HM.out.past b')
  clear b'
  obtain ⟨kx0, kx1, kx2, kx3, kx4⟩ := HM.out.c5 1 rfl
  go_wp2_with fail
  refine (specCopyD_d _ x _ (HM.out.arg HR.out) hs).mono ?_
  rintro e' W3 ⟨v', rfl, o', b'⟩
  obtain ⟨A12, c12, A13, c13, A14, c14, rfl, -, -, -⟩ := aggDo o'.read
  obtain ⟨bc, hm⟩ := HM.out.got o' b'
  clear o' b'
  replace HM := Lib.hid hm
  clear hm
  clear kx0 kx1 kx2 kx3 kx4
  replace HM := Lib.hid (HM.out.new #[.string x.name, .int .i64 x.from_, .slice A12 x.text.length c12, .slice A13 x.list.length c13, .slice A14 x.seen.length c14] 31)
  obtain ⟨kx0, kx1, kx2, kx3, kx4⟩ := HM.out.c5 3 rfl
  obtain ⟨kr0, kr1, kr2, kr3, kr4⟩ := HM.out.c5 2 rfl
  obtain ⟨fr0, fr1, fr2, fr3, fr4⟩ := HM.out.f5 2 rfl
  obtain ⟨kout0, kout1, kout2, kout3, kout4⟩ := HM.out.c5 0 rfl
  go_wp2
  clear kr0 kr1 kr2 kr3 kr4 fr0 fr1 fr2 fr3 fr4 kx0 kx1 kx2 kx3 kx4 kout0 kout1 kout2 kout3 kout4
  have hm := HM.out.pk [2, 0, 1, 3] (by decide) (by simp)
  simp only [low.pk, List.getElem?_cons_zero, List.getElem?_cons_succ] at hm
  replace HM := Lib.hid hm
  clear hm
  have hm := HM.out.putRow (ys := [.string x.name, .int .i64 x.from_, .slice A12 x.text.length c12, .slice A13 x.list.length c13, .slice A14 x.seen.length c14]) rfl
  simp only [low.putRow, Nat.zero_add, Nat.reduceAdd] at hm
  replace HM := Lib.hid hm
  clear hm
  obtain ⟨W4, hW, hm⟩ := HM.out.name
  rw [← hW]
  replace HM := Lib.hid hm
  clear hm hW
  obtain ⟨kr0, kr1, kr2, kr3, kr4⟩ := HM.out.c5 0 rfl
  have hm := HM.out.pk [2, 0, 1, 3] (by decide) (by simp)
  simp only [low.pk, List.getElem?_cons_zero, List.getElem?_cons_succ] at hm
  replace HM := Lib.hid hm
  clear hm
  rw [HN.out, hF.out]
  exact bodyPost_ret (v := .tuple #[.agg #[.string x.name, .int .i64 x.from_, .slice A12 x.text.length c12, .slice A13 x.list.length c13, .slice A14 x.seen.length c14], .bool true]) (by simp [results, Tryz.results6, go_sem, kr0, kr1, kr2, kr3, kr4]) rfl (HM.out.resB true)
/-- of a document its clients' rows alone -/
theorem Ms.seenOf' {w0 W : World} {L : List It} {x : Do} {b : List Nat} {u0 u1 u2 u3 u4 : Value} (h : Ms w0 (.dt (datDo x) (.agg #[u0, u1, u2, u3, u4]) b :: L) W) : ∃ b', Ms w0 (.dt (encSes x.seen) u4 b' :: L) W := by
  obtain ⟨d1, d2, h1⟩ := (show Ms w0 (.dt (.agg (encDo x)) (.agg ([u0, u1, u2, u3, u4] : List Value).toArray) b :: L) W from h).un
  obtain ⟨d3, d4, h2⟩ := h1.tail.un
  obtain ⟨d5, d6, h3⟩ := h2.tail.un
  obtain ⟨d7, d8, h4⟩ := h3.tail.un
  obtain ⟨d9, d0, h5⟩ := h4.tail.un
  exact ⟨_, (h5.pull (i := 1) rfl rfl).tail⟩
set_option maxRecDepth 100000 in
set_option maxHeartbeats 3200000 in
theorem specForget_d1 (v : Value) (x : Do) (n : Int) (w : World) (h : RdC w w.heap.size (datDo x) v) (hs : SmDo x) (hn : n < 9223372036854775808) (hd : docB x = true) (h0 : 0 ≤ n) (hk : ¬ (x.list.length : Int) - n ≤ 0) (hlt : (x.list.length : Int) - n = capOf v) : Calls Tryz.prog 6 #[v, .int .i64 n] w (ResB (datDo (forgetT x n)) (forgetB x n) w) := by
  have HR := Lib.hid h
  obtain ⟨A2, c2, A3, c3, A4, c4, rfl, r2, r3, r4⟩ := aggDo h
  have hl := hs.list.len
  have R3 := Lib.hid r3
  clear r2 r3 r4 h
  rw [show capOf _ = c3 from rfl] at hlt
  have hF := Lib.hid (show forgetB x n = true by unfold forgetB; rw [hd]; simp; omega)
  have hneg : decide (n < 0) = false := by simp; omega
  have hi := docB_in hd
  have h8 := hi.list
  have hf0 := hi.from0
  have hf1 := hi.from1
  have HH := Lib.hid hi.head
  clear hi
  obtain ⟨m, hm⟩ : ∃ m : Nat, (m : Int) = (x.list.length : Int) - n := ⟨((x.list.length : Int) - n).toNat, by omega⟩
  have hkd : decide ((x.list.length : Int) - n ≤ 0) = false := by simp; omega
  have hm1 : 1 ≤ m := by omega
  have hm2 : m ≤ x.list.length := by omega
  have HMM := Lib.hid hm.symm
  have hT : textAtB x (x.from_ + (m : Int)) = true := by unfold textAtB; rw [hd, HH.out, inB_t (by omega)]; rfl
  have HN := Lib.hid (show forgetT x n = ⟨x.name, x.from_ + (m : Int), textAtT x (x.from_ + (m : Int)), x.list.drop m, x.seen⟩ by unfold forgetT; rw [if_pos hF.out, if_neg hk, ← hm]; simp)
  obtain ⟨b0, off0, e0, A50, c50, rfl, -, -, -⟩ := atEns R3.out (i := 0) (by omega)
  clear hk
  obtain rfl : c3 = m := by omega
  have hn0 : x.list.length - c3 = 0 := by have := RdC.cap_le R3.out; omega
  have HNL := Lib.hid hn0
  clear hn0
  clear hm hlt
  have HM := Lib.hid (Ms.start w)
  replace HM := Lib.hid (HM.out.new #[.string x.name, .int .i64 x.from_, .slice A2 x.text.length c2, .slice (some ⟨b0, off0, none⟩) x.list.length c3, .slice A4 x.seen.length c4] 31)
  have hm := HM.out.new #[.string ⟨#[]⟩, .int .i64 0, .slice none 0 0, .slice none 0 0, .slice none 0 0] 31
  simp only [World.size_alloc] at hm
  replace HM := Lib.hid hm
  clear hm
  go_enter Tryz.func6, Tryz.ntmps6
  go_wp2_with fail
  obtain ⟨W1, hW, hm⟩ := HM.out.name
  rw [← hW]
  replace HM := Lib.hid hm
  clear hm hW
  refine (specDocOk_d _ x _ (HM.out.arg HR.out) hs).mono ?_
  rw [hd]
  rintro e' W2 ⟨rfl, b'⟩
  replace HM := Lib.hid (HM.out.past b')
  clear b'
  obtain ⟨kx0, kx1, kx2, kx3, kx4⟩ := HM.out.c5 1 rfl
  go_wp2_with fail
  refine (specCopyD_d _ x _ (HM.out.arg HR.out) hs).mono ?_
  rintro e' W3 ⟨v', rfl, o', b'⟩
  obtain ⟨A12, c12, A13, c13, A14, c14, rfl, -, -, -⟩ := aggDo o'.read
  obtain ⟨bc, hm⟩ := HM.out.got o' b'
  clear o' b'
  replace HM := Lib.hid hm
  clear hm
  clear kx0 kx1 kx2 kx3 kx4
  replace HM := Lib.hid (HM.out.new #[.string x.name, .int .i64 x.from_, .slice A12 x.text.length c12, .slice A13 x.list.length c13, .slice A14 x.seen.length c14] 31)
  obtain ⟨kx0, kx1, kx2, kx3, kx4⟩ := HM.out.c5 3 rfl
  obtain ⟨kout0, kout1, kout2, kout3, kout4⟩ := HM.out.c5 0 rfl
  obtain ⟨fout0, fout1, fout2, fout3, fout4⟩ := HM.out.f5 0 rfl
  go_wp2_with fail
  try rw [HMM.out]
  clear kx0 kx1 kx2 kx3 kx4 kout0 kout1 kout2 kout3 kout4 fout0 fout1 fout2 fout3 fout4
  obtain ⟨W4, hW, hm⟩ := HM.out.name
  rw [← hW]
  replace HM := Lib.hid hm
  clear hm hW
  refine (specTextAt_d _ x _ _ (HM.out.arg HR.out) hs).mono ?_
  rw [hT]
  rintro e' W5 ⟨v', rfl, o', b'⟩
  obtain ⟨Ant, nt, cnt, rfl⟩ := sliceV o'.read
  obtain ⟨bt, hm⟩ := HM.out.got o' b'
  clear o' b'
  replace HM := Lib.hid hm
  clear hm
  obtain ⟨kx0, kx1, kx2, kx3, kx4⟩ := HM.out.c5 4 rfl
  obtain ⟨kout0, kout1, kout2, kout3, kout4⟩ := HM.out.c5 1 rfl
  obtain ⟨fout0, fout1, fout2, fout3, fout4⟩ := HM.out.f5 1 rfl
  go_wp2_with fail
  clear kx0 kx1 kx2 kx3 kx4 kout0 kout1 kout2 kout3 kout4 fout0 fout1 fout2 fout3 fout4
  have hm := HM.out.pk [1, 0, 2, 3, 4] (by decide) (by simp)
  simp only [low.pk, List.getElem?_cons_zero, List.getElem?_cons_succ] at hm
  replace HM := Lib.hid hm
  clear hm
  have hm := HM.out.set (j := 2) (.slice Ant nt cnt)
  simp only [pa, pb, pc] at hm
  replace HM := Lib.hid hm
  clear hm
  have hm := HM.out.set (j := 1) (.int .i64 (x.from_ + (c3 : Int)))
  simp only [pa, pb, pc] at hm
  replace HM := Lib.hid hm
  clear hm
  obtain ⟨W6, hW, hm⟩ := HM.out.name
  rw [← hW]
  replace HM := Lib.hid hm
  clear hm hW
  try rw [HNL.out]
  refine (specEntriesC_d _ (x.list.drop c3) _ (HM.out.arg (rdEns_drop0 HNL.out)) (smEns_drop hs.list c3)).mono ?_
  rintro e' W7 ⟨v', rfl, o', b'⟩
  obtain ⟨Anl, nl, cnl, rfl⟩ := sliceV o'.read
  obtain ⟨bl, hm⟩ := HM.out.got o' b'
  clear o' b'
  replace HM := Lib.hid hm
  clear hm
  obtain ⟨kout0, kout1, kout2, kout3, kout4⟩ := HM.out.c5 1 rfl
  obtain ⟨fout0, fout1, fout2, fout3, fout4⟩ := HM.out.f5 1 rfl
  obtain ⟨kr0, kr1, kr2, kr3, kr4⟩ := HM.out.c5 4 rfl
  obtain ⟨fr0, fr1, fr2, fr3, fr4⟩ := HM.out.f5 4 rfl
  obtain ⟨noutr, nrout⟩ := HM.out.ne (i := 1) (j := 4) rfl rfl (by omega)
  go_wp2
  clear noutr nrout kr0 kr1 kr2 kr3 kr4 fr0 fr1 fr2 fr3 fr4 kout0 kout1 kout2 kout3 kout4 fout0 fout1 fout2 fout3 fout4
  have hm := HM.out.pk [1, 0, 2, 3, 4, 5] (by decide) (by simp)
  simp only [low.pk, List.getElem?_cons_zero, List.getElem?_cons_succ] at hm
  replace HM := Lib.hid hm
  clear hm
  have hm := HM.out.set (j := 3) (.slice Anl nl cnl)
  simp only [pa, pb, pc] at hm
  replace HM := Lib.hid hm
  clear hm
  have hm := HM.out.pk [4, 0, 1, 2, 3, 5] (by decide) (by simp)
  simp only [low.pk, List.getElem?_cons_zero, List.getElem?_cons_succ] at hm
  replace HM := Lib.hid hm
  clear hm
  have hm := HM.out.putRow (ys := [.string x.name, .int .i64 (x.from_ + (c3 : Int)), .slice Ant nt cnt, .slice Anl nl cnl, .slice A14 x.seen.length c14]) rfl
  simp only [low.putRow, Nat.zero_add, Nat.reduceAdd] at hm
  replace HM := Lib.hid hm
  clear hm
  obtain ⟨W8, hW, hm⟩ := HM.out.name
  rw [← hW]
  replace HM := Lib.hid hm
  clear hm hW
  obtain ⟨kr0, kr1, kr2, kr3, kr4⟩ := HM.out.c5 0 rfl
  have hm := HM.out.pk [4, 2, 3, 0, 1, 5] (by decide) (by simp)
  simp only [low.pk, List.getElem?_cons_zero, List.getElem?_cons_succ] at hm
  replace HM := Lib.hid hm
  clear hm
  obtain ⟨bs, hm⟩ := HM.out.seenOf'
  replace HM := Lib.hid hm
  clear hm
  rw [HN.out, hF.out]
  exact bodyPost_ret (v := .tuple #[.agg #[.string x.name, .int .i64 (x.from_ + (c3 : Int)), .slice Ant nt cnt, .slice Anl nl cnl, .slice A14 x.seen.length c14], .bool true]) (by simp [results, Tryz.results6, go_sem, kr0, kr1, kr2, kr3, kr4]) rfl ((show Ms w (.dt (datDo (⟨x.name, x.from_ + (c3 : Int), (textAtT x (x.from_ + (c3 : Int))), (x.list.drop c3), x.seen⟩ : Do)) (.agg #[.string x.name, .int .i64 (x.from_ + (c3 : Int)), .slice Ant nt cnt, .slice Anl nl cnl, .slice A14 x.seen.length c14]) _ :: _) _ from (HM.out.pk0.pkO.pkO.pkO.pkF rfl).pkF rfl).resB true)
set_option maxRecDepth 100000 in
set_option maxHeartbeats 3200000 in
theorem specForget_d2 (v : Value) (x : Do) (n : Int) (w : World) (h : RdC w w.heap.size (datDo x) v) (hs : SmDo x) (hn : n < 9223372036854775808) (hd : docB x = true) (h0 : 0 ≤ n) (hk : ¬ (x.list.length : Int) - n ≤ 0) (hlt : ¬ (x.list.length : Int) - n = capOf v) : Calls Tryz.prog 6 #[v, .int .i64 n] w (ResB (datDo (forgetT x n)) (forgetB x n) w) := by
  have HR := Lib.hid h
  obtain ⟨A2, c2, A3, c3, A4, c4, rfl, r2, r3, r4⟩ := aggDo h
  have hl := hs.list.len
  have R3 := Lib.hid r3
  clear r2 r3 r4 h
  rw [show capOf _ = c3 from rfl] at hlt
  have hF := Lib.hid (show forgetB x n = true by unfold forgetB; rw [hd]; simp; omega)
  have hneg : decide (n < 0) = false := by simp; omega
  have hi := docB_in hd
  have h8 := hi.list
  have hf0 := hi.from0
  have hf1 := hi.from1
  have HH := Lib.hid hi.head
  clear hi
  obtain ⟨m, hm⟩ : ∃ m : Nat, (m : Int) = (x.list.length : Int) - n := ⟨((x.list.length : Int) - n).toNat, by omega⟩
  have hkd : decide ((x.list.length : Int) - n ≤ 0) = false := by simp; omega
  have hm1 : 1 ≤ m := by omega
  have hm2 : m ≤ x.list.length := by omega
  have HMM := Lib.hid hm.symm
  have hT : textAtB x (x.from_ + (m : Int)) = true := by unfold textAtB; rw [hd, HH.out, inB_t (by omega)]; rfl
  have HN := Lib.hid (show forgetT x n = ⟨x.name, x.from_ + (m : Int), textAtT x (x.from_ + (m : Int)), x.list.drop m, x.seen⟩ by unfold forgetT; rw [if_pos hF.out, if_neg hk, ← hm]; simp)
  obtain ⟨b0, off0, e0, A50, c50, rfl, -, -, -⟩ := atEns R3.out (i := 0) (by omega)
  clear hk
  have hcap : ¬ m = c3 := by omega
  have hcle := RdC.cap_le R3.out
  clear hm hlt
  have HM := Lib.hid (Ms.start w)
  replace HM := Lib.hid (HM.out.new #[.string x.name, .int .i64 x.from_, .slice A2 x.text.length c2, .slice (some ⟨b0, off0, none⟩) x.list.length c3, .slice A4 x.seen.length c4] 31)
  have hm := HM.out.new #[.string ⟨#[]⟩, .int .i64 0, .slice none 0 0, .slice none 0 0, .slice none 0 0] 31
  simp only [World.size_alloc] at hm
  replace HM := Lib.hid hm
  clear hm
  go_enter Tryz.func6, Tryz.ntmps6
  go_wp2_with fail
  obtain ⟨W1, hW, hm⟩ := HM.out.name
  rw [← hW]
  replace HM := Lib.hid hm
  clear hm hW
  refine (specDocOk_d _ x _ (HM.out.arg HR.out) hs).mono ?_
  rw [hd]
  rintro e' W2 ⟨rfl, b'⟩
  replace HM := Lib.hid (HM.out.past b')
  clear b'
  obtain ⟨kx0, kx1, kx2, kx3, kx4⟩ := HM.out.c5 1 rfl
  go_wp2_with fail
  refine (specCopyD_d _ x _ (HM.out.arg HR.out) hs).mono ?_
  rintro e' W3 ⟨v', rfl, o', b'⟩
  obtain ⟨A12, c12, A13, c13, A14, c14, rfl, -, -, -⟩ := aggDo o'.read
  obtain ⟨bc, hm⟩ := HM.out.got o' b'
  clear o' b'
  replace HM := Lib.hid hm
  clear hm
  clear kx0 kx1 kx2 kx3 kx4
  replace HM := Lib.hid (HM.out.new #[.string x.name, .int .i64 x.from_, .slice A12 x.text.length c12, .slice A13 x.list.length c13, .slice A14 x.seen.length c14] 31)
  obtain ⟨kx0, kx1, kx2, kx3, kx4⟩ := HM.out.c5 3 rfl
  obtain ⟨kout0, kout1, kout2, kout3, kout4⟩ := HM.out.c5 0 rfl
  obtain ⟨fout0, fout1, fout2, fout3, fout4⟩ := HM.out.f5 0 rfl
  go_wp2_with fail
  try rw [HMM.out]
  clear kx0 kx1 kx2 kx3 kx4 kout0 kout1 kout2 kout3 kout4 fout0 fout1 fout2 fout3 fout4
  obtain ⟨W4, hW, hm⟩ := HM.out.name
  rw [← hW]
  replace HM := Lib.hid hm
  clear hm hW
  refine (specTextAt_d _ x _ _ (HM.out.arg HR.out) hs).mono ?_
  rw [hT]
  rintro e' W5 ⟨v', rfl, o', b'⟩
  obtain ⟨Ant, nt, cnt, rfl⟩ := sliceV o'.read
  obtain ⟨bt, hm⟩ := HM.out.got o' b'
  clear o' b'
  replace HM := Lib.hid hm
  clear hm
  obtain ⟨kx0, kx1, kx2, kx3, kx4⟩ := HM.out.c5 4 rfl
  obtain ⟨kout0, kout1, kout2, kout3, kout4⟩ := HM.out.c5 1 rfl
  obtain ⟨fout0, fout1, fout2, fout3, fout4⟩ := HM.out.f5 1 rfl
  go_wp2_with fail
  clear kx0 kx1 kx2 kx3 kx4 kout0 kout1 kout2 kout3 kout4 fout0 fout1 fout2 fout3 fout4
  have hm := HM.out.pk [1, 0, 2, 3, 4] (by decide) (by simp)
  simp only [low.pk, List.getElem?_cons_zero, List.getElem?_cons_succ] at hm
  replace HM := Lib.hid hm
  clear hm
  have hm := HM.out.set (j := 2) (.slice Ant nt cnt)
  simp only [pa, pb, pc] at hm
  replace HM := Lib.hid hm
  clear hm
  have hm := HM.out.set (j := 1) (.int .i64 (x.from_ + (m : Int)))
  simp only [pa, pb, pc] at hm
  replace HM := Lib.hid hm
  clear hm
  obtain ⟨W6, hW, hm⟩ := HM.out.name
  rw [← hW]
  replace HM := Lib.hid hm
  clear hm hW
  refine (specEntriesC_d _ (x.list.drop m) _ (HM.out.arg (by have h := RdC.drop_ m R3.out; rw [← List.map_drop] at h; exact h)) (smEns_drop hs.list m)).mono ?_
  rintro e' W7 ⟨v', rfl, o', b'⟩
  obtain ⟨Anl, nl, cnl, rfl⟩ := sliceV o'.read
  obtain ⟨bl, hm⟩ := HM.out.got o' b'
  clear o' b'
  replace HM := Lib.hid hm
  clear hm
  obtain ⟨kout0, kout1, kout2, kout3, kout4⟩ := HM.out.c5 1 rfl
  obtain ⟨fout0, fout1, fout2, fout3, fout4⟩ := HM.out.f5 1 rfl
  obtain ⟨kr0, kr1, kr2, kr3, kr4⟩ := HM.out.c5 4 rfl
  obtain ⟨fr0, fr1, fr2, fr3, fr4⟩ := HM.out.f5 4 rfl
  obtain ⟨noutr, nrout⟩ := HM.out.ne (i := 1) (j := 4) rfl rfl (by omega)
  go_wp2
  clear noutr nrout kr0 kr1 kr2 kr3 kr4 fr0 fr1 fr2 fr3 fr4 kout0 kout1 kout2 kout3 kout4 fout0 fout1 fout2 fout3 fout4
  have hm := HM.out.pk [1, 0, 2, 3, 4, 5] (by decide) (by simp)
  simp only [low.pk, List.getElem?_cons_zero, List.getElem?_cons_succ] at hm
  replace HM := Lib.hid hm
  clear hm
  have hm := HM.out.set (j := 3) (.slice Anl nl cnl)
  simp only [pa, pb, pc] at hm
  replace HM := Lib.hid hm
  clear hm
  have hm := HM.out.pk [4, 0, 1, 2, 3, 5] (by decide) (by simp)
  simp only [low.pk, List.getElem?_cons_zero, List.getElem?_cons_succ] at hm
  replace HM := Lib.hid hm
  clear hm
  have hm := HM.out.putRow (ys := [.string x.name, .int .i64 (x.from_ + (m : Int)), .slice Ant nt cnt, .slice Anl nl cnl, .slice A14 x.seen.length c14]) rfl
  simp only [low.putRow, Nat.zero_add, Nat.reduceAdd] at hm
  replace HM := Lib.hid hm
  clear hm
  obtain ⟨W8, hW, hm⟩ := HM.out.name
  rw [← hW]
  replace HM := Lib.hid hm
  clear hm hW
  obtain ⟨kr0, kr1, kr2, kr3, kr4⟩ := HM.out.c5 0 rfl
  have hm := HM.out.pk [4, 2, 3, 0, 1, 5] (by decide) (by simp)
  simp only [low.pk, List.getElem?_cons_zero, List.getElem?_cons_succ] at hm
  replace HM := Lib.hid hm
  clear hm
  obtain ⟨bs, hm⟩ := HM.out.seenOf'
  replace HM := Lib.hid hm
  clear hm
  rw [HN.out, hF.out]
  exact bodyPost_ret (v := .tuple #[.agg #[.string x.name, .int .i64 (x.from_ + (m : Int)), .slice Ant nt cnt, .slice Anl nl cnl, .slice A14 x.seen.length c14], .bool true]) (by simp [results, Tryz.results6, go_sem, kr0, kr1, kr2, kr3, kr4]) rfl ((show Ms w (.dt (datDo (⟨x.name, x.from_ + (m : Int), (textAtT x (x.from_ + (m : Int))), (x.list.drop m), x.seen⟩ : Do)) (.agg #[.string x.name, .int .i64 (x.from_ + (m : Int)), .slice Ant nt cnt, .slice Anl nl cnl, .slice A14 x.seen.length c14]) _ :: _) _ from (HM.out.pk0.pkO.pkO.pkO.pkF rfl).pkF rfl).resB true)
theorem specForget_d (v : Value) (x : Do) (n : Int) (w : World) (h : RdC w w.heap.size (datDo x) v) (hs : SmDo x) (hr : Rng n) : Calls Tryz.prog 6 #[v, .int .i64 n] w (ResB (datDo (forgetT x n)) (forgetB x n) w) := by
  have hn := hr.2
  cases hd : docB x
  · exact specForget_a v x n w h hs hn hd
  by_cases hneg : n < 0
  · exact specForget_b v x n w h hs hn hd hneg
  by_cases hk : (x.list.length : Int) - n ≤ 0
  · exact specForget_c v x n w h hs hn hd (by omega) hk
  by_cases hc : (x.list.length : Int) - n = capOf v
  · exact specForget_d1 v x n w h hs hn hd (by omega) hk hc
  · exact specForget_d2 v x n w h hs hn hd (by omega) hk hc
end Go.Proofs.YtninppjomdhnmaaGreat.low


/-
  Contracts of the program's builder: endRun, drop, put, done, keep.
-/
namespace Go.Proofs.YtninppjomdhnmaaGreat.low
open Go.RowKit
set_option linter.unusedVariables false

set_option maxRecDepth 100000 in
set_option maxHeartbeats 3200000 in
theorem implFlush_f (S : Nat → Prop) (lo g : Nat) (ps : List Pt) (put : List Int) (d : Int) (w : World) (hb : BAtS S lo g 176 w ps put d) (hS : ∀ b, w.heap.size ≤ b → S b) (hl : ps.length ≤ 4294967296) (hp : put.length ≤ 4294967296) :
    Calls Tryz.prog 162 #[.pointer (some ⟨g, 0, none⟩)] w (FlushedS S lo g 176 w (ps ++ putL put ++ dropL d)) := by
  obtain ⟨i0, hi0, hz0, hz1, hz2⟩ := info_parts part_info
  obtain ⟨v, u, us, hx, ha, hos⟩ := hb
  have HS := Lib.hid hS
  have HOS := Lib.hid hos
  clear hS hos
  have ha0 := ha.init hx.len
  obtain ⟨A, c, rfl⟩ := own_form (ha.last hx.len)
  have c0 := hx.cell0
  have c1 := hx.cell1
  have c2 := hx.cell2
  have f0 := hx.free 0
  have f1 := hx.free 1
  have f2 := hx.free 2
  have HX := Lib.hid hx
  have HA := Lib.hid ha
  have HA0 := Lib.hid ha0
  clear hx ha ha0
  by_cases hput : put.length = 0
  · have e1 : putL put = [] := by simp [putL, hput]
    rw [e1, List.append_nil]
    by_cases hd : 0 < d
    · have e2 : dropL d = [⟨3, d, []⟩] := by simp [dropL, hd]
      rw [e2]
      go_enter Tryz.func162, Tryz.ntmps162
      go_wp2_with fail
      have lg := HX.out.lt
      have hlo : lo ≤ w.heap.size := Nat.le_trans HX.out.low (Nat.le_of_lt lg)
      have hne := own_far HX.out.row HX.out.box (by decide)
      go_region_law ((refine step_append_lies _ (by rfl) (.tmp 31) (.tmp 37) 96 (by rfl) lo 131 i0 _ 3 40 Tryz.underlying96 hi0 hz0 hz1 hz2 rfl (by omega) v ps.length (cellsOf ps us) (by rfl) ((HX.out.row.alloc _).drew) ⟨w.heap.size, 0, none⟩ 1 1 [.int .i64 3, .int .i64 d, .slice none 0 0] (by rfl) (by rfl) (World.news_of_block (cs := #[.int .i64 3, .int .i64 d, .slice none 0 0]) (t := 131) (fr := (0, 0)) (heap_alloc_new w _)) (by simp [Value.oneCell']) (by omega) (by unfold maxLen; omega) (by omega) (by simp; omega) (w.heap.size + 1) (by simp) ?_; intro gg cap w1 hown1 hgrow hat hlt; have hf := free_grown (o := 0) HX.out.box (below_made w _) hgrow hne; have hf1 := free_grown (o := 1) HX.out.box (below_made w _) hgrow hne; have hf2 := free_grown (o := 2) HX.out.box (below_made w _) hgrow hne; have hc : w1.cell? ⟨g, 0, none⟩ = some v := cell_grown 0 HX.out.box (below_made w _) hgrow hne; have hc1 : w1.cell? ⟨g, 1, none⟩ = some (.slice A put.length c) := cell_grown 1 HX.out.box (below_made w _) hgrow hne; have hc2 : w1.cell? ⟨g, 2, none⟩ = some (.int .i64 d) := cell_grown 2 HX.out.box (below_made w _) hgrow hne))
      all_goals
        obtain ⟨hx2, ha2, b2⟩ := Box.push (p := ⟨3, d, []⟩) HX.out (by decide) (by decide) (Apart.bare 3 d HA0.out) (below_made w _) hown1 hgrow
        have HO2 := Lib.hid (HOS.out.init.push (n := ps.length + 1) (cap := cap) nil_own hat (HS.out _ (by omega)))
        have HR2 := Lib.hid (push_fr HOS.out.init (below_made w _) hgrow (.slice (some ⟨gg, 0, none⟩) (ps.length + 1) cap))
        have HX2 := Lib.hid hx2
        have HA2 := Lib.hid ha2
        have HB2 := Lib.hid b2
        clear hx2 ha2 b2
        go_wp2
        go_end0
        obtain ⟨r1, r2, r3⟩ := HX2.out.clearS (by decide) (by decide) HA2.out HO2.out
        exact ⟨rfl, r1, HB2.out.trans r2, HR2.out.trans r3⟩

    · have e2 : dropL d = [] := by simp [dropL]; omega
      rw [e2, List.append_nil]
      go_enter Tryz.func162, Tryz.ntmps162
      go_wp2_with fail
      go_end0
      obtain ⟨r1, r2, r3⟩ := HX.out.clearS (by decide) (by decide) HA0.out HOS.out.init
      exact ⟨rfl, r1, r2, r3⟩
  · have hput' : (0 : Int) < (put.length : Int) := by omega
    have e1 : putL put = [⟨2, 0, put⟩] := by simp [putL, hput]
    rw [e1]
    by_cases hd : 0 < d
    · have e2 : dropL d = [⟨3, d, []⟩] := by simp [dropL, hd]
      rw [e2]
      generalize hQ : ps ++ [⟨2, 0, put⟩] ++ [⟨3, d, []⟩] = Q
      have HQ := Lib.hid hQ
      clear hQ
      go_enter Tryz.func162, Tryz.ntmps162
      go_wp2_with fail
      have lg := HX.out.lt
      have hlo : lo ≤ w.heap.size := Nat.le_trans HX.out.low (Nat.le_of_lt lg)
      have hne := own_far HX.out.row HX.out.box (by decide)
      go_region_law ((refine step_append_lies _ (by rfl) (.tmp 12) (.tmp 18) 96 (by rfl) lo 131 i0 _ 3 40 Tryz.underlying96 hi0 hz0 hz1 hz2 rfl (by omega) v ps.length (cellsOf ps us) (by rfl) ((HX.out.row.alloc _).drew) ⟨w.heap.size, 0, none⟩ 1 1 [.int .i64 2, .int .i64 0, .slice A put.length c] (by rfl) (by rfl) (World.news_of_block (cs := #[.int .i64 2, .int .i64 0, .slice A put.length c]) (t := 131) (fr := (0, 0)) (heap_alloc_new w _)) (by simp [Value.oneCell']) (by omega) (by unfold maxLen; omega) (by omega) (by simp; omega) (w.heap.size + 1) (by simp) ?_; intro gg cap w1 hown1 hgrow hat hlt; have hf := free_grown (o := 0) HX.out.box (below_made w _) hgrow hne; have hf1 := free_grown (o := 1) HX.out.box (below_made w _) hgrow hne; have hf2 := free_grown (o := 2) HX.out.box (below_made w _) hgrow hne; have hc : w1.cell? ⟨g, 0, none⟩ = some v := cell_grown 0 HX.out.box (below_made w _) hgrow hne; have hc1 : w1.cell? ⟨g, 1, none⟩ = some (.slice A put.length c) := cell_grown 1 HX.out.box (below_made w _) hgrow hne; have hc2 : w1.cell? ⟨g, 2, none⟩ = some (.int .i64 d) := cell_grown 2 HX.out.box (below_made w _) hgrow hne))
      all_goals

        obtain ⟨hx1, ha1, b1⟩ := Box.push (p := ⟨2, 0, put⟩) HX.out (by decide) (by decide) HA.out (below_made w _) hown1 hgrow
        have HO1 := Lib.hid (HOS.out.init.push (n := ps.length + 1) (cap := cap) HOS.out.last hat (HS.out _ (by omega)))
        have HR1 := Lib.hid (push_fr HOS.out.init (below_made w _) hgrow (.slice (some ⟨gg, 0, none⟩) (ps.length + 1) cap))
        clear hown1 hgrow hat hlt hlo hne lg c0 c1 c2 f0 f1 f2
        have HX1 := Lib.hid hx1
        have HA1 := Lib.hid ha1
        have HB1 := Lib.hid b1
        clear hx1 ha1 b1
        go_wp2_with fail
        clear hf hf1 hf2 hc hc1 hc2
        generalize (Value.slice (some ⟨gg, 0, none⟩) (ps.length + 1) cap) = v1 at *
        generalize w1.setCell ⟨g, 0, none⟩ v1 = W1 at *
        have c0 := HX1.out.cell0
        have c1 := HX1.out.cell1
        have c2 := HX1.out.cell2
        have f0 := HX1.out.free 0
        have f1 := HX1.out.free 1
        have f2 := HX1.out.free 2
        generalize hps : ps ++ [⟨2, 0, put⟩] = ps1 at *
        have hl1 : ps1.length ≤ 4294967297 := by rw [← hps]; simp; omega
        clear hps
        generalize us ++ [Value.slice A put.length c] = us1 at *
        have lg := HX1.out.lt
        have hlo : lo ≤ W1.heap.size := Nat.le_trans HX1.out.low (Nat.le_of_lt lg)
        have hne := own_far HX1.out.row HX1.out.box (by decide)
        go_region_law ((refine step_append_lies _ (by rfl) (.tmp 31) (.tmp 37) 96 (by rfl) lo 131 i0 _ 3 40 Tryz.underlying96 hi0 hz0 hz1 hz2 rfl (by omega) v1 ps1.length (cellsOf ps1 us1) (by rfl) ((HX1.out.row.alloc _).drew) ⟨W1.heap.size, 0, none⟩ 1 1 [.int .i64 3, .int .i64 d, .slice none 0 0] (by rfl) (by rfl) (World.news_of_block (cs := #[.int .i64 3, .int .i64 d, .slice none 0 0]) (t := 131) (fr := (0, 0)) (heap_alloc_new W1 _)) (by simp [Value.oneCell']) (by omega) (by unfold maxLen; omega) (by omega) (by simp; omega) (W1.heap.size + 1) (by simp) ?_; intro gg cap w1 hown1 hgrow hat hlt; have hf := free_grown (o := 0) HX1.out.box (below_made W1 _) hgrow hne; have hf1 := free_grown (o := 1) HX1.out.box (below_made W1 _) hgrow hne; have hf2 := free_grown (o := 2) HX1.out.box (below_made W1 _) hgrow hne; have hc : w1.cell? ⟨g, 0, none⟩ = some v1 := cell_grown 0 HX1.out.box (below_made W1 _) hgrow hne; have hc1 : w1.cell? ⟨g, 1, none⟩ = some (.slice A put.length c) := cell_grown 1 HX1.out.box (below_made W1 _) hgrow hne; have hc2 : w1.cell? ⟨g, 2, none⟩ = some (.int .i64 d) := cell_grown 2 HX1.out.box (below_made W1 _) hgrow hne))
        all_goals
          obtain ⟨hx2, ha2, b2⟩ := Box.push (p := ⟨3, d, []⟩) HX1.out (by decide) (by decide) (Apart.bare 3 d HA1.out) (below_made W1 _) hown1 hgrow
          have HO2 := Lib.hid (HO1.out.push (n := ps1.length + 1) (cap := cap) nil_own hat (HS.out _ (by have := HR1.out.size; omega)))
          have HR2 := Lib.hid (push_fr HO1.out (below_made W1 _) hgrow (.slice (some ⟨gg, 0, none⟩) (ps1.length + 1) cap))
          have HX2 := Lib.hid hx2
          have HA2 := Lib.hid ha2
          have HB2 := Lib.hid b2
          clear hx2 ha2 b2
          go_wp2
          go_end0
          obtain ⟨r1, r2, r3⟩ := HX2.out.clearS (by decide) (by decide) HA2.out HO2.out
          exact ⟨rfl, by rw [← HQ.out]; exact r1, HB1.out.trans (HB2.out.trans r2), HR1.out.trans (HR2.out.trans r3)⟩

    · have e2 : dropL d = [] := by simp [dropL]; omega
      rw [e2, List.append_nil]
      go_enter Tryz.func162, Tryz.ntmps162
      go_wp2_with fail
      have lg := HX.out.lt
      have hlo : lo ≤ w.heap.size := Nat.le_trans HX.out.low (Nat.le_of_lt lg)
      have hne := own_far HX.out.row HX.out.box (by decide)
      go_region_law ((refine step_append_lies _ (by rfl) (.tmp 12) (.tmp 18) 96 (by rfl) lo 131 i0 _ 3 40 Tryz.underlying96 hi0 hz0 hz1 hz2 rfl (by omega) v ps.length (cellsOf ps us) (by rfl) ((HX.out.row.alloc _).drew) ⟨w.heap.size, 0, none⟩ 1 1 [.int .i64 2, .int .i64 0, .slice A put.length c] (by rfl) (by rfl) (World.news_of_block (cs := #[.int .i64 2, .int .i64 0, .slice A put.length c]) (t := 131) (fr := (0, 0)) (heap_alloc_new w _)) (by simp [Value.oneCell']) (by omega) (by unfold maxLen; omega) (by omega) (by simp; omega) (w.heap.size + 1) (by simp) ?_; intro gg cap w1 hown1 hgrow hat hlt; have hf := free_grown (o := 0) HX.out.box (below_made w _) hgrow hne; have hf1 := free_grown (o := 1) HX.out.box (below_made w _) hgrow hne; have hf2 := free_grown (o := 2) HX.out.box (below_made w _) hgrow hne; have hc : w1.cell? ⟨g, 0, none⟩ = some v := cell_grown 0 HX.out.box (below_made w _) hgrow hne; have hc1 : w1.cell? ⟨g, 1, none⟩ = some (.slice A put.length c) := cell_grown 1 HX.out.box (below_made w _) hgrow hne; have hc2 : w1.cell? ⟨g, 2, none⟩ = some (.int .i64 d) := cell_grown 2 HX.out.box (below_made w _) hgrow hne))
      all_goals

        obtain ⟨hx1, ha1, b1⟩ := Box.push (p := ⟨2, 0, put⟩) HX.out (by decide) (by decide) HA.out (below_made w _) hown1 hgrow
        have HO2 := Lib.hid (HOS.out.init.push (n := ps.length + 1) (cap := cap) HOS.out.last hat (HS.out _ (by omega)))
        have HR2 := Lib.hid (push_fr HOS.out.init (below_made w _) hgrow (.slice (some ⟨gg, 0, none⟩) (ps.length + 1) cap))
        have HX2 := Lib.hid hx1
        have HA2 := Lib.hid ha1
        have HB2 := Lib.hid b1
        clear hx1 ha1 b1
        go_wp2
        go_end0
        obtain ⟨r1, r2, r3⟩ := HX2.out.clearS (by decide) (by decide) HA2.out HO2.out
        exact ⟨rfl, r1, HB2.out.trans r2, HR2.out.trans r3⟩

set_option maxHeartbeats 1600000 in
theorem implDrop_f (S : Nat → Prop) (lo g : Nat) (ps : List Pt) (put : List Int) (d n : Int) (w : World) (hb : BAtS S lo g 176 w ps put d) (hS : ∀ b, w.heap.size ≤ b → S b) (h0 : 0 ≤ d) (h1 : d ≤ 4611686018427387904) (h2 : 0 ≤ n) (h3 : n ≤ 1048576) :
    Calls Tryz.prog 161 #[.pointer (some ⟨g, 0, none⟩), .int .i64 n] w (BuiltS S lo g 176 w ps put (d + n)) := by
  obtain ⟨v, u, us, hx, ha, hos⟩ := hb
  have HS := Lib.hid hS
  have HOS := Lib.hid hos
  clear hS hos
  have c2 := hx.cell2
  have f2 := hx.free 2
  have HX := Lib.hid hx
  have HA := Lib.hid ha
  clear hx ha
  go_enter Tryz.func161, Tryz.ntmps161
  go_wp2
  go_end0
  obtain ⟨r1, r2, r3⟩ := HX.out.dropS (d' := d + n) (by decide) (by decide) HA.out HOS.out
  exact ⟨rfl, r1, r2, r3⟩

set_option maxHeartbeats 1600000 in
theorem implPut_f (S : Nat → Prop) (lo g : Nat) (ps : List Pt) (put : List Int) (d : Int) (A : Option Addr) (c : Nat) (zs : List Int) (w : World) (hb : BAtS S lo g 176 w ps put d) (hS : ∀ b, w.heap.size ≤ b → S b) (hr : Row (Value.int .i64) w w.heap.size A zs) (hp : put.length ≤ 4294967296) (hz : zs.length ≤ 4294967296) :
    Calls Tryz.prog 160 #[.pointer (some ⟨g, 0, none⟩), .slice A zs.length c] w (BuiltS S lo g 176 w ps (put ++ zs) d) := by
  obtain ⟨i0, hi0, hz0, hz1, hz2⟩ := info_parts ints_info
  obtain ⟨v, u, us, hx, ha, hos⟩ := hb
  have HS := Lib.hid hS
  have HOS := Lib.hid hos
  clear hS hos
  obtain ⟨Au, cu, rfl⟩ := own_form (ha.last hx.len)
  simp only at hx ha
  have c1 := hx.cell1
  have f1 := hx.free 1
  have ho := Lib.hid (ha.last hx.len)
  have hlo : lo ≤ w.heap.size := Nat.le_trans hx.low (Nat.le_of_lt hx.lt)
  have HX := Lib.hid hx
  have HA := Lib.hid ha
  clear hx ha
  by_cases hn : 0 < zs.length
  · obtain ⟨ad, rfl, hbk, hcs⟩ := hr hn
    have hcs' : ∀ j x, (zs.map (Value.int .i64))[j]? = some x → w.cell? (ad.add j) = some x := fun j x hx => by
      rw [List.getElem?_map] at hx
      obtain ⟨z, hz, rfl⟩ := Option.map_eq_some_iff.1 hx
      exact hcs j z hz
    have HC := Lib.hid hcs'
    clear hcs hcs' hr
    have hug := own_far ho.out HX.out.box (by decide)
    go_enter Tryz.func160, Tryz.ntmps160
    go_wp2_with (at_builtin; refine wpList_append_lies _ rfl (.tmp 8) (.tmp 9) 22 rfl lo 3 i0 (.int .i64 0) 1 8 Tryz.underlying22 hi0 hz0 hz1 hz2 rfl (by decide) (.slice Au put.length cu) put.length (put.map (Value.int .i64)) rfl ho.out ad zs.length c (zs.map (Value.int .i64)) rfl (by simp) HC.out (by simp [Value.oneCell']) (by omega) (by unfold maxLen; omega) (by omega) hlo w.heap.size rfl ?_; intro gg cap w1 hown1 hgrow hat hlt; have hf := free_grown (o := 1) HX.out.box (Below.refl _ _) hgrow hug; have hc : w1.cell? ⟨g, 1, none⟩ = some (.slice Au put.length cu) := cell_grown 1 HX.out.box (Below.refl _ _) hgrow hug)
    go_end0
    obtain ⟨r1, r2, r3⟩ := Box.moreS (put' := put ++ zs) HX.out (by decide) (by decide) HA.out (by simpa using hown1) hgrow (hat.elim (fun e => .inl (by rw [e]; rfl)) (fun e => .inr (by rw [← e]; rfl))) HOS.out (HS.out _ (Nat.le_refl _))
    exact ⟨rfl, r1, r2, r3⟩
  · have e0 : zs = [] := List.eq_nil_of_length_eq_zero (by omega)
    subst e0
    rw [List.append_nil]
    go_enter Tryz.func160, Tryz.ntmps160
    go_wp2_with (at_builtin; refine wpList_append_zero rfl (.tmp 8) (.tmp 9) 22 rfl lo 3 i0 1 Tryz.underlying22 hi0 (.slice Au put.length cu) put.length (put.map (Value.int .i64)) rfl ho.out A c rfl ?_)
    go_end0
    obtain ⟨r1, r2, r3⟩ := Box.moreS (put' := put) HX.out (by decide) (by decide) HA.out ho.out ⟨rfl, rfl, rfl, Nat.le_refl _, fun _ _ _ => rfl⟩ (.inl rfl) HOS.out (HS.out _ (Nat.le_refl _))
    exact ⟨rfl, r1, r2, r3⟩

theorem implDrop_any (lo g : Nat) (ps : List Pt) (put : List Int) (d n : Int) (w : World) (hb : BAt lo g 176 w ps put d) (h0 : 0 ≤ d) (h1 : d ≤ 4611686018427387904) (h2 : 0 ≤ n) (h3 : n ≤ 1048576) :
    Calls Tryz.prog 161 #[.pointer (some ⟨g, 0, none⟩), .int .i64 n] w (Built lo g 176 w ps put (d + n)) :=
  (implDrop_f (fun _ => True) lo g ps put d n w hb.all (fun _ _ => trivial) h0 h1 h2 h3).mono fun e w' h => h.any

theorem implPut_any (lo g : Nat) (ps : List Pt) (put : List Int) (d : Int) (A : Option Addr) (c : Nat) (zs : List Int) (w : World) (hb : BAt lo g 176 w ps put d) (hr : Row (Value.int .i64) w w.heap.size A zs) (hp : put.length ≤ 4294967296) (hz : zs.length ≤ 4294967296) :
    Calls Tryz.prog 160 #[.pointer (some ⟨g, 0, none⟩), .slice A zs.length c] w (Built lo g 176 w ps (put ++ zs) d) :=
  (implPut_f (fun _ => True) lo g ps put d A c zs w hb.all (fun _ _ => trivial) hr hp hz).mono fun e w' h => h.any

set_option maxHeartbeats 1600000 in
theorem implDone_f (S : Nat → Prop) (lo g : Nat) (ps : List Pt) (put : List Int) (d : Int) (w : World) (hb : BAtS S lo g 176 w ps put d) (hS : ∀ b, w.heap.size ≤ b → S b) (hl : ps.length ≤ 4294967296) (hp : put.length ≤ 4294967296) :
    Calls Tryz.prog 145 #[.pointer (some ⟨g, 0, none⟩)] w (GoneS S lo (ps ++ putL put ++ dropL d) w) := by
  go_enter Tryz.func145, Tryz.ntmps145
  go_wp2_with fail
  refine (implFlush_f S lo g ps put d w hb hS hl hp).mono ?_
  rintro e w1 ⟨rfl, ⟨v, us, hx, ha, hos⟩, b1, fr1⟩
  have HS := Lib.hid hS
  have HOS := Lib.hid hos
  have HR := Lib.hid fr1
  clear hS hos fr1
  obtain ⟨Av, cv, rfl⟩ := own_form hx.row
  have c0 := hx.cell0
  have HX := Lib.hid hx
  have HA := Lib.hid ha
  clear hx ha
  generalize ps ++ putL put ++ dropL d = q at *
  go_wp2
  go_ret
  exact ⟨_, us, rfl, HX.out.parts HA.out, b1, HR.out, HX.out.row, HX.out.len, HOS.out.2.1, HOS.out.2.2⟩

set_option maxRecDepth 100000 in
set_option maxHeartbeats 3200000 in
theorem implKeep_f (S : Nat → Prop) (lo g : Nat) (ps : List Pt) (put : List Int) (d n : Int) (w : World) (hb : BAtS S lo g 176 w ps put d) (hS : ∀ b, w.heap.size ≤ b → S b) (hl : ps.length ≤ 4294967296) (hp : put.length ≤ 4294967296) (hn : ¬ n = 0) (hn0 : 0 ≤ n) (hn1 : n ≤ 1048576)
    (hq : ∀ p ∈ ps ++ putL put ++ dropL d, 0 ≤ p.n ∧ p.n ≤ 4611686018427387904) (hql : (ps ++ putL put ++ dropL d).length ≤ 4294967298) :
    Calls Tryz.prog 159 #[.pointer (some ⟨g, 0, none⟩), .int .i64 n] w (FlushedS S lo g 176 w (keepTo (ps ++ putL put ++ dropL d) n)) := by
  obtain ⟨i0, hi0, hz0, hz1, hz2⟩ := info_parts part_info
  go_enter Tryz.func159, Tryz.ntmps159
  go_wp2_with fail
  refine (implFlush_f S lo g ps put d w hb hS hl hp).mono ?_
  rintro e w1 ⟨rfl, ⟨v, us, hx, ha, hos⟩, b1, fr1⟩
  have HS := Lib.hid hS
  have HOS := Lib.hid hos
  have HR := Lib.hid fr1
  clear hS hos fr1
  generalize ps ++ putL put ++ dropL d = q at *
  have c0 := hx.cell0
  have f0 := hx.free 0
  have hne := own_far hx.row hx.box (by decide)
  have hlo : lo ≤ w1.heap.size := Nat.le_trans hx.low (Nat.le_of_lt hx.lt)
  rcases q.eq_nil_or_concat with rfl | ⟨r, p, rfl⟩
  · obtain ⟨Av, cv, rfl⟩ := own_form hx.row
    have HX := Lib.hid hx
    have HA := Lib.hid ha
    clear hx ha
    go_wp2_with (at_builtin; refine wpList_append_lies _ rfl (.tmp 44) (.tmp 47) 96 rfl lo 131 i0 _ 3 40 Tryz.underlying96 hi0 hz0 hz1 hz2 rfl (by omega) (.slice Av 0 cv) 0 (cellsOf [] us) rfl (HX.out.row.alloc _) ⟨w1.heap.size, 0, none⟩ 1 1 [.int .i64 1, .int .i64 n, .slice none 0 0] rfl rfl (World.news_of_block (cs := #[.int .i64 1, .int .i64 n, .slice none 0 0]) (t := 131) (fr := (0, 0)) (heap_alloc_new w1 _)) (by simp [Value.oneCell']) (by omega) (by unfold maxLen; omega) (by omega) (by simp; omega) (w1.heap.size + 1) (by simp) ?_; intro gg cap w2 hown1 hgrow hat hlt; have hf := free_grown (o := 0) HX.out.box (below_new w1 _) hgrow hne; have hc : w2.cell? ⟨g, 0, none⟩ = some (.slice Av 0 cv) := cell_grown 0 HX.out.box (below_new w1 _) hgrow hne)
    go_end0
    obtain ⟨hx2, ha2, b2⟩ := Box.push (p := ⟨1, n, []⟩) HX.out (by decide) (by decide) (Apart.bare 1 n HA.out) (below_new w1 _) hown1 hgrow
    refine ⟨rfl, ?_, b1.trans b2, HR.out.trans (push_fr HOS.out (below_new w1 _) hgrow _)⟩
    rw [keepTo_nil]
    exact ⟨_, _, hx2, ha2, HOS.out.push nil_own hat (HS.out _ (by have := HR.out.size; omega))⟩
  · rw [List.concat_eq_append] at *
    have hrl : (r ++ [p]).length = r.length + 1 := by simp
    rw [hrl] at hql
    have hp0 := hq p (by simp)
    clear hq
    rcases hx.row.2 with ⟨_, h0⟩ | ⟨gv, cap0, cur, rfl, hgv, hhv, hcap, hcap2, _, _⟩
    · simp at h0
    rw [hrl] at c0 hne hcap hx
    have hrow : w1.ownsRow lo 131 3 (.slice (some ⟨gv, 0, none⟩) (r.length + 1) cap0) (r.length + 1) (cellsOf (r ++ [p]) us) := by have := hx.row; rwa [hrl] at this
    have k0 : w1.cell? ⟨gv, r.length * 3, none⟩ = some (.int .i64 p.kind) := by
      have := hrow.cellAt (r.length * 3) (by omega)
      obtain ⟨u, hu⟩ := idx_some (l := us) (i := r.length) (by rw [hx.len]; simp)
      rw [this, (cellsOf_at (r ++ [p]) us r.length p u (by simp) hu).1]
    have k1 : w1.cell? ⟨gv, r.length * 3 + 1, none⟩ = some (.int .i64 p.n) := by
      have := hrow.cellAt (r.length * 3 + 1) (by omega)
      obtain ⟨u, hu⟩ := idx_some (l := us) (i := r.length) (by rw [hx.len]; simp)
      rw [this, (cellsOf_at (r ++ [p]) us r.length p u (by simp) hu).2.1]
    have fv := hrow.frozenAt (r.length * 3 + 1)
    have HRW := Lib.hid hrow
    clear hrow
    have HX := Lib.hid hx
    have HA := Lib.hid ha
    clear hx ha hhv
    by_cases hk : p.kind = 1
    · go_wp2
      go_end0
      obtain ⟨hx2, ha2, b2⟩ := Box.setN (b := p.n + n) HX.out (by decide) (by decide) HA.out
      refine ⟨rfl, ?_, b1.trans b2, HR.out.trans (setN_fr HOS.out _)⟩
      rw [keepTo_t n hk]
      exact ⟨_, _, hx2, ha2, HOS.out⟩
    · go_wp2_with (at_builtin; refine wpList_append_lies _ rfl (.tmp 44) (.tmp 47) 96 rfl lo 131 i0 _ 3 40 Tryz.underlying96 hi0 hz0 hz1 hz2 rfl (by omega) (.slice (some ⟨gv, 0, none⟩) (r.length + 1) cap0) (r.length + 1) (cellsOf (r ++ [p]) us) rfl (HRW.out.alloc _) ⟨w1.heap.size, 0, none⟩ 1 1 [.int .i64 1, .int .i64 n, .slice none 0 0] rfl rfl (World.news_of_block (cs := #[.int .i64 1, .int .i64 n, .slice none 0 0]) (t := 131) (fr := (0, 0)) (heap_alloc_new w1 _)) (by simp [Value.oneCell']) (by omega) (by unfold maxLen; omega) (by omega) (by simp; omega) (w1.heap.size + 1) (by simp) ?_; intro gg cap w2 hown1 hgrow hat hlt; have hf := free_grown (o := 0) HX.out.box (below_new w1 _) hgrow hne; have hc : w2.cell? ⟨g, 0, none⟩ = some (.slice (some ⟨gv, 0, none⟩) (r.length + 1) cap0) := cell_grown 0 HX.out.box (below_new w1 _) hgrow hne)
      go_end0
      obtain ⟨hx2, ha2, b2⟩ := Box.push (p := ⟨1, n, []⟩) HX.out (by decide) (by decide) (Apart.bare 1 n HA.out) (below_new w1 _) (by rw [hrl]; exact hown1) hgrow
      rw [hrl] at hx2 ha2 b2
      refine ⟨rfl, ?_, b1.trans b2, HR.out.trans (push_fr HOS.out (below_new w1 _) hgrow _)⟩
      rw [keepTo_f n hk]
      exact ⟨_, _, hx2, ha2, HOS.out.push nil_own hat (HS.out _ (by have := HR.out.size; omega))⟩

theorem implDone_any (lo g : Nat) (ps : List Pt) (put : List Int) (d : Int) (w : World) (hb : BAt lo g 176 w ps put d) (hl : ps.length ≤ 4294967296) (hp : put.length ≤ 4294967296) :
    Calls Tryz.prog 145 #[.pointer (some ⟨g, 0, none⟩)] w (Gone lo (ps ++ putL put ++ dropL d) w) :=
  (implDone_f (fun _ => True) lo g ps put d w hb.all (fun _ _ => trivial) hl hp).mono fun e w' h => h.any

theorem implKeep_any (lo g : Nat) (ps : List Pt) (put : List Int) (d n : Int) (w : World) (hb : BAt lo g 176 w ps put d) (hl : ps.length ≤ 4294967296) (hp : put.length ≤ 4294967296) (hn : ¬ n = 0) (hn0 : 0 ≤ n) (hn1 : n ≤ 1048576)
    (hq : ∀ p ∈ ps ++ putL put ++ dropL d, 0 ≤ p.n ∧ p.n ≤ 4611686018427387904) (hql : (ps ++ putL put ++ dropL d).length ≤ 4294967298) :
    Calls Tryz.prog 159 #[.pointer (some ⟨g, 0, none⟩), .int .i64 n] w (Flushed lo g 176 w (keepTo (ps ++ putL put ++ dropL d) n)) :=
  (implKeep_f (fun _ => True) lo g ps put d n w hb.all (fun _ _ => trivial) hl hp hn hn0 hn1 hq hql).mono fun e w' h => h.any

set_option maxHeartbeats 1600000 in
theorem implKeep_zero (g : Nat) (w : World) : Calls Tryz.prog 159 #[.pointer (some ⟨g, 0, none⟩), .int .i64 0] w fun e w' => e = .returned (.tuple #[]) ∧ w = w' := by
  go_enter Tryz.func159, Tryz.ntmps159
  go_wp2
  first | go_end0 | (refine bodyPost_ret (results_none rfl _ _ _) rfl ?_)
  exact ⟨rfl, rfl⟩
end Go.Proofs.YtninppjomdhnmaaGreat.low


/-
  Contracts of the program's functions on operations that only read: impl.PartOk, partsOk, size, sizeOf, OpFrom, OpTo, OpOk, Puts, Drops.
-/
namespace Go.Proofs.YtninppjomdhnmaaGreat.low
open Go.RowKit
set_option linter.unusedVariables false

set_option maxHeartbeats 1600000 in
theorem implPartOk_any (p : Pt) (A : Option Addr) (c : Nat) (w : World) (hr : Row (Value.int .i64) w w.heap.size A p.signs) (hl : p.signs.length ≤ 4294967296) :
    Calls Tryz.prog 156 #[.agg #[.int .i64 p.kind, .int .i64 p.n, .slice A p.signs.length c]] w (Tells (okPt p) w) := by
  obtain ⟨k, n, zs⟩ := p
  have hr' : Row (Value.int .i64) w w.heap.size A zs := hr
  have hl' : zs.length ≤ 4294967296 := hl
  clear hr hl
  by_cases hk : k = 1 ∨ k = 3
  · by_cases h0 : 0 ≤ n
    · by_cases h1 : n ≤ 200
      · by_cases hz : zs.length = 0
        all_goals
          have HS := Lib.hid (show okPt ⟨k, n, zs⟩ = decide (zs.length = 0) by
            first
              | (rw [okPt_t (.inl ⟨hk, ⟨h0, h1⟩, hz⟩), decide_eq_true hz])
              | (rw [okPt_f (by simp only; omega), decide_eq_false hz]))
          have hzb : ((zs.length : Int) == 0) = decide (zs.length = 0) := by
            first
              | (rw [decide_eq_true hz, beq_iff_eq]; omega)
              | (rw [decide_eq_false hz, beq_eq_false_iff_ne]; omega)
          generalize decide (zs.length = 0) = bb at HS hzb
          clear hz
          rcases hk with rfl | rfl
          all_goals
            go_enter Tryz.func156, Tryz.ntmps156
            go_wp2
            go_ret
            exact ⟨ret_bool (by rw [HS.out]), alloc_below _ _⟩
      · have HS := Lib.hid (show okPt ⟨k, n, zs⟩ = false by rw [okPt_f (by simp only; omega)])
        rcases hk with rfl | rfl
        all_goals
          go_enter Tryz.func156, Tryz.ntmps156
          go_wp2
          go_ret
          exact ⟨ret_bool (by rw [HS.out]), alloc_below _ _⟩
    · have HS := Lib.hid (show okPt ⟨k, n, zs⟩ = false by rw [okPt_f (by simp only; omega)])
      rcases hk with rfl | rfl
      all_goals
        go_enter Tryz.func156, Tryz.ntmps156
        go_wp2
        go_ret
        exact ⟨ret_bool (by rw [HS.out]), alloc_below _ _⟩
  · have hk1 : (k == 1) = false := by rw [beq_eq_false_iff_ne]; omega
    have hk3 : (k == 3) = false := by rw [beq_eq_false_iff_ne]; omega
    by_cases hk2 : k = 2
    · have hk2' : (k == 2) = true := by rw [beq_iff_eq]; exact hk2
      by_cases hn : n = 0
      · have hn' : (n == 0) = true := by rw [beq_iff_eq]; exact hn
        have HS := Lib.hid (show okPt ⟨k, n, zs⟩ = (allB zs && decide (zs.length ≤ 200)) by
          unfold okPt
          simp [hk2, hn])
        clear hk hk2 hn
        by_cases hlen : zs.length ≤ 200
        · have HL := Lib.hid (decide_eq_true hlen)
          go_enter Tryz.func156, Tryz.ntmps156
          go_wp2_with (go_at_call 116; refine (implSignsOk_any A c zs _ (hr'.past_alloc _) hl').mono ?_; rintro e w' ⟨rfl, rfl⟩)
          go_ret
          refine ⟨ret_bool ?_, alloc_below _ _⟩
          rw [HS.out, HL.out, Bool.and_true]
        · have HL := Lib.hid (decide_eq_false hlen)
          go_enter Tryz.func156, Tryz.ntmps156
          go_wp2
          go_ret
          refine ⟨ret_bool ?_, alloc_below _ _⟩
          rw [HS.out, HL.out, Bool.and_false]
      · have hn' : (n == 0) = false := by rw [beq_eq_false_iff_ne]; exact hn
        have HS := Lib.hid (show okPt ⟨k, n, zs⟩ = false by rw [okPt_f (by simp only; omega)])
        clear hk hk2 hn
        go_enter Tryz.func156, Tryz.ntmps156
        go_wp2
        go_ret
        exact ⟨ret_bool (by rw [HS.out]), alloc_below _ _⟩
    · have hk2' : (k == 2) = false := by rw [beq_eq_false_iff_ne]; exact hk2
      have HS := Lib.hid (show okPt ⟨k, n, zs⟩ = false by rw [okPt_f (by simp only; omega)])
      clear hk hk2
      go_enter Tryz.func156, Tryz.ntmps156
      go_wp2
      go_ret
      exact ⟨ret_bool (by rw [HS.out]), alloc_below _ _⟩

set_option maxHeartbeats 1600000 in
theorem implParts_any (A : Option Addr) (c : Nat) (ps : List Pt) (w : World) (hr : PRow w w.heap.size A ps) (hl : ps.length ≤ 4294967296) (hls : ∀ p ∈ ps, p.signs.length ≤ 4294967296) :
    Calls Tryz.prog 138 #[.slice A ps.length c] w (Tells (partsB ps) w) := by
  by_cases h6 : ps.length ≤ 600
  · go_enter Tryz.func138, Tryz.ntmps138
    go_wp2
    go_loopw [10] (fun i wr => ∃ k : Nat, k ≤ ps.length ∧ i = .int .i64 k ∧ okPs (ps.take k) = true ∧ Below w.heap.size w wr) (fun i _ => ps.length - (intOf i).toNat)
    case atStart => exact ⟨0, Nat.zero_le _, rfl, rfl, Below.refl _ _⟩
    case round =>
      obtain ⟨k, hk, rfl, ha, hbel⟩ := hrel
      have HA := Lib.hid ha
      clear ha
      by_cases hlt : k < ps.length
      · obtain ⟨b, off, p, rfl, hb, hp, hc⟩ := hr.at_ hlt
        obtain ⟨x0, x1, A1, e1, x2, r1⟩ := hc.keep (w' := wr) hb (fun _ hq => hbel.cell hq)
        have hsp := hls p (List.mem_of_getElem? hp)
        have HP := Lib.hid hp
        clear hp hc
        cases hs : okPt p
        · go_wp2_with fail
          refine (implPartOk_any p A1 e1 _ ((r1.more hbel.size).past_alloc _) hsp).mono ?_
          rintro e w2 ⟨rfl, b2⟩
          go_wp2
          go_ret
          exact ⟨ret_bool (by unfold partsB; rw [okPs_f HP.out hs]; rfl), (hbel.trans ((alloc_below wr _).mono hbel.size)).trans (b2.mono (Nat.le_trans hbel.size (alloc_below wr _).size))⟩
        · go_wp2_with fail
          refine (implPartOk_any p A1 e1 _ ((r1.more hbel.size).past_alloc _) hsp).mono ?_
          rintro e w2 ⟨rfl, b2⟩
          go_wp2
          go_roundw
          case rel => exact ⟨k + 1, by omega, by go_num, okPs_snoc HP.out HA.out hs, (hbel.trans ((alloc_below wr _).mono hbel.size)).trans (b2.mono (Nat.le_trans hbel.size (alloc_below wr _).size))⟩
          case measure => simp [intOf]; omega
      · have HE := Lib.hid (show partsB ps = true by
          have h1 := HA.out
          rw [List.take_of_length_le (by omega)] at h1
          unfold partsB
          rw [h1, Bool.true_and]
          exact decide_eq_true h6)
        go_wp2
        go_ret
        refine ⟨ret_bool ?_, hbel⟩
        rw [HE.out]
  · have HE := Lib.hid (show partsB ps = false by unfold partsB; rw [decide_eq_false h6, Bool.and_false])
    go_enter Tryz.func138, Tryz.ntmps138
    go_wp2
    go_ret
    exact ⟨ret_bool (by rw [HE.out]), Below.refl _ _⟩

/-- the size of a part of the kind -/
def sizeK (kind : Int) (p : Pt) : Int := if p.kind = kind then p.n + (p.signs.length : Int) else 0
theorem sumOf_congr {f g : Pt → Int} : ∀ {ps : List Pt}, (∀ p ∈ ps, f p = g p) → sumOf f ps = sumOf g ps
  | [], _ => rfl
  | p :: ps, h => by
    have h1 := h p (List.mem_cons_self ..)
    have h2 := sumOf_congr (f := f) (g := g) (ps := ps) fun q hq => h q (List.mem_cons_of_mem _ hq)
    have e : ∀ f : Pt → Int, sumOf f (p :: ps) = f p + sumOf f ps := fun f => by simp [sumOf]
    rw [e, e, h1, h2]
theorem okPs_mem {ps : List Pt} (h : okPs ps = true) {p : Pt} (hp : p ∈ ps) : okPt p = true := by unfold okPs at h; exact List.all_eq_true.1 h p hp
theorem sizeK_keep {ps : List Pt} (h : okPs ps = true) : sumOf (sizeK 1) ps = sumOf keepOf ps := sumOf_congr fun p hp => by
  have := of_okPt (okPs_mem h hp)
  unfold sizeK keepOf
  split <;> omega
theorem sizeK_put {ps : List Pt} (h : okPs ps = true) : sumOf (sizeK 2) ps = sumOf putOf ps := sumOf_congr fun p hp => by
  have := of_okPt (okPs_mem h hp)
  unfold sizeK putOf
  split <;> omega
theorem sizeK_drop {ps : List Pt} (h : okPs ps = true) : sumOf (sizeK 3) ps = sumOf dropOf ps := sumOf_congr fun p hp => by
  have := of_okPt (okPs_mem h hp)
  unfold sizeK dropOf
  split <;> omega
theorem sizeK_bd {kind : Int} {ps : List Pt} (h : okPs ps = true) (hl : ps.length ≤ 600) : 0 ≤ sumOf (sizeK kind) ps ∧ sumOf (sizeK kind) ps ≤ 120000 := by
  have := sumOf_bd (f := sizeK kind) ps fun p hq => by
    have := of_okPt (okPs_mem h hq)
    unfold sizeK
    split <;> omega
  omega

set_option maxHeartbeats 400000 in
theorem implSize_any (k n : Int) (A : Option Addr) (len c : Nat) (w : World) (h0 : 0 ≤ n) (h1 : n ≤ 200) (h2 : len ≤ 200) :
    Calls Tryz.prog 157 #[.agg #[.int .i64 k, .int .i64 n, .slice A len c]] w (Nums1 (n + (len : Int)) w) := by
  go_enter Tryz.func157, Tryz.ntmps157
  go_wp2
  go_ret
  exact ⟨rfl, alloc_below _ _⟩

set_option maxRecDepth 100000 in
set_option maxHeartbeats 1600000 in
theorem implSizeOf_any (kind : Int) (A : Option Addr) (c : Nat) (ps : List Pt) (w : World) (hr : PRow w w.heap.size A ps) (hl : ps.length ≤ 600) (hok : okPs ps = true) :
    Calls Tryz.prog 139 #[.slice A ps.length c, .int .i64 kind] w (Nums1 (sumOf (sizeK kind) ps) w) := by
  have HOK := Lib.hid hok
  clear hok
  go_enter Tryz.func139, Tryz.ntmps139
  go_wp2
  go_loopw [5, 10] (fun a i wr => ∃ k : Nat, k ≤ ps.length ∧ i = .int .i64 k ∧ a = .int .i64 (sumOf (sizeK kind) (ps.take k)) ∧ Below w.heap.size w wr) (fun _ i _ => ps.length - (intOf i).toNat)
  case atStart => exact ⟨0, Nat.zero_le _, rfl, rfl, Below.refl _ _⟩
  case round =>
    obtain ⟨k, hk, rfl, rfl, hbel⟩ := hrel
    obtain ⟨s1, s2⟩ := sizeK_bd (kind := kind) (okPs_take HOK.out k) (by rw [List.length_take]; omega)
    by_cases hlt : k < ps.length
    · obtain ⟨b, off, p, rfl, hb, hp, hc⟩ := hr.at_ hlt
      obtain ⟨x0, x1, A1, e1, x2, r1⟩ := hc.keep (w' := wr) hb (fun _ hq => hbel.cell hq)
      have hok := of_okPt (okPs_at hp HOK.out)
      have K1 := Lib.hid (sumOf_snoc (f := sizeK kind) hp)
      clear hp hc
      generalize sumOf (sizeK kind) (ps.take k) = q1 at *
      obtain ⟨pk, pn, pz⟩ := p
      simp only at x0 x1 x2 hok
      have hn1 : 0 ≤ pn := by omega
      have hn2 : pn ≤ 200 := by omega
      have hn3 : pz.length ≤ 200 := by omega
      clear hok
      by_cases hkk : pk = kind
      · have hkb : (pk == kind) = true := by rw [beq_iff_eq]; exact hkk
        have HK := Lib.hid (show sizeK kind ⟨pk, pn, pz⟩ = pn + (pz.length : Int) by unfold sizeK; exact if_pos hkk)
        clear hkk
        go_wp2_with fail
        refine (implSize_any pk pn A1 pz.length e1 _ hn1 hn2 hn3).mono ?_
        rintro e w2 ⟨rfl, b2⟩
        go_wp2
        go_roundw
        case rel => exact ⟨k + 1, by omega, by go_num, by rw [K1.out, HK.out], (hbel.trans ((alloc_below wr _).mono hbel.size)).trans (b2.mono (Nat.le_trans hbel.size (alloc_below wr _).size))⟩
        case measure => simp [intOf]; omega
      · have hkb : (pk == kind) = false := by rw [beq_eq_false_iff_ne]; exact hkk
        have HK := Lib.hid (show sizeK kind ⟨pk, pn, pz⟩ = 0 by unfold sizeK; exact if_neg hkk)
        clear hkk
        go_wp2
        go_roundw
        case rel => exact ⟨k + 1, by omega, by go_num, by rw [K1.out, HK.out, Int.add_zero], hbel.trans ((alloc_below wr _).mono hbel.size)⟩
        case measure => simp [intOf]; omega
    · have hke : ps.take k = ps := List.take_of_length_le (by omega)
      rw [hke] at s1 s2 ⊢
      go_wp2
      go_ret
      exact ⟨rfl, hbel⟩

set_option maxHeartbeats 800000 in
theorem implOpFrom_any (A : Option Addr) (c : Nat) (ps : List Pt) (w : World) (hr : PRow w w.heap.size A ps) (hl : ps.length ≤ 4294967296) (hls : ∀ p ∈ ps, p.signs.length ≤ 4294967296) :
    Calls Tryz.prog 137 #[.slice A ps.length c] w (Nums1 (sumK ps + sumD ps) w) := by
  cases hpb : partsB ps
  · have HS := Lib.hid (sum_f hpb)
    go_enter Tryz.func137, Tryz.ntmps137
    go_wp2_with fail
    refine (implParts_any A c ps _ hr hl hls).mono ?_
    rintro e w1 ⟨rfl, b1⟩
    go_wp2
    go_ret
    rw [HS.out.1, HS.out.2.2]
    exact ⟨rfl, b1⟩
  · obtain ⟨t1, t2, t3⟩ := sum_t hpb
    obtain ⟨p1, p2⟩ := partsB_of hpb
    have HS := Lib.hid (show sumK ps + sumD ps = sumOf (sizeK 1) ps + sumOf (sizeK 3) ps by rw [t1, t3, sizeK_keep p1, sizeK_drop p1])
    obtain ⟨s1, s2⟩ := sizeK_bd (kind := 1) p1 p2
    obtain ⟨s3, s4⟩ := sizeK_bd (kind := 3) p1 p2
    clear t1 t2 t3
    go_enter Tryz.func137, Tryz.ntmps137
    go_wp2_with fail
    refine (implParts_any A c ps _ hr hl hls).mono ?_
    rintro e w1 ⟨rfl, b1⟩
    go_wp2_with fail
    refine (implSizeOf_any 1 A c ps _ (hr.past b1) p2 p1).mono ?_
    rintro e w2 ⟨rfl, b2⟩
    have d2 := b1.trans (b2.mono b1.size)
    go_wp2_with fail
    refine (implSizeOf_any 3 A c ps _ (hr.past d2) p2 p1).mono ?_
    rintro e w3 ⟨rfl, b3⟩
    have d3 := d2.trans (b3.mono d2.size)
    generalize sumOf (sizeK 1) ps = q1 at *
    generalize sumOf (sizeK 3) ps = q3 at *
    go_wp2
    go_ret
    rw [HS.out]
    exact ⟨rfl, d3⟩

set_option maxHeartbeats 800000 in
theorem implOpTo_any (A : Option Addr) (c : Nat) (ps : List Pt) (w : World) (hr : PRow w w.heap.size A ps) (hl : ps.length ≤ 4294967296) (hls : ∀ p ∈ ps, p.signs.length ≤ 4294967296) :
    Calls Tryz.prog 118 #[.slice A ps.length c] w (Nums1 (sumK ps + sumP ps) w) := by
  cases hpb : partsB ps
  · have HS := Lib.hid (sum_f hpb)
    go_enter Tryz.func118, Tryz.ntmps118
    go_wp2_with fail
    refine (implParts_any A c ps _ hr hl hls).mono ?_
    rintro e w1 ⟨rfl, b1⟩
    go_wp2
    go_ret
    rw [HS.out.1, HS.out.2.1]
    exact ⟨rfl, b1⟩
  · obtain ⟨t1, t2, t3⟩ := sum_t hpb
    obtain ⟨p1, p2⟩ := partsB_of hpb
    have HS := Lib.hid (show sumK ps + sumP ps = sumOf (sizeK 1) ps + sumOf (sizeK 2) ps by rw [t1, t2, sizeK_keep p1, sizeK_put p1])
    obtain ⟨s1, s2⟩ := sizeK_bd (kind := 1) p1 p2
    obtain ⟨s3, s4⟩ := sizeK_bd (kind := 2) p1 p2
    clear t1 t2 t3
    go_enter Tryz.func118, Tryz.ntmps118
    go_wp2_with fail
    refine (implParts_any A c ps _ hr hl hls).mono ?_
    rintro e w1 ⟨rfl, b1⟩
    go_wp2_with fail
    refine (implSizeOf_any 1 A c ps _ (hr.past b1) p2 p1).mono ?_
    rintro e w2 ⟨rfl, b2⟩
    have d2 := b1.trans (b2.mono b1.size)
    go_wp2_with fail
    refine (implSizeOf_any 2 A c ps _ (hr.past d2) p2 p1).mono ?_
    rintro e w3 ⟨rfl, b3⟩
    have d3 := d2.trans (b3.mono d2.size)
    generalize sumOf (sizeK 1) ps = q1 at *
    generalize sumOf (sizeK 2) ps = q3 at *
    go_wp2
    go_ret
    rw [HS.out]
    exact ⟨rfl, d3⟩

set_option maxHeartbeats 1600000 in
theorem implOpOk_any (A : Option Addr) (c : Nat) (ps : List Pt) (w : World) (hr : PRow w w.heap.size A ps) (hl : ps.length ≤ 4294967296) (hls : ∀ p ∈ ps, p.signs.length ≤ 4294967296) :
    Calls Tryz.prog 130 #[.slice A ps.length c] w (Tells (okOp ps) w) := by
  cases hpb : partsB ps
  · have HS := Lib.hid (show okOp ps = false by unfold okOp; rw [hpb]; rfl)
    go_enter Tryz.func130, Tryz.ntmps130
    go_wp2_with fail
    refine (implParts_any A c ps _ hr hl hls).mono ?_
    rintro e w1 ⟨rfl, b1⟩
    go_wp2
    go_ret
    exact ⟨ret_bool (by rw [HS.out]), b1⟩
  · by_cases hf : sumK ps + sumD ps ≤ 200
    · by_cases ht : sumK ps + sumP ps ≤ 200
      all_goals
        have HS := Lib.hid (show okOp ps = decide (sumK ps + sumP ps ≤ 200) by unfold okOp; rw [hpb, decide_eq_true hf]; rfl)
        go_enter Tryz.func130, Tryz.ntmps130
        go_wp2_with fail
        refine (implParts_any A c ps _ hr hl hls).mono ?_
        rintro e w1 ⟨rfl, b1⟩
        go_wp2_with fail
        refine (implOpFrom_any A c ps _ (hr.past b1) hl hls).mono ?_
        rintro e w2 ⟨rfl, b2⟩
        have d2 := b1.trans (b2.mono b1.size)
        go_wp2_with fail
        refine (implOpTo_any A c ps _ (hr.past d2) hl hls).mono ?_
        rintro e w3 ⟨rfl, b3⟩
        go_wp2
        go_ret
        refine ⟨ret_bool ?_, d2.trans (b3.mono d2.size)⟩
        rw [HS.out]
        first | done | (rw [decide_eq_true ht]) | (rw [decide_eq_false ht])
    · have HS := Lib.hid (show okOp ps = false by unfold okOp; rw [hpb, decide_eq_false hf]; rfl)
      go_enter Tryz.func130, Tryz.ntmps130
      go_wp2_with fail
      refine (implParts_any A c ps _ hr hl hls).mono ?_
      rintro e w1 ⟨rfl, b1⟩
      go_wp2_with fail
      refine (implOpFrom_any A c ps _ (hr.past b1) hl hls).mono ?_
      rintro e w2 ⟨rfl, b2⟩
      go_wp2
      go_ret
      exact ⟨ret_bool (by rw [HS.out]), b1.trans (b2.mono b1.size)⟩

theorem okOp_parts {ps : List Pt} (h : okOp ps = true) : partsB ps = true := by
  unfold okOp at h
  cases hp : partsB ps
  · rw [hp] at h; simp at h
  · rfl

end Go.Proofs.YtninppjomdhnmaaGreat.low


/-
  Contracts of impl.partSame, of the library's slices.EqualFunc at parts with impl.partSame, and of impl.OpSame.
-/
namespace Go.Proofs.YtninppjomdhnmaaGreat.low
open Go.RowKit
set_option linter.unusedVariables false

set_option maxHeartbeats 800000 in
theorem implPartSame_any (p q : Pt) (A A' : Option Addr) (c c' : Nat) (w : World) (hp : Row (Value.int .i64) w w.heap.size A p.signs) (hq : Row (Value.int .i64) w w.heap.size A' q.signs) (h1 : p.signs.length ≤ 4294967296) (h2 : q.signs.length ≤ 4294967296) :
    Calls Tryz.prog 143 #[.agg #[.int .i64 p.kind, .int .i64 p.n, .slice A p.signs.length c], .agg #[.int .i64 q.kind, .int .i64 q.n, .slice A' q.signs.length c']] w (Tells (samePt p q) w) := by
  obtain ⟨k, n, zs⟩ := p
  obtain ⟨k', n', zs'⟩ := q
  have hbb : ∀ o o' : Obj, Below w.heap.size w ((w.alloc o).alloc o') := fun o o' => ((Below.refl _ _).alloc (Nat.le_refl _) _).alloc (by simp) _
  by_cases hk : k = k'
  · by_cases hn : n = n'
    · have HS := Lib.hid (show samePt ⟨k, n, zs⟩ ⟨k', n', zs'⟩ = sameB zs zs' by unfold samePt; simp [hk, hn])
      have hk1 : (k == k') = true := by simp [hk]
      have hn1 : (n == n') = true := by simp [hn]
      clear hk hn
      go_enter Tryz.func143, Tryz.ntmps143
      go_wp2_with fail
      refine (implSignsSame_any A A' c c' zs zs' _ ((hp.past_alloc _).past_alloc _) ((hq.past_alloc _).past_alloc _) h1 h2).mono ?_
      intro e w1 hsay
      obtain ⟨rfl, b1⟩ := says_tells hsay
      go_wp2
      go_ret
      refine ⟨ret_bool (by rw [HS.out]), (hbb _ _).trans (b1.mono (by simp; omega))⟩
    · have HS := Lib.hid (show samePt ⟨k, n, zs⟩ ⟨k', n', zs'⟩ = false by unfold samePt; simp [hn])
      have hk1 : (k == k') = true := by simp [hk]
      have hn1 : (n == n') = false := by simp [hn]
      clear hk hn
      go_enter Tryz.func143, Tryz.ntmps143
      go_wp2
      go_ret
      exact ⟨ret_bool (by rw [HS.out]), hbb _ _⟩
  · have HS := Lib.hid (show samePt ⟨k, n, zs⟩ ⟨k', n', zs'⟩ = false by unfold samePt; simp [hk])
    have hk1 : (k == k') = false := by simp [hk]
    clear hk
    go_enter Tryz.func143, Tryz.ntmps143
    go_wp2
    go_ret
    exact ⟨ret_bool (by rw [HS.out]), hbb _ _⟩

set_option maxRecDepth 100000 in
set_option maxHeartbeats 1600000 in
theorem equalFunc_any (A B : Option Addr) (c d : Nat) (ps qs : List Pt) (w : World) (hx : PRow w w.heap.size A ps) (hy : PRow w w.heap.size B qs)
    (hl : ps.length ≤ 4294967296) (hl2 : qs.length ≤ 4294967296) (hs : ∀ p ∈ ps, p.signs.length ≤ 4294967296) (hs2 : ∀ p ∈ qs, p.signs.length ≤ 4294967296) :
    Calls Tryz.prog 142 #[.slice A ps.length c, .slice B qs.length d, .func (.func 143) #[] #[]] w (Tells (samePs ps qs) w) := by
  by_cases hlen : ps.length = qs.length
  · have HL := Lib.hid hlen
    have hb : ((ps.length : Int) != (qs.length : Int)) = false := by simp [hlen]
    clear hlen
    go_enter Tryz.func142, Tryz.ntmps142
    go_wp2
    go_loopw [17] (fun i wr => ∃ k : Nat, k ≤ ps.length ∧ i = .int .i64 k ∧ samePs (ps.take k) (qs.take k) = true ∧ Below w.heap.size w wr) (fun i _ => ps.length - (intOf i).toNat)
    case atStart => exact ⟨0, Nat.zero_le _, rfl, rfl, Below.refl _ _⟩
    case round =>
      obtain ⟨k, hk, rfl, ht, hbel⟩ := hrel
      have HT := Lib.hid ht
      clear ht
      by_cases hlt : k < ps.length
      · have hlt2 : k < qs.length := by have := HL.out; omega
        obtain ⟨b1, o1, p, rfl, hb1, hp, hc1⟩ := hx.at_ hlt
        obtain ⟨b2, o2, q, rfl, hb2, hq, hc2⟩ := hy.at_ (k := k) hlt2
        obtain ⟨x0, x1, A1, e1, x2, r1⟩ := hc1.keep (w' := wr) hb1 (fun _ hq => hbel.cell hq)
        have hsp := hs p (List.mem_of_getElem? hp)
        have hsq := hs2 q (List.mem_of_getElem? hq)
        have HP := Lib.hid hp
        have HQ := Lib.hid hq
        clear hp hq hc1
        have bW := alloc_below wr (.cells #[.int .i64 p.kind, .int .i64 p.n, .slice A1 p.signs.length e1] 131)
        have dW := hbel.trans (bW.mono hbel.size)
        obtain ⟨y0, y1, A2, e2, y2, r2⟩ := hc2.keep (w' := wr.alloc (.cells #[.int .i64 p.kind, .int .i64 p.n, .slice A1 p.signs.length e1] 131)) hb2 (fun _ hq => dW.cell hq)
        have dV := dW.trans ((alloc_below (wr.alloc (.cells #[.int .i64 p.kind, .int .i64 p.n, .slice A1 p.signs.length e1] 131)) (.cells #[.int .i64 q.kind, .int .i64 q.n, .slice A2 q.signs.length e2] 131)).mono dW.size)
        have R1 := Lib.hid (Row.past_alloc ((r1.more hbel.size).past bW) (.cells #[.int .i64 q.kind, .int .i64 q.n, .slice A2 q.signs.length e2] 131))
        have R2 := Lib.hid (Row.past_alloc (r2.more dW.size) (.cells #[.int .i64 q.kind, .int .i64 q.n, .slice A2 q.signs.length e2] 131))
        clear hc2 r1 r2
        cases hsame : samePt p q
        · go_wp2_with fail
          refine (implPartSame_any p q A1 A2 e1 e2 _ R1.out R2.out hsp hsq).mono ?_
          rintro e w2 ⟨rfl, b2⟩
          go_wp2
          go_ret
          exact ⟨ret_bool (by rw [samePs_at ps qs k p q HP.out HQ.out hsame]), dV.trans (b2.mono dV.size)⟩
        · go_wp2_with fail
          refine (implPartSame_any p q A1 A2 e1 e2 _ R1.out R2.out hsp hsq).mono ?_
          rintro e w2 ⟨rfl, b2⟩
          go_wp2
          go_roundw
          case rel => exact ⟨k + 1, by omega, by go_num, samePs_snoc ps qs k p q HP.out HQ.out hsame HT.out, dV.trans (b2.mono dV.size)⟩
          case measure => simp [intOf]; omega
      · have H := Lib.hid (show samePs ps qs = true by have := HT.out; rwa [List.take_of_length_le (by omega), List.take_of_length_le (by have := HL.out; omega)] at this)
        go_wp2
        go_ret
        exact ⟨ret_bool (by rw [H.out]), hbel⟩
  · have hb : ((ps.length : Int) != (qs.length : Int)) = true := by simp; omega
    have H := Lib.hid (show samePs ps qs = false by cases h : samePs ps qs; rfl; exact absurd (samePs_len ps qs h) hlen)
    clear hlen
    go_enter Tryz.func142, Tryz.ntmps142
    go_wp2
    go_ret
    exact ⟨ret_bool (by rw [H.out]), Below.refl _ _⟩

set_option maxHeartbeats 400000 in
theorem implOpSame_any (A B : Option Addr) (c d : Nat) (ps qs : List Pt) (w : World) (hx : PRow w w.heap.size A ps) (hy : PRow w w.heap.size B qs)
    (hl : ps.length ≤ 4294967296) (hl2 : qs.length ≤ 4294967296) (hs : ∀ p ∈ ps, p.signs.length ≤ 4294967296) (hs2 : ∀ p ∈ qs, p.signs.length ≤ 4294967296) :
    Calls Tryz.prog 131 #[.slice A ps.length c, .slice B qs.length d] w (Tells (samePs ps qs) w) := by
  go_enter Tryz.func131, Tryz.ntmps131
  go_wp2_with fail
  refine (equalFunc_any A B c d ps qs _ hx hy hl hl2 hs hs2).mono ?_
  rintro e w1 ⟨rfl, b1⟩
  go_wp2
  go_ret
  exact ⟨rfl, b1⟩
end Go.Proofs.YtninppjomdhnmaaGreat.low

