
/-
  The inverse of an operation: the function on lists, and the contract of spec.Invert.
-/
import Derived.Test.YtemhhjagdfkmfaaSpecAll
import Derived.Test.YtemhhjagdfkmfaaSpecBld
import Derived.Test.YtemhhjagdfkmfaaNormL
namespace Go.Proofs.Ytemhhjagdfkmfaa.low
open Go.RowKit
set_option linter.unusedVariables false

/-- the inverse of one part, at a position of the text -/
def invP (t : List Int) (at_ : Nat) (p : Pt) : Pt := if p.kind = 1 then ⟨1, p.n, []⟩ else if p.kind = 2 then ⟨3, (p.signs.length : Int), []⟩ else ⟨2, 0, (t.drop at_).take p.n.toNat⟩
def stepI (t : List Int) (s : Nat × List Pt) (p : Pt) : Nat × List Pt := (s.1 + (if p.kind = 2 then 0 else p.n.toNat), s.2 ++ [invP t s.1 p])
def foldI (t : List Int) (ps : List Pt) : Nat × List Pt := ps.foldl (stepI t) (0, [])
def invertT (ps : List Pt) (t : List Int) : List Pt := if fitsB ps t = true then doneN (foldN (foldI t (normL ps)).2) else []
theorem foldI_snoc {t : List Int} {ps : List Pt} {k : Nat} {p : Pt} (h : ps[k]? = some p) : foldI t (ps.take (k + 1)) = stepI t (foldI t (ps.take k)) p := by
  unfold foldI
  rw [List.take_add_one, h]
  simp
theorem invP_sz {t : List Int} {at_ : Nat} {p : Pt} (h : szP_ p) : szP_ (invP t at_ p) := by
  obtain ⟨hk, h0, h1, hz⟩ := h
  unfold invP
  split
  · exact ⟨.inl rfl, h0, h1, by simp⟩
  · split
    · exact ⟨.inr (.inr rfl), by simp, by simp only; omega, by simp⟩
    · exact ⟨.inr (.inl rfl), by simp, by simp, by rw [List.length_take]; omega⟩
theorem foldI_fit {t : List Int} {ps : List Pt} (hok : okPs ps = true) : ∀ k, k ≤ ps.length → ((foldI t (ps.take k)).1 : Int) = sumOf keepOf (ps.take k) + sumOf dropOf (ps.take k) ∧ (foldI t (ps.take k)).2.length = k ∧ ∀ p ∈ (foldI t (ps.take k)).2, szP_ p
  | 0, _ => by simp [foldI, sumOf]
  | k + 1, hk => by
    obtain ⟨p, hp⟩ := idx_some (l := ps) (i := k) (by omega)
    obtain ⟨i1, i2, i3⟩ := foldI_fit (t := t) hok k (by omega)
    have hok' := okPs_at hp hok
    have hp' := of_okPt hok'
    rw [foldI_snoc hp, sumOf_snoc hp, sumOf_snoc hp]
    generalize foldI t (ps.take k) = s at *
    generalize sumOf keepOf (ps.take k) = q1 at *
    generalize sumOf dropOf (ps.take k) = q3 at *
    refine ⟨?_, by simp [stepI, i2], fun q hq => ?_⟩
    · unfold stepI keepOf dropOf
      rcases (show p.kind = 1 ∨ p.kind = 2 ∨ p.kind = 3 by omega) with e | e | e
      · simp [e]; omega
      · simp [e]; omega
      · simp [e]; omega
    · rcases List.mem_append.1 hq with hq | hq
      · exact i3 q hq
      · simp at hq
        subst hq
        exact invP_sz (szP_of hok')
/-- the normal form of a fitting operation -/
theorem fits_norm {ps : List Pt} {t : List Int} (h : fitsB ps t = true) : okPs (normL ps) = true ∧ (normL ps).length ≤ 600 ∧ sumOf keepOf (normL ps) + sumOf dropOf (normL ps) = (t.length : Int) := by
  obtain ⟨_, _, h3, _, _, _, h7⟩ := fits_of h
  obtain ⟨n1, _, s1, s2, s3⟩ := norm_ok h7
  obtain ⟨a1, a2, _⟩ := okOp_of n1
  exact ⟨a1, a2, by rw [s1, s3]; exact h3⟩
theorem foldI_in {t : List Int} {qs : List Pt} {k : Nat} {p : Pt} (h1 : okPs qs = true) (h3 : sumOf keepOf qs + sumOf dropOf qs = (t.length : Int)) (hp : qs[k]? = some p) (hk : p.kind = 1 ∨ p.kind = 3) : ((foldI t (qs.take k)).1 : Int) + p.n ≤ (t.length : Int) := by
  have hlt := idx_lt hp
  have f := (foldI_fit (t := t) h1 k (by omega)).1
  have a1 := sumOf_take (f := keepOf) (ps := qs) (fun q hq => (ok_bd (okPs_mem' h1 hq)).1.1) (k + 1)
  have a2 := sumOf_take (f := dropOf) (ps := qs) (fun q hq => (ok_bd (okPs_mem' h1 hq)).2.2.1) (k + 1)
  rw [sumOf_snoc hp] at a1 a2
  have : keepOf p + dropOf p = p.n := by
    unfold keepOf dropOf
    rcases hk with e | e <;> simp [e]
  omega
theorem foldI_at {t : List Int} {qs : List Pt} (h1 : okPs qs = true) (h3 : sumOf keepOf qs + sumOf dropOf qs = (t.length : Int)) {k : Nat} (hk : k ≤ qs.length) : (foldI t (qs.take k)).1 ≤ t.length := by
  have f := (foldI_fit (t := t) h1 k hk).1
  have a1 := sumOf_take (f := keepOf) (ps := qs) (fun q hq => (ok_bd (okPs_mem' h1 hq)).1.1) k
  have a2 := sumOf_take (f := dropOf) (ps := qs) (fun q hq => (ok_bd (okPs_mem' h1 hq)).2.2.1) k
  omega
theorem built_small {L : List Pt} (h : ∀ p ∈ L, szP_ p) (hl : L.length ≤ 5000) : SmP (doneN (foldN L)) := by
  have := (foldN_fitZ h).done
  have := signsIn_le h
  exact ⟨by omega, by omega⟩
theorem invert_small {ps : List Pt} {t : List Int} (h0 : SmP ps) (h1 : SmI t) : SmP (invertT ps t) := by
  unfold invertT
  split
  · rename_i h
    obtain ⟨n1, n2, n3⟩ := fits_norm h
    have f := foldI_fit (t := t) n1 (normL ps).length (Nat.le_refl _)
    rw [List.take_length] at f
    exact built_small f.2.2 (by omega)
  · exact ⟨by simp, by simp [signsIn]⟩

theorem specOpNorm_d (v : Value) (ps : List Pt) (w : World) (h : RdC w w.heap.size (encPs ps) v) (hs : SmP ps) : Calls Try.prog 43 #[v] w (OwnPost (encPs (normL ps)) w) := by
  obtain ⟨A, c, rfl, hr, _⟩ := parts_rd h
  have hl := hs.1
  refine (specOpNorm_any A c ps w hr (by omega) hs.all4 hs.2).mono ?_
  rintro e w1 ⟨v1, rfl, p1, b1⟩
  exact ⟨v1, rfl, own_parts p1, b1⟩

set_option maxRecDepth 100000 in
set_option maxHeartbeats 3200000 in
theorem specInvert_d (v v' : Value) (ps : List Pt) (t : List Int) (w : World) (h : RdC w w.heap.size (encPs ps) v) (h' : RdC w w.heap.size (encInts t) v') (hs : SmP ps) (hs' : SmI t) : Calls Try.prog 21 #[v, v'] w (ResB (encPs (invertT ps t)) (fitsB ps t) w) := by
  obtain ⟨A, c, rfl⟩ := sliceP h
  obtain ⟨A', c', rfl, hr', hcap⟩ := ints_rd h'
  cases hf : fitsB ps t
  · have e1 : invertT ps t = [] := by simp [invertT, hf]
    rw [e1]
    go_enter Try.func21, Try.ntmps21
    go_wp2_with fail
    refine (specFits_d _ _ ps t _ h h' hs hs').mono ?_
    rintro e w1 ⟨rfl, b1⟩
    rw [hf]
    go_wp2
    go_ret2
    exact ⟨_, rfl, nilOwn _ _ rfl b1.size, b1⟩
  · have e1 : invertT ps t = doneN (foldN (foldI t (normL ps)).2) := by simp [invertT, hf]
    rw [e1]
    have HFN := Lib.hid (fits_norm hf)
    have ht := (fits_of hf).2.2.2.2.2.1
    go_enter Try.func21, Try.ntmps21
    go_wp2_with fail
    refine (specFits_d _ _ ps t _ h h' hs hs').mono ?_
    rintro e w1 ⟨rfl, b1⟩
    rw [hf]
    clear hf e1
    go_wp2_with fail
    have hnew := Bld.new w.heap.size 63 w1 b1.size
    have hbn := b1.trans ((alloc_below w1 (.cells #[.slice none 0 0, .slice none 0 0, .int .i64 0] 63)).mono b1.size)
    generalize w1.alloc (.cells #[.slice none 0 0, .slice none 0 0, .int .i64 0] 63) = w2 at *
    have hout : ∀ x, x = w1.heap.size → x < w2.heap.size ∨ w2.heap.size ≤ x := fun x _ => by omega
    have hold := hnew.old
    generalize w1.heap.size = g at *
    clear b1
    refine (specOpNorm_d _ ps w2 (h.past hbn) hs).mono ?_
    rintro e w3 ⟨v3, rfl, o3, b3⟩
    have hn2 := HFN.out.2.1
    generalize normL ps = qs at *
    have hnew := hnew.past b3
    have hbn := hbn.trans (b3.mono hbn.size)
    obtain ⟨bq, oq⟩ := o3.blocks
    obtain ⟨Q, cq, rfl⟩ := sliceP oq.read
    have hO0 : ∀ x, x = g → x < w2.heap.size ∨ w3.heap.size ≤ x := fun x hx => .inl (hold x hx)
    have hz3 : w3.heap.size ≤ w3.heap.size := Nat.le_refl _
    generalize w2.heap.size = z2 at *
    generalize hz : w3.heap.size = z3 at oq hO0 hz3
    clear o3 b3 hold hout
    go_wp2
    go_loopw [7, 19] (fun a i wr => ∃ (k : Nat) (O : Nat → Prop), k ≤ qs.length ∧ i = .int .i64 k ∧ a = .int .i64 ((foldI t (qs.take k)).1 : Int) ∧ Bld O w.heap.size g 63 wr (foldI t (qs.take k)).2 ∧ (∀ x, O x → x < z2 ∨ z3 ≤ x) ∧ OwB z2 z3 wr (encPs qs) (.slice Q qs.length cq) bq ∧ Below w.heap.size w wr) (fun _ i _ => qs.length - (intOf i).toNat)
    case atStart => exact ⟨0, _, Nat.zero_le _, rfl, rfl, hnew, hO0, oq, hbn⟩
    case round =>
      obtain ⟨k, O, hk, rfl, rfl, hbd, hO, ho, hbel⟩ := hrel
      clear hnew hO0 oq hbn hz3 hz
      have hfit := Lib.hid (foldI_fit (t := t) HFN.out.1 k hk)
      have hat := foldI_at (t := t) HFN.out.1 HFN.out.2.2 hk
      obtain ⟨Q', cq', eQ, hq, _⟩ := parts_rd ho.read
      obtain ⟨rfl, rfl⟩ : Q' = Q ∧ cq' = cq := by injection eQ with e1 _ e3; exact ⟨e1.symm, e3.symm⟩
      clear eQ
      by_cases hlt : k < qs.length
      · obtain ⟨b, off, p, rfl, hb, hp, hc⟩ := hq.at_ hlt
        obtain ⟨x0, x1, A1, e1, x2, r1⟩ := hc
        have hok := of_okPt (okPs_at hp HFN.out.1)
        have K1 := Lib.hid (foldI_snoc (t := t) hp)
        have hin := foldI_in (t := t) HFN.out.1 HFN.out.2.2 hp
        have hLk : (foldI t (qs.take k)).2.length = k := hfit.out.2.1
        clear hp
        generalize foldI t (qs.take k) = st at *
        obtain ⟨at_, L⟩ := st
        obtain ⟨pk, pn, pz⟩ := p
        simp only at x0 x1 x2 hok r1 hin hbd hLk hat
        have HQ := Lib.hid ho
        have HQ2 := Lib.hid hO
        clear hq ho hO
        rcases (show pk = 1 ∨ pk = 2 ∨ pk = 3 by omega) with rfl | rfl | rfl
        · have hn1 : 0 ≤ pn := by omega
          have hn2 : pn ≤ 200 := by omega
          have hin' := hin (.inl rfl)
          clear hok hin
          obtain ⟨m, rfl⟩ := Int.eq_ofNat_of_zero_le hn1
          have bA := alloc_below wr (.cells #[.int .i64 1, .int .i64 (m : Int), .slice A1 pz.length e1] 53)
          have hcx := cell_of_row (wr.alloc (.cells #[.int .i64 1, .int .i64 (m : Int), .slice A1 pz.length e1] 53)) wr.heap.size 1 _ _ _ (heap_alloc_new wr _)
          have hbd' := hbd.past bA
          have hq' := Lib.hid (HQ.out.past bA)
          have hsz : wr.heap.size < (wr.alloc (.cells #[.int .i64 1, .int .i64 (m : Int), .slice A1 pz.length e1] 53)).heap.size := lt_of_some (heap_alloc_new wr _)
          have hno : ¬ O wr.heap.size := fun ho => by have := hbd.old _ ho; omega
          have HB := Lib.hid hbd'
          clear hbd hbd'
          go_wp2_with fail
          refine (specKeepB O w.heap.size g L (m : Int) _ HB.out hn1 hn2 (by omega)).mono ?_
          rintro e w4 ⟨rfl, O', hb4, b4, g4⟩
          have hcx4 : w4.cell? ⟨wr.heap.size, 1, none⟩ = some (.int .i64 (m : Int)) := (World.cell?_of_block (g4.block wr.heap.size hsz hno)).trans hcx
          have H4 := Lib.hid hb4
          have G4 := Lib.hid g4
          clear hb4 g4 hcx
          go_wp2
          go_roundw
          case rel => exact ⟨k + 1, O', by omega, by go_num, by rw [K1.out]; rfl, by rw [K1.out]; exact H4.out, G4.out.out HQ2.out (Nat.le_trans HQ.out.top (Nat.le_of_lt hsz)), hq'.out.grew G4.out HQ2.out, (hbel.trans (bA.mono hbel.size)).trans b4⟩
          case measure => simp [intOf]; omega
        · have hn3 : pz.length ≤ 200 := by omega
          clear hok hin
          have bA := alloc_below wr (.cells #[.int .i64 2, .int .i64 pn, .slice A1 pz.length e1] 53)
          have hq' := Lib.hid (HQ.out.past bA)
          have hsz : wr.heap.size < (wr.alloc (.cells #[.int .i64 2, .int .i64 pn, .slice A1 pz.length e1] 53)).heap.size := lt_of_some (heap_alloc_new wr _)
          have HB := Lib.hid (hbd.past bA)
          clear hbd
          go_wp2_with fail
          refine (specDropB O w.heap.size g L (pz.length : Int) _ HB.out (by omega) (by omega) (by omega)).mono ?_
          rintro e w4 ⟨rfl, O', hb4, b4, g4⟩
          have H4 := Lib.hid hb4
          have G4 := Lib.hid g4
          clear hb4 g4
          go_wp2
          go_roundw
          case rel => exact ⟨k + 1, O', by omega, by go_num, by rw [K1.out]; rfl, by rw [K1.out]; exact H4.out, G4.out.out HQ2.out (Nat.le_trans HQ.out.top (Nat.le_of_lt hsz)), hq'.out.grew G4.out HQ2.out, (hbel.trans (bA.mono hbel.size)).trans b4⟩
          case measure => simp [intOf]; omega
        · have hn1 : 0 ≤ pn := by omega
          have hn2 : pn ≤ 200 := by omega
          have hin' := hin (.inr rfl)
          clear hok hin
          obtain ⟨m, rfl⟩ := Int.eq_ofNat_of_zero_le hn1
          have bA := alloc_below wr (.cells #[.int .i64 3, .int .i64 (m : Int), .slice A1 pz.length e1] 53)
          have hcx := cell_of_row (wr.alloc (.cells #[.int .i64 3, .int .i64 (m : Int), .slice A1 pz.length e1] 53)) wr.heap.size 1 _ _ _ (heap_alloc_new wr _)
          have hq' := Lib.hid (HQ.out.past bA)
          have hsz : wr.heap.size < (wr.alloc (.cells #[.int .i64 3, .int .i64 (m : Int), .slice A1 pz.length e1] 53)).heap.size := lt_of_some (heap_alloc_new wr _)
          have hno : ¬ O wr.heap.size := fun ho => by have := hbd.old _ ho; omega
          have HB := Lib.hid (hbd.past bA)
          have hb0 := hbel.trans (bA.mono hbel.size)
          clear hbd
          cases A' with
          | none =>
            have ht0 : t.length = 0 := by
              rcases Nat.eq_zero_or_pos t.length with h | h
              · exact h
              · obtain ⟨_, hn, _⟩ := hr' h
                cases hn
            obtain rfl : m = 0 := by omega
            obtain rfl : at_ = 0 := by omega
            clear ht0
            go_wp2_with fail
            refine (specPutB O w.heap.size g L none _ _ [] _ HB.out Row.nil rfl (by simp) (by omega)).mono ?_
            rintro e w4 ⟨rfl, O', hb4, b4, g4⟩
            have hcx4 : w4.cell? ⟨wr.heap.size, 1, none⟩ = some (.int .i64 ((0 : Nat) : Int)) := (World.cell?_of_block (g4.block wr.heap.size hsz hno)).trans hcx
            have H4 := Lib.hid hb4
            have G4 := Lib.hid g4
            clear hb4 g4 hcx
            go_wp2
            go_roundw
            case rel => exact ⟨k + 1, O', by omega, by go_num, by rw [K1.out]; rfl, by rw [K1.out]; exact H4.out, G4.out.out HQ2.out (Nat.le_trans HQ.out.top (Nat.le_of_lt hsz)), hq'.out.grew G4.out HQ2.out, (hbel.trans (bA.mono hbel.size)).trans b4⟩
            case measure => simp [intOf]; omega
          | some ad =>
            by_cases hac : at_ = c'
            · obtain rfl : m = 0 := by omega
              subst hac
              go_wp2_with fail
              refine (specPutB O w.heap.size g L (some ad) _ _ [] _ HB.out Row.nil rfl (by simp) (by omega)).mono ?_
              rintro e w4 ⟨rfl, O', hb4, b4, g4⟩
              have hcx4 : w4.cell? ⟨wr.heap.size, 1, none⟩ = some (.int .i64 ((0 : Nat) : Int)) := (World.cell?_of_block (g4.block wr.heap.size hsz hno)).trans hcx
              have H4 := Lib.hid hb4
              have G4 := Lib.hid g4
              clear hb4 g4 hcx
              go_wp2
              go_roundw
              case rel => exact ⟨k + 1, O', by omega, by go_num, by rw [K1.out]; rfl, by rw [K1.out]; exact H4.out, G4.out.out HQ2.out (Nat.le_trans HQ.out.top (Nat.le_of_lt hsz)), hq'.out.grew G4.out HQ2.out, (hbel.trans (bA.mono hbel.size)).trans b4⟩
              case measure => simp [intOf]; omega
            · have hpc := Lib.hid ((hr'.past hb0).piece at_ m (by omega))
              go_wp2_with fail
              refine (specPutB O w.heap.size g L (some (ad.add at_)) _ _ ((t.drop at_).take m) _ HB.out hpc.out (by first | exact piece_len (by omega) | (rw [piece_len (by omega)]; omega)) (by rw [piece_len (by omega)]; omega) (by omega)).mono ?_
              rintro e w4 ⟨rfl, O', hb4, b4, g4⟩
              have hcx4 : w4.cell? ⟨wr.heap.size, 1, none⟩ = some (.int .i64 (m : Int)) := (World.cell?_of_block (g4.block wr.heap.size hsz hno)).trans hcx
              have H4 := Lib.hid hb4
              have G4 := Lib.hid g4
              clear hb4 g4 hcx
              go_wp2
              go_roundw
              case rel => exact ⟨k + 1, O', by omega, by go_num, by rw [K1.out]; rfl, by rw [K1.out]; exact H4.out, G4.out.out HQ2.out (Nat.le_trans HQ.out.top (Nat.le_of_lt hsz)), hq'.out.grew G4.out HQ2.out, (hbel.trans (bA.mono hbel.size)).trans b4⟩
              case measure => simp [intOf]; omega
      · have hke : qs.take k = qs := List.take_of_length_le (by omega)
        rw [hke] at hbd ⊢
        have HB := Lib.hid hbd
        clear hbd ho hO
        go_wp2_with fail
        refine (specDoneB O w.heap.size g _ _ HB.out).mono ?_
        rintro e w4 ⟨v4, b4, rfl, o4, _, bl4, _⟩
        obtain ⟨A4, c4, rfl⟩ := sliceP o4.read
        have H4 := Lib.hid o4
        clear o4
        go_wp2
        go_ret2
        exact ⟨_, rfl, ⟨b4, H4.out.ow, H4.out.nd, H4.out.rng, H4.out.top, H4.out.le⟩, hbel.trans bl4⟩
end Go.Proofs.Ytemhhjagdfkmfaa.low
