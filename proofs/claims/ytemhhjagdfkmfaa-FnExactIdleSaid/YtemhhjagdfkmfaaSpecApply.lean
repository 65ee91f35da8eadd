
/-
  Contracts of spec.TextOk, spec.l03Fits and spec.Apply.
-/
import Derived.Test.YtemhhjagdfkmfaaApplyL
import Derived.Test.YtemhhjagdfkmfaaAppInts
namespace Go.Proofs.Ytemhhjagdfkmfaa.low
open Go.RowKit
set_option linter.unusedVariables false

set_option maxHeartbeats 800000 in
theorem specTextOk_d (v : Value) (t : List Int) (w : World) (h : RdC w w.heap.size (encInts t) v) (hs : SmI t) : Calls Try.prog 9 #[v] w (Tells (okText t) w) := by
  obtain ⟨A, c, rfl, hr, _⟩ := ints_rd h
  have hl : t.length ≤ 1048576 := hs
  cases ha : allB t
  · have HS := Lib.hid (show okText t = false by unfold okText; rw [ha]; rfl)
    go_enter Try.func9, Try.ntmps9
    go_wp2_with fail
    refine (specSignsOk_any A c t _ hr (by omega)).mono ?_
    rintro e w1 ⟨rfl, rfl⟩
    rw [ha]
    go_wp2
    go_ret
    exact ⟨ret_bool (by rw [HS.out]), Below.refl _ _⟩
  · have HS := Lib.hid (show okText t = decide ((t.length : Int) ≤ 200) by unfold okText; rw [ha, Bool.true_and]; congr 1; apply propext; omega)
    go_enter Try.func9, Try.ntmps9
    go_wp2_with fail
    refine (specSignsOk_any A c t _ hr (by omega)).mono ?_
    rintro e w1 ⟨rfl, rfl⟩
    rw [ha]
    go_wp2
    go_ret
    exact ⟨ret_bool (by rw [HS.out]), Below.refl _ _⟩

theorem SmP.all4 {ps : List Pt} (h : SmP ps) : ∀ p ∈ ps, p.signs.length ≤ 4294967296 := fun p hp => Nat.le_trans (h.all p hp) (by omega)

set_option maxHeartbeats 1600000 in
theorem specFits_d (v v' : Value) (ps : List Pt) (t : List Int) (w : World) (h : RdC w w.heap.size (encPs ps) v) (h' : RdC w w.heap.size (encInts t) v') (hs : SmP ps) (hs' : SmI t) : Calls Try.prog 37 #[v, v'] w (Tells (fitsB ps t) w) := by
  obtain ⟨A, c, rfl, hr, _⟩ := parts_rd h
  obtain ⟨A', c', rfl, hr', _⟩ := ints_rd h'
  have hl := hs.1
  cases ho : okOp ps
  · have HS := Lib.hid (show fitsB ps t = false by unfold fitsB; rw [ho]; rfl)
    go_enter Try.func37, Try.ntmps37
    go_wp2_with fail
    refine (specOpOk_any A c ps _ hr (by omega) hs.all4).mono ?_
    rintro e w1 ⟨rfl, b1⟩
    rw [ho]
    go_wp2
    go_ret
    exact ⟨ret_bool (by rw [HS.out]), b1⟩
  · cases ht : okText t
    · have HS := Lib.hid (show fitsB ps t = false by unfold fitsB; rw [ho, ht]; rfl)
      go_enter Try.func37, Try.ntmps37
      go_wp2_with fail
      refine (specOpOk_any A c ps _ hr (by omega) hs.all4).mono ?_
      rintro e w1 ⟨rfl, b1⟩
      rw [ho]
      go_wp2_with fail
      refine (specTextOk_d _ t _ (h'.past b1) hs').mono ?_
      rintro e w2 ⟨rfl, b2⟩
      rw [ht]
      go_wp2
      go_ret
      exact ⟨ret_bool (by rw [HS.out]), b1.trans (b2.mono b1.size)⟩
    · have HS := Lib.hid (show fitsB ps t = (sumK ps + sumD ps == (t.length : Int)) by unfold fitsB; rw [ho, ht, Bool.true_and]; cases hq : (sumK ps + sumD ps == (t.length : Int)) <;> simp_all)
      go_enter Try.func37, Try.ntmps37
      go_wp2_with fail
      refine (specOpOk_any A c ps _ hr (by omega) hs.all4).mono ?_
      rintro e w1 ⟨rfl, b1⟩
      rw [ho]
      go_wp2_with fail
      refine (specTextOk_d _ t _ (h'.past b1) hs').mono ?_
      rintro e w2 ⟨rfl, b2⟩
      rw [ht]
      have d2 := b1.trans (b2.mono b1.size)
      go_wp2_with fail
      refine (specOpFrom_any A c ps _ (hr.past d2) (by omega) hs.all4).mono ?_
      rintro e w3 ⟨rfl, b3⟩
      generalize sumK ps + sumD ps = q at *
      go_wp2
      go_ret
      exact ⟨ret_bool (by rw [HS.out]), d2.trans (b3.mono d2.size)⟩

set_option maxRecDepth 100000 in
set_option maxHeartbeats 3200000 in
theorem specApply_d (v v' : Value) (ps : List Pt) (t : List Int) (w : World) (h : RdC w w.heap.size (encPs ps) v) (h' : RdC w w.heap.size (encInts t) v') (hs : SmP ps) (hs' : SmI t) : Calls Try.prog 14 #[v, v'] w (ResB (encInts (applyT ps t)) (fitsB ps t) w) := by
  obtain ⟨A, c, rfl, hr, _⟩ := parts_rd h
  obtain ⟨A', c', rfl, hr', hcap⟩ := ints_rd h'
  obtain ⟨i0, hi0, hz0, hz1, hz2⟩ := info_parts ints_info
  cases hf : fitsB ps t
  · have e1 : applyT ps t = [] := by simp [applyT, hf]
    rw [e1]
    go_enter Try.func14, Try.ntmps14
    go_wp2_with fail
    refine (specFits_d _ _ ps t _ h h' hs hs').mono ?_
    rintro e w1 ⟨rfl, b1⟩
    rw [hf]
    go_wp2
    go_ret2
    exact ⟨_, rfl, ⟨[], ⟨[], [], World.ownsRow_nil _ _ _ _, ⟨rfl, rfl⟩, rfl⟩, by simp, fun b hb => by simp at hb, Nat.le_refl _, b1.size⟩, b1⟩
  · have e1 : applyT ps t = (foldA t ps).2 := by simp [applyT, hf]
    rw [e1]
    have HF := Lib.hid hf
    have HFO := Lib.hid (fits_of hf)
    have hl := HFO.out.2.1
    have ht := HFO.out.2.2.2.2.2.1
    go_enter Try.func14, Try.ntmps14
    go_wp2_with fail
    refine (specFits_d _ _ ps t _ h h' hs hs').mono ?_
    rintro e w1 ⟨rfl, b1⟩
    rw [hf]
    clear hf e1
    go_wp2
    have hbn := b1.trans ((alloc_below w1 (.cells #[] 3)).mono b1.size)
    have hib : (w1.alloc (.cells #[] 3)).ownsRow w.heap.size 3 1 (.slice (some ⟨w1.heap.size, 0, none⟩) 0 0) 0 [] := ⟨rfl, .inr ⟨w1.heap.size, 0, #[], rfl, b1.size, heap_alloc_new w1 _, Nat.le_refl _, by unfold maxLen; omega, rfl, rfl⟩⟩
    generalize w1.alloc (.cells #[] 3) = w2 at *
    generalize (Value.slice (some ⟨w1.heap.size, 0, none⟩) 0 0) = v0 at *
    clear b1
    go_loopw [6, 7, 17] (fun o a i wr => ∃ k : Nat, k ≤ ps.length ∧ i = .int .i64 k ∧ a = .int .i64 ((foldA t (ps.take k)).1 : Int) ∧ wr.ownsRow w.heap.size 3 1 o (foldA t (ps.take k)).2.length ((foldA t (ps.take k)).2.map (Value.int .i64)) ∧ Below w.heap.size w wr) (fun _ _ i _ => ps.length - (intOf i).toNat)
    case atStart => exact ⟨0, Nat.zero_le _, rfl, rfl, hib, hbn⟩
    case round =>
      obtain ⟨k, hk, rfl, rfl, ho, hbel⟩ := hrel
      clear hib hbn
      have hfit := Lib.hid (foldA_fit (t := t) HFO.out.1 k hk)
      obtain ⟨Ao, co, rfl⟩ := own_form ho
      by_cases hlt : k < ps.length
      · obtain ⟨b, off, p, rfl, hb, hp, hc⟩ := hr.at_ hlt
        obtain ⟨x0, x1, A1, e1, x2, r1⟩ := hc.keep (w' := wr) hb (fun _ hq => hbel.cell hq)
        have hokp := okPs_at hp HFO.out.1
        have hok := of_okPt hokp
        have K1 := Lib.hid (foldA_snoc (t := t) hp)
        have hin := foldA_in HF.out hp
        have hsl := hs.all p (List.mem_of_getElem? hp)
        clear hp hc
        have hlen : (foldA t (ps.take k)).2.length ≤ 200 ∧ (foldA t (ps.take k)).1 ≤ 200 := by
          have f := hfit.out
          have a1 := sumOf_take (f := keepOf) (ps := ps) (fun q hq => (ok_bd (okPs_mem' HFO.out.1 hq)).1.1) k
          have a2 := sumOf_take (f := putOf) (ps := ps) (fun q hq => (ok_bd (okPs_mem' HFO.out.1 hq)).2.1.1) k
          have a3 := sumOf_take (f := dropOf) (ps := ps) (fun q hq => (ok_bd (okPs_mem' HFO.out.1 hq)).2.2.1) k
          have g1 := HFO.out.2.2.1
          have g2 := HFO.out.2.2.2.1
          omega
        generalize foldA t (ps.take k) = st at *
        obtain ⟨at_, out⟩ := st
        obtain ⟨pk, pn, pz⟩ := p
        simp only at x0 x1 x2 hok r1 hin ho hlen
        obtain ⟨hlen, hat⟩ := hlen
        have HO := Lib.hid ho
        clear ho
        rcases (show pk = 1 ∨ pk = 2 ∨ pk = 3 by omega) with rfl | rfl | rfl
        · have hn1 : 0 ≤ pn := by omega
          have hn2 : pn ≤ 200 := by omega
          have hin' := hin (.inl rfl)
          clear hok hin
          obtain ⟨m, rfl⟩ := Int.eq_ofNat_of_zero_le hn1
          have hb0 := hbel.trans ((alloc_below wr (.cells #[.int .i64 1, .int .i64 (m : Int), .slice A1 pz.length e1] 53)).mono hbel.size)
          have hrow := HO.out.alloc (.cells #[.int .i64 1, .int .i64 (m : Int), .slice A1 pz.length e1] 53)
          have HRW := Lib.hid hrow
          clear hrow
          cases A' with
          | none =>
            have ht0 : t.length = 0 := by
              rcases Nat.eq_zero_or_pos t.length with h | h
              · exact h
              · obtain ⟨_, hn, _⟩ := hr' h
                cases hn
            obtain rfl : m = 0 := by omega
            obtain rfl : at_ = 0 := by omega
            go_wp2_with (at_builtin; refine wpList_append_ints rfl (.tmp 29) (.tmp 36) rfl w.heap.size (.slice Ao out.length co) out rfl HRW.out none _ _ [] rfl rfl Row.nil (by omega) hb0.size ?_; intro An cn wn hon hgn; have hcx : wn.cell? ⟨wr.heap.size, 1, none⟩ = some (.int .i64 ((0 : Nat) : Int)) := box_cell HO.out hgn 1)
            go_roundw
            case rel => exact ⟨_, _, _, _, ⟨k + 1, by omega, by go_num, by rw [K1.out]; rfl, by rw [K1.out]; simpa [stepA] using hon, hb0.grown hgn hb0.size (fun q hq => own_ge HO.out q hq)⟩, rfl, rfl, rfl, rfl⟩
            case measure => simp [intOf]; omega
          | some ad =>
            by_cases hac : at_ = c'
            · obtain rfl : m = 0 := by omega
              subst hac
              go_wp2_with (at_builtin; refine wpList_append_ints rfl (.tmp 29) (.tmp 36) rfl w.heap.size (.slice Ao out.length co) out rfl HRW.out (some ad) 0 _ [] rfl rfl Row.nil (by omega) hb0.size ?_; intro An cn wn hon hgn; have hcx : wn.cell? ⟨wr.heap.size, 1, none⟩ = some (.int .i64 ((0 : Nat) : Int)) := box_cell HO.out hgn 1)
              go_roundw
              case rel => exact ⟨k + 1, by omega, by go_num, by rw [K1.out]; rfl, by rw [K1.out]; simpa [stepA] using hon, hb0.grown hgn hb0.size (fun q hq => own_ge HO.out q hq)⟩
              case measure => simp [intOf]; omega
            · have hpc := Lib.hid ((hr'.past hb0).piece at_ m (by omega))
              go_wp2_with (at_builtin; refine wpList_append_ints rfl (.tmp 29) (.tmp 36) rfl w.heap.size (.slice Ao out.length co) out rfl HRW.out (some (ad.add at_)) _ _ ((t.drop at_).take m) rfl (by rw [piece_len (by omega)]; omega) hpc.out (by omega) hb0.size ?_; intro An cn wn hon hgn; have hcx : wn.cell? ⟨wr.heap.size, 1, none⟩ = some (.int .i64 (m : Int)) := box_cell HO.out hgn 1)
              go_roundw
              case rel => exact ⟨k + 1, by omega, by go_num, by rw [K1.out]; rfl, by rw [K1.out]; simpa [stepA, List.length_take, List.length_drop, Nat.min_eq_left (show m ≤ t.length - at_ by omega)] using hon, hb0.grown hgn hb0.size (fun q hq => own_ge HO.out q hq)⟩
              case measure => simp [intOf]; omega
        · have hn3 : pz.length ≤ 200 := by omega
          clear hok hin
          have hb0 := hbel.trans ((alloc_below wr (.cells #[.int .i64 2, .int .i64 pn, .slice A1 pz.length e1] 53)).mono hbel.size)
          have HRW := Lib.hid (HO.out.alloc (.cells #[.int .i64 2, .int .i64 pn, .slice A1 pz.length e1] 53))
          have hpc := Lib.hid (Row.past_alloc (r1.more hbel.size) (.cells #[.int .i64 2, .int .i64 pn, .slice A1 pz.length e1] 53))
          clear r1
          go_wp2_with (at_builtin; refine wpList_append_ints rfl (.tmp 44) (.tmp 46) rfl w.heap.size (.slice Ao out.length co) out rfl HRW.out A1 pz.length _ pz rfl rfl hpc.out (by omega) hb0.size ?_; intro An cn wn hon hgn)
          go_roundw
          case rel => exact ⟨k + 1, by omega, by go_num, by rw [K1.out]; rfl, by rw [K1.out]; simpa [stepA] using hon, hb0.grown hgn hb0.size (fun q hq => own_ge HO.out q hq)⟩
          case measure => simp [intOf]; omega
        · have hn1 : 0 ≤ pn := by omega
          have hn2 : pn ≤ 200 := by omega
          clear hok hin
          obtain ⟨m, rfl⟩ := Int.eq_ofNat_of_zero_le hn1
          go_wp2
          go_roundw
          case rel => exact ⟨k + 1, by omega, by go_num, by rw [K1.out]; rfl, by rw [K1.out]; exact HO.out.alloc _, hbel.trans ((alloc_below wr _).mono hbel.size)⟩
          case measure => simp [intOf]; omega
      · have hke : ps.take k = ps := List.take_of_length_le (by omega)
        rw [hke] at ho ⊢
        generalize (foldA t ps).2 = out at *
        have HO := Lib.hid ho
        clear ho
        go_wp2
        go_ret2
        exact ⟨_, rfl, ⟨_, ow_ints HO.out, by cases Ao <;> simp [Value.ownBlock], fun b hb => by
          have hb' : (Value.slice Ao out.length co).ownBlock = some b := by simpa using hb
          exact ⟨own_ge HO.out b hb', own_in HO.out hb'⟩, Nat.le_refl _, hbel.size⟩, hbel⟩
end Go.Proofs.Ytemhhjagdfkmfaa.low
