
/-
  The laws' own heldPartS, markPartSS and heldPartSS, in the words of data.
-/
import Derived.Test.YtemhhjagdfkmfaaHelpPP
namespace Go.Proofs.Ytemhhjagdfkmfaa.low
open Go.RowKit
set_option linter.unusedVariables false

set_option maxRecDepth 100000 in
set_option maxHeartbeats 3200000 in
theorem heldPartS_d (v : Value) (ps : List Pt) (k : Int) (w : World) (h : RdC w w.heap.size (mkC k (encPs ps)) v) (h0 : 0 ≤ k) (h1 : k + (cntC (encPs ps) : Int) ≤ 4294967296) :
    Calls Try.prog 23 #[v, .int .i64 k] w (HeldP k (encPs ps) w) := by
  have hl : ps.length ≤ 4294967296 := by rw [cntC_parts] at h1; omega
  have HC := Lib.hid (show ∀ j p, ps[j]? = some p → k + (cntR ((ps.map encPt).take j) : Int) + 2 + (p.signs.length : Int) ≤ 4294967296 ∧ cntR ((ps.map encPt).take (j + 1)) = cntR ((ps.map encPt).take j) + (p.signs.length + 2) from fun j p hp => by
    have hj : (ps.map encPt)[j]? = some (encPt p) := by rw [List.getElem?_map, hp]; rfl
    have a1 := cntR_at hj
    rw [cntL_pt] at a1
    have a2 : cntC (encPs ps) = cntR (ps.map encPt) := rfl
    rw [a2] at h1
    exact ⟨by omega, by rw [cntR_snoc hj, cntL_pt]⟩)
  have HE : Hid (cntC (encPs ps) = cntR (ps.map encPt)) := rfl
  have HAT := Lib.hid (show ∀ j, j < ps.length → ∃ p, ps[j]? = some p ∧ (ps.map encPt)[j]? = some (encPt p) from fun j hj => map_at hj)
  have hlen : (ps.map encPt).length = ps.length := by simp
  have h : RdC w w.heap.size (.rows 53 3 (mkR k (ps.map encPt))) v := h
  generalize ps.map encPt = D at *
  obtain ⟨A, c, rfl, _⟩ := h.len
  have HL := Lib.hid hlen
  rw [mkR_len, hlen] at h ⊢
  clear hlen h1
  go_enter Try.func23, Try.ntmps23
  go_wp2
  go_loop [1, 5] (fun kk i => ∃ j : Nat, j ≤ ps.length ∧ i = .int .i64 j ∧ kk = .int .i64 (k + (cntR (D.take j) : Int))) (fun _ i => ps.length - (intOf i).toNat)
  case atStart => exact ⟨0, Nat.zero_le _, rfl, by simp [cntR]⟩
  case round =>
    obtain ⟨j, hj, rfl, rfl⟩ := hrel
    by_cases hlt : j < ps.length
    · obtain ⟨p, hp, hD⟩ := HAT.out j hlt
      obtain ⟨kb, kc⟩ := HC.out j p hp
      have hk0 : 0 ≤ k + (cntR (D.take j) : Int) := by omega
      have K := Lib.hid kc
      obtain ⟨ad, r, rfl, hb, hs, hr, hrl⟩ := h.at_ (i := j) (by rw [mkR_len, HL.out]; exact hlt)
      rw [mkR_at D k j _ hD, mkL_pt] at hr
      obtain rfl : _ = r := by injection hr
      clear hr hD hp kc
      generalize hkk : k + (cntR (D.take j) : Int) = kk at *
      have HKK := Lib.hid hkk
      clear hkk
      obtain ⟨b, off, spot⟩ := ad
      obtain rfl : spot = none := by
        rcases hs with hs | hs
        · cases hs
        · exact hs
      obtain ⟨⟨v0, x0, rfl⟩, ⟨v1, x1, rfl⟩, ⟨v2, x2, r2⟩, _⟩ := hrl
      have r2' := r2
      rw [mkC_ints] at r2'
      obtain ⟨A1, e1, rfl, _⟩ := ints_rd r2'
      rw [add_at] at x0 x1 x2
      rw [marks_len] at x2 r2
      rw [← Nat.add_assoc] at x1 x2
      rw [← Nat.add_assoc] at x2
      have R2 := Lib.hid r2
      clear r2 r2' hs
      go_wp2_with fail
      refine (heldIntS_d _ p.signs (kk + 1 + 1) _ R2.out (by omega) (by omega) (by omega)).mono ?_
      rintro e w' ⟨rfl, rfl⟩
      rw [cntC_ints]
      have hnn : 0 ≤ kk + 1 + 1 + (p.signs.length : Int) := by omega
      go_wp2
      go_round
      case rel =>
        refine ⟨j + 1, by omega, by go_num, ?_⟩
        congr 1
        have := HKK.out
        rw [K.out]
        omega
      case measure => simp [intOf]; omega
    · obtain rfl : j = ps.length := by omega
      go_wp2
      go_ret
      refine ⟨?_, rfl⟩
      rw [HE.out, List.take_of_length_le (by rw [HL.out]; omega)]
      try rfl

def encPsL (ps : List Pt) : List Dat := [encPs ps]
theorem cntL_ps (ps : List Pt) : cntL (encPsL ps) = cntC (encPs ps) := by
  show cntL [encPs ps] = _
  simp [cntL]
theorem mkL_ps (k : Int) (ps : List Pt) : mkL k (encPsL ps) = [mkC k (encPs ps)] := by
  show mkL k [encPs ps] = _
  simp [mkL]

set_option maxRecDepth 100000 in
set_option maxHeartbeats 3200000 in
theorem markPartSS_d (v : Value) (l : List (List Pt)) (bs : List Nat) (k : Int) (w : World) (h : OwC w (encPss l) v bs) (hnd : bs.Nodup) (h0 : 0 ≤ k) (h1 : k + (cntC (encPss l) : Int) ≤ 4294967296) (hl : l.length ≤ 4294967296) :
    Calls Try.prog 31 #[v, .int .i64 k] w (MarkP k (encPss l) v bs w) := by
  have hlen : (l.map encPsL).length = l.length := by simp
  rcases h.cases with ⟨rfl, hds, rfl⟩ | ⟨g, cap, rfl⟩
  · have hz : l = [] := by simpa using hds
    subst hz
    go_enter Try.func31, Try.ntmps31
    go_wp2
    refine wp_loop_rounds 1 ?_
    rw [rounds_succ]
    go_wp2
    go_ret
    exact ⟨by rw [show cntC (encPss []) = 0 from rfl]; simp, h, Touch.refl _ _⟩
  · have HC := Lib.hid (show ∀ j ps, l[j]? = some ps → k + (cntR ((l.map encPsL).take j) : Int) + (cntC (encPs ps) : Int) ≤ 4294967296 ∧ cntR ((l.map encPsL).take (j + 1)) = cntR ((l.map encPsL).take j) + cntC (encPs ps) from fun j ps hp => by
      have hj : (l.map encPsL)[j]? = some (encPsL ps) := by rw [List.getElem?_map, hp]; rfl
      have a1 := cntR_at hj
      rw [cntL_ps] at a1
      have a2 : cntC (encPss l) = cntR (l.map encPsL) := rfl
      rw [a2] at h1
      exact ⟨by omega, by rw [cntR_snoc hj, cntL_ps]⟩)
    have HE : Hid (cntC (encPss l) = cntR (l.map encPsL)) := rfl
    have HM : Hid (mkC k (encPss l) = .rows 30 1 (mkR k (l.map encPsL))) := rfl
    have HAT := Lib.hid (show ∀ j, j < l.length → ∃ ps, l[j]? = some ps ∧ (l.map encPsL)[j]? = some (encPsL ps) from fun j hj => map_at hj)
    change OwC w (.rows 30 1 (l.map encPsL)) (.slice _ (l.map encPsL).length _) bs at h
    change Calls _ _ #[.slice _ (l.map encPsL).length _, _] _ (MarkP _ _ (.slice _ (l.map encPsL).length _) _ _)
    have HL := Lib.hid hlen
    rw [hlen] at h ⊢
    clear hlen h1
    generalize l.map encPsL = D at *
    go_enter Try.func31, Try.ntmps31
    go_wp2
    go_loopw [1, 5] (fun kk i wr => ∃ j : Nat, j ≤ l.length ∧ i = .int .i64 j ∧ kk = .int .i64 (k + (cntR (D.take j) : Int)) ∧ OwC wr (.rows 30 1 (mkR k (D.take j) ++ D.drop j)) (.slice (some ⟨g, 0, none⟩) l.length cap) bs ∧ Touch (fun b => b ∈ bs) w wr) (fun _ i _ => l.length - (intOf i).toNat)
    case atStart => exact ⟨0, Nat.zero_le _, rfl, by simp [cntR], by rw [mk_none]; exact h, Touch.refl _ _⟩
    case round =>
      obtain ⟨j, hj, rfl, rfl, ho, ht⟩ := hrel
      clear h
      by_cases hlt : j < l.length
      · obtain ⟨ps, hp, hD⟩ := HAT.out j hlt
        obtain ⟨kb, kc⟩ := HC.out j ps hp
        have hk0 : 0 ≤ k + (cntR (D.take j) : Int) := by omega
        have K := Lib.hid kc
        have hst := Lib.hid (mk_set k hD)
        rw [mkL_ps] at hst
        have hself := set_same (mk_at k hD)
        rw [← hself] at ho
        have hjl : j < (mkR k (D.take j) ++ D.drop j).length := by rw [mk_len, HL.out]; exact hlt
        generalize hkk : k + (cntR (D.take j) : Int) = kk at *
        have HKK := Lib.hid hkk
        clear hkk
        obtain ⟨u, c, x0, q0, nd0, sub0, _, back⟩ := ho.sub hnd hjl 0 (d := encPs ps) rfl
        obtain ⟨A1, e1, rfl, _⟩ := parts_rd (q0.read _ _ _ (fun b hb => q0.lt _ _ _ b hb))
        rw [Nat.add_zero, Nat.mul_one] at x0
        have HT := Lib.hid ht
        have HJ := Lib.hid hjl
        have HB := Lib.hid back
        have HQ := Lib.hid q0
        clear ho ht hjl hD hp hself kc back q0
        go_wp2_with fail
        refine (markPartS_d _ ps c kk _ HQ.out nd0 hk0 kb).mono ?_
        rintro e w3 ⟨rfl, q3, t3⟩
        have o3 := Lib.hid (HB.out w3 _ q3 t3)
        have HT3 := Lib.hid (HT.out.trans (t3.mono sub0))
        clear q3 t3 x0
        go_wp2
        go_roundw
        case rel =>
          refine ⟨j + 1, by omega, by go_num, ?_, ?_, HT3.out⟩
          · congr 1
            have := HKK.out
            rw [K.out]
            omega
          · rw [← hst.out]
            exact o3.out
        case measure => simp [intOf]; omega
      · obtain rfl : j = l.length := by omega
        go_wp2
        go_ret
        refine ⟨?_, ?_, ht⟩
        · rw [HE.out, List.take_of_length_le (by rw [HL.out]; omega)]
          try rfl
        · rw [HM.out]
          rw [← HL.out, mk_all] at ho
          rw [← HL.out]
          exact ho

end Go.Proofs.Ytemhhjagdfkmfaa.low
