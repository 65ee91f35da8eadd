
/-
  The laws' own functions on slices of parts, in the words of data: toPartS, eqPartS, markPartS, heldPartS.
-/
import Derived.Test.YtemhhjagdfkmfaaDat4
namespace Go.Proofs.Ytemhhjagdfkmfaa.low
open Go.RowKit
set_option linter.unusedVariables false

theorem cnt_parts : ∀ ps : List Pt, cntR (ps.map encPt) = 2 * ps.length + signsIn ps
  | [] => rfl
  | p :: ps => by
    rw [List.map_cons, cntR, cnt_parts]
    show cntL [.int p.kind, .int p.n, encInts p.signs] + _ = _
    simp only [cntL, cntC, cntC_ints, signsIn, List.map_cons, List.sum_cons, List.length_cons]
    omega
theorem cntC_parts (ps : List Pt) : cntC (encPs ps) = 2 * ps.length + signsIn ps := by unfold encPs; rw [cntC, cnt_parts]
theorem mkL_pt (k : Int) (p : Pt) : mkL k (encPt p) = [.int k, .int (k + 1), mkC (k + 1 + 1) (encInts p.signs)] := by
  show mkL k [.int p.kind, .int p.n, encInts p.signs] = _
  simp [mkL, mkC, cntC]
theorem cntL_pt (p : Pt) : cntL (encPt p) = p.signs.length + 2 := by
  show cntL [.int p.kind, .int p.n, encInts p.signs] = _
  simp only [cntL, cntC, cntC_ints]
  omega
theorem map_at {α β : Type} {f : α → β} {xs : List α} {i : Nat} (h : i < xs.length) : ∃ x, xs[i]? = some x ∧ (xs.map f)[i]? = some (f x) := ⟨xs[i], List.getElem?_eq_getElem h, by rw [List.getElem?_map, List.getElem?_eq_getElem h]; rfl⟩

theorem toPartS_d (v : Value) (ps : List Pt) (w : World) (h : RdC w w.heap.size (encPs ps) v) (hl : ps.length ≤ 1048576) (hls : ∀ p ∈ ps, p.signs.length ≤ 1048576) : Calls Try.prog 15 #[v] w (OwnPost (encPs ps) w) := by
  obtain ⟨A, c, rfl, hr, _⟩ := parts_rd h
  refine (toPartS_any A c ps w hr hl hls).mono ?_
  rintro e w1 ⟨v1, rfl, p1, b1⟩
  exact ⟨v1, rfl, own_parts p1, b1⟩
theorem eqPartS_d (v v' : Value) (ps : List Pt) (w : World) (h : RdC w w.heap.size (encPs ps) v) (h' : RdC w w.heap.size (encPs ps) v') (hl : ps.length ≤ 4294967296) (hls : ∀ p ∈ ps, p.signs.length ≤ 4294967296) : Calls Try.prog 17 #[v, v'] w (Tells true w) := by
  obtain ⟨A, c, rfl, hr, _⟩ := parts_rd h
  obtain ⟨A', c', rfl, hr', _⟩ := parts_rd h'
  refine (eqPartS_any A A' c c' ps ps w hr hr' hl hl hls hls).mono ?_
  rintro e w1 h1
  rwa [samePs_self] at h1

set_option maxRecDepth 100000 in
set_option maxHeartbeats 3200000 in
theorem markPartS_d (v : Value) (ps : List Pt) (bs : List Nat) (k : Int) (w : World) (h : OwC w (encPs ps) v bs) (hnd : bs.Nodup) (h0 : 0 ≤ k) (h1 : k + (cntC (encPs ps) : Int) ≤ 4294967296) :
    Calls Try.prog 18 #[v, .int .i64 k] w (MarkP k (encPs ps) v bs w) := by
  have hlen : (ps.map encPt).length = ps.length := by simp
  rcases h.cases with ⟨rfl, hds, rfl⟩ | ⟨g, cap, rfl⟩
  · have hz : ps = [] := by simpa using hds
    subst hz
    go_enter Try.func18, Try.ntmps18
    go_wp2
    refine wp_loop_rounds 1 ?_
    rw [rounds_succ]
    go_wp2
    go_ret
    exact ⟨by rw [show cntC (encPs []) = 0 from rfl]; simp, h, Touch.refl _ _⟩
  · have hl : ps.length ≤ 4294967296 := by rw [cntC_parts] at h1; omega
    have HC := Lib.hid (show ∀ j p, ps[j]? = some p → k + (cntR ((ps.map encPt).take j) : Int) + 2 + (p.signs.length : Int) ≤ 4294967296 ∧ cntR ((ps.map encPt).take (j + 1)) = cntR ((ps.map encPt).take j) + (p.signs.length + 2) from fun j p hp => by
      have hj : (ps.map encPt)[j]? = some (encPt p) := by rw [List.getElem?_map, hp]; rfl
      have a1 := cntR_at hj
      rw [cntL_pt] at a1
      have a2 : cntC (encPs ps) = cntR (ps.map encPt) := rfl
      rw [a2] at h1
      exact ⟨by omega, by rw [cntR_snoc hj, cntL_pt]⟩)
    have HE : Hid (cntC (encPs ps) = cntR (ps.map encPt)) := rfl
    have HM : Hid (mkC k (encPs ps) = .rows 53 3 (mkR k (ps.map encPt))) := rfl
    have HAT := Lib.hid (show ∀ j, j < ps.length → ∃ p, ps[j]? = some p ∧ (ps.map encPt)[j]? = some (encPt p) from fun j hj => map_at hj)
    change OwC w (.rows 53 3 (ps.map encPt)) _ bs at h
    have HL := Lib.hid hlen
    rw [hlen] at h ⊢
    clear hlen h1
    generalize ps.map encPt = D at *
    have hgin := h.head
    go_enter Try.func18, Try.ntmps18
    go_wp2
    go_loopw [1, 5] (fun kk i wr => ∃ j : Nat, j ≤ ps.length ∧ i = .int .i64 j ∧ kk = .int .i64 (k + (cntR (D.take j) : Int)) ∧ OwC wr (.rows 53 3 (mkR k (D.take j) ++ D.drop j)) (.slice (some ⟨g, 0, none⟩) ps.length cap) bs ∧ Touch (fun b => b ∈ bs) w wr) (fun _ i _ => ps.length - (intOf i).toNat)
    case atStart => exact ⟨0, Nat.zero_le _, rfl, by simp [cntR], by rw [mk_none]; exact h, Touch.refl _ _⟩
    case round =>
      obtain ⟨j, hj, rfl, rfl, ho, ht⟩ := hrel
      clear h
      by_cases hlt : j < ps.length
      · obtain ⟨p, hp, hD⟩ := HAT.out j hlt
        obtain ⟨kb, kc⟩ := HC.out j p hp
        have hk0 : 0 ≤ k + (cntR (D.take j) : Int) := by omega
        have K := Lib.hid kc
        have hst := Lib.hid (mk_set k hD)
        rw [mkL_pt] at hst
        have hself := set_same (mk_at k hD)
        rw [← hself] at ho
        have hjl : j < (mkR k (D.take j) ++ D.drop j).length := by rw [mk_len, HL.out]; exact hlt
        generalize hkk : k + (cntR (D.take j) : Int) = kk at *
        have HKK := Lib.hid hkk
        clear hkk
        have x0 := ho.get hjl 0 (d := .int p.kind) rfl rfl
        have x1 := ho.get hjl 1 (d := .int p.n) rfl rfl
        obtain ⟨u, c, x2, r2, _⟩ := ho.sub hnd hjl 2 (d := encInts p.signs) rfl
        obtain ⟨A1, e1, rfl, _⟩ := ints_rd (r2.read _ _ _ (fun b hb => r2.lt _ _ _ b hb))
        have f0 := ho.frozen (j * 3)
        have f1 := ho.frozen (j * 3 + 1)
        have HO := Lib.hid ho
        have HT := Lib.hid ht
        have HJ := Lib.hid hjl
        clear ho ht hjl r2 hD hp hself kc
        rw [Nat.add_zero] at x0
        go_wp2_with fail
        have o1 := HO.out.put hnd HJ.out 0 (d := .int p.kind) rfl rfl (d' := .int kk) rfl
        rw [Nat.add_zero] at o1
        have o2 := o1.put hnd HJ.out 1 (d := .int p.n) rfl rfl (d' := .int (kk + 1)) rfl
        obtain ⟨u', c', y2, q2, nd2, sub2, _, back⟩ := o2.sub hnd HJ.out 2 (d := encInts p.signs) rfl
        have y2' := cell_set (x := .int .i64 (kk + 1)) (a := j * 3 + 1) (cell_set (x := .int .i64 kk) (a := j * 3) x2 (by omega)) (by omega)
        rw [y2'] at y2
        injection y2 with y2
        subst y2
        refine (markIntS_d _ p.signs c' (kk + 1 + 1) _ q2 (by omega) (by omega) (by omega)).mono ?_
        rintro e w3 ⟨rfl, q3, t3⟩
        have o3 := back w3 _ q3 t3
        have ht3 := ((touch_set HT.out hgin (o := j * 3) (.int .i64 kk)) |> fun t => touch_set t hgin (o := j * 3 + 1) (.int .i64 (kk + 1))).trans (t3.mono sub2)
        have o3' := Lib.hid o3
        have HT3 := Lib.hid ht3
        clear o1 o2 o3 q2 q3 t3 back ht3 x0 x1 x2 y2' f0 f1
        rw [cntC_ints]
        go_wp2
        go_roundw
        case rel =>
          refine ⟨j + 1, by omega, by go_num, ?_, ?_, HT3.out⟩
          · congr 1
            have := HKK.out
            rw [K.out]
            omega
          · rw [← hst.out]
            exact o3'.out
        case measure => simp [intOf]; omega
      · obtain rfl : j = ps.length := by omega
        go_wp2
        go_ret
        refine ⟨?_, ?_, ht⟩
        · rw [HE.out, List.take_of_length_le (by rw [HL.out]; omega)]
          try rfl
        · rw [HM.out]
          rw [← HL.out, mk_all] at ho
          rw [← HL.out]
          exact ho
end Go.Proofs.Ytemhhjagdfkmfaa.low
