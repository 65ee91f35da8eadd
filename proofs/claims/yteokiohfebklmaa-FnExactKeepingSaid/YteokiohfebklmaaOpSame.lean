/-
  The contract of spec.OpSame: two lists of parts are equal.
-/
import Derived.Test.YteokiohfebklmaaSpecOp
namespace Go.Proofs.Yteokiohfebklmaa.low
open Go.RowKit
set_option linter.unusedVariables false

theorem drewN_below (w : World) (n : Nat) : Below w.heap.size w (w.drewN n) := ⟨rfl, rfl, rfl, Nat.le_refl _, fun _ _ => rfl⟩

set_option maxRecDepth 100000 in
set_option maxHeartbeats 3200000 in
theorem specOpSame_any (A B : Option Addr) (c d : Nat) (ps qs : List Pt) (w : World) (hx : PRow w w.heap.size A ps) (hy : PRow w w.heap.size B qs)
    (hl : ps.length ≤ 4294967296) (hl2 : qs.length ≤ 4294967296) (hs : ∀ p ∈ ps, p.signs.length ≤ 4294967296) (hs2 : ∀ p ∈ qs, p.signs.length ≤ 4294967296) :
    Calls Try.prog 31 #[.slice A ps.length c, .slice B qs.length d] w (Tells (samePs ps qs) w) := by
  by_cases hlen : ps.length = qs.length
  · have HL := Lib.hid hlen
    have hb : ((ps.length : Int) != (qs.length : Int)) = false := by simp [hlen]
    clear hlen
    go_enter Try.func31, Try.ntmps31
    go_wp2
    go_loopw [14] (fun i wr => ∃ k : Nat, k ≤ ps.length ∧ i = .int .i64 k ∧ samePs (ps.take k) (qs.take k) = true ∧ Below w.heap.size w wr) (fun i _ => ps.length - (intOf i).toNat)
    case atStart => exact ⟨0, Nat.zero_le _, rfl, rfl, Below.refl _ _⟩
    case round =>
      obtain ⟨k, hk, rfl, ht, hbel⟩ := hrel
      have HT := Lib.hid ht
      clear ht
      by_cases hlt : k < ps.length
      · have hlt2 : k < qs.length := by have := HL.out; omega
        obtain ⟨b1, o1, p, rfl, hb1, hp, hc1⟩ := hx.at_ hlt
        obtain ⟨b2, o2, q, rfl, hb2, hq, hc2⟩ := hy.at_ (k := k) hlt2
        obtain ⟨x0, x1, A1, e1, x2, r1⟩ := hc1.keep (w' := wr) hb1 (fun _ hq => hbel.cell hq)
        have hsp := hs p (List.mem_of_getElem? hp)
        have hsq := hs2 q (List.mem_of_getElem? hq)
        have HP := Lib.hid hp
        have HQ := Lib.hid hq
        clear hp hq hc1
        have bW := alloc_below wr (.cells #[.int .i64 p.kind, .int .i64 p.n, .slice A1 p.signs.length e1] 27)
        have dW := hbel.trans (bW.mono hbel.size)
        obtain ⟨y0, y1, A2, e2, y2, r2⟩ := hc2.keep (w' := wr.alloc (.cells #[.int .i64 p.kind, .int .i64 p.n, .slice A1 p.signs.length e1] 27)) hb2 (fun _ hq => dW.cell hq)
        have rr1 := (r1.more hbel.size).past bW
        have rr2 := r2.more dW.size
        have R1 := Lib.hid rr1
        have R2 := Lib.hid rr2
        clear hc2 r1 r2 rr1 rr2
        by_cases hk : p.kind = q.kind
        · by_cases hn : p.n = q.n
          · cases hss : sameB p.signs q.signs
            · have HS := Lib.hid (show samePt p q = false by unfold samePt; rw [hss]; simp)
              have hkb : (p.kind != q.kind) = false := by simp [hk]
              have hnb : (p.n != q.n) = false := by simp [hn]
              clear hk hn
              go_wp2
              go_quiet ((go_at_call 59; exact Calls.quiet_of (specSignsSame_any A1 A2 e1 e2 p.signs q.signs _ R1.out R2.out hsp hsq)))
              go_wp2
              go_ret
              exact ⟨ret_bool (by rw [samePs_at ps qs k p q HP.out HQ.out HS.out]), dW.trans ((drewN_below _ _).mono dW.size)⟩
            · have HS := Lib.hid (show samePt p q = true by unfold samePt; rw [hss]; simp [hk, hn])
              have hkb : (p.kind != q.kind) = false := by simp [hk]
              have hnb : (p.n != q.n) = false := by simp [hn]
              clear hk hn
              go_wp2
              go_quiet ((go_at_call 59; exact Calls.quiet_of (specSignsSame_any A1 A2 e1 e2 p.signs q.signs _ R1.out R2.out hsp hsq)))
              go_wp2
              go_roundw
              case rel => exact ⟨k + 1, by omega, by go_num, samePs_snoc ps qs k p q HP.out HQ.out HS.out HT.out, dW.trans ((drewN_below _ _).mono dW.size)⟩
              case measure => simp [intOf]; omega
          · have HS := Lib.hid (show samePt p q = false by unfold samePt; simp [hn])
            have hkb : (p.kind != q.kind) = false := by simp [hk]
            have hnb : (p.n != q.n) = true := by simp [hn]
            clear hk hn
            go_wp2
            go_quiet (fail)
            go_wp2
            go_ret
            exact ⟨ret_bool (by rw [samePs_at ps qs k p q HP.out HQ.out HS.out]), dW.trans ((drewN_below _ _).mono dW.size)⟩
        · have HS := Lib.hid (show samePt p q = false by unfold samePt; simp [hk])
          have hkb : (p.kind != q.kind) = true := by simp [hk]
          clear hk
          go_wp2
          go_quiet (fail)
          go_wp2
          go_ret
          exact ⟨ret_bool (by rw [samePs_at ps qs k p q HP.out HQ.out HS.out]), dW.trans ((drewN_below _ _).mono dW.size)⟩
      · have H := Lib.hid (show samePs ps qs = true by have := HT.out; rwa [List.take_of_length_le (by omega), List.take_of_length_le (by have := HL.out; omega)] at this)
        go_wp2
        go_ret
        exact ⟨ret_bool (by rw [H.out]), hbel⟩
  · have hb : ((ps.length : Int) != (qs.length : Int)) = true := by simp; omega
    have H := Lib.hid (show samePs ps qs = false by cases h : samePs ps qs; rfl; exact absurd (samePs_len ps qs h) hlen)
    clear hlen
    go_enter Try.func31, Try.ntmps31
    go_wp2
    go_ret
    exact ⟨ret_bool (by rw [H.out]), Below.refl _ _⟩
end Go.Proofs.Yteokiohfebklmaa.low
