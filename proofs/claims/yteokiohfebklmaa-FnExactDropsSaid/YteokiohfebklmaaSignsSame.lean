/-
  Contracts of spec.SignsSame, of the library's slices.Equal at []int and of impl.SignsSame: two lists of numbers are equal.
-/
import Derived.Test.YteokiohfebklmaaSignsOk
namespace Go.Proofs.Yteokiohfebklmaa.low
open Go.RowKit
set_option linter.unusedVariables false

set_option maxHeartbeats 800000 in
theorem specSignsSame_any (A B : Option Addr) (c d : Nat) (xs ys : List Int) (w : World) (hx : Row (Value.int .i64) w w.heap.size A xs) (hy : Row (Value.int .i64) w w.heap.size B ys)
    (hl : xs.length ≤ 4294967296) (hl2 : ys.length ≤ 4294967296) :
    Calls Try.prog 59 #[.slice A xs.length c, .slice B ys.length d] w (Says (sameB xs ys) w) := by
  by_cases hlen : xs.length = ys.length
  · have HL := Lib.hid hlen
    have hb : ((xs.length : Int) != (ys.length : Int)) = false := by simp [hlen]
    clear hlen
    go_enter Try.func59, Try.ntmps59
    go_wp2
    go_loopw [13] (fun i wr => ∃ k n : Nat, k ≤ xs.length ∧ i = .int .i64 k ∧ xs.take k = ys.take k ∧ wr = w.drewN n) (fun i _ => xs.length - (intOf i).toNat)
    case atStart => exact ⟨0, 0, Nat.zero_le _, rfl, rfl, rfl⟩
    case round =>
      obtain ⟨k, n, hk, rfl, ht, rfl⟩ := hrel
      have HT := Lib.hid ht
      clear ht
      by_cases hlt : k < xs.length
      · obtain ⟨ad, x, rfl, hbl, hzx, hcx⟩ := hx.at_ hlt
        obtain ⟨bd, y, rfl, hbl', hzy, hcy⟩ := hy.at_ (k := k) (by have := HL.out; omega)
        have hlt2 : k < ys.length := by have := HL.out; omega
        have HZX := Lib.hid hzx
        have HZY := Lib.hid hzy
        clear hzx hzy
        by_cases he : x = y
        · have hne : (x != y) = false := by simp [he]
          have HE := Lib.hid he
          clear he
          go_wp2
          go_quiet (fail)
          go_wp2
          go_roundw
          case rel => exact ⟨k + 1, _, by omega, by go_num, take_at HZX.out HZY.out HE.out HT.out, rfl⟩
          case measure => simp [intOf]; omega
        · have hne : (x != y) = true := by simp [he]
          have HE := Lib.hid he
          clear he
          go_wp2
          go_quiet (fail)
          go_wp2
          go_ret
          exact ⟨ret_bool (by rw [sameB_at HZX.out HZY.out HE.out]), _, World.drewN_drewN _ _ _⟩
      · go_wp2
        go_ret
        exact ⟨ret_bool (by rw [sameB_all (k := k) (by omega) (by have := HL.out; omega) HT.out]), _, rfl⟩
  · have hb : ((xs.length : Int) != (ys.length : Int)) = true := by simp; omega
    have H := Lib.hid (sameB_len hlen)
    clear hlen
    go_enter Try.func59, Try.ntmps59
    go_wp2
    go_ret
    exact ⟨ret_bool (by rw [H.out]), 0, rfl⟩

set_option maxHeartbeats 800000 in
theorem slicesEqual_any (A B : Option Addr) (c d : Nat) (xs ys : List Int) (w : World) (hx : Row (Value.int .i64) w w.heap.size A xs) (hy : Row (Value.int .i64) w w.heap.size B ys)
    (hl : xs.length ≤ 4294967296) (hl2 : ys.length ≤ 4294967296) :
    Calls Try.prog 71 #[.slice A xs.length c, .slice B ys.length d] w (Says (sameB xs ys) w) := by
  by_cases hlen : xs.length = ys.length
  · have HL := Lib.hid hlen
    have hb : ((xs.length : Int) != (ys.length : Int)) = false := by simp [hlen]
    clear hlen
    go_enter Try.func71, Try.ntmps71
    go_wp2
    go_loopw [13] (fun i wr => ∃ k n : Nat, k ≤ xs.length ∧ i = .int .i64 k ∧ xs.take k = ys.take k ∧ wr = w.drewN n) (fun i _ => xs.length - (intOf i).toNat)
    case atStart => exact ⟨0, 0, Nat.zero_le _, rfl, rfl, rfl⟩
    case round =>
      obtain ⟨k, n, hk, rfl, ht, rfl⟩ := hrel
      have HT := Lib.hid ht
      clear ht
      by_cases hlt : k < xs.length
      · obtain ⟨ad, x, rfl, hbl, hzx, hcx⟩ := hx.at_ hlt
        obtain ⟨bd, y, rfl, hbl', hzy, hcy⟩ := hy.at_ (k := k) (by have := HL.out; omega)
        have hlt2 : k < ys.length := by have := HL.out; omega
        have HZX := Lib.hid hzx
        have HZY := Lib.hid hzy
        clear hzx hzy
        by_cases he : x = y
        · have hne : (x != y) = false := by simp [he]
          have HE := Lib.hid he
          clear he
          go_wp2
          go_quiet (fail)
          go_wp2
          go_roundw
          case rel => exact ⟨k + 1, _, by omega, by go_num, take_at HZX.out HZY.out HE.out HT.out, rfl⟩
          case measure => simp [intOf]; omega
        · have hne : (x != y) = true := by simp [he]
          have HE := Lib.hid he
          clear he
          go_wp2
          go_quiet (fail)
          go_wp2
          go_ret
          exact ⟨ret_bool (by rw [sameB_at HZX.out HZY.out HE.out]), _, World.drewN_drewN _ _ _⟩
      · go_wp2
        go_ret
        exact ⟨ret_bool (by rw [sameB_all (k := k) (by omega) (by have := HL.out; omega) HT.out]), _, rfl⟩
  · have hb : ((xs.length : Int) != (ys.length : Int)) = true := by simp; omega
    have H := Lib.hid (sameB_len hlen)
    clear hlen
    go_enter Try.func71, Try.ntmps71
    go_wp2
    go_ret
    exact ⟨ret_bool (by rw [H.out]), 0, rfl⟩

set_option maxHeartbeats 400000 in
theorem implSignsSame_any (A B : Option Addr) (c d : Nat) (xs ys : List Int) (w : World) (hx : Row (Value.int .i64) w w.heap.size A xs) (hy : Row (Value.int .i64) w w.heap.size B ys)
    (hl : xs.length ≤ 4294967296) (hl2 : ys.length ≤ 4294967296) :
    Calls Try.prog 70 #[.slice A xs.length c, .slice B ys.length d] w (Says (sameB xs ys) w) := by
  go_enter Try.func70, Try.ntmps70
  go_wp2_with fail
  refine (slicesEqual_any _ _ _ _ xs ys _ hx hy hl hl2).mono ?_
  rintro e w' ⟨rfl, n, rfl⟩
  go_wp2
  go_ret
  exact ⟨rfl, n, rfl⟩
end Go.Proofs.Yteokiohfebklmaa.low
