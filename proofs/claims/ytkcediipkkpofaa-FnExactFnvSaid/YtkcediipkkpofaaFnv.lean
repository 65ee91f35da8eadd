/-
  Contracts of spec.Fnv and impl.Fnv: both compute the 32-bit FNV-1a hash of the bytes.
-/
import Derived.Test.YtkcediipkkpofaaSign
import Derived.Below
import Derived.IntWalk
namespace Go.Proofs.Ytkcediipkkpofaa.low
open Go.RowKit
set_option linter.unusedVariables false

def fnvStep (h : Nat) (c : UInt8) : Nat := ((h ^^^ c.toNat) * 16777619) % 4294967296
def fnvN (l : List UInt8) : Nat := l.foldl fnvStep 2166136261
theorem fnvStep_lt (h : Nat) (c : UInt8) : fnvStep h c < 4294967296 := Nat.mod_lt _ (by omega)
theorem fnvN_snoc (l : List UInt8) (c : UInt8) : fnvN (l ++ [c]) = fnvStep (fnvN l) c := by unfold fnvN; rw [List.foldl_append, List.foldl_cons, List.foldl_nil]
theorem fnvN_lt (l : List UInt8) : fnvN l < 4294967296 := by
  rcases List.eq_nil_or_concat l with rfl | ⟨m, c, rfl⟩
  · show (2166136261 : Nat) < 4294967296
    omega
  · rw [List.concat_eq_append, fnvN_snoc]; exact fnvStep_lt _ _
theorem take_snoc (s : ByteArray) (k : Nat) (h : k < s.size) : s.data.toList.take (k + 1) = s.data.toList.take k ++ [s[k]] := by
  rw [List.take_succ_eq_append_getElem (by simpa using h)]; rfl
theorem xor_lt (h : Nat) (c : UInt8) (hh : h < 4294967296) : h ^^^ c.toNat < 4294967296 :=
  Nat.xor_lt_two_pow (n := 32) hh (by have := c.toNat_lt; omega)
theorem xor_i64 (h : Nat) (c : UInt8) (hh : h < 4294967296) : bits .xor .i64 (h : Int) (c.toNat : Int) = ((h ^^^ c.toNat : Nat) : Int) := by
  show IntKind.i64.wrap ((BitVec.ofInt 64 (h : Int) ^^^ BitVec.ofInt 64 (c.toNat : Int)).toNat : Int) = _
  have hc := c.toNat_lt
  have h1 : (BitVec.ofInt 64 (h : Int)).toNat = h := by
    rw [BitVec.ofInt_natCast, BitVec.toNat_ofNat]; exact Nat.mod_eq_of_lt (by omega)
  have h2 : (BitVec.ofInt 64 (c.toNat : Int)).toNat = c.toNat := by
    rw [BitVec.ofInt_natCast, BitVec.toNat_ofNat]; exact Nat.mod_eq_of_lt (by omega)
  have h3 := xor_lt h c hh
  rw [BitVec.toNat_xor, h1, h2, IntKind.wrap_i64]
  omega
theorem xor_u32 (h : Nat) (c : UInt8) (hh : h < 4294967296) : bits .xor .u32 (h : Int) (c.toNat : Int) = ((h ^^^ c.toNat : Nat) : Int) := by
  show IntKind.u32.wrap ((BitVec.ofInt 32 (h : Int) ^^^ BitVec.ofInt 32 (c.toNat : Int)).toNat : Int) = _
  have hc := c.toNat_lt
  have h1 : (BitVec.ofInt 32 (h : Int)).toNat = h := by
    rw [BitVec.ofInt_natCast, BitVec.toNat_ofNat]; exact Nat.mod_eq_of_lt (by omega)
  have h2 : (BitVec.ofInt 32 (c.toNat : Int)).toNat = c.toNat := by
    rw [BitVec.ofInt_natCast, BitVec.toNat_ofNat]; exact Nat.mod_eq_of_lt (by omega)
  have h3 := xor_lt h c hh
  rw [BitVec.toNat_xor, h1, h2, IntKind.wrap_u32]
  omega
theorem ret_int {k : IntKind} {a b : Int} (h : a = b) : Ending.returned (.int k a) = .returned (.int k b) := by rw [h]
theorem val_int {k : IntKind} {a b : Int} (h : a = b) : Value.int k a = .int k b := by rw [h]

set_option maxHeartbeats 400000 in
theorem specFnv_any (s : ByteArray) (w : World) (hs : s.size ≤ maxLen) :
    Calls Try.prog 33 #[.string s] w fun e w' => e = .returned (.int .i64 (fnvN s.data.toList : Nat)) ∧ w = w' := by
  unfold maxLen at hs
  go_enter Try.func33, Try.ntmps33
  go_wp2
  go_loop [3, 4] (fun h i => ∃ k : Nat, k ≤ s.size ∧ i = .int .i64 k ∧ h = .int .i64 (fnvN (s.data.toList.take k) : Nat)) (fun _ i => s.size - (intOf i).toNat)
  case atStart => exact ⟨0, Nat.zero_le _, rfl, rfl⟩
  case round =>
    obtain ⟨k, hk, rfl, rfl⟩ := hrel
    have hlt0 := fnvN_lt (s.data.toList.take k)
    by_cases hlt : k < s.size
    · have HS : Hid (fnvN (s.data.toList.take (k + 1)) = fnvStep (fnvN (s.data.toList.take k)) s[k]) := by rw [take_snoc s k hlt]; exact fnvN_snoc _ _
      generalize fnvN (s.data.toList.take k) = h at *
      obtain ⟨x, hx⟩ : ∃ x : Nat, x = h ^^^ s[k].toNat := ⟨_, rfl⟩
      have hxl : x < 4294967296 := by rw [hx]; exact xor_lt _ _ hlt0
      have hxx : bits .xor .i64 (h : Int) (s[k].toNat : Int) = (x : Int) := by rw [hx]; exact xor_i64 _ _ hlt0
      have HX := Lib.hid hx
      clear hx
      have hb8 : (s[k].toNat : Int) < 256 := by have := s[k].toNat_lt; omega
      go_wp2
      go_round
      case rel => exact ⟨k + 1, by omega, by go_num, val_int (by rw [HS.out]; unfold fnvStep; rw [← HX.out]; omega)⟩
      case measure => simp [intOf]; omega
    · go_wp2
      go_ret
      exact ⟨ret_int (by rw [List.take_of_length_le (by simp; omega)]), rfl⟩

set_option maxHeartbeats 400000 in
theorem implFnv_any (s : ByteArray) (w : World) (hs : s.size ≤ maxLen) :
    Calls Try.prog 34 #[.string s] w fun e w' => e = .returned (.int .i64 (fnvN s.data.toList : Nat)) ∧ w = w' := by
  unfold maxLen at hs
  go_enter Try.func34, Try.ntmps34
  go_wp2
  go_loop [3, 7] (fun h i => ∃ k : Nat, k ≤ s.size ∧ i = .int .i64 k ∧ h = .int .u32 (fnvN (s.data.toList.take k) : Nat)) (fun _ i => s.size - (intOf i).toNat)
  case atStart => exact ⟨0, Nat.zero_le _, rfl, rfl⟩
  case round =>
    obtain ⟨k, hk, rfl, rfl⟩ := hrel
    have hlt0 := fnvN_lt (s.data.toList.take k)
    by_cases hlt : k < s.size
    · have HS : Hid (fnvN (s.data.toList.take (k + 1)) = fnvStep (fnvN (s.data.toList.take k)) s[k]) := by rw [take_snoc s k hlt]; exact fnvN_snoc _ _
      generalize fnvN (s.data.toList.take k) = h at *
      obtain ⟨x, hx⟩ : ∃ x : Nat, x = h ^^^ s[k].toNat := ⟨_, rfl⟩
      have hxl : x < 4294967296 := by rw [hx]; exact xor_lt _ _ hlt0
      have hxx : bits .xor .u32 (h : Int) (s[k].toNat : Int) = (x : Int) := by rw [hx]; exact xor_u32 _ _ hlt0
      have HX := Lib.hid hx
      clear hx
      have hb8 : (s[k].toNat : Int) < 256 := by have := s[k].toNat_lt; omega
      go_wp2
      go_round
      case rel => exact ⟨k + 1, by omega, by go_num, val_int (by rw [HS.out]; unfold fnvStep; rw [← HX.out]; omega)⟩
      case measure => simp [intOf]; omega
    · go_wp2
      go_ret
      exact ⟨ret_int (by rw [List.take_of_length_le (by simp; omega)]), rfl⟩
end Go.Proofs.Ytkcediipkkpofaa.low
