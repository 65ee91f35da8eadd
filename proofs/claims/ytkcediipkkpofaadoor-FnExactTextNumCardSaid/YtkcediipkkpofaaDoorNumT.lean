/-
  Contracts of spec.NumText and impl.NumText (the decimal numeral of a number from 0 to 1000000000, or the empty string), the latter where the library's table of powers of ten lies as the program's text lays it.
-/
import Derived.Test.YtkcediipkkpofaaDoorShelf
import Derived.Test.YtkcediipkkpofaaDoorChecked
import Derived.WalkKit
import Derived.WalkSmall
import Derived.Lib.Hide
import Derived.Below
import Derived.Laws.BytesArg
import Derived.Laws.Concat
import Derived.Lib.ItoaMem
namespace Go.Proofs.YtkcediipkkpofaaDoor.low
open Go.RowKit
set_option linter.unusedVariables false

def inB (n lo hi : Int) : Bool := decide (lo ≤ n ∧ n ≤ hi)
theorem inB_t {n lo hi : Int} (h : lo ≤ n ∧ n ≤ hi) : inB n lo hi = true := by simp [inB, h]
theorem inB_f {n lo hi : Int} (h : ¬ (lo ≤ n ∧ n ≤ hi)) : inB n lo hi = false := by simpa [inB] using h
theorem ret_bool {a b : Bool} (h : a = b) : Ending.returned (.bool a) = .returned (.bool b) := by rw [h]
set_option maxHeartbeats 400000 in
theorem in_any (n lo hi : Int) (w : World) :
    Calls Tryd.prog 9 #[.int .i64 n, .int .i64 lo, .int .i64 hi] w fun e w' => e = .returned (.bool (inB n lo hi)) ∧ w = w' := by
  by_cases h1 : lo ≤ n
  · by_cases h2 : n ≤ hi
    · go_enter Tryd.func9, Tryd.ntmps9
      go_wp2
      go_ret
      exact ⟨ret_bool (by simp [inB, h1, h2]), rfl⟩
    · go_enter Tryd.func9, Tryd.ntmps9
      go_wp2
      go_ret
      exact ⟨ret_bool (by simp [inB, h1, h2]), rfl⟩
  · go_enter Tryd.func9, Tryd.ntmps9
    go_wp2
    go_ret
    exact ⟨ret_bool (by rw [inB_f (by omega)]), rfl⟩

def Strs (s : ByteArray) (w : World) (e : Ending) (w' : World) : Prop := e = .returned (.string s) ∧ Below w.heap.size w w'
theorem new_cells (w : World) (cs : List Value) (e : TypeId) : ∀ j u, cs[j]? = some u → (w.alloc (.cells cs.toArray e)).cell? (Addr.add ⟨w.heap.size, 0, none⟩ j) = some u := by
  intro j u hu
  have ha : (Addr.add ⟨w.heap.size, 0, none⟩ j) = ⟨w.heap.size, j, none⟩ := by unfold Addr.add; split <;> simp_all
  rw [ha]
  simpa using hu
/-- 'string([]byte{..})' of one byte, the slice newly made -/
theorem one_byte (w : World) (z : Int) : (convert 28 9 (.slice (some ⟨w.heap.size, 0, none⟩) 1 1)).run Tryd.prog (w.alloc (.cells #[.int .u8 z] 5)) = .ok (.string (strOfNums [z])) (w.alloc (.cells #[.int .u8 z] 5)) :=
  run_convert_bytes_arg (P := Tryd.prog) (w.alloc (.cells #[.int .u8 z] 5)) 28 5 Tryd.underlying28 Tryd.underlying5 w.heap.size 0 1 1 [z] rfl (fun i hi => by
    obtain rfl : i = 0 := by omega
    exact new_cells w [.int .u8 z] 5 0 _ rfl) 9 Tryd.underlying9

/-- the numeral of u -/
def strD (u : Nat) : ByteArray := ⟨(Lib.decDigits u).toArray⟩
theorem strOne (z : Int) : strOfNums [z] = ⟨[UInt8.ofNat z.toNat].toArray⟩ := rfl
theorem mk_toList (o : ByteArray) : o = ⟨o.data.toList.toArray⟩ := by cases o; simp
theorem strD_step (u : Nat) (out : ByteArray) (h : ¬ u < 10) : strD (u / 10) ++ (strOfNums [48 + (u : Int) % 10] ++ out) = strD u ++ out := by
  have e : (48 + (u : Int) % 10).toNat = 48 + u % 10 := by omega
  rw [mk_toList out]
  unfold strD
  rw [strOne, e, ByteArray.mk_append_mk, ByteArray.mk_append_mk, ByteArray.mk_append_mk]
  conv => rhs; rw [Lib.decDigits, dif_neg h]
  rw [List.append_assoc]
theorem strD_end (u : Nat) (out : ByteArray) (h : u < 10) : strOfNums [48 + (u : Int)] ++ out = strD u ++ out := by
  have e : (48 + (u : Int)).toNat = 48 + u := by omega
  unfold strD
  rw [strOne, e, Lib.decDigits_one h]
/-- what NumText returns -/
def numT (n : Int) : ByteArray := if 0 ≤ n ∧ n ≤ 1000000000 then strD n.toNat else ByteArray.empty
theorem numT_t {n : Int} (h : 0 ≤ n ∧ n ≤ 1000000000) : numT n = strD n.toNat := by unfold numT; rw [if_pos h]
theorem numT_f {n : Int} (h : ¬ (0 ≤ n ∧ n ≤ 1000000000)) : numT n = ByteArray.empty := by unfold numT; rw [if_neg h]
theorem strOne_size (z : Int) : (strOfNums [z]).size = 1 := by rw [strOfNums_size]; rfl

set_option maxHeartbeats 800000 in
theorem specNumText_any (n : Int) (w : World) : Calls Tryd.prog 5 #[.int .i64 n] w (Strs (numT n) w) := by
  by_cases hn : 0 ≤ n ∧ n ≤ 1000000000
  · have HN := Lib.hid (numT_t hn)
    have k1 := inB_t hn
    obtain ⟨u0, rfl⟩ : ∃ u : Nat, n = u := ⟨n.toNat, by omega⟩
    have hu0 : u0 ≤ 1000000000 := by omega
    clear hn
    go_enter Tryd.func5, Tryd.ntmps5
    go_wp2_with (go_at_call 9; refine (in_any _ _ _ _).mono ?_; rintro e w' ⟨rfl, rfl⟩)
    go_loopw [0, 3] (fun kk o wr => ∃ (u : Nat) (out : ByteArray), kk = .int .i64 u ∧ o = .string out ∧ out.size + u ≤ u0 ∧ strD u ++ out = strD u0 ∧ Below w.heap.size w wr) (fun kk _ _ => (intOf kk).toNat)
    case atStart => exact ⟨u0, ByteArray.empty, rfl, rfl, by simp, by simp, Below.refl _ _⟩
    case round =>
      obtain ⟨u, out, rfl, rfl, hs, hd, hbel⟩ := hrel
      have HD := Lib.hid hd
      clear hd
      by_cases hlt : 9 < u
      · have hcv := one_byte wr (48 + (u : Int) % 10)
        have HST := Lib.hid (strD_step u out (by omega))
        have hs1 := strOne_size (48 + (u : Int) % 10)
        have HS1 := Lib.hid hs1
        have hsum : (strOfNums [48 + (u : Int) % 10]).size + out.size ≤ 9223372036854775807 := by omega
        clear hs1
        go_wp2
        go_roundw
        case rel => exact ⟨u / 10, _, by go_num, rfl, by rw [ByteArray.size_append, HS1.out]; omega, by rw [HST.out]; exact HD.out, hbel.alloc hbel.size _⟩
        case measure => simp [intOf]; omega
      · have hcv := one_byte wr (48 + (u : Int))
        have HST := Lib.hid (strD_end u out (by omega))
        have hs1 := strOne_size (48 + (u : Int))
        have hsum : (strOfNums [48 + (u : Int)]).size + out.size ≤ 9223372036854775807 := by omega
        clear hs1
        go_wp2
        go_ret
        refine ⟨?_, hbel.alloc hbel.size _⟩
        rw [HN.out]
        show _ = Ending.returned (.string (strD (u0 : Int).toNat))
        rw [Int.toNat_natCast, ← HD.out, ← HST.out]
        rfl
  · have HN := Lib.hid (numT_f hn)
    have k1 := inB_f hn
    clear hn
    go_enter Tryd.func5, Tryd.ntmps5
    go_wp2_with (go_at_call 9; refine (in_any _ _ _ _).mono ?_; rintro e w' ⟨rfl, rfl⟩)
    go_ret
    rw [HN.out]
    exact ⟨rfl, Below.refl _ _⟩

/-- the library's table of powers of ten lies as the program's text lays it -/
def Tab (w : World) : Prop := Lib.TabIs Tryd.prog w "internal/strconv.uint64pow10" .u64 Lib.pow10Tab
theorem Tab.past {w w' : World} (h : Tab w) (hb : Below w.heap.size w w') : Tab w' := by
  unfold Tab Lib.TabIs at h
  have hlt : 2 < w.heap.size := by
    rcases Nat.lt_or_ge 2 w.heap.size with hlt | hge
    · exact hlt
    · unfold World.var? at h
      rw [show Tryd.prog.globalNamed "internal/strconv.uint64pow10" = some 2 by kernel_rfl, Option.bind_some, Array.getElem?_eq_none hge] at h
      simp at h
  exact var?_below hb (g := 2) (by kernel_rfl) hlt h
theorem below_grow (w : World) (k : Nat) (os : Array Obj) : Below w.heap.size w (Go.Sort.grow (w.drewN k) os) :=
  ⟨rfl, rfl, rfl, by simp [Go.Sort.grow], fun i hi => by
    show (w.heap ++ os)[i]? = _
    rw [Array.getElem?_append_left hi]⟩

set_option maxHeartbeats 800000 in
theorem implNumText_any (n : Int) (w : World) (ht : Tab w) (h64 : -9223372036854775808 ≤ n ∧ n ≤ 9223372036854775807) : Calls Tryd.prog 6 #[.int .i64 n] w (Strs (numT n) w) := by
  have HT := Lib.hid ht
  clear ht
  rcases (show n < 0 ∨ 1000000000 < n ∨ (0 ≤ n ∧ n ≤ 1000000000) by omega) with h | h | h
  · have HN := Lib.hid (numT_f (n := n) (by omega))
    go_enter Tryd.func6, Tryd.ntmps6
    go_wp2
    go_ret
    rw [HN.out]
    exact ⟨rfl, Below.refl _ _⟩
  · have HN := Lib.hid (numT_f (n := n) (by omega))
    have h' : 0 ≤ n := by omega
    go_enter Tryd.func6, Tryd.ntmps6
    go_wp2
    go_ret
    rw [HN.out]
    exact ⟨rfl, Below.refl _ _⟩
  · have HN := Lib.hid (numT_t h)
    obtain ⟨h1, h2⟩ := h
    go_enter Tryd.func6, Tryd.ntmps6
    go_wp2_with fail
    refine (Tryd.strconv_Itoa n h64.1 h64.2 _ HT.out).mono ?_
    rintro e w' ⟨rfl, k, os, rfl⟩
    go_wp2
    go_ret
    rw [HN.out]
    refine ⟨?_, below_grow _ _ _⟩
    obtain ⟨u, rfl⟩ : ∃ u : Nat, n = u := ⟨n.toNat, by omega⟩
    show Ending.returned (.string ⟨(Lib.itoa (u : Int)).toArray⟩) = Ending.returned (.string (strD (u : Int).toNat))
    rw [Lib.itoa_nonneg, Int.toNat_natCast]
    rfl
end Go.Proofs.YtkcediipkkpofaaDoor.low
