/-
  Contracts of impl.addSign, spec.Bytes and impl.Bytes: the UTF-8 encoding of a list of characters, or the empty string where one is no character.
-/
import Derived.Test.YtkcediipkkpofaaPut
import Derived.Laws.BytesArg
namespace Go.Proofs.Ytkcediipkkpofaa.low
open Go.RowKit
set_option linter.unusedVariables false

theorem byte_list1 {z : Int} (h0 : 0 ≤ z) (h : z < 128) : ∀ i ∈ [z], 0 ≤ i ∧ i ≤ 255 := by intro i hi; simp at hi; omega
theorem byte_list2 {z : Int} (h0 : 0 ≤ z) (h : z < 2048) : ∀ i ∈ [192 + z / 64, 128 + z % 64], 0 ≤ i ∧ i ≤ 255 := by intro i hi; simp at hi; rcases hi with rfl | rfl <;> omega
theorem byte_list3 {z : Int} (h0 : 0 ≤ z) (h : z < 65536) : ∀ i ∈ [224 + z / 4096, 128 + z / 64 % 64, 128 + z % 64], 0 ≤ i ∧ i ≤ 255 := by
  intro i hi; simp at hi; rcases hi with rfl | rfl | rfl <;> omega
theorem byte_list4 {z : Int} (h0 : 0 ≤ z) (h : z ≤ 1114111) : ∀ i ∈ [240 + z / 262144, 128 + z / 4096 % 64, 128 + z / 64 % 64, 128 + z % 64], 0 ≤ i ∧ i ≤ 255 := by
  intro i hi; simp at hi; rcases hi with rfl | rfl | rfl | rfl <;> omega
theorem encI_byte {z : Int} (hz : signB z = true) : ∀ i ∈ encI z, 0 ≤ i ∧ i ≤ 255 := by
  have h := of_signB hz
  rcases (show z < 128 ∨ (128 ≤ z ∧ z < 2048) ∨ (2048 ≤ z ∧ z < 65536) ∨ 65536 ≤ z by omega) with h1 | ⟨h1, h2⟩ | ⟨h1, h2⟩ | h1
  · rw [encI_1 h1]; exact byte_list1 (by omega) h1
  · rw [encI_2 h1 h2]; exact byte_list2 (by omega) h2
  · rw [encI_3 h1 h2]; exact byte_list3 (by omega) h2
  · rw [encI_4 h1]; exact byte_list4 (by omega) (by omega)
theorem encI_len (z : Int) : 1 ≤ (encI z).length ∧ (encI z).length ≤ 4 := by
  unfold encI
  split
  · simp
  · split
    · simp
    · split <;> simp

theorem bufs_after {base : Nat} {w w0 : World} {bs : List Int} {e : Ending} {w' : World} (h : Bufs base w bs e w') (h0 : Below base w0 w) : Bufs base w0 bs e w' := by
  obtain ⟨v', h1, h2, h3⟩ := h
  exact ⟨v', h1, h2, h0.trans h3⟩

set_option maxHeartbeats 1600000 in
theorem addSign_any (base : Nat) (v : Value) (bs : List Int) (z : Int) (w : World) (hb : Buf base w v bs) (hz : signB z = true) (hn : bs.length ≤ 1073741824) :
    Calls Try.prog 37 #[v, .int .i64 z] w (Bufs base w (bs ++ encI z)) := by
  have hzz := of_signB hz
  clear hz
  have hz0' : 0 ≤ z := by omega
  have hzm : z ≤ 1114111 := by omega
  clear hzz
  rcases (show z < 128 ∨ (128 ≤ z ∧ z < 2048) ∨ (2048 ≤ z ∧ z < 65536) ∨ 65536 ≤ z by omega) with h | ⟨h, h'⟩ | ⟨h, h'⟩ | h
  · have HE := Lib.hid (encI_1 h)
    go_enter Try.func37, Try.ntmps37
    go_wp2_with (go_at_call 44; refine (further_any _ _ (by omega) (by omega)).mono ?_; rintro e w' ⟨rfl, rfl⟩)
    refine (addBytes_any base w.heap.size v bs [z] _ (hb.alloc _) (Nums.new w [z]) (byte_list1 hz0' h) (by simp) hn).mono ?_
    rintro e w' ⟨v', rfl, h2, h3⟩
    go_wp2
    go_ret
    rw [HE.out]
    exact ⟨v', rfl, h2, ((Below.refl _ _).alloc hb.2 _).trans h3⟩
  · have HE := Lib.hid (encI_2 h h')
    go_enter Try.func37, Try.ntmps37
    go_wp2_with (go_at_call 44; refine (further_any _ _ (by omega) (by omega)).mono ?_; rintro e w' ⟨rfl, rfl⟩)
    refine (addBytes_any base w.heap.size v bs [192 + z / 64, 128 + z % 64] _ (hb.alloc _) (Nums.new w [192 + z / 64, 128 + z % 64]) (byte_list2 hz0' h') (by simp) hn).mono ?_
    rintro e w' ⟨v', rfl, h2, h3⟩
    go_wp2
    go_ret
    rw [HE.out]
    exact ⟨v', rfl, h2, ((Below.refl _ _).alloc hb.2 _).trans h3⟩
  · have HE := Lib.hid (encI_3 h h')
    go_enter Try.func37, Try.ntmps37
    go_wp2_with (go_at_call 44; refine (further_any _ _ (by omega) (by omega)).mono ?_; rintro e w' ⟨rfl, rfl⟩)
    refine (addBytes_any base w.heap.size v bs [224 + z / 4096, 128 + z / 64 % 64, 128 + z % 64] _ (hb.alloc _) (Nums.new w [224 + z / 4096, 128 + z / 64 % 64, 128 + z % 64]) (byte_list3 hz0' h') (by simp) hn).mono ?_
    rintro e w' ⟨v', rfl, h2, h3⟩
    go_wp2
    go_ret
    rw [HE.out]
    exact ⟨v', rfl, h2, ((Below.refl _ _).alloc hb.2 _).trans h3⟩
  · have HE := Lib.hid (encI_4 h)
    go_enter Try.func37, Try.ntmps37
    go_wp2_with (go_at_call 44; refine (further_any _ _ (by omega) (by omega)).mono ?_; rintro e w' ⟨rfl, rfl⟩)
    refine (addBytes_any base w.heap.size v bs [240 + z / 262144, 128 + z / 4096 % 64, 128 + z / 64 % 64, 128 + z % 64] _ (hb.alloc _) (Nums.new w [240 + z / 262144, 128 + z / 4096 % 64, 128 + z / 64 % 64, 128 + z % 64]) (byte_list4 hz0' hzm) (by simp) hn).mono ?_
    rintro e w' ⟨v', rfl, h2, h3⟩
    go_wp2
    go_ret
    rw [HE.out]
    exact ⟨v', rfl, h2, ((Below.refl _ _).alloc hb.2 _).trans h3⟩

/-- the bytes of a list of characters -/
def encL (zs : List Int) : List Int := zs.flatMap encI
theorem encL_snoc {zs : List Int} {k : Nat} {z : Int} (h : zs[k]? = some z) : encL (zs.take (k + 1)) = encL (zs.take k) ++ encI z := by
  unfold encL
  rw [List.take_add_one, h]
  simp
theorem encL_len (zs : List Int) : (encL zs).length ≤ 4 * zs.length := by
  unfold encL
  induction zs with
  | nil => simp
  | cons z zs ih => rw [List.flatMap_cons, List.length_append, List.length_cons]; have := (encI_len z).2; omega
/-- what Bytes returns -/
def bytesOf (zs : List Int) : ByteArray := if allB zs = true then strOfNums (encL zs) else ByteArray.empty
theorem bytesOf_t {zs : List Int} (h : allB zs = true) : bytesOf zs = strOfNums (encL zs) := by unfold bytesOf; rw [if_pos h]
theorem bytesOf_f {zs : List Int} (h : allB zs = false) : bytesOf zs = ByteArray.empty := by unfold bytesOf; rw [if_neg (by simp [h])]
theorem allB_at {zs : List Int} {k : Nat} {z : Int} (h : zs[k]? = some z) (ha : allB zs = true) : signB z = true := by
  unfold allB at ha
  exact List.all_eq_true.1 ha z (List.mem_of_getElem? h)
theorem strOfNums_nil : strOfNums [] = ByteArray.empty := rfl

/-- from a row of bytes to the string -/
theorem buf_string {P : Program} {base : Nat} {w : World} {v : Value} {bs : List Int} (hb : Buf base w v bs) (src e dst : TypeId) (hs : P.underlying src = some (.slice e)) (he : P.underlying e = some (.int .u8))
    (hd : P.underlying dst = some .string) : (convert src dst v).run P w = .ok (.string (strOfNums bs)) w := by
  have h1 := hb.1.1
  rcases hb.1.2 with ⟨rfl, h0⟩ | ⟨g, cap, cur, rfl, _, hh, hnc, _, hsz, ht⟩
  · have : bs = [] := List.eq_nil_of_length_eq_zero h0
    subst this
    rw [run_convert_bytes_nil w src e hs he 0 0 dst hd]
    rfl
  · refine run_convert_bytes_arg w src e hs he g 0 bs.length cap bs rfl (fun i hi => ?_) dst hd
    have hc := World.ownsRow.cellAt (g := g) hb.1 i (by omega)
    rw [Nat.zero_add, hc, List.getElem?_map, List.getElem?_eq_getElem hi]
    simp [List.getD, List.getElem?_eq_getElem hi]

/-- a call that returns this string and has made memory alone -/
def Strs (s : ByteArray) (w : World) (e : Ending) (w' : World) : Prop := e = .returned (.string s) ∧ Below w.heap.size w w'

set_option maxHeartbeats 1600000 in
theorem specBytes_any (A : Option Addr) (c : Nat) (zs : List Int) (w : World) (hr : Row (Value.int .i64) w w.heap.size A zs) (hl : zs.length ≤ 16777216) :
    Calls Try.prog 18 #[.slice A zs.length c] w (Strs (bytesOf zs) w) := by
  have hrA : Row (Value.int .i64) (w.alloc (.cells #[] 5)) (w.alloc (.cells #[] 5)).heap.size A zs := hr.past ((Below.refl _ _).alloc (Nat.le_refl _) _)
  cases hab : allB zs
  · have HB := Lib.hid (bytesOf_f hab)
    go_enter Try.func18, Try.ntmps18
    go_wp2_with fail
    refine (specSignsOk_any A c zs _ hrA (by omega)).mono ?_
    rintro e w' ⟨rfl, rfl⟩
    go_wp2
    go_ret
    rw [HB.out]
    exact ⟨rfl, (Below.refl _ _).alloc (Nat.le_refl _) _⟩
  · have HB := Lib.hid (bytesOf_t hab)
    have HAB := Lib.hid hab
    go_enter Try.func18, Try.ntmps18
    go_wp2_with fail
    refine (specSignsOk_any A c zs _ hrA (by omega)).mono ?_
    rintro e w' ⟨rfl, rfl⟩
    go_wp2
    go_loopw [3, 12] (fun v i wr => ∃ k : Nat, k ≤ zs.length ∧ i = .int .i64 k ∧ Buf w.heap.size wr v (encL (zs.take k)) ∧ Below w.heap.size w wr) (fun _ i _ => zs.length - (intOf i).toNat)
    case atStart =>
      refine ⟨0, Nat.zero_le _, rfl, ⟨?_, by simp⟩, (Below.refl _ _).alloc (Nat.le_refl _) _⟩
      exact World.ownsRow_lit w #[] 0 (Nat.le_refl _) (Nat.zero_le _) (by simp)
    case round =>
      obtain ⟨k, hk, rfl, hb, hbel⟩ := hrel
      clear hab
      have hle := encL_len (zs.take k)
      have hlt4 : (encL (zs.take k)).length ≤ 1073741824 := by have : (zs.take k).length ≤ k := List.length_take_le _ _; omega
      clear hle
      by_cases hlt : k < zs.length
      · obtain ⟨ad, z, rfl, hbl, hz, hc⟩ := hr.at_ hlt
        have hc' : wr.cell? (ad.add k) = some (.int .i64 z) := by rw [hbel.cell (by rw [block_of_add]; exact hbl)]; exact hc
        have hs := allB_at hz HAB.out
        have HS := Lib.hid (encL_snoc hz)
        clear hz hc
        generalize encL (zs.take k) = q at *
        go_wp2_with fail
        refine (put_any w.heap.size _ q z _ hb hs hlt4).mono ?_
        rintro e w' ⟨v', rfl, h2, h3⟩
        go_wp2
        go_roundw
        case rel => exact ⟨k + 1, by omega, by go_num, by rw [HS.out]; exact h2, hbel.trans h3⟩
        case measure => simp [intOf]; omega
      · have hke : zs.take k = zs := List.take_of_length_le (by omega)
        rw [hke] at hb
        have hcv := buf_string (P := Try.prog) hb 39 5 9 Try.underlying39 Try.underlying5 Try.underlying9
        clear hke
        go_wp2
        go_ret
        rw [HB.out]
        exact ⟨rfl, hbel⟩

set_option maxHeartbeats 1600000 in
theorem implBytes_any (A : Option Addr) (c : Nat) (zs : List Int) (w : World) (hr : Row (Value.int .i64) w w.heap.size A zs) (hl : zs.length ≤ 16777216) :
    Calls Try.prog 19 #[.slice A zs.length c] w (Strs (bytesOf zs) w) := by
  cases hab : allB zs
  · have HB := Lib.hid (bytesOf_f hab)
    go_enter Try.func19, Try.ntmps19
    go_wp2_with fail
    refine (implSignsOk_any A c zs _ hr (by omega)).mono ?_
    rintro e w' ⟨rfl, rfl⟩
    go_wp2
    go_ret
    rw [HB.out]
    exact ⟨rfl, Below.refl _ _⟩
  · have HB := Lib.hid (bytesOf_t hab)
    have HAB := Lib.hid hab
    go_enter Try.func19, Try.ntmps19
    go_wp2_with fail
    refine (implSignsOk_any A c zs _ hr (by omega)).mono ?_
    rintro e w' ⟨rfl, rfl⟩
    go_wp2
    go_loopw [3, 11] (fun v i wr => ∃ k : Nat, k ≤ zs.length ∧ i = .int .i64 k ∧ Buf w.heap.size wr v (encL (zs.take k)) ∧ Below w.heap.size w wr) (fun _ i _ => zs.length - (intOf i).toNat)
    case atStart => exact ⟨0, Nat.zero_le _, rfl, ⟨World.ownsRow_nil _ _ _ _, Nat.le_refl _⟩, Below.refl _ _⟩
    case round =>
      obtain ⟨k, hk, rfl, hb, hbel⟩ := hrel
      clear hab
      have hle := encL_len (zs.take k)
      have hlt4 : (encL (zs.take k)).length ≤ 1073741824 := by have : (zs.take k).length ≤ k := List.length_take_le _ _; omega
      clear hle
      by_cases hlt : k < zs.length
      · obtain ⟨ad, z, rfl, hbl, hz, hc⟩ := hr.at_ hlt
        have hc' : wr.cell? (ad.add k) = some (.int .i64 z) := by rw [hbel.cell (by rw [block_of_add]; exact hbl)]; exact hc
        have hs := allB_at hz HAB.out
        have HS := Lib.hid (encL_snoc hz)
        clear hz hc
        generalize encL (zs.take k) = q at *
        go_wp2_with fail
        refine (addSign_any w.heap.size _ q z _ hb hs hlt4).mono ?_
        rintro e w' ⟨v', rfl, h2, h3⟩
        go_wp2
        go_roundw
        case rel => exact ⟨k + 1, by omega, by go_num, by rw [HS.out]; exact h2, hbel.trans h3⟩
        case measure => simp [intOf]; omega
      · have hke : zs.take k = zs := List.take_of_length_le (by omega)
        rw [hke] at hb
        have hcv := buf_string (P := Try.prog) hb 39 5 9 Try.underlying39 Try.underlying5 Try.underlying9
        clear hke
        go_wp2
        go_ret
        rw [HB.out]
        exact ⟨rfl, hbel⟩
end Go.Proofs.Ytkcediipkkpofaa.low
