/-
  Contracts of spec.l01Put, impl.further, impl.addBytes and impl.addSign: the encoding of one character is appended to a row of bytes of the caller's own.
-/
import Derived.Test.YtkcediipkkpofaaSignsOk
import Derived.Deep.AppendLies
namespace Go.Proofs.Ytkcediipkkpofaa.low
open Go.RowKit
set_option linter.unusedVariables false

/-- the bytes of one character -/
def encI (z : Int) : List Int :=
  if z < 128 then [z] else if z < 2048 then [192 + z / 64, 128 + z % 64] else if z < 65536 then [224 + z / 4096, 128 + z / 64 % 64, 128 + z % 64]
  else [240 + z / 262144, 128 + z / 4096 % 64, 128 + z / 64 % 64, 128 + z % 64]
theorem encI_1 {z : Int} (h : z < 128) : encI z = [z] := by unfold encI; rw [if_pos h]
theorem encI_2 {z : Int} (h : 128 ≤ z) (h' : z < 2048) : encI z = [192 + z / 64, 128 + z % 64] := by unfold encI; rw [if_neg (by omega), if_pos h']
theorem encI_3 {z : Int} (h : 2048 ≤ z) (h' : z < 65536) : encI z = [224 + z / 4096, 128 + z / 64 % 64, 128 + z % 64] := by unfold encI; rw [if_neg (by omega), if_neg (by omega), if_pos h']
theorem encI_4 {z : Int} (h : 65536 ≤ z) : encI z = [240 + z / 262144, 128 + z / 4096 % 64, 128 + z / 64 % 64, 128 + z % 64] := by
  unfold encI; rw [if_neg (by omega), if_neg (by omega), if_neg (by omega)]

theorem byte_info : (Try.prog.info? 5).map (fun i => (i.zero, i.size, i.bytes)) = some (some (.int .u8 0), 1, 1) := by kernel_rfl

/-- v is a row of bytes of the caller's own (blocks from base on) that holds bs -/
def Buf (base : Nat) (w : World) (v : Value) (bs : List Int) : Prop := w.ownsRow base 5 1 v bs.length (bs.map (Value.int .u8)) ∧ base ≤ w.heap.size
/-- a call that returns such a row and has written nothing below base -/
def Bufs (base : Nat) (w : World) (bs : List Int) (e : Ending) (w' : World) : Prop := ∃ v', e = .returned v' ∧ Buf base w' v' bs ∧ Below base w w'

theorem new_cells (w : World) (cs : List Value) (e : TypeId) : ∀ j u, cs[j]? = some u → (w.alloc (.cells cs.toArray e)).cell? (Addr.add ⟨w.heap.size, 0, none⟩ j) = some u := by
  intro j u hu
  have ha : (Addr.add ⟨w.heap.size, 0, none⟩ j) = ⟨w.heap.size, j, none⟩ := by unfold Addr.add; split <;> simp_all
  rw [ha]
  simpa using hu
theorem buf_of {base : Nat} {w0 w w' : World} {v v' : Value} {bs news : List Int} {m : Nat} {xs : List Value} (hm : news.length = m) (hx : xs = news.map (Value.int .u8))
    (ho : w'.ownsRow base 5 1 v' (bs.length + m) (bs.map (Value.int .u8) ++ xs)) (hg : w.grownBy w' v.ownBlock)
    (hb : Buf base w v bs) (h0 : Below base w0 w) : Buf base w' v' (bs ++ news) ∧ Below base w0 w' := by
  subst hm
  subst hx
  refine ⟨⟨by simpa using ho, Nat.le_trans hb.2 hg.size⟩, h0.grown hg hb.2 (fun k hk => ?_)⟩
  rcases hb.1.2 with ⟨rfl, _⟩ | ⟨g, cap, cur, rfl, hge, _⟩
  · simp [Value.ownBlock] at hk
  · simp [Value.ownBlock] at hk; omega
theorem Buf.alloc {base : Nat} {w : World} {v : Value} {bs : List Int} (h : Buf base w v bs) (o : Obj) : Buf base (w.alloc o) v bs := ⟨h.1.alloc o, by have := h.2; simp; omega⟩

set_option maxHeartbeats 1600000 in
theorem put_any (base : Nat) (v : Value) (bs : List Int) (z : Int) (w : World) (hb : Buf base w v bs) (hz : signB z = true) (hn : bs.length ≤ 1073741824) :
    Calls Try.prog 36 #[v, .int .i64 z] w (Bufs base w (bs ++ encI z)) := by
  obtain ⟨i0, hi0, hz0, hz1, hz2⟩ := info_parts byte_info
  have hzz := of_signB hz
  clear hz
  have hz0' : 0 ≤ z := by omega
  have hzm : z ≤ 1114111 := by omega
  clear hzz
  rcases (show z < 128 ∨ (128 ≤ z ∧ z < 2048) ∨ (2048 ≤ z ∧ z < 65536) ∨ 65536 ≤ z by omega) with h | ⟨h, h'⟩ | ⟨h, h'⟩ | h
  · have HE := Lib.hid (encI_1 h)
    go_enter Try.func36, Try.ntmps36
    go_wp2_with (at_builtin; refine wpList_append_own _ rfl (.tmp 8) (.tmp 11) 39 rfl base 5 i0 (.int .u8 0) 1 1 Try.underlying39 hi0 hz0 hz1 hz2 rfl (by decide) v bs.length (bs.map (Value.int .u8)) rfl (hb.alloc _).1 ⟨w.heap.size, 0, none⟩ 1 1 ([z].map (Value.int .u8)) rfl rfl (new_cells _ _ _) (ints_oneCell _ _) (by unfold maxLen; omega) (by omega) (hb.alloc _).2 ?_; intro v' w1 ho hg _)
    go_ret
    rw [HE.out]
    exact ⟨v', rfl, buf_of rfl rfl ho hg (hb.alloc _) ((Below.refl _ _).alloc hb.2 _)⟩
  · have HE := Lib.hid (encI_2 h h')
    go_enter Try.func36, Try.ntmps36
    go_wp2_with (at_builtin; refine wpList_append_own _ rfl (.tmp 16) (.tmp 25) 39 rfl base 5 i0 (.int .u8 0) 1 1 Try.underlying39 hi0 hz0 hz1 hz2 rfl (by decide) v bs.length (bs.map (Value.int .u8)) rfl (hb.alloc _).1 ⟨w.heap.size, 0, none⟩ 2 2 ([192 + z / 64, 128 + z % 64].map (Value.int .u8)) rfl rfl (new_cells _ _ _) (ints_oneCell _ _) (by unfold maxLen; omega) (by omega) (hb.alloc _).2 ?_; intro v' w1 ho hg _)
    go_ret
    rw [HE.out]
    exact ⟨v', rfl, buf_of rfl rfl ho hg (hb.alloc _) ((Below.refl _ _).alloc hb.2 _)⟩
  · have HE := Lib.hid (encI_3 h h')
    go_enter Try.func36, Try.ntmps36
    go_wp2_with (at_builtin; refine wpList_append_own _ rfl (.tmp 30) (.tmp 44) 39 rfl base 5 i0 (.int .u8 0) 1 1 Try.underlying39 hi0 hz0 hz1 hz2 rfl (by decide) v bs.length (bs.map (Value.int .u8)) rfl (hb.alloc _).1 ⟨w.heap.size, 0, none⟩ 3 3 ([224 + z / 4096, 128 + z / 64 % 64, 128 + z % 64].map (Value.int .u8)) rfl rfl (new_cells _ _ _) (ints_oneCell _ _) (by unfold maxLen; omega) (by omega) (hb.alloc _).2 ?_; intro v' w1 ho hg _)
    go_ret
    rw [HE.out]
    exact ⟨v', rfl, buf_of rfl rfl ho hg (hb.alloc _) ((Below.refl _ _).alloc hb.2 _)⟩
  · have HE := Lib.hid (encI_4 h)
    go_enter Try.func36, Try.ntmps36
    go_wp2_with (at_builtin; refine wpList_append_own _ rfl (.tmp 46) (.tmp 65) 39 rfl base 5 i0 (.int .u8 0) 1 1 Try.underlying39 hi0 hz0 hz1 hz2 rfl (by decide) v bs.length (bs.map (Value.int .u8)) rfl (hb.alloc _).1 ⟨w.heap.size, 0, none⟩ 4 4 ([240 + z / 262144, 128 + z / 4096 % 64, 128 + z / 64 % 64, 128 + z % 64].map (Value.int .u8)) rfl rfl (new_cells _ _ _) (ints_oneCell _ _) (by unfold maxLen; omega) (by omega) (hb.alloc _).2 ?_; intro v' w1 ho hg _)
    go_ret
    rw [HE.out]
    exact ⟨v', rfl, buf_of rfl rfl ho hg (hb.alloc _) ((Below.refl _ _).alloc hb.2 _)⟩
theorem further_any (b : Int) (w : World) (h : 0 ≤ b) (h' : b ≤ 1114111) :
    Calls Try.prog 44 #[.int .i64 b] w fun e w' => e = .returned (.int .i64 (128 + b % 64)) ∧ w = w' := by
  go_enter Try.func44, Try.ntmps44
  go_wp2
  go_ret
  exact ⟨rfl, rfl⟩

/-- block g is just these numbers -/
def Nums (w : World) (g : Nat) (is : List Int) : Prop := w.heap[g]? = some (.cells (is.map (Value.int .i64)).toArray 3 (0, 0))
theorem Nums.new (w : World) (is : List Int) : Nums (w.alloc (.cells (is.map (Value.int .i64)).toArray 3)) w.heap.size is := heap_alloc_new w _
theorem Nums.lt {w : World} {g : Nat} {is : List Int} (h : Nums w g is) : g < w.heap.size := by
  rcases Nat.lt_or_ge g w.heap.size with hlt | hge
  · exact hlt
  · unfold Nums at h; rw [Array.getElem?_eq_none hge] at h; cases h
theorem Nums.cell {w : World} {g : Nat} {is : List Int} (h : Nums w g is) {k : Nat} {i : Int} (hi : is[k]? = some i) : w.cell? ⟨g, k, none⟩ = some (.int .i64 i) := by
  unfold Nums at h
  simp [World.cell?, h, hi]
theorem Nums.alloc {w : World} {g : Nat} {is : List Int} (h : Nums w g is) (o : Obj) : Nums (w.alloc o) g is := (Below.heap_alloc w o g h.lt).trans h
theorem Nums.grown {w w' : World} {g base : Nat} {is bs : List Int} {v : Value} (h : Nums w g is) (hb : Buf base w v bs) (hg : w.grownBy w' v.ownBlock) : Nums w' g is := by
  refine (hg.block g h.lt ?_).trans h
  rcases hb.1.2 with ⟨rfl, _⟩ | ⟨g', cap, cur, rfl, _, hh, _⟩
  · simp [Value.ownBlock]
  · intro he
    have : g = g' := by simpa [Value.ownBlock] using he
    subst this
    unfold Nums at h
    rw [h] at hh
    injection hh with hh
    injection hh with _ ht
    exact absurd ht (by decide)
theorem take_more {is : List Int} {k : Nat} {i : Int} (hi : is[k]? = some i) : is.take (k + 1) = is.take k ++ [i] := by
  rw [List.take_add_one, hi]; rfl

set_option maxHeartbeats 1600000 in
theorem addBytes_any (base g : Nat) (v : Value) (bs is : List Int) (w : World) (hb : Buf base w v bs) (hi : Nums w g is) (h8 : ∀ i ∈ is, 0 ≤ i ∧ i ≤ 255) (hl : is.length ≤ 4) (hn : bs.length ≤ 1073741824) :
    Calls Try.prog 43 #[v, .slice (some ⟨g, 0, none⟩) is.length is.length] w (Bufs base w (bs ++ is)) := by
  obtain ⟨i0, hi0, hz0, hz1, hz2⟩ := info_parts byte_info
  have H8 := Lib.hid h8
  clear h8
  go_enter Try.func43, Try.ntmps43
  go_wp2
  go_loopw [0, 9] (fun v i wr => ∃ k : Nat, k ≤ is.length ∧ i = .int .i64 k ∧ Buf base wr v (bs ++ is.take k) ∧ Nums wr g is ∧ Below base w wr) (fun _ i _ => is.length - (intOf i).toNat)
  case atStart => exact ⟨0, Nat.zero_le _, rfl, by simpa using hb, hi, Below.refl _ _⟩
  case round =>

    obtain ⟨k, hk, rfl, hb', hi', hbel⟩ := hrel
    clear hb hi
    by_cases hlt : k < is.length
    · obtain ⟨i, hii⟩ : ∃ i, is[k]? = some i := ⟨_, List.getElem?_eq_getElem hlt⟩
      have hc := hi'.cell hii
      have hbi := H8.out i (List.mem_of_getElem? hii)
      have hb0 := hbi.1
      have hb1 := hbi.2
      clear hbi
      have HI := Lib.hid hii
      clear hii
      have hlb : (bs ++ is.take k).length ≤ 1073741828 := by simp; omega
      have HT := Lib.hid (take_more HI.out)
      generalize hq : bs ++ is.take k = q at *
      have HQ := Lib.hid hq
      clear hq
      go_wp2_with (at_builtin; refine wpList_append_own _ rfl (.tmp 13) (.tmp 16) 39 rfl base 5 i0 (.int .u8 0) 1 1 Try.underlying39 hi0 hz0 hz1 hz2 rfl (by decide) _ q.length (q.map (Value.int .u8)) rfl (hb'.alloc _).1 ⟨wr.heap.size, 0, none⟩ 1 1 ([i].map (Value.int .u8)) rfl rfl (new_cells _ _ _) (ints_oneCell _ _) (by unfold maxLen; omega) (by omega) (hb'.alloc _).2 ?_; intro v' w1 ho hg _)
      go_roundw
      case rel =>
        have R := buf_of rfl rfl ho hg (hb'.alloc _) (hbel.alloc hb'.2 _)
        exact ⟨k + 1, by omega, by go_num, by rw [HT.out, ← List.append_assoc, HQ.out]; exact R.1, (hi'.alloc _).grown (hb'.alloc _) hg, R.2⟩
      case measure => simp [intOf]; omega
    · go_wp2
      go_ret
      have hke : is.take k = is := List.take_of_length_le (by omega)
      rw [hke] at hb'
      exact ⟨_, rfl, hb', hbel⟩
end Go.Proofs.Ytkcediipkkpofaa.low
