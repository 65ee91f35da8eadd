/-
  Contracts of the laws' own eqStringS, markText, markStringS and heldStringS.
-/
import Derived.Test.YtkcediipkkpofaaSplit
import Derived.Test.YtkcediipkkpofaaMarks
import Derived.Laws.Concat
import Derived.Deep.RegionWith
namespace Go.Proofs.Ytkcediipkkpofaa.low
open Go.RowKit
set_option linter.unusedVariables false

def sameSB (xs ys : List ByteArray) : Bool := decide (xs = ys)
theorem sameSB_self (xs : List ByteArray) : sameSB xs xs = true := decide_eq_true rfl

set_option maxHeartbeats 800000 in
/-- equal lists alone: that is all that a law asks -/
theorem eqStringS_self (A B : Option Addr) (c d : Nat) (xs : List ByteArray) (w : World) (hx : Row Value.string w w.heap.size A xs) (hy : Row Value.string w w.heap.size B xs)
    (hl : xs.length ≤ 4294967296) :
    Calls Try.prog 28 #[.slice A xs.length c, .slice B xs.length d] w (Says true w) := by
  go_enter Try.func28, Try.ntmps28
  go_wp2
  go_loopw [5] (fun i wr => ∃ k n : Nat, k ≤ xs.length ∧ i = .int .i64 k ∧ wr = w.drewN n) (fun i _ => xs.length - (intOf i).toNat)
  case atStart => exact ⟨0, 0, Nat.zero_le _, rfl, rfl⟩
  case round =>
    obtain ⟨k, n, hk, rfl, rfl⟩ := hrel
    by_cases hlt : k < xs.length
    · obtain ⟨ad, x, rfl, hbl, hzx, hcx⟩ := hx.at_ hlt
      obtain ⟨bd, y, rfl, hbl', hzy, hcy⟩ := hy.at_ (k := k) hlt
      rw [hzx] at hzy
      obtain rfl : x = y := by injection hzy
      clear hzx hzy
      go_wp2
      go_quiet (fail)
      go_wp2
      go_roundw
      case rel => exact ⟨k + 1, _, by omega, by go_num, rfl⟩
      case measure => simp [intOf]; omega
    · go_wp2
      go_ret
      exact ⟨rfl, _, rfl⟩

/-- the text of a mark: the digits of k, from the last on -/
def digLoop : Nat → Int → ByteArray → ByteArray
  | 0, _, out => out
  | f + 1, k, out => if 0 < k then digLoop f (k / 10) (strOfNums [48 + k % 10] ++ out) else out
def markB (k : Int) : ByteArray := ⟨#[109]⟩ ++ digLoop k.toNat k ByteArray.empty
theorem digLoop_step {f : Nat} {k : Int} {out : ByteArray} (h : 0 < k) : digLoop (f + 1) k out = digLoop f (k / 10) (strOfNums [48 + k % 10] ++ out) := by
  show (if _ then _ else _) = _; rw [if_pos h]
theorem digLoop_end {f : Nat} {k : Int} {out : ByteArray} (h : ¬ 0 < k) : digLoop f k out = out := by
  cases f with
  | zero => rfl
  | succ f => show (if _ then _ else _) = _; rw [if_neg h]

set_option maxHeartbeats 800000 in
theorem markText_any (k : Int) (w : World) (h0 : 0 < k) (h1 : k ≤ 4294967296) :
    Calls Try.prog 42 #[.int .i64 k] w (Strs (markB k) w) := by
  go_enter Try.func42, Try.ntmps42
  go_wp2
  go_loopw [0, 3] (fun kk o wr => ∃ (j : Int) (f : Nat) (out : ByteArray), 0 ≤ j ∧ j ≤ k ∧ kk = .int .i64 j ∧ o = .string out ∧ j.toNat ≤ f ∧ out.size + f ≤ 4294967296 ∧ digLoop f j out = digLoop k.toNat k ByteArray.empty ∧ Below w.heap.size w wr) (fun kk _ _ => (intOf kk).toNat)
  case atStart => exact ⟨k, k.toNat, ByteArray.empty, by omega, Int.le_refl _, rfl, rfl, Nat.le_refl _, by simp; omega, rfl, Below.refl _ _⟩
  case round =>
    obtain ⟨j, f, out, hj0, hj1, rfl, rfl, hf, hos, hd, hbel⟩ := hrel
    have HD := Lib.hid hd
    clear hd
    by_cases hlt : 0 < j
    · have hcv := run_convert_bytes_arg (P := Try.prog) (wr.alloc (.cells #[.int .u8 (48 + j % 10)] 5)) 39 5 Try.underlying39 Try.underlying5 wr.heap.size 0 1 1 [48 + j % 10] rfl (fun i hi => by
        obtain rfl : i = 0 := by omega
        exact new_cells wr [.int .u8 (48 + j % 10)] 5 0 _ rfl) 9 Try.underlying9
      have hs1 : (strOfNums [48 + j % 10]).size = 1 := by rw [strOfNums_size]; rfl
      have HS1 := Lib.hid hs1
      have hsum : (strOfNums [48 + j % 10]).size + out.size ≤ 9223372036854775807 := by omega
      clear hs1
      obtain ⟨f', rfl⟩ : ∃ f', f = f' + 1 := ⟨f - 1, by omega⟩
      have HDS := Lib.hid (digLoop_step (f := f') (out := out) hlt)
      go_wp2
      go_roundw
      case rel => exact ⟨j / 10, f', _, by omega, by omega, rfl, rfl, by omega, by rw [ByteArray.size_append, HS1.out]; omega, by rw [← HD.out, HDS.out], hbel.alloc hbel.size _⟩
      case measure => simp [intOf]; omega
    · have hsum : (ByteArray.mk #[109]).size + out.size ≤ 9223372036854775807 := by show 1 + out.size ≤ _; omega
      have HE := Lib.hid (digLoop_end (f := f) (out := out) hlt)
      go_wp2
      go_ret
      refine ⟨?_, hbel⟩
      unfold markB
      rw [← HD.out, HE.out]
      rfl

/-- the texts of n marks from k on -/
def marksB (k : Int) (n : Nat) : List ByteArray := (marks k n).map markB
theorem marksB_len (k : Int) (n : Nat) : (marksB k n).length = n := by simp [marksB, marks_len]
theorem marksB_at {k : Int} {n j : Nat} (h : j < n) : (marksB k n)[j]? = some (markB (k + (j : Int))) := by simp [marksB, marks_at h]
def MarkedS (base : Nat) (v : Value) (k : Int) (n : Nat) (w : World) (e : Ending) (w' : World) : Prop :=
  e = .returned (.int .i64 (k + (n : Int))) ∧ SBuf base w' v (marksB k n) ∧ Below base w w'
theorem markS_set {xs : List Value} {k : Int} {j : Nat} (hl : j < xs.length) (hp : ∀ t, t < j → xs[t]? = some (.string (markB (k + (t : Int))))) :
    ∀ t, t < j + 1 → (xs.set j (.string (markB (k + (j : Int)))))[t]? = some (.string (markB (k + (t : Int)))) := by
  intro t ht
  rw [List.getElem?_set]
  by_cases e : j = t
  · subst e; rw [if_pos rfl, if_pos hl]
  · rw [if_neg e]; exact hp t (by omega)
theorem marksS_all {xs : List Value} {k : Int} {n : Nat} (hl : xs.length = n) (hp : ∀ t, t < n → xs[t]? = some (.string (markB (k + (t : Int))))) : xs = (marksB k n).map Value.string := by
  apply List.ext_getElem?
  intro t
  rcases Nat.lt_or_ge t n with h | h
  · rw [hp t h, List.getElem?_map, marksB_at h]; rfl
  · rw [List.getElem?_eq_none (by omega), List.getElem?_eq_none (by rw [List.length_map, marksB_len]; exact h)]
theorem own_past {base n cap g : Nat} {w w' : World} {e : TypeId} {xs : List Value} (h : w.ownsRow base e 1 (.slice (some ⟨g, 0, none⟩) n cap) n xs) (hb : Below w.heap.size w w') : w'.ownsRow base e 1 (.slice (some ⟨g, 0, none⟩) n cap) n xs := by
  refine ⟨h.1, ?_⟩
  rcases h.2 with ⟨hn, _⟩ | ⟨g', cap', cur, hv, hge, hh, hr⟩
  · cases hn
  · exact .inr ⟨g', cap', cur, hv, hge, (hb.block g' (lt_of_some hh)).trans hh, hr⟩

set_option maxHeartbeats 1600000 in
theorem markStringS_any (base : Nat) (v : Value) (zs : List ByteArray) (k : Int) (w : World) (hb : SBuf base w v zs) (h0 : 0 < k) (h1 : k ≤ 1073741824) (hn : zs.length ≤ 1073741824) :
    Calls Try.prog 29 #[v, .int .i64 k] w (MarkedS base v k zs.length w) := by
  rcases hb.1.2 with ⟨rfl, hz⟩ | ⟨g, cap, cur, rfl, hge, _⟩
  · have hz' : zs = [] := List.eq_nil_of_length_eq_zero hz
    subst hz'
    go_enter Try.func29, Try.ntmps29
    go_wp2
    refine wp_loop_rounds 1 ?_
    rw [rounds_succ]
    go_wp2
    go_ret
    exact ⟨by simp, hb, Below.refl _ _⟩
  · have hown := hb.1
    have hxl := hown.1
    have hbb := hb.2
    clear hb
    generalize hxs : zs.map Value.string = xs0 at hown hxl
    clear hxs
    generalize zs.length = n at *
    go_enter Try.func29, Try.ntmps29
    go_wp2
    go_loopw [1, 5] (fun kk i wr => ∃ (j : Nat) (xs : List Value), j ≤ n ∧ i = .int .i64 j ∧ kk = .int .i64 (k + (j : Int)) ∧ xs.length = n ∧ (∀ t, t < j → xs[t]? = some (.string (markB (k + (t : Int))))) ∧
        wr.ownsRow base 9 1 (.slice (some ⟨g, 0, none⟩) n cap) n xs ∧ Below base w wr ∧ base ≤ wr.heap.size) (fun _ i _ => n - (intOf i).toNat)
    case atStart => exact ⟨0, xs0, Nat.zero_le _, rfl, by simp, by simpa using hxl, fun t h => absurd h (by omega), hown, Below.refl _ _, hbb⟩
    case round =>
      obtain ⟨j, xs, hj, rfl, rfl, hl, hp, ho, hbel, hsz⟩ := hrel
      clear hown hxl
      have HL := Lib.hid hl
      have HP := Lib.hid hp
      clear hl hp
      by_cases hlt : j < n
      · go_wp2_with fail
        refine (markText_any (k + (j : Int)) _ (by omega) (by omega)).mono ?_
        rintro e w2 ⟨rfl, b2⟩
        have ho2 := own_past ho b2
        obtain ⟨u, hu⟩ : ∃ u, w2.cell? ⟨g, j, none⟩ = some u := by
          rw [ho2.cellAt j (by omega)]
          exact ⟨_, List.getElem?_eq_getElem (by rw [HL.out]; exact hlt)⟩
        have hfz := ho2.frozenAt j
        go_wp2
        go_roundw
        case rel =>
          have hst := ho2.stored j (.string (markB (k + (j : Int))))
          exact ⟨j + 1, xs.set j (.string (markB (k + (j : Int)))), by omega, by go_num, by go_num, by rw [List.length_set]; exact HL.out, markS_set (by rw [HL.out]; exact hlt) HP.out, hst.1, (hbel.trans (b2.mono hsz)).setCell hge _, by have := b2.size; simp [World.setCell]; omega⟩
        case measure => simp [intOf]; omega
      · obtain rfl : j = n := by omega
        go_wp2
        go_ret
        have hxs := marksS_all HL.out HP.out
        subst hxs
        exact ⟨rfl, ⟨by rw [marksB_len]; exact ho, hsz⟩, hbel⟩

set_option maxHeartbeats 1600000 in
theorem heldStringS_any (A : Option Addr) (c n : Nat) (k : Int) (w : World) (hr : Row Value.string w w.heap.size A (marksB k n)) (h0 : 0 < k) (h1 : k ≤ 1073741824) (hn : n ≤ 1073741824) :
    Calls Try.prog 30 #[.slice A n c, .int .i64 k] w fun e w' => e = .returned (.int .i64 (k + (n : Int))) ∧ Below w.heap.size w w' := by
  go_enter Try.func30, Try.ntmps30
  go_wp2
  go_loopw [1, 5] (fun kk i wr => ∃ j : Nat, j ≤ n ∧ i = .int .i64 j ∧ kk = .int .i64 (k + (j : Int)) ∧ Below w.heap.size w wr) (fun _ i _ => n - (intOf i).toNat)
  case atStart => exact ⟨0, Nat.zero_le _, rfl, by simp, Below.refl _ _⟩
  case round =>
    obtain ⟨j, hj, rfl, rfl, hbel⟩ := hrel
    by_cases hlt : j < n
    · obtain ⟨ad, z, rfl, hbl, hz, hc⟩ := hr.at_ (k := j) (by rw [marksB_len]; exact hlt)
      rw [marksB_at hlt] at hz
      have hz' : markB (k + (j : Int)) = z := by injection hz
      rw [← hz'] at hc
      clear hz hz'
      have hc' : wr.cell? (ad.add j) = some (.string (markB (k + (j : Int)))) := by rw [hbel.cell (by rw [block_of_add]; exact hbl)]; exact hc
      go_wp2
      go_region_with (go_at_call 42; refine (markText_any (k + (j : Int)) _ (by omega) (by omega)).mono ?_; rintro e w2 ⟨rfl, b2⟩; have hc2 : w2.cell? (ad.add j) = some (.string (markB (k + (j : Int)))) := by rw [b2.cell (by rw [block_of_add]; exact Nat.lt_of_lt_of_le hbl hbel.size)]; exact hc')
      all_goals
        go_wp2
        go_roundw
        case rel => exact ⟨j + 1, by omega, by go_num, by go_num, hbel.drew.trans (b2.mono hbel.size)⟩
        case measure => simp [intOf]; omega
    · obtain rfl : j = n := by omega
      go_wp2
      go_ret
      exact ⟨rfl, hbel⟩
end Go.Proofs.Ytkcediipkkpofaa.low
