
/-
  Contracts of spec.SignsOk and impl.SignsOk (a slice of integers, each a character) and of the laws' own toIntS (a copy) and eqIntS (equal element by element).
-/
import Derived.Test.YtemhhjagdfkmfaaSign
import Derived.Test.YtemhhjagdfkmfaaMem
import Derived.BigQuiet
import Derived.Deep.QuietTactic
namespace Go.Proofs.Ytemhhjagdfkmfaa.low
open Go.RowKit
set_option linter.unusedVariables false

/-- all are characters -/
def allB (zs : List Int) : Bool := zs.all signB
theorem allB_f {zs : List Int} {k : Nat} {z : Int} (h : zs[k]? = some z) (hz : signB z = false) : allB zs = false := by
  unfold allB
  rw [List.all_eq_false]
  exact ⟨z, List.mem_of_getElem? h, by simp [hz]⟩
theorem allB_snoc {zs : List Int} {k : Nat} {z : Int} (h : zs[k]? = some z) (ha : allB (zs.take k) = true) (hz : signB z = true) : allB (zs.take (k + 1)) = true := by
  unfold allB at *
  rw [List.take_add_one, h]
  simp [ha, hz]
theorem allB_all {zs : List Int} {k : Nat} (hk : zs.length ≤ k) (ha : allB (zs.take k) = true) : allB zs = true := by
  rwa [List.take_of_length_le hk] at ha

set_option maxHeartbeats 400000 in
theorem specSignsOk_any (A : Option Addr) (c : Nat) (zs : List Int) (w : World) (hr : Row (Value.int .i64) w w.heap.size A zs) (hl : zs.length ≤ 4294967296) :
    Calls Try.prog 34 #[.slice A zs.length c] w fun e w' => e = .returned (.bool (allB zs)) ∧ w = w' := by
  go_enter Try.func34, Try.ntmps34
  go_wp2
  go_loop [7] (fun i => ∃ k : Nat, k ≤ zs.length ∧ i = .int .i64 k ∧ allB (zs.take k) = true) (fun i => zs.length - (intOf i).toNat)
  case atStart => exact ⟨0, Nat.zero_le _, rfl, rfl⟩
  case round =>
    obtain ⟨k, hk, rfl, ha⟩ := hrel
    have HA := Lib.hid ha
    clear ha
    by_cases hlt : k < zs.length
    · obtain ⟨ad, z, rfl, hbl, hz, hc⟩ := hr.at_ hlt
      have HZ := Lib.hid hz
      clear hz
      cases hs : signB z
      · go_wp2_with (go_at_call 61; refine (specSignOk_any _ _).mono ?_; rintro e w' ⟨rfl, rfl⟩)
        go_ret
        exact ⟨ret_bool (by rw [allB_f HZ.out hs]), rfl⟩
      · go_wp2_with (go_at_call 61; refine (specSignOk_any _ _).mono ?_; rintro e w' ⟨rfl, rfl⟩)
        go_round
        case rel => exact ⟨k + 1, by omega, by go_num, allB_snoc HZ.out HA.out hs⟩
        case measure => simp [intOf]; omega
    · go_wp2
      go_ret
      exact ⟨ret_bool (by rw [allB_all (by omega) HA.out]), rfl⟩

set_option maxHeartbeats 400000 in
theorem implSignsOk_any (A : Option Addr) (c : Nat) (zs : List Int) (w : World) (hr : Row (Value.int .i64) w w.heap.size A zs) (hl : zs.length ≤ 4294967296) :
    Calls Try.prog 35 #[.slice A zs.length c] w fun e w' => e = .returned (.bool (allB zs)) ∧ w = w' := by
  go_enter Try.func35, Try.ntmps35
  go_wp2
  go_loop [7] (fun i => ∃ k : Nat, k ≤ zs.length ∧ i = .int .i64 k ∧ allB (zs.take k) = true) (fun i => zs.length - (intOf i).toNat)
  case atStart => exact ⟨0, Nat.zero_le _, rfl, rfl⟩
  case round =>
    obtain ⟨k, hk, rfl, ha⟩ := hrel
    have HA := Lib.hid ha
    clear ha
    by_cases hlt : k < zs.length
    · obtain ⟨ad, z, rfl, hbl, hz, hc⟩ := hr.at_ hlt
      have HZ := Lib.hid hz
      clear hz
      cases hs : signB z
      · go_wp2_with (go_at_call 62; refine (implSignOk_any _ _).mono ?_; rintro e w' ⟨rfl, rfl⟩)
        go_ret
        exact ⟨ret_bool (by rw [allB_f HZ.out hs]), rfl⟩
      · go_wp2_with (go_at_call 62; refine (implSignOk_any _ _).mono ?_; rintro e w' ⟨rfl, rfl⟩)
        go_round
        case rel => exact ⟨k + 1, by omega, by go_num, allB_snoc HZ.out HA.out hs⟩
        case measure => simp [intOf]; omega
    · go_wp2
      go_ret
      exact ⟨ret_bool (by rw [allB_all (by omega) HA.out]), rfl⟩

theorem int_info : (Try.prog.info? 3).map (fun i => (i.zero, i.size, i.bytes)) = some (some (.int .i64 0), 1, 8) := by kernel_rfl

/-- what a loop has copied so far -/
theorem set_copy {zs : List Int} {k : Nat} {z : Int} (hz : zs[k]? = some z) {xs : List Value} (hx : xs.length = zs.length)
    (hp : ∀ j, j < k → xs[j]? = (zs[j]?).map (Value.int .i64)) : ∀ j, j < k + 1 → (xs.set k (.int .i64 z))[j]? = (zs[j]?).map (Value.int .i64) := by
  intro j hj
  rw [List.getElem?_set]
  have hk : k < zs.length := by
    rcases Nat.lt_or_ge k zs.length with hlt | hge
    · exact hlt
    · rw [List.getElem?_eq_none hge] at hz; cases hz
  by_cases e : k = j
  · subst e
    rw [if_pos rfl, if_pos (by omega), hz]; rfl
  · rw [if_neg e]
    exact hp j (by omega)
theorem copied {zs : List Int} {xs : List Value} (hx : xs.length = zs.length) (hp : ∀ j, j < zs.length → xs[j]? = (zs[j]?).map (Value.int .i64)) : xs = zs.map (Value.int .i64) := by
  apply List.ext_getElem?
  intro j
  rcases Nat.lt_or_ge j zs.length with hlt | hge
  · rw [hp j hlt, List.getElem?_map]
  · rw [List.getElem?_eq_none (by omega), List.getElem?_eq_none (by simpa using hge)]

/-- the copy that toIntS leaves: a new row of its own -/
def Copied (w : World) (zs : List Int) (e : Ending) (w' : World) : Prop :=
  e = .returned (.slice (some ⟨w.heap.size, 0, none⟩) zs.length zs.length) ∧ Row (Value.int .i64) w' w'.heap.size (some ⟨w.heap.size, 0, none⟩) zs ∧ Below w.heap.size w w'

/-- the same, the row known to be the caller's own -/
def CopiedO (w : World) (zs : List Int) (e : Ending) (w' : World) : Prop :=
  e = .returned (.slice (some ⟨w.heap.size, 0, none⟩) zs.length zs.length) ∧ w'.ownsRow w.heap.size 3 1 (.slice (some ⟨w.heap.size, 0, none⟩) zs.length zs.length) zs.length (zs.map (Value.int .i64)) ∧ Below w.heap.size w w'

set_option maxHeartbeats 800000 in
theorem toIntS_own (A : Option Addr) (c : Nat) (zs : List Int) (w : World) (hr : Row (Value.int .i64) w w.heap.size A zs) (hl : zs.length ≤ 4294967296) :
    Calls Try.prog 10 #[.slice A zs.length c] w (CopiedO w zs) := by
  obtain ⟨i0, hi0, hz0, hz1, hz2⟩ := info_parts int_info
  go_enter Try.func10, Try.ntmps10
  go_wp2_with (at_make; refine wpList_make_full _ rfl _ _ 22 rfl w.heap.size 3 i0 (.int .i64 0) 1 Try.underlying22 hi0 hz0 hz1 _ _ _ _ zs.length rfl rfl (by omega) (by omega) (by rw [hz2]; omega) (by unfold maxLen; omega) (Nat.le_refl _) ?_; intro w1 hown hg)
  have hbel : Below w.heap.size w w1 := (Below.refl _ _).grown hg (Nat.le_refl _) (fun _ h => by cases h)
  go_loopw [4] (fun i wr => ∃ (k : Nat) (xs : List Value), k ≤ zs.length ∧ i = .int .i64 k ∧ xs.length = zs.length ∧ (∀ j, j < k → xs[j]? = (zs[j]?).map (Value.int .i64)) ∧
      wr.ownsRow w.heap.size 3 1 (.slice (some ⟨w.heap.size, 0, none⟩) zs.length zs.length) zs.length xs ∧ Below w.heap.size w wr) (fun i _ => zs.length - (intOf i).toNat)
  case atStart => exact ⟨0, _, Nat.zero_le _, rfl, by simpa using hown.1, fun j hj => absurd hj (by omega), hown, hbel⟩
  case round =>
    obtain ⟨k, xs, hk, rfl, hxl, hp, ho, hb⟩ := hrel
    clear hown hg hbel
    have HXL := Lib.hid hxl
    have HP := Lib.hid hp
    clear hxl hp
    by_cases hlt : k < zs.length
    · obtain ⟨ad, z, rfl, hbl, hz, hc⟩ := hr.at_ hlt
      have HZ := Lib.hid hz
      clear hz
      have hc' : wr.cell? (ad.add k) = some (.int .i64 z) := by rw [hb.cell (by rw [block_of_add]; exact hbl)]; exact hc
      have hd : ∃ u, wr.cell? ⟨w.heap.size, k, none⟩ = some u := by
        rw [ho.cellAt k (by omega)]
        exact ⟨_, List.getElem?_eq_getElem (by rw [HXL.out]; exact hlt)⟩
      obtain ⟨u, hu⟩ := hd
      have hfz := ho.frozenAt k
      go_wp2
      go_roundw
      case rel =>
        have hst := ho.stored k (.int .i64 z)
        exact ⟨k + 1, xs.set k (.int .i64 z), by omega, by go_num, by rw [List.length_set]; exact HXL.out, set_copy HZ.out HXL.out HP.out, hst.1, hb.setCell (Nat.le_refl _) _⟩
      case measure => simp [intOf]; omega
    · go_wp2
      go_ret
      have hke : k = zs.length := by omega
      subst hke
      have hxs := copied HXL.out HP.out
      subst hxs
      exact ⟨rfl, ho, hb⟩

theorem toIntS_any (A : Option Addr) (c : Nat) (zs : List Int) (w : World) (hr : Row (Value.int .i64) w w.heap.size A zs) (hl : zs.length ≤ 4294967296) :
    Calls Try.prog 10 #[.slice A zs.length c] w (Copied w zs) :=
  (toIntS_own A c zs w hr hl).mono fun _ _ ⟨h1, h2, h3⟩ => ⟨h1, Row.of_own h2, h3⟩

/-- equal lists of numbers -/
def sameB (xs ys : List Int) : Bool := decide (xs = ys)
theorem sameB_len {xs ys : List Int} (h : ¬ xs.length = ys.length) : sameB xs ys = false := decide_eq_false fun e => h (by rw [e])
theorem sameB_at {xs ys : List Int} {k : Nat} {x y : Int} (hx : xs[k]? = some x) (hy : ys[k]? = some y) (h : ¬ x = y) : sameB xs ys = false :=
  decide_eq_false fun e => h (by subst e; rw [hx] at hy; injection hy)
theorem take_at {xs ys : List Int} {k : Nat} {x y : Int} (hx : xs[k]? = some x) (hy : ys[k]? = some y) (h : x = y) (ht : xs.take k = ys.take k) : xs.take (k + 1) = ys.take (k + 1) := by
  rw [List.take_add_one, List.take_add_one, hx, hy, ht, h]
theorem sameB_all {xs ys : List Int} {k : Nat} (h1 : xs.length ≤ k) (h2 : ys.length ≤ k) (ht : xs.take k = ys.take k) : sameB xs ys = true :=
  decide_eq_true (by rwa [List.take_of_length_le h1, List.take_of_length_le h2] at ht)
theorem sameB_self (xs : List Int) : sameB xs xs = true := decide_eq_true rfl

/-- it answers b, and has read memory alone -/
def Says (b : Bool) (w : World) (e : Ending) (w' : World) : Prop := e = .returned (.bool b) ∧ ∃ n, w' = w.drewN n

set_option maxHeartbeats 800000 in
theorem eqIntS_any (A B : Option Addr) (c d : Nat) (xs ys : List Int) (w : World) (hx : Row (Value.int .i64) w w.heap.size A xs) (hy : Row (Value.int .i64) w w.heap.size B ys)
    (hl : xs.length ≤ 4294967296) (hl2 : ys.length ≤ 4294967296) :
    Calls Try.prog 12 #[.slice A xs.length c, .slice B ys.length d] w (Says (sameB xs ys) w) := by
  by_cases hlen : xs.length = ys.length
  · have HL := Lib.hid hlen
    have hb : ((xs.length : Int) != (ys.length : Int)) = false := by simp [hlen]
    clear hlen
    go_enter Try.func12, Try.ntmps12
    go_wp2
    go_loopw [5] (fun i wr => ∃ k n : Nat, k ≤ xs.length ∧ i = .int .i64 k ∧ xs.take k = ys.take k ∧ wr = w.drewN n) (fun i _ => xs.length - (intOf i).toNat)
    case atStart => exact ⟨0, 0, Nat.zero_le _, rfl, rfl, rfl⟩
    case round =>
      obtain ⟨k, n, hk, rfl, ht, rfl⟩ := hrel
      have HT := Lib.hid ht
      clear ht
      by_cases hlt : k < xs.length
      · obtain ⟨ad, x, rfl, hbl, hzx, hcx⟩ := hx.at_ hlt
        obtain ⟨bd, y, rfl, hbl', hzy, hcy⟩ := hy.at_ (k := k) (by have := HL.out; omega)
        have hlt2 : k < ys.length := by have := HL.out; omega
        have HZX := Lib.hid hzx
        have HZY := Lib.hid hzy
        clear hzx hzy
        by_cases he : x = y
        · have hne : (x != y) = false := by simp [he]
          have HE := Lib.hid he
          clear he
          go_wp2
          go_quiet (fail)
          go_wp2
          go_roundw
          case rel => exact ⟨k + 1, _, by omega, by go_num, take_at HZX.out HZY.out HE.out HT.out, rfl⟩
          case measure => simp [intOf]; omega
        · have hne : (x != y) = true := by simp [he]
          have HE := Lib.hid he
          clear he
          go_wp2
          go_quiet (fail)
          go_wp2
          go_ret
          exact ⟨ret_bool (by rw [sameB_at HZX.out HZY.out HE.out]), _, World.drewN_drewN _ _ _⟩
      · go_wp2
        go_ret
        exact ⟨ret_bool (by rw [sameB_all (k := k) (by omega) (by have := HL.out; omega) HT.out]), _, rfl⟩
  · have hb : ((xs.length : Int) != (ys.length : Int)) = true := by simp; omega
    have H := Lib.hid (sameB_len hlen)
    clear hlen
    go_enter Try.func12, Try.ntmps12
    go_wp2
    go_ret
    exact ⟨ret_bool (by rw [H.out]), 0, rfl⟩
end Go.Proofs.Ytemhhjagdfkmfaa.low
