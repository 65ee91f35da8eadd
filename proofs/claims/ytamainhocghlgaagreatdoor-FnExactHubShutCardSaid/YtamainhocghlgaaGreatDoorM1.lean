/-
  Texts that the proofs over this seat rest on, one behind the other (1 of 6).
-/
import Derived.Test.YtamainhocghlgaaGreatDoorChecked
import Derived.WalkKit
import Derived.Lib.Hide
import Derived.BigQuiet
import Derived.Deep.QuietTactic
import Derived.Below
import Derived.Laws.OwnMore
import Derived.Deep.Draws
import Derived.Lib.OthersKept
import Derived.WalkSmall
import Derived.Deep.RegionWith
import Derived.ProofKit
import Derived.OpenShut
import Derived.Deep.Slices
import Derived.Lib.SmallJoins
import Derived.OneCell
import Derived.Deep.RegionHeld3
import Derived.Deep.AppendLies
import Derived.Maps.AppendAt
import Derived.Laws.AppendOwnNone

/-
  Contracts of the functions of chapter 2 that look at one character: spec.l01In, spec.SignOk, impl.SignOk.
-/
namespace Go.Proofs.YtamainhocghlgaaGreatDoor.low
open Go.RowKit
set_option linter.unusedVariables false

/-- n lies between lo and hi. -/
def inB (n lo hi : Int) : Bool := decide (lo ≤ n ∧ n ≤ hi)
/-- n is a character. -/
def signB (n : Int) : Bool := decide ((0 ≤ n ∧ n ≤ 1114111) ∧ ¬ (55296 ≤ n ∧ n ≤ 57343))

theorem inB_t {n lo hi : Int} (h : lo ≤ n ∧ n ≤ hi) : inB n lo hi = true := by simp [inB, h]
theorem inB_f {n lo hi : Int} (h : ¬ (lo ≤ n ∧ n ≤ hi)) : inB n lo hi = false := by simpa [inB] using h
theorem signB_t {n : Int} (h : (0 ≤ n ∧ n ≤ 1114111) ∧ ¬ (55296 ≤ n ∧ n ≤ 57343)) : signB n = true := by unfold signB; exact decide_eq_true h
theorem signB_f {n : Int} (h : ¬ ((0 ≤ n ∧ n ≤ 1114111) ∧ ¬ (55296 ≤ n ∧ n ≤ 57343))) : signB n = false := by unfold signB; exact decide_eq_false h
theorem ret_bool {a b : Bool} (h : a = b) : Ending.returned (.bool a) = .returned (.bool b) := by rw [h]

set_option maxHeartbeats 400000 in
theorem in_any (n lo hi : Int) (w : World) :
    Calls Tryz.prog 30 #[.int .i64 n, .int .i64 lo, .int .i64 hi] w fun e w' => e = .returned (.bool (inB n lo hi)) ∧ w = w' := by
  by_cases h1 : lo ≤ n
  · by_cases h2 : n ≤ hi
    · go_enter Tryz.func30, Tryz.ntmps30
      go_wp2
      go_ret
      exact ⟨ret_bool (by simp [inB, h1, h2]), rfl⟩
    · go_enter Tryz.func30, Tryz.ntmps30
      go_wp2
      go_ret
      exact ⟨ret_bool (by simp [inB, h1, h2]), rfl⟩
  · go_enter Tryz.func30, Tryz.ntmps30
    go_wp2
    go_ret
    exact ⟨ret_bool (by rw [inB_f (by omega)]), rfl⟩

set_option maxHeartbeats 400000 in
theorem specSignOk_any (n : Int) (w : World) :
    Calls Tryz.prog 106 #[.int .i64 n] w fun e w' => e = .returned (.bool (signB n)) ∧ w = w' := by
  by_cases h1 : 0 ≤ n ∧ n ≤ 1114111
  · have k1 := inB_t h1
    by_cases h2 : 55296 ≤ n ∧ n ≤ 57343
    · have k2 := inB_t h2
      have H := Lib.hid (signB_f (n := n) (by omega))
      clear h1 h2
      go_enter Tryz.func106, Tryz.ntmps106
      go_wp2_with (go_at_call 30; refine (in_any _ _ _ _).mono ?_; rintro e w' ⟨rfl, rfl⟩)
      go_ret
      exact ⟨ret_bool (by rw [H.out]), rfl⟩
    · have k2 := inB_f h2
      have H := Lib.hid (signB_t (n := n) ⟨h1, h2⟩)
      clear h1 h2
      go_enter Tryz.func106, Tryz.ntmps106
      go_wp2_with (go_at_call 30; refine (in_any _ _ _ _).mono ?_; rintro e w' ⟨rfl, rfl⟩)
      go_ret
      exact ⟨ret_bool (by rw [H.out]), rfl⟩
  · have k1 := inB_f h1
    have H := Lib.hid (signB_f (n := n) (by omega))
    clear h1
    go_enter Tryz.func106, Tryz.ntmps106
    go_wp2_with (go_at_call 30; refine (in_any _ _ _ _).mono ?_; rintro e w' ⟨rfl, rfl⟩)
    go_ret
    exact ⟨ret_bool (by rw [H.out]), rfl⟩

set_option maxHeartbeats 400000 in
theorem implSignOk_any (n : Int) (w : World) :
    Calls Tryz.prog 158 #[.int .i64 n] w fun e w' => e = .returned (.bool (signB n)) ∧ w = w' := by
  rcases (show n < 0 ∨ (0 ≤ n ∧ n < 55296) ∨ (55296 ≤ n ∧ n ≤ 57343) ∨ (57343 < n ∧ n ≤ 1114111) ∨ 1114111 < n by omega) with h | ⟨h1, h2⟩ | ⟨h1, h2⟩ | ⟨h1, h2⟩ | h
  · have H := Lib.hid (signB_f (n := n) (by omega))
    go_enter Tryz.func158, Tryz.ntmps158
    go_wp2
    go_ret
    exact ⟨ret_bool (by rw [H.out]; first | done | (rw [decide_eq_true_iff]; omega) | (rw [decide_eq_false_iff_not]; omega)), rfl⟩
  · have H := Lib.hid (signB_t (n := n) (by omega))
    go_enter Tryz.func158, Tryz.ntmps158
    go_wp2
    go_ret
    exact ⟨ret_bool (by rw [H.out]; first | done | (rw [decide_eq_true_iff]; omega) | (rw [decide_eq_false_iff_not]; omega)), rfl⟩
  · have H := Lib.hid (signB_f (n := n) (by omega))
    go_enter Tryz.func158, Tryz.ntmps158
    go_wp2
    go_ret
    exact ⟨ret_bool (by rw [H.out]; first | done | (rw [decide_eq_true_iff]; omega) | (rw [decide_eq_false_iff_not]; omega)), rfl⟩
  · have H := Lib.hid (signB_t (n := n) (by omega))
    go_enter Tryz.func158, Tryz.ntmps158
    go_wp2
    go_ret
    exact ⟨ret_bool (by rw [H.out]; first | done | (rw [decide_eq_true_iff]; omega) | (rw [decide_eq_false_iff_not]; omega)), rfl⟩
  · have H := Lib.hid (signB_f (n := n) (by omega))
    go_enter Tryz.func158, Tryz.ntmps158
    go_wp2
    go_ret
    exact ⟨ret_bool (by rw [H.out]; first | done | (rw [decide_eq_true_iff]; omega) | (rw [decide_eq_false_iff_not]; omega)), rfl⟩
end Go.Proofs.YtamainhocghlgaaGreatDoor.low


/-
  Words for memory, of no program: a slice that reads as a list of one-celled elements, nil let in; how it is kept.
-/
namespace Go.Proofs.YtamainhocghlgaaGreatDoor.low
open Go.RowKit

theorem block_of_add (a : Addr) (n : Nat) : (a.add n).block = a.block := by unfold Addr.add; split <;> rfl

/-- The slice at A holds the elements zs, each in one cell as f writes it, in a block below B. -/
def Row {α : Type} (f : α → Value) (w : World) (B : Nat) (A : Option Addr) (zs : List α) : Prop :=
  0 < zs.length → ∃ ad, A = some ad ∧ ad.block < B ∧ ∀ (k : Nat) (z : α), zs[k]? = some z → w.cell? (ad.add k) = some (f z)

theorem Row.nil {α : Type} {f : α → Value} {w : World} {B : Nat} {A : Option Addr} : Row f w B A [] := fun h => absurd h (by simp)
theorem Row.at_ {α : Type} {f : α → Value} {w : World} {B : Nat} {A : Option Addr} {zs : List α} {k : Nat} (h : Row f w B A zs) (hk : k < zs.length) :
    ∃ ad z, A = some ad ∧ ad.block < B ∧ zs[k]? = some z ∧ w.cell? (ad.add k) = some (f z) := by
  obtain ⟨ad, e, hb, hc⟩ := h (by omega)
  exact ⟨ad, zs[k], e, hb, List.getElem?_eq_getElem hk, hc k _ (List.getElem?_eq_getElem hk)⟩
theorem Row.keep {α : Type} {f : α → Value} {w w' : World} {B : Nat} {A : Option Addr} {zs : List α} (h : Row f w B A zs)
    (hk : ∀ p : Addr, p.block < B → w'.cell? p = w.cell? p) : Row f w' B A zs := fun hn => by
  obtain ⟨ad, e, hb, hc⟩ := h hn
  exact ⟨ad, e, hb, fun j u hu => (hk _ (by rw [block_of_add]; exact hb)).trans (hc j u hu)⟩
theorem Row.more {α : Type} {f : α → Value} {w : World} {B B' : Nat} {A : Option Addr} {zs : List α} (h : Row f w B A zs) (hB : B ≤ B') : Row f w B' A zs := fun hn => by
  obtain ⟨ad, e, hb, hc⟩ := h hn
  exact ⟨ad, e, by omega, hc⟩
theorem Row.below {α : Type} {f : α → Value} {w w' : World} {B : Nat} {A : Option Addr} {zs : List α} (h : Row f w B A zs) (hb : Below B w w') : Row f w' B A zs := h.keep fun _ hp => hb.cell hp
/-- behind a call that left all old blocks alone -/
theorem Row.past {α : Type} {f : α → Value} {w w' : World} {A : Option Addr} {zs : List α} (h : Row f w w.heap.size A zs) (hb : Below w.heap.size w w') : Row f w' w'.heap.size A zs :=
  (h.below hb).more hb.size
theorem Row.drewN {α : Type} {f : α → Value} {w : World} {B : Nat} {A : Option Addr} {zs : List α} (h : Row f w B A zs) (k : Nat) : Row f (w.drewN k) B A zs := h
theorem Row.of_own {α : Type} {f : α → Value} {w : World} {base n c : Nat} {e : TypeId} {A : Option Addr} {zs : List α} (h : w.ownsRow base e 1 (.slice A n c) n (zs.map f)) :
    Row f w w.heap.size A zs := fun hn => by
  rcases h.2 with ⟨he, h0⟩ | ⟨g, cap, cur, hv, _, hh, hnc, _, hs, ht⟩
  · have := h.1
    simp at this
    omega
  · have hA : A = some ⟨g, 0, none⟩ := by injection hv
    subst hA
    have hlt : g < w.heap.size := by
      rcases Nat.lt_or_ge g w.heap.size with hlt | hge
      · exact hlt
      · rw [Array.getElem?_eq_none hge] at hh; cases hh
    refine ⟨_, rfl, hlt, fun k z hz => ?_⟩
    have hk : k < zs.length := by
      rcases Nat.lt_or_ge k zs.length with hlt | hge
      · exact hlt
      · rw [List.getElem?_eq_none hge] at hz; cases hz
    have h1 := h.1
    simp at h1
    have hcap : c = cap := by injection hv
    subst hcap
    have hc := World.ownsRow.cellAt (g := g) h k (by omega)
    have ha : (Addr.add ⟨g, 0, none⟩ k) = ⟨g, k, none⟩ := by unfold Addr.add; split <;> simp_all
    rw [ha, hc, List.getElem?_map, hz]
    rfl

/-- An argument slice of integers, as the shell of a law hands it over. -/
def IsInts (k : IntKind) (w : World) (a : Option Addr) (len cap : Nat) (zs : List Int) : Prop :=
  (a = none ∧ len = 0 ∧ cap = 0 ∧ zs = []) ∨
  ∃ x, a = some x ∧ len ≤ cap ∧ cap ≤ maxLen ∧ zs.length = cap ∧ (∀ i, i < zs.length → w.cell? (x.add i) = some (.int k (zs.getD i 0))) ∧ ∀ n ∈ zs, (Lit.int k n).wf = true

theorem cell_lt {w : World} {p : Addr} {v : Value} (h : w.cell? p = some v) : p.block < w.heap.size := by
  rcases Nat.lt_or_ge p.block w.heap.size with hlt | hge
  · exact hlt
  · unfold World.cell? at h; rw [Array.getElem?_eq_none hge] at h; simp at h

theorem IsInts.row {k : IntKind} {w : World} {a : Option Addr} {len cap : Nat} {zs : List Int} (h : IsInts k w a len cap zs) :
    ∃ ys : List Int, ys.length = len ∧ Row (Value.int k) w w.heap.size a ys ∧ ∀ n ∈ ys, (Lit.int k n).wf = true := by
  rcases h with ⟨rfl, rfl, rfl, rfl⟩ | ⟨x, rfl, h1, h2, h3, h4, h5⟩
  · exact ⟨[], rfl, Row.nil, by simp⟩
  · refine ⟨zs.take len, by simp; omega, fun hn => ?_, fun n hn => h5 n (List.mem_of_mem_take hn)⟩
    have hl : 0 < len := by simp at hn; omega
    have h0 := cell_lt (h4 0 (by omega))
    rw [block_of_add] at h0
    refine ⟨x, rfl, h0, fun i z hz => ?_⟩
    have hi : i < zs.length := by
      rcases Nat.lt_or_ge i zs.length with hlt | hge
      · exact hlt
      · rw [List.getElem?_eq_none (by simp; omega)] at hz; cases hz
    have hz' : zs[i]? = some z := by
      rw [List.getElem?_take] at hz
      split at hz
      · exact hz
      · cases hz
    rw [h4 i hi]
    simp [List.getD, hz']
end Go.Proofs.YtamainhocghlgaaGreatDoor.low


/-
  Contracts of spec.SignsOk and impl.SignsOk (a slice of integers, each a character) and of the laws' own toIntS (a copy) and eqIntS (equal element by element).
-/
namespace Go.Proofs.YtamainhocghlgaaGreatDoor.low
open Go.RowKit
set_option linter.unusedVariables false

/-- all are characters -/
def allB (zs : List Int) : Bool := zs.all signB
theorem allB_f {zs : List Int} {k : Nat} {z : Int} (h : zs[k]? = some z) (hz : signB z = false) : allB zs = false := by
  unfold allB
  rw [List.all_eq_false]
  exact ⟨z, List.mem_of_getElem? h, by simp [hz]⟩
theorem allB_snoc {zs : List Int} {k : Nat} {z : Int} (h : zs[k]? = some z) (ha : allB (zs.take k) = true) (hz : signB z = true) : allB (zs.take (k + 1)) = true := by
  unfold allB at *
  rw [List.take_add_one, h]
  simp [ha, hz]
theorem allB_all {zs : List Int} {k : Nat} (hk : zs.length ≤ k) (ha : allB (zs.take k) = true) : allB zs = true := by
  rwa [List.take_of_length_le hk] at ha

set_option maxHeartbeats 400000 in
theorem specSignsOk_any (A : Option Addr) (c : Nat) (zs : List Int) (w : World) (hr : Row (Value.int .i64) w w.heap.size A zs) (hl : zs.length ≤ 4294967296) :
    Calls Tryz.prog 87 #[.slice A zs.length c] w fun e w' => e = .returned (.bool (allB zs)) ∧ w = w' := by
  go_enter Tryz.func87, Tryz.ntmps87
  go_wp2
  go_loop [7] (fun i => ∃ k : Nat, k ≤ zs.length ∧ i = .int .i64 k ∧ allB (zs.take k) = true) (fun i => zs.length - (intOf i).toNat)
  case atStart => exact ⟨0, Nat.zero_le _, rfl, rfl⟩
  case round =>
    obtain ⟨k, hk, rfl, ha⟩ := hrel
    have HA := Lib.hid ha
    clear ha
    by_cases hlt : k < zs.length
    · obtain ⟨ad, z, rfl, hbl, hz, hc⟩ := hr.at_ hlt
      have HZ := Lib.hid hz
      clear hz
      cases hs : signB z
      · go_wp2_with (go_at_call 106; refine (specSignOk_any _ _).mono ?_; rintro e w' ⟨rfl, rfl⟩)
        go_ret
        exact ⟨ret_bool (by rw [allB_f HZ.out hs]), rfl⟩
      · go_wp2_with (go_at_call 106; refine (specSignOk_any _ _).mono ?_; rintro e w' ⟨rfl, rfl⟩)
        go_round
        case rel => exact ⟨k + 1, by omega, by go_num, allB_snoc HZ.out HA.out hs⟩
        case measure => simp [intOf]; omega
    · go_wp2
      go_ret
      exact ⟨ret_bool (by rw [allB_all (by omega) HA.out]), rfl⟩

set_option maxHeartbeats 400000 in
theorem implSignsOk_any (A : Option Addr) (c : Nat) (zs : List Int) (w : World) (hr : Row (Value.int .i64) w w.heap.size A zs) (hl : zs.length ≤ 4294967296) :
    Calls Tryz.prog 148 #[.slice A zs.length c] w fun e w' => e = .returned (.bool (allB zs)) ∧ w = w' := by
  go_enter Tryz.func148, Tryz.ntmps148
  go_wp2
  go_loop [7] (fun i => ∃ k : Nat, k ≤ zs.length ∧ i = .int .i64 k ∧ allB (zs.take k) = true) (fun i => zs.length - (intOf i).toNat)
  case atStart => exact ⟨0, Nat.zero_le _, rfl, rfl⟩
  case round =>
    obtain ⟨k, hk, rfl, ha⟩ := hrel
    have HA := Lib.hid ha
    clear ha
    by_cases hlt : k < zs.length
    · obtain ⟨ad, z, rfl, hbl, hz, hc⟩ := hr.at_ hlt
      have HZ := Lib.hid hz
      clear hz
      cases hs : signB z
      · go_wp2_with (go_at_call 158; refine (implSignOk_any _ _).mono ?_; rintro e w' ⟨rfl, rfl⟩)
        go_ret
        exact ⟨ret_bool (by rw [allB_f HZ.out hs]), rfl⟩
      · go_wp2_with (go_at_call 158; refine (implSignOk_any _ _).mono ?_; rintro e w' ⟨rfl, rfl⟩)
        go_round
        case rel => exact ⟨k + 1, by omega, by go_num, allB_snoc HZ.out HA.out hs⟩
        case measure => simp [intOf]; omega
    · go_wp2
      go_ret
      exact ⟨ret_bool (by rw [allB_all (by omega) HA.out]), rfl⟩

theorem int_info : (Tryz.prog.info? 3).map (fun i => (i.zero, i.size, i.bytes)) = some (some (.int .i64 0), 1, 8) := by kernel_rfl

/-- what a loop has copied so far -/
theorem set_copy {zs : List Int} {k : Nat} {z : Int} (hz : zs[k]? = some z) {xs : List Value} (hx : xs.length = zs.length)
    (hp : ∀ j, j < k → xs[j]? = (zs[j]?).map (Value.int .i64)) : ∀ j, j < k + 1 → (xs.set k (.int .i64 z))[j]? = (zs[j]?).map (Value.int .i64) := by
  intro j hj
  rw [List.getElem?_set]
  have hk : k < zs.length := by
    rcases Nat.lt_or_ge k zs.length with hlt | hge
    · exact hlt
    · rw [List.getElem?_eq_none hge] at hz; cases hz
  by_cases e : k = j
  · subst e
    rw [if_pos rfl, if_pos (by omega), hz]; rfl
  · rw [if_neg e]
    exact hp j (by omega)
theorem copied {zs : List Int} {xs : List Value} (hx : xs.length = zs.length) (hp : ∀ j, j < zs.length → xs[j]? = (zs[j]?).map (Value.int .i64)) : xs = zs.map (Value.int .i64) := by
  apply List.ext_getElem?
  intro j
  rcases Nat.lt_or_ge j zs.length with hlt | hge
  · rw [hp j hlt, List.getElem?_map]
  · rw [List.getElem?_eq_none (by omega), List.getElem?_eq_none (by simpa using hge)]

/-- the same, the row known to be the caller's own -/
def CopiedO (w : World) (zs : List Int) (e : Ending) (w' : World) : Prop :=
  e = .returned (.slice (some ⟨w.heap.size, 0, none⟩) zs.length zs.length) ∧ w'.ownsRow w.heap.size 3 1 (.slice (some ⟨w.heap.size, 0, none⟩) zs.length zs.length) zs.length (zs.map (Value.int .i64)) ∧ Below w.heap.size w w'

set_option maxHeartbeats 800000 in
theorem toIntS_own (A : Option Addr) (c : Nat) (zs : List Int) (w : World) (hr : Row (Value.int .i64) w w.heap.size A zs) (hl : zs.length ≤ 4294967296) :
    Calls Tryz.prog 64 #[.slice A zs.length c] w (CopiedO w zs) := by
  obtain ⟨i0, hi0, hz0, hz1, hz2⟩ := info_parts int_info
  go_enter Tryz.func64, Tryz.ntmps64
  go_wp2_with (at_make; refine wpList_make_full _ rfl _ _ 61 rfl w.heap.size 3 i0 (.int .i64 0) 1 Tryz.underlying61 hi0 hz0 hz1 _ _ _ _ zs.length rfl rfl (by omega) (by omega) (by rw [hz2]; omega) (by unfold maxLen; omega) (Nat.le_refl _) ?_; intro w1 hown hg)
  have hbel : Below w.heap.size w w1 := (Below.refl _ _).grown hg (Nat.le_refl _) (fun _ h => by cases h)
  go_loopw [4] (fun i wr => ∃ (k : Nat) (xs : List Value), k ≤ zs.length ∧ i = .int .i64 k ∧ xs.length = zs.length ∧ (∀ j, j < k → xs[j]? = (zs[j]?).map (Value.int .i64)) ∧
      wr.ownsRow w.heap.size 3 1 (.slice (some ⟨w.heap.size, 0, none⟩) zs.length zs.length) zs.length xs ∧ Below w.heap.size w wr) (fun i _ => zs.length - (intOf i).toNat)
  case atStart => exact ⟨0, _, Nat.zero_le _, rfl, by simpa using hown.1, fun j hj => absurd hj (by omega), hown, hbel⟩
  case round =>
    obtain ⟨k, xs, hk, rfl, hxl, hp, ho, hb⟩ := hrel
    clear hown hg hbel
    have HXL := Lib.hid hxl
    have HP := Lib.hid hp
    clear hxl hp
    by_cases hlt : k < zs.length
    · obtain ⟨ad, z, rfl, hbl, hz, hc⟩ := hr.at_ hlt
      have HZ := Lib.hid hz
      clear hz
      have hc' : wr.cell? (ad.add k) = some (.int .i64 z) := by rw [hb.cell (by rw [block_of_add]; exact hbl)]; exact hc
      have hd : ∃ u, wr.cell? ⟨w.heap.size, k, none⟩ = some u := by
        rw [ho.cellAt k (by omega)]
        exact ⟨_, List.getElem?_eq_getElem (by rw [HXL.out]; exact hlt)⟩
      obtain ⟨u, hu⟩ := hd
      have hfz := ho.frozenAt k
      go_wp2
      go_roundw
      case rel =>
        have hst := ho.stored k (.int .i64 z)
        exact ⟨k + 1, xs.set k (.int .i64 z), by omega, by go_num, by rw [List.length_set]; exact HXL.out, set_copy HZ.out HXL.out HP.out, hst.1, hb.setCell (Nat.le_refl _) _⟩
      case measure => simp [intOf]; omega
    · go_wp2
      go_ret
      have hke : k = zs.length := by omega
      subst hke
      have hxs := copied HXL.out HP.out
      subst hxs
      exact ⟨rfl, ho, hb⟩

/-- equal lists of numbers -/
def sameB (xs ys : List Int) : Bool := decide (xs = ys)
theorem sameB_len {xs ys : List Int} (h : ¬ xs.length = ys.length) : sameB xs ys = false := decide_eq_false fun e => h (by rw [e])
theorem sameB_at {xs ys : List Int} {k : Nat} {x y : Int} (hx : xs[k]? = some x) (hy : ys[k]? = some y) (h : ¬ x = y) : sameB xs ys = false :=
  decide_eq_false fun e => h (by subst e; rw [hx] at hy; injection hy)
theorem take_at {xs ys : List Int} {k : Nat} {x y : Int} (hx : xs[k]? = some x) (hy : ys[k]? = some y) (h : x = y) (ht : xs.take k = ys.take k) : xs.take (k + 1) = ys.take (k + 1) := by
  rw [List.take_add_one, List.take_add_one, hx, hy, ht, h]
theorem sameB_all {xs ys : List Int} {k : Nat} (h1 : xs.length ≤ k) (h2 : ys.length ≤ k) (ht : xs.take k = ys.take k) : sameB xs ys = true :=
  decide_eq_true (by rwa [List.take_of_length_le h1, List.take_of_length_le h2] at ht)
theorem sameB_self (xs : List Int) : sameB xs xs = true := decide_eq_true rfl

/-- it answers b, and has read memory alone -/
def Says (b : Bool) (w : World) (e : Ending) (w' : World) : Prop := e = .returned (.bool b) ∧ ∃ n, w' = w.drewN n

set_option maxHeartbeats 800000 in
theorem eqIntS_any (A B : Option Addr) (c d : Nat) (xs ys : List Int) (w : World) (hx : Row (Value.int .i64) w w.heap.size A xs) (hy : Row (Value.int .i64) w w.heap.size B ys)
    (hl : xs.length ≤ 4294967296) (hl2 : ys.length ≤ 4294967296) :
    Calls Tryz.prog 80 #[.slice A xs.length c, .slice B ys.length d] w (Says (sameB xs ys) w) := by
  by_cases hlen : xs.length = ys.length
  · have HL := Lib.hid hlen
    have hb : ((xs.length : Int) != (ys.length : Int)) = false := by simp [hlen]
    clear hlen
    go_enter Tryz.func80, Tryz.ntmps80
    go_wp2
    go_loopw [5] (fun i wr => ∃ k n : Nat, k ≤ xs.length ∧ i = .int .i64 k ∧ xs.take k = ys.take k ∧ wr = w.drewN n) (fun i _ => xs.length - (intOf i).toNat)
    case atStart => exact ⟨0, 0, Nat.zero_le _, rfl, rfl, rfl⟩
    case round =>
      obtain ⟨k, n, hk, rfl, ht, rfl⟩ := hrel
      have HT := Lib.hid ht
      clear ht
      by_cases hlt : k < xs.length
      · obtain ⟨ad, x, rfl, hbl, hzx, hcx⟩ := hx.at_ hlt
        obtain ⟨bd, y, rfl, hbl', hzy, hcy⟩ := hy.at_ (k := k) (by have := HL.out; omega)
        have hlt2 : k < ys.length := by have := HL.out; omega
        have HZX := Lib.hid hzx
        have HZY := Lib.hid hzy
        clear hzx hzy
        by_cases he : x = y
        · have hne : (x != y) = false := by simp [he]
          have HE := Lib.hid he
          clear he
          go_wp2
          go_quiet (fail)
          go_wp2
          go_roundw
          case rel => exact ⟨k + 1, _, by omega, by go_num, take_at HZX.out HZY.out HE.out HT.out, rfl⟩
          case measure => simp [intOf]; omega
        · have hne : (x != y) = true := by simp [he]
          have HE := Lib.hid he
          clear he
          go_wp2
          go_quiet (fail)
          go_wp2
          go_ret
          exact ⟨ret_bool (by rw [sameB_at HZX.out HZY.out HE.out]), _, World.drewN_drewN _ _ _⟩
      · go_wp2
        go_ret
        exact ⟨ret_bool (by rw [sameB_all (k := k) (by omega) (by have := HL.out; omega) HT.out]), _, rfl⟩
  · have hb : ((xs.length : Int) != (ys.length : Int)) = true := by simp; omega
    have H := Lib.hid (sameB_len hlen)
    clear hlen
    go_enter Tryz.func80, Tryz.ntmps80
    go_wp2
    go_ret
    exact ⟨ret_bool (by rw [H.out]), 0, rfl⟩
end Go.Proofs.YtamainhocghlgaaGreatDoor.low


/-
  Contracts of spec.SignsSame, of the library's slices.Equal at []int and of impl.SignsSame: two lists of numbers are equal.
-/
namespace Go.Proofs.YtamainhocghlgaaGreatDoor.low
open Go.RowKit
set_option linter.unusedVariables false

set_option maxHeartbeats 800000 in
theorem specSignsSame_any (A B : Option Addr) (c d : Nat) (xs ys : List Int) (w : World) (hx : Row (Value.int .i64) w w.heap.size A xs) (hy : Row (Value.int .i64) w w.heap.size B ys)
    (hl : xs.length ≤ 4294967296) (hl2 : ys.length ≤ 4294967296) :
    Calls Tryz.prog 126 #[.slice A xs.length c, .slice B ys.length d] w (Says (sameB xs ys) w) := by
  by_cases hlen : xs.length = ys.length
  · have HL := Lib.hid hlen
    have hb : ((xs.length : Int) != (ys.length : Int)) = false := by simp [hlen]
    clear hlen
    go_enter Tryz.func126, Tryz.ntmps126
    go_wp2
    go_loopw [13] (fun i wr => ∃ k n : Nat, k ≤ xs.length ∧ i = .int .i64 k ∧ xs.take k = ys.take k ∧ wr = w.drewN n) (fun i _ => xs.length - (intOf i).toNat)
    case atStart => exact ⟨0, 0, Nat.zero_le _, rfl, rfl, rfl⟩
    case round =>
      obtain ⟨k, n, hk, rfl, ht, rfl⟩ := hrel
      have HT := Lib.hid ht
      clear ht
      by_cases hlt : k < xs.length
      · obtain ⟨ad, x, rfl, hbl, hzx, hcx⟩ := hx.at_ hlt
        obtain ⟨bd, y, rfl, hbl', hzy, hcy⟩ := hy.at_ (k := k) (by have := HL.out; omega)
        have hlt2 : k < ys.length := by have := HL.out; omega
        have HZX := Lib.hid hzx
        have HZY := Lib.hid hzy
        clear hzx hzy
        by_cases he : x = y
        · have hne : (x != y) = false := by simp [he]
          have HE := Lib.hid he
          clear he
          go_wp2
          go_quiet (fail)
          go_wp2
          go_roundw
          case rel => exact ⟨k + 1, _, by omega, by go_num, take_at HZX.out HZY.out HE.out HT.out, rfl⟩
          case measure => simp [intOf]; omega
        · have hne : (x != y) = true := by simp [he]
          have HE := Lib.hid he
          clear he
          go_wp2
          go_quiet (fail)
          go_wp2
          go_ret
          exact ⟨ret_bool (by rw [sameB_at HZX.out HZY.out HE.out]), _, World.drewN_drewN _ _ _⟩
      · go_wp2
        go_ret
        exact ⟨ret_bool (by rw [sameB_all (k := k) (by omega) (by have := HL.out; omega) HT.out]), _, rfl⟩
  · have hb : ((xs.length : Int) != (ys.length : Int)) = true := by simp; omega
    have H := Lib.hid (sameB_len hlen)
    clear hlen
    go_enter Tryz.func126, Tryz.ntmps126
    go_wp2
    go_ret
    exact ⟨ret_bool (by rw [H.out]), 0, rfl⟩

set_option maxHeartbeats 800000 in
theorem slicesEqual_any (A B : Option Addr) (c d : Nat) (xs ys : List Int) (w : World) (hx : Row (Value.int .i64) w w.heap.size A xs) (hy : Row (Value.int .i64) w w.heap.size B ys)
    (hl : xs.length ≤ 4294967296) (hl2 : ys.length ≤ 4294967296) :
    Calls Tryz.prog 188 #[.slice A xs.length c, .slice B ys.length d] w (Says (sameB xs ys) w) := by
  by_cases hlen : xs.length = ys.length
  · have HL := Lib.hid hlen
    have hb : ((xs.length : Int) != (ys.length : Int)) = false := by simp [hlen]
    clear hlen
    go_enter Tryz.func188, Tryz.ntmps188
    go_wp2
    go_loopw [13] (fun i wr => ∃ k n : Nat, k ≤ xs.length ∧ i = .int .i64 k ∧ xs.take k = ys.take k ∧ wr = w.drewN n) (fun i _ => xs.length - (intOf i).toNat)
    case atStart => exact ⟨0, 0, Nat.zero_le _, rfl, rfl, rfl⟩
    case round =>
      obtain ⟨k, n, hk, rfl, ht, rfl⟩ := hrel
      have HT := Lib.hid ht
      clear ht
      by_cases hlt : k < xs.length
      · obtain ⟨ad, x, rfl, hbl, hzx, hcx⟩ := hx.at_ hlt
        obtain ⟨bd, y, rfl, hbl', hzy, hcy⟩ := hy.at_ (k := k) (by have := HL.out; omega)
        have hlt2 : k < ys.length := by have := HL.out; omega
        have HZX := Lib.hid hzx
        have HZY := Lib.hid hzy
        clear hzx hzy
        by_cases he : x = y
        · have hne : (x != y) = false := by simp [he]
          have HE := Lib.hid he
          clear he
          go_wp2
          go_quiet (fail)
          go_wp2
          go_roundw
          case rel => exact ⟨k + 1, _, by omega, by go_num, take_at HZX.out HZY.out HE.out HT.out, rfl⟩
          case measure => simp [intOf]; omega
        · have hne : (x != y) = true := by simp [he]
          have HE := Lib.hid he
          clear he
          go_wp2
          go_quiet (fail)
          go_wp2
          go_ret
          exact ⟨ret_bool (by rw [sameB_at HZX.out HZY.out HE.out]), _, World.drewN_drewN _ _ _⟩
      · go_wp2
        go_ret
        exact ⟨ret_bool (by rw [sameB_all (k := k) (by omega) (by have := HL.out; omega) HT.out]), _, rfl⟩
  · have hb : ((xs.length : Int) != (ys.length : Int)) = true := by simp; omega
    have H := Lib.hid (sameB_len hlen)
    clear hlen
    go_enter Tryz.func188, Tryz.ntmps188
    go_wp2
    go_ret
    exact ⟨ret_bool (by rw [H.out]), 0, rfl⟩

set_option maxHeartbeats 400000 in
theorem implSignsSame_any (A B : Option Addr) (c d : Nat) (xs ys : List Int) (w : World) (hx : Row (Value.int .i64) w w.heap.size A xs) (hy : Row (Value.int .i64) w w.heap.size B ys)
    (hl : xs.length ≤ 4294967296) (hl2 : ys.length ≤ 4294967296) :
    Calls Tryz.prog 178 #[.slice A xs.length c, .slice B ys.length d] w (Says (sameB xs ys) w) := by
  go_enter Tryz.func178, Tryz.ntmps178
  go_wp2_with fail
  refine (slicesEqual_any _ _ _ _ xs ys _ hx hy hl hl2).mono ?_
  rintro e w' ⟨rfl, n, rfl⟩
  go_wp2
  go_ret
  exact ⟨rfl, n, rfl⟩
end Go.Proofs.YtamainhocghlgaaGreatDoor.low


/-
  Words for memory: a row of numbers of the caller's own.
-/
namespace Go.Proofs.YtamainhocghlgaaGreatDoor.low
open Go.RowKit
set_option linter.unusedVariables false

theorem lt_of_some {w : World} {g : Nat} {o : Obj} (h : w.heap[g]? = some o) : g < w.heap.size := by
  rcases Nat.lt_or_ge g w.heap.size with hlt | hge
  · exact hlt
  · rw [Array.getElem?_eq_none hge] at h; cases h
/-- v is a row of numbers of the caller's own -/
def IBuf (base : Nat) (w : World) (v : Value) (zs : List Int) : Prop := w.ownsRow base 3 1 v zs.length (zs.map (Value.int .i64)) ∧ base ≤ w.heap.size
theorem IBuf.alloc {base : Nat} {w : World} {v : Value} {bs : List Int} (h : IBuf base w v bs) (o : Obj) : IBuf base (w.alloc o) v bs := ⟨h.1.alloc o, by have := h.2; simp; omega⟩
theorem IBuf.nil (base : Nat) (w : World) (h : base ≤ w.heap.size) : IBuf base w (.slice none 0 0) [] := ⟨World.ownsRow_nil _ _ _ _, h⟩
theorem IBuf.slice {base : Nat} {w : World} {v : Value} {zs : List Int} (h : IBuf base w v zs) : ∃ A c, v = .slice A zs.length c ∧ Row (Value.int .i64) w w.heap.size A zs := by
  rcases h.1.2 with ⟨rfl, h0⟩ | ⟨g, cap, cur, rfl, _⟩
  · have : zs = [] := List.eq_nil_of_length_eq_zero h0
    subst this
    exact ⟨none, 0, rfl, Row.nil⟩
  · exact ⟨_, cap, rfl, Row.of_own h.1⟩
theorem IBuf.own {base : Nat} {w : World} {v : Value} {zs : List Int} (h : IBuf base w v zs) : ∀ k, v.ownBlock = some k → base ≤ k := by
  intro k hk
  rcases h.1.2 with ⟨rfl, _⟩ | ⟨g, cap, cur, rfl, hge, _⟩
  · simp [Value.ownBlock] at hk
  · simp [Value.ownBlock] at hk; omega
/-- behind a call that left all old blocks alone -/
theorem IBuf.past {base : Nat} {w w' : World} {v : Value} {zs : List Int} (h : IBuf base w v zs) (hb : Below w.heap.size w w') : IBuf base w' v zs := by
  refine ⟨⟨h.1.1, ?_⟩, Nat.le_trans h.2 hb.size⟩
  rcases h.1.2 with hn | ⟨g, cap, cur, hv, hge, hh, hr⟩
  · exact .inl hn
  · have hlt : g < w.heap.size := by
      rcases Nat.lt_or_ge g w.heap.size with hlt | hge
      · exact hlt
      · rw [Array.getElem?_eq_none hge] at hh; cases hh
    exact .inr ⟨g, cap, cur, hv, hge, (hb.block g hlt).trans hh, hr⟩
end Go.Proofs.YtamainhocghlgaaGreatDoor.low


/-
  Words for memory: a part (three cells, the last a slice of numbers) and a slice of parts; contracts of the laws' own szIntS, szPart, szPartS, eqPart, eqPartS, toPart, toPartS.
-/
namespace Go.Proofs.YtamainhocghlgaaGreatDoor.low
open Go.RowKit
set_option linter.unusedVariables false

structure Pt where
  kind : Int
  n : Int
  signs : List Int

/-- the three cells at place o of block b hold the part p; its characters lie below B -/
def PtAt (w : World) (B : Nat) (b o : Nat) (p : Pt) : Prop :=
  w.cell? ⟨b, o, none⟩ = some (.int .i64 p.kind) ∧ w.cell? ⟨b, o + 1, none⟩ = some (.int .i64 p.n) ∧
  ∃ A c, w.cell? ⟨b, o + 2, none⟩ = some (.slice A p.signs.length c) ∧ Row (Value.int .i64) w B A p.signs
/-- the slice at A holds the parts ps -/
def PRow (w : World) (B : Nat) (A : Option Addr) (ps : List Pt) : Prop :=
  0 < ps.length → ∃ b off, A = some ⟨b, off, none⟩ ∧ b < B ∧ ∀ (i : Nat) (p : Pt), ps[i]? = some p → PtAt w B b (off + i * 3) p

theorem PtAt.keep {w w' : World} {B b o : Nat} {p : Pt} (h : PtAt w B b o p) (hb : b < B) (hk : ∀ q : Addr, q.block < B → w'.cell? q = w.cell? q) : PtAt w' B b o p := by
  obtain ⟨h1, h2, A, c, h3, h4⟩ := h
  exact ⟨(hk _ hb).trans h1, (hk _ hb).trans h2, A, c, (hk _ hb).trans h3, h4.keep hk⟩
theorem PtAt.more {w : World} {B B' b o : Nat} {p : Pt} (h : PtAt w B b o p) (hB : B ≤ B') : PtAt w B' b o p := by
  obtain ⟨h1, h2, A, c, h3, h4⟩ := h
  exact ⟨h1, h2, A, c, h3, h4.more hB⟩
theorem PRow.nil {w : World} {B : Nat} {A : Option Addr} : PRow w B A [] := fun h => absurd h (by simp)
theorem PRow.keep {w w' : World} {B : Nat} {A : Option Addr} {ps : List Pt} (h : PRow w B A ps) (hk : ∀ q : Addr, q.block < B → w'.cell? q = w.cell? q) : PRow w' B A ps := fun hn => by
  obtain ⟨b, off, e, hb, hc⟩ := h hn
  exact ⟨b, off, e, hb, fun i p hp => (hc i p hp).keep hb hk⟩
theorem PRow.more {w : World} {B B' : Nat} {A : Option Addr} {ps : List Pt} (h : PRow w B A ps) (hB : B ≤ B') : PRow w B' A ps := fun hn => by
  obtain ⟨b, off, e, hb, hc⟩ := h hn
  exact ⟨b, off, e, by omega, fun i p hp => (hc i p hp).more hB⟩
theorem PRow.below {w w' : World} {B : Nat} {A : Option Addr} {ps : List Pt} (h : PRow w B A ps) (hb : Below B w w') : PRow w' B A ps := h.keep fun _ hp => hb.cell hp
theorem PRow.past {w w' : World} {A : Option Addr} {ps : List Pt} (h : PRow w w.heap.size A ps) (hb : Below w.heap.size w w') : PRow w' w'.heap.size A ps := (h.below hb).more hb.size
theorem PRow.at_ {w : World} {B : Nat} {A : Option Addr} {ps : List Pt} {k : Nat} (h : PRow w B A ps) (hk : k < ps.length) :
    ∃ b off p, A = some ⟨b, off, none⟩ ∧ b < B ∧ ps[k]? = some p ∧ PtAt w B b (off + k * 3) p := by
  obtain ⟨b, off, e, hb, hc⟩ := h (by omega)
  exact ⟨b, off, ps[k], e, hb, List.getElem?_eq_getElem hk, hc k _ (List.getElem?_eq_getElem hk)⟩
theorem Row.past_alloc {α : Type} {f : α → Value} {w : World} {A : Option Addr} {zs : List α} (h : Row f w w.heap.size A zs) (o : Obj) : Row f (w.alloc o) (w.alloc o).heap.size A zs := h.past ((Below.refl _ _).alloc (Nat.le_refl _) o)

/-- how many characters the parts hold -/
def signsIn (ps : List Pt) : Nat := (ps.map fun p => p.signs.length).sum
theorem signsIn_snoc {ps : List Pt} {k : Nat} {p : Pt} (h : ps[k]? = some p) : signsIn (ps.take (k + 1)) = signsIn (ps.take k) + p.signs.length := by
  unfold signsIn
  rw [List.take_add_one, h]
  simp
theorem signsIn_at {ps : List Pt} {k : Nat} {p : Pt} (h : ps[k]? = some p) : p.signs.length ≤ signsIn ps := by
  have hm := List.mem_of_getElem? h
  clear h
  unfold signsIn
  induction ps with
  | nil => cases hm
  | cons q r ih =>
    rw [List.map_cons, List.sum_cons]
    rcases List.mem_cons.1 hm with rfl | hm
    · omega
    · have := ih hm; omega

/-- it returns a number; if that is not negative, so much has room -/
def Sized (m : Nat) (left : Int) (w : World) (e : Ending) (w' : World) : Prop := ∃ r : Int, e = .returned (.int .i64 r) ∧ (r = -1 ∨ (0 ≤ r ∧ r = left - (m : Int))) ∧ Below w.heap.size w w'

set_option maxHeartbeats 400000 in
theorem szIntS_any (A : Option Addr) (len c : Nat) (left : Int) (w : World) (h0 : 0 ≤ left) (h1 : left ≤ 1048576) (hl : len ≤ 9223372036854775807) :
    Calls Tryz.prog 54 #[.slice A len c, .int .i64 left] w (Sized len left w) := by
  by_cases h : (len : Int) ≤ left
  · go_enter Tryz.func54, Tryz.ntmps54
    go_wp2
    go_ret
    exact ⟨_, rfl, .inr ⟨by omega, rfl⟩, Below.refl _ _⟩
  · have h' : left - (len : Int) < 0 := by omega
    go_enter Tryz.func54, Tryz.ntmps54
    go_wp2
    go_ret
    exact ⟨_, rfl, .inl rfl, Below.refl _ _⟩

set_option maxHeartbeats 400000 in
theorem szPart_any (k n : Int) (A : Option Addr) (len c : Nat) (left : Int) (w : World) (h0 : 0 ≤ left) (h1 : left ≤ 1048576) (hl : len ≤ 9223372036854775807) :
    Calls Tryz.prog 122 #[.agg #[.int .i64 k, .int .i64 n, .slice A len c], .int .i64 left] w (Sized len left w) := by
  go_enter Tryz.func122, Tryz.ntmps122
  go_wp2_with fail
  refine (szIntS_any A len c left _ h0 h1 hl).mono ?_
  rintro e w1 ⟨r, rfl, hr, b1⟩
  have hb : Below w.heap.size w w1 := ((Below.refl _ _).alloc (Nat.le_refl _) _).trans (b1.mono (by simp))
  rcases hr with rfl | ⟨hr0, hr1⟩
  · go_wp2
    go_ret
    exact ⟨_, rfl, .inl rfl, hb⟩
  · have HR := Lib.hid hr1
    clear hr1
    go_wp2
    go_ret
    exact ⟨_, rfl, .inr ⟨hr0, HR.out⟩, hb⟩

set_option maxHeartbeats 1600000 in
theorem szPartS_any (A : Option Addr) (c : Nat) (ps : List Pt) (left : Int) (w : World) (hr : PRow w w.heap.size A ps) (h0 : 0 ≤ left) (h1 : left ≤ 1048576) (hl : ps.length ≤ 9223372036854775807)
    (hls : ∀ p ∈ ps, p.signs.length ≤ 9223372036854775807) :
    Calls Tryz.prog 105 #[.slice A ps.length c, .int .i64 left] w (Sized (ps.length + signsIn ps) left w) := by
  by_cases h : (ps.length : Int) ≤ left
  · go_enter Tryz.func105, Tryz.ntmps105
    go_wp2
    go_loopw [1, 5] (fun l i wr => ∃ j : Nat, j ≤ ps.length ∧ i = .int .i64 j ∧ l = .int .i64 (left - (ps.length : Int) - (signsIn (ps.take j) : Int)) ∧ 0 ≤ left - (ps.length : Int) - (signsIn (ps.take j) : Int) ∧ Below w.heap.size w wr) (fun _ i _ => ps.length - (intOf i).toNat)
    case atStart => exact ⟨0, Nat.zero_le _, rfl, by simp [signsIn], by simp [signsIn]; omega, Below.refl _ _⟩
    case round =>
      obtain ⟨j, hj, rfl, rfl, hs, hbel⟩ := hrel
      by_cases hlt : j < ps.length
      · obtain ⟨b, off, p, rfl, hb, hp, hc⟩ := hr.at_ hlt
        have hc' := hc.keep (w' := wr) hb (fun _ hq => hbel.cell hq)
        obtain ⟨c0, c1, A', c', c2, _⟩ := hc'
        have HS := Lib.hid (signsIn_snoc hp)
        have hlp := hls p (List.mem_of_getElem? hp)
        have hb1 : left - (ps.length : Int) - (signsIn (ps.take j) : Int) ≤ 1048576 := by omega
        clear hp hc
        generalize hq : left - (ps.length : Int) - (signsIn (ps.take j) : Int) = q at *
        have HQ := Lib.hid hq
        clear hq
        go_wp2_with fail
        refine (szPart_any p.kind p.n A' p.signs.length c' q _ hs hb1 hlp).mono ?_
        rintro e w1 ⟨r, rfl, hr', b1⟩
        rcases hr' with rfl | ⟨hr0, hr1⟩
        · go_wp2
          go_ret
          exact ⟨_, rfl, .inl rfl, hbel.trans (b1.mono hbel.size)⟩
        · have HR := Lib.hid hr1
          clear hr1
          go_wp2
          go_roundw
          case rel =>
            have e1 : r = left - (ps.length : Int) - (signsIn (ps.take (j + 1)) : Int) := by rw [HR.out, HS.out, ← HQ.out]; omega
            exact ⟨j + 1, by omega, by go_num, by rw [e1], by rw [← e1]; exact hr0, hbel.trans (b1.mono hbel.size)⟩
          case measure => simp [intOf]; omega
      · have hke : ps.take j = ps := List.take_of_length_le (by omega)
        rw [hke] at hs ⊢
        go_wp2
        go_ret
        exact ⟨_, rfl, .inr ⟨hs, by omega⟩, hbel⟩
  · have h' : left - (ps.length : Int) < 0 := by omega
    go_enter Tryz.func105, Tryz.ntmps105
    go_wp2
    go_ret
    exact ⟨_, rfl, .inl rfl, Below.refl _ _⟩

/-- it answers b, and has made memory alone -/
def Tells (b : Bool) (w : World) (e : Ending) (w' : World) : Prop := e = .returned (.bool b) ∧ Below w.heap.size w w'
theorem says_tells {b : Bool} {w w' : World} {e : Ending} (h : Says b w e w') : Tells b w e w' := by
  obtain ⟨h1, n, rfl⟩ := h
  exact ⟨h1, ⟨rfl, rfl, rfl, Nat.le_refl _, fun _ _ => rfl⟩⟩
/-- equal parts -/
def samePt (p q : Pt) : Bool := p.kind == q.kind && p.n == q.n && sameB p.signs q.signs
theorem samePt_self (p : Pt) : samePt p p = true := by simp [samePt, sameB_self]

set_option maxHeartbeats 800000 in
theorem eqPart_any (p q : Pt) (A A' : Option Addr) (c c' : Nat) (w : World) (hp : Row (Value.int .i64) w w.heap.size A p.signs) (hq : Row (Value.int .i64) w w.heap.size A' q.signs) (h1 : p.signs.length ≤ 4294967296) (h2 : q.signs.length ≤ 4294967296) :
    Calls Tryz.prog 141 #[.agg #[.int .i64 p.kind, .int .i64 p.n, .slice A p.signs.length c], .agg #[.int .i64 q.kind, .int .i64 q.n, .slice A' q.signs.length c']] w (Tells (samePt p q) w) := by
  obtain ⟨k, n, zs⟩ := p
  obtain ⟨k', n', zs'⟩ := q
  have hbb : ∀ o o' : Obj, Below w.heap.size w ((w.alloc o).alloc o') := fun o o' => ((Below.refl _ _).alloc (Nat.le_refl _) _).alloc (by simp) _
  by_cases hk : k = k'
  · by_cases hn : n = n'
    · cases hs : sameB zs zs'
      all_goals
        have HS := Lib.hid (show samePt ⟨k, n, zs⟩ ⟨k', n', zs'⟩ = sameB zs zs' by unfold samePt; simp [hk, hn])
        have hk1 : (k != k') = false := by simp [hk]
        have hn1 : (n != n') = false := by simp [hn]
        clear hk hn
        go_enter Tryz.func141, Tryz.ntmps141
        go_wp2_with fail
        refine (eqIntS_any A A' c c' zs zs' _ ((hp.past_alloc _).past_alloc _) ((hq.past_alloc _).past_alloc _) h1 h2).mono ?_
        intro e w1 hsay
        obtain ⟨rfl, b1⟩ := says_tells hsay
        go_wp2
        go_ret
        refine ⟨ret_bool (by rw [HS.out, hs]), (hbb _ _).trans (b1.mono (by simp; omega))⟩
    · have HS := Lib.hid (show samePt ⟨k, n, zs⟩ ⟨k', n', zs'⟩ = false by unfold samePt; simp [hn])
      have hk1 : (k != k') = false := by simp [hk]
      have hn1 : (n != n') = true := by simp [hn]
      clear hk hn
      go_enter Tryz.func141, Tryz.ntmps141
      go_wp2
      go_ret
      exact ⟨ret_bool (by rw [HS.out]), hbb _ _⟩
  · have HS := Lib.hid (show samePt ⟨k, n, zs⟩ ⟨k', n', zs'⟩ = false by unfold samePt; simp [hk])
    have hk1 : (k != k') = true := by simp [hk]
    clear hk
    go_enter Tryz.func141, Tryz.ntmps141
    go_wp2
    go_ret
    exact ⟨ret_bool (by rw [HS.out]), hbb _ _⟩

/-- equal lists of parts -/
def samePs : List Pt → List Pt → Bool
  | [], [] => true
  | p :: ps, q :: qs => samePt p q && samePs ps qs
  | _, _ => false
theorem samePs_self : ∀ ps : List Pt, samePs ps ps = true
  | [] => rfl
  | p :: ps => by show (samePt p p && samePs ps ps) = true; rw [samePt_self, samePs_self ps]; rfl
theorem samePs_len : ∀ ps qs : List Pt, samePs ps qs = true → ps.length = qs.length
  | [], [], _ => rfl
  | p :: ps, q :: qs, h => by
    have h' : (samePt p q && samePs ps qs) = true := h
    rw [Bool.and_eq_true] at h'
    rw [List.length_cons, List.length_cons, samePs_len ps qs h'.2]
theorem samePs_at : ∀ (ps qs : List Pt) (k : Nat) (p q : Pt), ps[k]? = some p → qs[k]? = some q → samePt p q = false → samePs ps qs = false
  | [], _, k, p, q, hp, _, _ => by simp at hp
  | _ :: _, [], k, p, q, _, hq, _ => by simp at hq
  | a :: ps, b :: qs, k, p, q, hp, hq, h => by
    show (samePt a b && samePs ps qs) = false
    cases k with
    | zero =>
      simp at hp hq
      subst hp; subst hq
      rw [h]; rfl
    | succ k =>
      rw [samePs_at ps qs k p q (by simpa using hp) (by simpa using hq) h]
      simp
theorem samePs_snoc : ∀ (ps qs : List Pt) (k : Nat) (p q : Pt), ps[k]? = some p → qs[k]? = some q → samePt p q = true → samePs (ps.take k) (qs.take k) = true → samePs (ps.take (k + 1)) (qs.take (k + 1)) = true
  | [], _, k, p, q, hp, _, _, _ => by simp at hp
  | _ :: _, [], k, p, q, _, hq, _, _ => by simp at hq
  | a :: ps, b :: qs, k, p, q, hp, hq, h, ht => by
    cases k with
    | zero =>
      simp at hp hq
      subst hp; subst hq
      show (samePt a b && samePs (ps.take 0) (qs.take 0)) = true
      rw [h]; rfl
    | succ k =>
      have ht' : (samePt a b && samePs (ps.take k) (qs.take k)) = true := ht
      rw [Bool.and_eq_true] at ht'
      show (samePt a b && samePs (ps.take (k + 1)) (qs.take (k + 1))) = true
      rw [ht'.1, samePs_snoc ps qs k p q (by simpa using hp) (by simpa using hq) h ht'.2]
      rfl

set_option maxHeartbeats 1600000 in
theorem eqPartS_any (A B : Option Addr) (c d : Nat) (ps qs : List Pt) (w : World) (hx : PRow w w.heap.size A ps) (hy : PRow w w.heap.size B qs)
    (hl : ps.length ≤ 4294967296) (hl2 : qs.length ≤ 4294967296) (hs : ∀ p ∈ ps, p.signs.length ≤ 4294967296) (hs2 : ∀ p ∈ qs, p.signs.length ≤ 4294967296) :
    Calls Tryz.prog 121 #[.slice A ps.length c, .slice B qs.length d] w (Tells (samePs ps qs) w) := by
  by_cases hlen : ps.length = qs.length
  · have HL := Lib.hid hlen
    have hb : ((ps.length : Int) != (qs.length : Int)) = false := by simp [hlen]
    clear hlen
    go_enter Tryz.func121, Tryz.ntmps121
    go_wp2
    go_loopw [5] (fun i wr => ∃ k : Nat, k ≤ ps.length ∧ i = .int .i64 k ∧ samePs (ps.take k) (qs.take k) = true ∧ Below w.heap.size w wr) (fun i _ => ps.length - (intOf i).toNat)
    case atStart => exact ⟨0, Nat.zero_le _, rfl, rfl, Below.refl _ _⟩
    case round =>
      obtain ⟨k, hk, rfl, ht, hbel⟩ := hrel
      have HT := Lib.hid ht
      clear ht
      by_cases hlt : k < ps.length
      · have hlt2 : k < qs.length := by have := HL.out; omega
        obtain ⟨b1, o1, p, rfl, hb1, hp, hc1⟩ := hx.at_ hlt
        obtain ⟨b2, o2, q, rfl, hb2, hq, hc2⟩ := hy.at_ (k := k) hlt2
        obtain ⟨x0, x1, A1, e1, x2, r1⟩ := hc1.keep (w' := wr) hb1 (fun _ hq => hbel.cell hq)
        obtain ⟨y0, y1, A2, e2, y2, r2⟩ := hc2.keep (w' := wr) hb2 (fun _ hq => hbel.cell hq)
        have hsp := hs p (List.mem_of_getElem? hp)
        have hsq := hs2 q (List.mem_of_getElem? hq)
        have HP := Lib.hid hp
        have HQ := Lib.hid hq
        clear hp hq hc1 hc2
        cases hsame : samePt p q
        · go_wp2
          go_region_with (go_at_call 141; refine (eqPart_any p q A1 A2 e1 e2 _ (by exact r1.more hbel.size) (by exact r2.more hbel.size) hsp hsq).mono ?_; rintro e w2 ⟨rfl, b2⟩)
          all_goals
            go_wp2
            go_ret
            exact ⟨ret_bool (by rw [samePs_at ps qs k p q HP.out HQ.out hsame]), hbel.drew.trans (b2.mono hbel.size)⟩
        · go_wp2
          go_region_with (go_at_call 141; refine (eqPart_any p q A1 A2 e1 e2 _ (by exact r1.more hbel.size) (by exact r2.more hbel.size) hsp hsq).mono ?_; rintro e w2 ⟨rfl, b2⟩)
          all_goals
            go_wp2
            go_roundw
            case rel => exact ⟨k + 1, by omega, by go_num, samePs_snoc ps qs k p q HP.out HQ.out hsame HT.out, hbel.drew.trans (b2.mono hbel.size)⟩
            case measure => simp [intOf]; omega
      · have H := Lib.hid (show samePs ps qs = true by have := HT.out; rwa [List.take_of_length_le (by omega), List.take_of_length_le (by have := HL.out; omega)] at this)
        go_wp2
        go_ret
        exact ⟨ret_bool (by rw [H.out]), hbel⟩
  · have hb : ((ps.length : Int) != (qs.length : Int)) = true := by simp; omega
    have H := Lib.hid (show samePs ps qs = false by cases h : samePs ps qs; rfl; exact absurd (samePs_len ps qs h) hlen)
    clear hlen
    go_enter Tryz.func121, Tryz.ntmps121
    go_wp2
    go_ret
    exact ⟨ret_bool (by rw [H.out]), Below.refl _ _⟩
end Go.Proofs.YtamainhocghlgaaGreatDoor.low


/-
  Contracts of the laws' own toPart and toPartS: a copy of a part, of a slice of parts.
-/
namespace Go.Proofs.YtamainhocghlgaaGreatDoor.low
open Go.RowKit
set_option linter.unusedVariables false

theorem three_new (w : World) (o0 o1 o2 : Obj) : ∃ W, W = ((w.alloc o0).alloc o1).alloc o2 ∧ Below w.heap.size w W ∧ W.heap.size = w.heap.size + 3 ∧ W.heap[w.heap.size + 1]? = some o1 ∧ W.heap[w.heap.size + 1 + 1]? = some o2 := by
  have s1 : (w.alloc o0).heap.size = w.heap.size + 1 := Array.size_push ..
  have s2 : ((w.alloc o0).alloc o1).heap.size = w.heap.size + 1 + 1 := by rw [← s1]; exact Array.size_push ..
  refine ⟨_, rfl, (((Below.refl _ _).alloc (Nat.le_refl _) _).alloc (by omega) _).alloc (by omega) _, ?_, ?_, ?_⟩
  · have : (((w.alloc o0).alloc o1).alloc o2).heap.size = ((w.alloc o0).alloc o1).heap.size + 1 := Array.size_push ..
    omega
  · rw [Below.heap_alloc _ _ _ (by omega), ← s1]; exact heap_alloc_new _ _
  · rw [← s2]; exact heap_alloc_new _ _

theorem own_lt {w : World} {base g n cap size : Nat} {e : TypeId} {xs : List Value} (h : w.ownsRow base e size (.slice (some ⟨g, 0, none⟩) n cap) n xs) : g < w.heap.size := by
  rcases h.2 with ⟨hn, _⟩ | ⟨g', cap', cur, hv, _, hh, _⟩
  · cases hn
  · injection hv with e1 e2 e3
    injection e1 with e1
    injection e1 with e1
    subst e1
    exact lt_of_some hh
theorem own_lower {w : World} {base base' size n : Nat} {v : Value} {e : TypeId} {xs : List Value} (h : w.ownsRow base e size v n xs) (hb : base' ≤ base) : w.ownsRow base' e size v n xs := by
  refine ⟨h.1, ?_⟩
  rcases h.2 with hn | ⟨g, cap, cur, hv, hge, hr⟩
  · exact .inl hn
  · exact .inr ⟨g, cap, cur, hv, Nat.le_trans hb hge, hr⟩

/-- the part at hand is a copy whose characters lie in a row of its own -/
def PtCopied (p : Pt) (w : World) (e : Ending) (w' : World) : Prop :=
  ∃ g, e = .returned (.agg #[.int .i64 p.kind, .int .i64 p.n, .slice (some ⟨g, 0, none⟩) p.signs.length p.signs.length]) ∧ w.heap.size ≤ g ∧ g < w'.heap.size ∧
    w'.ownsRow w.heap.size 3 1 (.slice (some ⟨g, 0, none⟩) p.signs.length p.signs.length) p.signs.length (p.signs.map (Value.int .i64)) ∧ Below w.heap.size w w'

set_option maxHeartbeats 1600000 in
theorem toPart_any (p : Pt) (A : Option Addr) (c : Nat) (w : World) (hr : Row (Value.int .i64) w w.heap.size A p.signs) (hl : p.signs.length ≤ 4294967296) :
    Calls Tryz.prog 131 #[.agg #[.int .i64 p.kind, .int .i64 p.n, .slice A p.signs.length c]] w (PtCopied p w) := by
  obtain ⟨k, n, zs⟩ := p
  go_enter Tryz.func131, Tryz.ntmps131
  go_wp2_with fail
  obtain ⟨W, hW, hbW, hsz, B1, B2⟩ := three_new w (Obj.cells #[Value.int IntKind.i64 k, Value.int IntKind.i64 n, Value.slice A zs.length c] 184) (Obj.cells #[Value.int IntKind.i64 0, Value.int IntKind.i64 0, Value.slice none 0 0] 145)
    (Obj.cells #[Value.int IntKind.i64 k, Value.int IntKind.i64 n, Value.slice none 0 0] 145)
  rw [← hW]
  have c10 : W.cell? ⟨w.heap.size + 1, 0, none⟩ = some (.int .i64 0) := cell_of_row W _ 0 _ _ _ B1
  have c11 : W.cell? ⟨w.heap.size + 1, 1, none⟩ = some (.int .i64 0) := cell_of_row W _ 1 _ _ _ B1
  have c12 : W.cell? ⟨w.heap.size + 1, 2, none⟩ = some (.slice none 0 0) := cell_of_row W _ 2 _ _ _ B1
  have c20 : W.cell? ⟨w.heap.size + 1 + 1, 0, none⟩ = some (.int .i64 k) := cell_of_row W _ 0 _ _ _ B2
  have c21 : W.cell? ⟨w.heap.size + 1 + 1, 1, none⟩ = some (.int .i64 n) := cell_of_row W _ 1 _ _ _ B2
  have c22 : W.cell? ⟨w.heap.size + 1 + 1, 2, none⟩ = some (.slice none 0 0) := cell_of_row W _ 2 _ _ _ B2
  have f1 : ∀ o, W.frozen? ⟨w.heap.size + 1, o, none⟩ = false := fun o => by simp [World.frozen?, B1]
  have f2 : ∀ o, W.frozen? ⟨w.heap.size + 1 + 1, o, none⟩ = false := fun o => by simp [World.frozen?, B2]
  clear B1 B2
  clear hW
  refine (toIntS_own A c zs W (hr.past hbW) hl).mono ?_
  rintro e w1 ⟨rfl, ho, b1⟩
  have d10 := (b1.cell (p := ⟨w.heap.size + 1, 0, none⟩) (by simp only; omega)).trans c10
  have d11 := (b1.cell (p := ⟨w.heap.size + 1, 1, none⟩) (by simp only; omega)).trans c11
  have d12 := (b1.cell (p := ⟨w.heap.size + 1, 2, none⟩) (by simp only; omega)).trans c12
  have d20 := (b1.cell (p := ⟨w.heap.size + 1 + 1, 0, none⟩) (by simp only; omega)).trans c20
  have d21 := (b1.cell (p := ⟨w.heap.size + 1 + 1, 1, none⟩) (by simp only; omega)).trans c21
  have d22 := (b1.cell (p := ⟨w.heap.size + 1 + 1, 2, none⟩) (by simp only; omega)).trans c22
  have e10 := (b1.frozen (p := ⟨w.heap.size + 1, 0, none⟩) (by simp only; omega)).trans (f1 0)
  have e11 := (b1.frozen (p := ⟨w.heap.size + 1, 1, none⟩) (by simp only; omega)).trans (f1 1)
  have e12 := (b1.frozen (p := ⟨w.heap.size + 1, 2, none⟩) (by simp only; omega)).trans (f1 2)
  have e22 := (b1.frozen (p := ⟨w.heap.size + 1 + 1, 2, none⟩) (by simp only; omega)).trans (f2 2)
  clear c10 c11 c12 c20 c21 c22 f1 f2
  have HSZ := Lib.hid hsz
  clear hsz
  have HO := Lib.hid ho
  clear ho
  go_wp2
  have B1 : ∀ u, w.heap.size ≤ (⟨w.heap.size + 1, u, none⟩ : Addr).block := fun _ => by simp only; omega
  refine bodyPost_ret (v := .agg #[.int .i64 k, .int .i64 n, .slice (some ⟨W.heap.size, 0, none⟩) zs.length zs.length]) (by simp [results, Tryz.results131, go_sem, d10, d11, d12]) rfl ⟨W.heap.size, rfl, hbW.size, ?_, ?_, ?_⟩
  · have := own_lt HO.out
    simp [World.setCell]
    exact this
  · have h1 := ownsRow_setCell_below HO.out (a := ⟨w.heap.size + 1 + 1, 2, none⟩) (by have := HSZ.out; simp only; omega) (.slice (some ⟨W.heap.size, 0, none⟩) zs.length zs.length)
    have h2 := ownsRow_setCell_below h1 (a := ⟨w.heap.size + 1, 0, none⟩) (by have := HSZ.out; simp only; omega) (.int .i64 k)
    have h3 := ownsRow_setCell_below h2 (a := ⟨w.heap.size + 1, 1, none⟩) (by have := HSZ.out; simp only; omega) (.int .i64 n)
    have h4 := ownsRow_setCell_below h3 (a := ⟨w.heap.size + 1, 2, none⟩) (by have := HSZ.out; simp only; omega) (.slice (some ⟨W.heap.size, 0, none⟩) zs.length zs.length)
    exact own_lower h4 hbW.size
  · have hb := hbW.trans (b1.mono hbW.size)
    exact (((hb.setCell (p := ⟨w.heap.size + 1 + 1, 2, none⟩) (by simp only; omega) _).setCell (B1 0) _).setCell (B1 1) _).setCell (B1 2) _
end Go.Proofs.YtamainhocghlgaaGreatDoor.low


/-
  Words for memory: a slice of parts of the caller's own, every row apart from every other; the contract of the laws' own toPartS.
-/
namespace Go.Proofs.YtamainhocghlgaaGreatDoor.low
open Go.RowKit
set_option linter.unusedVariables false

/-- the cells of parts whose slices of characters are the values us -/
def cellsOf : List Pt → List Value → List Value
  | p :: ps, u :: us => .int .i64 p.kind :: .int .i64 p.n :: u :: cellsOf ps us
  | _, _ => []
theorem cellsOf_at : ∀ (ps : List Pt) (us : List Value) (i : Nat) (p : Pt) (u : Value), ps[i]? = some p → us[i]? = some u →
    (cellsOf ps us)[i * 3]? = some (.int .i64 p.kind) ∧ (cellsOf ps us)[i * 3 + 1]? = some (.int .i64 p.n) ∧ (cellsOf ps us)[i * 3 + 2]? = some u
  | [], us, i, p, u, hp, _ => by simp at hp
  | _ :: _, [], i, p, u, _, hu => by simp at hu
  | q :: ps, v :: us, 0, p, u, hp, hu => by
    simp at hp hu
    subst hp; subst hu
    exact ⟨rfl, rfl, rfl⟩
  | q :: ps, v :: us, i + 1, p, u, hp, hu => by
    have := cellsOf_at ps us i p u (by simpa using hp) (by simpa using hu)
    have e0 : (i + 1) * 3 = i * 3 + 1 + 1 + 1 := by omega
    rw [e0]
    exact this
theorem cellsOf_snoc : ∀ (ps : List Pt) (us : List Value) (p : Pt) (u : Value), us.length = ps.length → cellsOf (ps ++ [p]) (us ++ [u]) = cellsOf ps us ++ [.int .i64 p.kind, .int .i64 p.n, u]
  | [], [], p, u, _ => rfl
  | [], _ :: _, p, u, h => by simp at h
  | _ :: _, [], p, u, h => by simp at h
  | q :: ps, v :: us, p, u, h => by
    show .int .i64 q.kind :: .int .i64 q.n :: v :: cellsOf (ps ++ [p]) (us ++ [u]) = _
    rw [cellsOf_snoc ps us p u (by simpa using h)]
    rfl
theorem take_set3 {xs : List Value} {j : Nat} {a b c : Value} (h : j * 3 + 3 ≤ xs.length) :
    (((xs.set (j * 3) a).set (j * 3 + 1) b).set (j * 3 + 2) c).take ((j + 1) * 3) = xs.take (j * 3) ++ [a, b, c] := by
  have e : (j + 1) * 3 = j * 3 + 1 + 1 + 1 := by omega
  rw [e, List.take_add_one, List.take_add_one, List.take_add_one]
  rw [List.take_set_of_le (by omega), List.take_set_of_le (by omega), List.take_set_of_le (by omega)]
  have h0 : (((xs.set (j * 3) a).set (j * 3 + 1) b).set (j * 3 + 2) c)[j * 3]? = some a := by
    rw [List.getElem?_set_ne (by omega), List.getElem?_set_ne (by omega), List.getElem?_set_self (by omega)]
  have h1 : (((xs.set (j * 3) a).set (j * 3 + 1) b).set (j * 3 + 2) c)[j * 3 + 1]? = some b := by
    rw [List.getElem?_set_ne (by omega), List.getElem?_set_self (by simp; omega)]
  have h2 : (((xs.set (j * 3) a).set (j * 3 + 1) b).set (j * 3 + 2) c)[j * 3 + 1 + 1]? = some c := by
    rw [List.getElem?_set_self (by simp; omega)]
  rw [h0, h1, h2]
  simp

/-- each slice of characters is a row of its own, in blocks from lo to below hi, no two in one block -/
def Apart (lo hi : Nat) (w : World) (ps : List Pt) (us : List Value) : Prop :=
  us.length = ps.length ∧ (∀ (i : Nat) (p : Pt) (u : Value), ps[i]? = some p → us[i]? = some u → w.ownsRow lo 3 1 u p.signs.length (p.signs.map (Value.int .i64)) ∧ ∀ k, u.ownBlock = some k → k < hi) ∧
  ∀ (i j k : Nat) (u v : Value), us[i]? = some u → us[j]? = some v → u.ownBlock = some k → v.ownBlock = some k → i = j
/-- v is a slice of parts of the caller's own, in blocks from lo to below hi -/
def PBuf (lo hi : Nat) (w : World) (v : Value) (ps : List Pt) : Prop :=
  ∃ us, w.ownsRow lo 145 3 v ps.length (cellsOf ps us) ∧ Apart lo hi w ps us ∧ (∀ k, v.ownBlock = some k → k < hi) ∧ hi ≤ w.heap.size ∧ lo ≤ hi

theorem own_form {w : World} {base n size : Nat} {v : Value} {e : TypeId} {xs : List Value} (h : w.ownsRow base e size v n xs) : ∃ A c, v = .slice A n c := by
  rcases h.2 with ⟨rfl, h0⟩ | ⟨g, cap, cur, rfl, _⟩
  · subst h0; exact ⟨none, 0, rfl⟩
  · exact ⟨_, cap, rfl⟩
theorem own_row {w : World} {base n hi c : Nat} {A : Option Addr} {zs : List Int} (h : w.ownsRow base 3 1 (.slice A n c) n (zs.map (Value.int .i64))) (hk : ∀ k, (Value.slice A n c).ownBlock = some k → k < hi) : Row (Value.int .i64) w hi A zs := fun hn => by
  obtain ⟨ad, e, _, hc⟩ := Row.of_own h hn
  subst e
  exact ⟨ad, rfl, hk ad.block rfl, hc⟩
theorem PBuf.slice {lo hi : Nat} {w : World} {v : Value} {ps : List Pt} (h : PBuf lo hi w v ps) : ∃ A c, v = .slice A ps.length c ∧ PRow w hi A ps := by
  obtain ⟨us, ho, ⟨hl, hu, _⟩, hv, hh, hlo⟩ := h
  rcases ho.2 with ⟨rfl, h0⟩ | ⟨g, cap, cur, rfl, hge, hhg, _⟩
  · have : ps = [] := List.eq_nil_of_length_eq_zero h0
    subst this
    exact ⟨none, 0, rfl, PRow.nil⟩
  · refine ⟨_, cap, rfl, fun hn => ⟨g, 0, rfl, hv g rfl, fun i p hp => ?_⟩⟩
    have hi' : i < ps.length := by
      rcases Nat.lt_or_ge i ps.length with hlt | hge
      · exact hlt
      · rw [List.getElem?_eq_none hge] at hp; cases hp
    obtain ⟨u, hui⟩ : ∃ u, us[i]? = some u := ⟨_, List.getElem?_eq_getElem (by omega)⟩
    obtain ⟨c0, c1, c2⟩ := cellsOf_at ps us i p u hp hui
    obtain ⟨hou, hbu⟩ := hu i p u hp hui
    obtain ⟨A, c, rfl⟩ := own_form hou
    refine ⟨?_, ?_, A, c, ?_, own_row hou hbu⟩
    · rw [Nat.zero_add, ho.cellAt (i * 3) (by omega), c0]
    · rw [Nat.zero_add, ho.cellAt (i * 3 + 1) (by omega), c1]
    · rw [Nat.zero_add, ho.cellAt (i * 3 + 2) (by omega), c2]

theorem part_info : (Tryz.prog.info? 145).map (fun i => (i.zero, i.size, i.bytes)) = some (some (.agg #[.int .i64 0, .int .i64 0, .slice none 0 0]), 3, 40) := by kernel_rfl
theorem own_past3 {base n cap g size : Nat} {w w' : World} {e : TypeId} {xs : List Value} (h : w.ownsRow base e size (.slice (some ⟨g, 0, none⟩) n cap) n xs) (hb : Below w.heap.size w w') : w'.ownsRow base e size (.slice (some ⟨g, 0, none⟩) n cap) n xs := by
  refine ⟨h.1, ?_⟩
  rcases h.2 with ⟨hn, _⟩ | ⟨g', cap', cur, hv, hge, hh, hr⟩
  · cases hn
  · exact .inr ⟨g', cap', cur, hv, hge, (hb.block g' (lt_of_some hh)).trans hh, hr⟩
theorem own_keep {base n size : Nat} {w w' : World} {v : Value} {e : TypeId} {xs : List Value} (h : w.ownsRow base e size v n xs) (hk : ∀ k, v.ownBlock = some k → k < w.heap.size → w'.heap[k]? = w.heap[k]?) : w'.ownsRow base e size v n xs := by
  refine ⟨h.1, ?_⟩
  rcases h.2 with hn | ⟨g, cap, cur, rfl, hge, hh, hr⟩
  · exact .inl hn
  · exact .inr ⟨g, cap, cur, rfl, hge, (hk g rfl (lt_of_some hh)).trans hh, hr⟩
/-- rows of numbers and rows of parts never share a block -/
theorem own_ne {base base' n n' cap g size size' : Nat} {w : World} {v : Value} {e e' : TypeId} {xs xs' : List Value} (h : w.ownsRow base e size v n xs) (h' : w.ownsRow base' e' size' (.slice (some ⟨g, 0, none⟩) n' cap) n' xs') (hne : ¬ e = e') : ¬ v.ownBlock = some g := by
  rcases h.2 with ⟨rfl, _⟩ | ⟨g1, cap1, cur1, rfl, _, h1, _⟩
  · simp [Value.ownBlock]
  · rcases h'.2 with ⟨hn, _⟩ | ⟨g2, cap2, cur2, hv, _, h2, _⟩
    · cases hn
    · injection hv with e1 _ _
      injection e1 with e1
      injection e1 with e1
      subst e1
      intro he
      have : g1 = g := by simpa [Value.ownBlock] using he
      subst this
      rw [h1] at h2
      injection h2 with h2
      injection h2 with _ ht
      exact hne ht
theorem Apart.keep {lo hi hi' : Nat} {w w' : World} {ps : List Pt} {us : List Value} (h : Apart lo hi w ps us) (hh : hi ≤ hi') (hk : ∀ (i : Nat) (u : Value) (k : Nat), us[i]? = some u → u.ownBlock = some k → k < w.heap.size → w'.heap[k]? = w.heap[k]?) : Apart lo hi' w' ps us := by
  obtain ⟨h1, h2, h3⟩ := h
  refine ⟨h1, fun i p u hp hu => ?_, h3⟩
  obtain ⟨ho, hb⟩ := h2 i p u hp hu
  exact ⟨own_keep ho (fun k hk1 hk2 => hk i u k hu hk1 hk2), fun k hk1 => Nat.lt_of_lt_of_le (hb k hk1) hh⟩
theorem Apart.snoc {lo hi : Nat} {w : World} {ps : List Pt} {us : List Value} {p : Pt} {u : Value} (h : Apart lo hi w ps us) (ho : w.ownsRow lo 3 1 u p.signs.length (p.signs.map (Value.int .i64))) (hb : ∀ k, u.ownBlock = some k → k < hi)
    (hn : ∀ (i : Nat) (v : Value) (k : Nat), us[i]? = some v → v.ownBlock = some k → ¬ u.ownBlock = some k) : Apart lo hi w (ps ++ [p]) (us ++ [u]) := by
  obtain ⟨h1, h2, h3⟩ := h
  refine ⟨by simp [h1], fun i q v hq hv => ?_, fun i j k a b ha hb' hka hkb => ?_⟩
  · by_cases hi' : i < ps.length
    · rw [List.getElem?_append_left hi'] at hq
      rw [List.getElem?_append_left (by omega)] at hv
      exact h2 i q v hq hv
    · have e : i = ps.length := by
        rcases Nat.lt_or_ge i (ps.length + 1) with h | h
        · omega
        · rw [List.getElem?_eq_none (by simpa using h)] at hq; cases hq
      subst e
      rw [List.getElem?_append_right (Nat.le_refl _)] at hq
      rw [List.getElem?_append_right (by omega)] at hv
      simp [h1] at hq hv
      subst hq; subst hv
      exact ⟨ho, hb⟩
  · by_cases hi' : i < us.length
    · rw [List.getElem?_append_left hi'] at ha
      by_cases hj : j < us.length
      · rw [List.getElem?_append_left hj] at hb'
        exact h3 i j k a b ha hb' hka hkb
      · have e : j = us.length := by
          rcases Nat.lt_or_ge j (us.length + 1) with h | h
          · omega
          · rw [List.getElem?_eq_none (by simpa using h)] at hb'; cases hb'
        subst e
        rw [List.getElem?_append_right (Nat.le_refl _)] at hb'
        simp at hb'
        subst hb'
        exact absurd hkb (hn i a k ha hka)
    · have e : i = us.length := by
        rcases Nat.lt_or_ge i (us.length + 1) with h | h
        · omega
        · rw [List.getElem?_eq_none (by simpa using h)] at ha; cases ha
      subst e
      rw [List.getElem?_append_right (Nat.le_refl _)] at ha
      simp at ha
      subst ha
      by_cases hj : j < us.length
      · rw [List.getElem?_append_left hj] at hb'
        exact absurd hka (hn j b k hb' hkb)
      · have e : j = us.length := by
          rcases Nat.lt_or_ge j (us.length + 1) with h | h
          · omega
          · rw [List.getElem?_eq_none (by simpa using h)] at hb'; cases hb'
        omega
theorem blk_lt {g n c k hi : Nat} (h : (Value.slice (some ⟨g, 0, none⟩) n c).ownBlock = some k) (hg : g < hi) : k < hi := by
  have : g = k := by simpa [Value.ownBlock] using h
  omega
theorem take_pt {ps : List Pt} {k : Nat} {p : Pt} (h : ps[k]? = some p) : ps.take (k + 1) = ps.take k ++ [p] := by rw [List.take_add_one, h]; rfl

/-- it returns a slice of parts of its own -/
def PsPost (ps : List Pt) (w : World) (e : Ending) (w' : World) : Prop := ∃ v, e = .returned v ∧ PBuf w.heap.size w'.heap.size w' v ps ∧ Below w.heap.size w w'

set_option maxHeartbeats 3200000 in
theorem toPartS_any (A : Option Addr) (c : Nat) (ps : List Pt) (w : World) (hr : PRow w w.heap.size A ps) (hl : ps.length ≤ 1048576) (hls : ∀ p ∈ ps, p.signs.length ≤ 1048576) :
    Calls Tryz.prog 112 #[.slice A ps.length c] w (PsPost ps w) := by
  obtain ⟨i0, hi0, hz0, hz1, hz2⟩ := info_parts part_info
  go_enter Tryz.func112, Tryz.ntmps112
  go_wp2_with (at_make; refine wpList_make_full _ rfl _ _ 104 rfl w.heap.size 145 i0 (.agg #[.int .i64 0, .int .i64 0, .slice none 0 0]) 3 Tryz.underlying104 hi0 hz0 hz1 _ _ _ _ ps.length rfl rfl (by omega) (by omega) (by rw [hz2]; omega) (by unfold maxLen; omega) (Nat.le_refl _) ?_; intro w1 hown hg)
  have hbel : Below w.heap.size w w1 := (Below.refl _ _).grown hg (Nat.le_refl _) (fun _ h => by cases h)
  generalize hxs : (madeCells (Value.agg #[.int .i64 0, .int .i64 0, .slice none 0 0]).cells (ps.length * 3)).toList = xs0 at hown
  clear hxs hg
  go_loopw [4] (fun i wr => ∃ (j : Nat) (xs us : List Value), j ≤ ps.length ∧ i = .int .i64 j ∧ wr.ownsRow w.heap.size 145 3 (.slice (some ⟨w.heap.size, 0, none⟩) ps.length ps.length) ps.length xs ∧
      xs.take (j * 3) = cellsOf (ps.take j) us ∧ Apart w.heap.size wr.heap.size wr (ps.take j) us ∧ Below w.heap.size w wr) (fun i _ => ps.length - (intOf i).toNat)
  case atStart => exact ⟨0, xs0, [], Nat.zero_le _, rfl, hown, rfl, ⟨rfl, fun i p u hp _ => by simp at hp, fun i j k u v hu _ _ _ => by simp at hu⟩, hbel⟩
  case round =>
    obtain ⟨j, xs, us, hj, rfl, ho, hx, hap, hb⟩ := hrel
    clear hown hbel
    have HX := Lib.hid hx
    have HAP := Lib.hid hap
    clear hx hap
    by_cases hlt : j < ps.length
    · obtain ⟨b, off, p, rfl, hbb, hp, hc⟩ := hr.at_ hlt
      obtain ⟨x0, x1, A1, e1, x2, r1⟩ := hc.keep (w' := wr) hbb (fun _ hq => hb.cell hq)
      have hsp := hls p (List.mem_of_getElem? hp)
      have HP := Lib.hid hp
      clear hp hc
      have HO := Lib.hid ho
      clear ho
      go_wp2_with fail
      refine (toPart_any p A1 e1 wr (r1.more hb.size) (by omega)).mono ?_
      rintro e w2 ⟨g2, rfl, hg2, hg2', ho2, b2⟩
      have ho3 := own_past3 HO.out b2
      have hcell : ∀ t, t < 3 → ∃ u, w2.cell? ⟨w.heap.size, j * 3 + t, none⟩ = some u := fun t ht => by
        rw [ho3.cellAt (j * 3 + t) (by omega)]
        exact ⟨_, List.getElem?_eq_getElem (by rw [ho3.1]; omega)⟩
      obtain ⟨u0, hu0⟩ := hcell 0 (by omega)
      obtain ⟨u1, hu1⟩ := hcell 1 (by omega)
      obtain ⟨u2, hu2⟩ := hcell 2 (by omega)
      have f0 := ho3.frozenAt (j * 3)
      have f1 := ho3.frozenAt (j * 3 + 1)
      have f2 := ho3.frozenAt (j * 3 + 2)
      rw [Nat.add_zero] at hu0
      clear hcell
      have HO2 := Lib.hid ho2
      have HO3 := Lib.hid ho3
      clear ho2 ho3
      go_wp2
      go_roundw
      case rel =>
        have s1 := (HO3.out.stored (j * 3) (.int .i64 p.kind)).1
        have s2 := (s1.stored (j * 3 + 1) (.int .i64 p.n)).1
        have s3 := (s2.stored (j * 3 + 2) (.slice (some ⟨g2, 0, none⟩) p.signs.length p.signs.length)).1
        have hxl := HO3.out.1
        have hul := HAP.out.1
        have a2 : Apart w.heap.size w2.heap.size w2 (ps.take j ++ [p]) (us ++ [.slice (some ⟨g2, 0, none⟩) p.signs.length p.signs.length]) := by
          refine (HAP.out.keep b2.size (fun i u k hu hk1 hk2 => b2.block k hk2)).snoc (own_lower HO2.out hb.size) (fun k hk => blk_lt hk hg2') ?_
          intro i v k hv hk he
          have e2 : g2 = k := by simpa [Value.ownBlock] using he
          have hi' : i < us.length := by
            rcases Nat.lt_or_ge i us.length with h | h
            · exact h
            · rw [List.getElem?_eq_none h] at hv; cases hv
          obtain ⟨q, hq⟩ : ∃ q, (ps.take j)[i]? = some q := ⟨_, List.getElem?_eq_getElem (by omega)⟩
          have := (HAP.out.2.1 i q v hq hv).2 k hk
          omega
        refine ⟨j + 1, _, us ++ [.slice (some ⟨g2, 0, none⟩) p.signs.length p.signs.length], by omega, by go_num, s3, ?_, ?_, ?_⟩
        · rw [take_set3 (by omega), HX.out, take_pt HP.out, cellsOf_snoc _ _ _ _ hul]
        · rw [take_pt HP.out]
          refine a2.keep (by simp [World.setCell]) (fun i u k hu hk1 hk2 => ?_)
          have hi' : i < (ps.take j ++ [p]).length := by
            rw [← a2.1]
            rcases Nat.lt_or_ge i (us ++ [Value.slice (some ⟨g2, 0, none⟩) p.signs.length p.signs.length]).length with h | h
            · exact h
            · rw [List.getElem?_eq_none h] at hu; cases hu
          obtain ⟨q, hq⟩ : ∃ q, (ps.take j ++ [p])[i]? = some q := ⟨_, List.getElem?_eq_getElem hi'⟩
          have hne := own_ne (a2.2.1 i q u hq hu).1 HO3.out (by decide)
          have hkne : k ≠ w.heap.size := fun e => hne (by rw [hk1, e])
          rw [Below.heap_setCell _ _ _ _ hkne, Below.heap_setCell _ _ _ _ hkne, Below.heap_setCell _ _ _ _ hkne]
        · exact (((hb.trans (b2.mono hb.size)).setCell (Nat.le_refl _) _).setCell (Nat.le_refl _) _).setCell (Nat.le_refl _) _
      case measure => simp [intOf]; omega
    · obtain rfl : j = ps.length := by omega
      go_wp2
      go_ret
      have hxl := ho.1
      have e1 : xs = cellsOf ps us := by have := HX.out; rwa [List.take_of_length_le (by omega), List.take_of_length_le (Nat.le_refl _)] at this
      have a1 := HAP.out
      rw [List.take_of_length_le (Nat.le_refl _)] at a1
      subst e1
      exact ⟨_, rfl, ⟨us, ho, a1, fun k hk => blk_lt hk (own_lt ho), Nat.le_refl _, hb.size⟩, hb⟩
end Go.Proofs.YtamainhocghlgaaGreatDoor.low


/-
  From the reading of a law's argument to the words for memory: a slice of numbers, a part, a slice of parts.
-/
namespace Go.Proofs.YtamainhocghlgaaGreatDoor.low
open Go.RowKit Go.ChangeShapes Go.WideShapes Go.Deep
set_option linter.unusedVariables false

theorem choose_list {α : Type} {Q : Nat → α → Prop} : ∀ n, (∀ i, i < n → ∃ x, Q i x) → ∃ xs : List α, xs.length = n ∧ ∀ i x, xs[i]? = some x → Q i x
  | 0, _ => ⟨[], rfl, fun i x h => by simp at h⟩
  | n + 1, h => by
    obtain ⟨xs, hl, hq⟩ := choose_list n fun i hi => h i (by omega)
    obtain ⟨x, hx⟩ := h n (by omega)
    refine ⟨xs ++ [x], by simp [hl], fun i y hy => ?_⟩
    by_cases hi : i < xs.length
    · rw [List.getElem?_append_left hi] at hy; exact hq i y hy
    · have e : i = n := by
        rcases Nat.lt_or_ge i (n + 1) with h | h
        · omega
        · rw [List.getElem?_eq_none (by simp [hl]; omega)] at hy; cases hy
      subst e
      rw [List.getElem?_append_right (by omega), hl] at hy
      simp at hy
      subst hy
      exact hx
theorem laidOut : laidOutB Tryz.prog = true := by kernel_rfl
theorem cellsInt : Tryz.prog.cellsOf 3 = 1 := by kernel_rfl
theorem cellsInts : Tryz.prog.cellsOf 61 = 1 := by kernel_rfl
theorem cellsPart : Tryz.prog.cellsOf 184 = 3 := by kernel_rfl

section
variable {H : Type} {enc : TypeId × Value → H} {w : World} {base : Nat} {spare : Nat → Bool} {held : Bool}
theorem read_ints {fuel : Nat} {cs : List Value} {x : DataW H × List MemPlace} (h : DataW.trod enc Tryz.prog w base spare held fuel 61 cs = some x) :
    ∃ A c, ∃ zs : List Int, cs = [.slice A zs.length c] ∧ Row (Value.int .i64) w w.heap.size A zs ∧ zs.length ≤ maxLen := by
  rcases open_ints Tryz.underlying61 Tryz.underlying3 cellsInt h with ⟨hcs, _⟩ | ⟨a, len, cap, zs, hcs, _, hl, hm, hz, _, hc, hw⟩
  · exact ⟨none, 0, [], hcs, Row.nil, Nat.zero_le _⟩
  · have hzl : len ≤ zs.length := by rw [hz]; split <;> omega
    refine ⟨some a, cap, zs.take len, by rw [hcs, List.length_take, Nat.min_eq_left hzl], fun hn => ?_, by rw [List.length_take]; omega⟩
    have h0 := cell_lt (hc 0 (by simp at hn; omega))
    rw [block_of_add] at h0
    refine ⟨a, rfl, h0, fun k z hk => ?_⟩
    have hk' : k < zs.length := by
      rcases Nat.lt_or_ge k zs.length with h | h
      · exact h
      · rw [List.getElem?_eq_none (by simp; omega)] at hk; cases hk
    have hk2 : zs[k]? = some z := by
      rw [List.getElem?_take] at hk
      split at hk
      · exact hk
      · cases hk
    rw [hc k hk']
    simp [List.getD, hk2]
end
end Go.Proofs.YtamainhocghlgaaGreatDoor.low


/-
  Contracts of the laws' own markIntS (it writes ascending numbers into a slice) and heldIntS (it asks whether they still stand there).
-/
namespace Go.Proofs.YtamainhocghlgaaGreatDoor.low
open Go.RowKit
set_option linter.unusedVariables false

def marks (k : Int) (n : Nat) : List Int := (List.range n).map fun (i : Nat) => k + (i : Int)
theorem marks_len (k : Int) (n : Nat) : (marks k n).length = n := by simp [marks]
theorem marks_at {k : Int} {n j : Nat} (h : j < n) : (marks k n)[j]? = some (k + (j : Int)) := by simp [marks, h]

theorem mark_set {xs : List Value} {k : Int} {j : Nat} (hl : j < xs.length) (hp : ∀ t, t < j → xs[t]? = some (.int .i64 (k + (t : Int)))) :
    ∀ t, t < j + 1 → (xs.set j (.int .i64 (k + (j : Int))))[t]? = some (.int .i64 (k + (t : Int))) := by
  intro t ht
  rw [List.getElem?_set]
  by_cases e : j = t
  · subst e; rw [if_pos rfl, if_pos hl]
  · rw [if_neg e]; exact hp t (by omega)
theorem marks_all {xs : List Value} {k : Int} {n : Nat} (hl : xs.length = n) (hp : ∀ t, t < n → xs[t]? = some (.int .i64 (k + (t : Int)))) : xs = (marks k n).map (Value.int .i64) := by
  apply List.ext_getElem?
  intro t
  rcases Nat.lt_or_ge t n with h | h
  · rw [hp t h, List.getElem?_map, marks_at h]; rfl
  · rw [List.getElem?_eq_none (by omega), List.getElem?_eq_none (by rw [List.length_map, marks_len]; exact h)]

set_option maxHeartbeats 1600000 in
theorem heldIntS_any (A : Option Addr) (c n : Nat) (k : Int) (w : World) (hr : Row (Value.int .i64) w w.heap.size A (marks k n)) (h0 : 0 ≤ k) (h1 : k ≤ 4503599627370496) (hn : n ≤ 4503599627370496) :
    Calls Tryz.prog 51 #[.slice A n c, .int .i64 k] w fun e w' => e = .returned (.int .i64 (k + (n : Int))) ∧ w = w' := by
  go_enter Tryz.func51, Tryz.ntmps51
  go_wp2
  go_loop [1, 5] (fun kk i => ∃ j : Nat, j ≤ n ∧ i = .int .i64 j ∧ kk = .int .i64 (k + (j : Int))) (fun _ i => n - (intOf i).toNat)
  case atStart => exact ⟨0, Nat.zero_le _, rfl, by simp⟩
  case round =>
    obtain ⟨j, hj, rfl, rfl⟩ := hrel
    by_cases hlt : j < n
    · obtain ⟨ad, z, rfl, hbl, hz, hc⟩ := hr.at_ (k := j) (by rw [marks_len]; exact hlt)
      rw [marks_at hlt] at hz
      have hz' : k + (j : Int) = z := by injection hz
      rw [← hz'] at hc
      clear hz hz'
      go_wp2
      go_round
      case rel => exact ⟨j + 1, by omega, by go_num, by go_num⟩
      case measure => simp [intOf]; omega
    · obtain rfl : j = n := by omega
      go_wp2
      go_ret
      exact ⟨rfl, rfl⟩
end Go.Proofs.YtamainhocghlgaaGreatDoor.low


/-
  Contracts of the laws' own markPartS (it writes ascending numbers into every field of a slice of parts) and heldPartS (it asks whether they still stand there); what a write to some blocks leaves alone.
-/
namespace Go.Proofs.YtamainhocghlgaaGreatDoor.low
open Go.RowKit
set_option linter.unusedVariables false

/-- only blocks of T have been written; none is new -/
structure Touch (T : Nat → Prop) (w w' : World) : Prop where
  os : w'.os = w.os
  tape : w'.tape = w.tape
  output : w'.output = w.output
  size : w'.heap.size = w.heap.size
  block : ∀ b, ¬ T b → w'.heap[b]? = w.heap[b]?
theorem Touch.refl (T : Nat → Prop) (w : World) : Touch T w w := ⟨rfl, rfl, rfl, rfl, fun _ _ => rfl⟩
theorem Touch.trans {T : Nat → Prop} {a b c : World} (h : Touch T a b) (k : Touch T b c) : Touch T a c :=
  ⟨k.os.trans h.os, k.tape.trans h.tape, k.output.trans h.output, k.size.trans h.size, fun i hi => (k.block i hi).trans (h.block i hi)⟩
theorem Touch.mono {T T' : Nat → Prop} {w w' : World} (h : Touch T w w') (hT : ∀ b, T b → T' b) : Touch T' w w' := ⟨h.os, h.tape, h.output, h.size, fun b hb => h.block b fun ht => hb (hT b ht)⟩
theorem Touch.setCell {T : Nat → Prop} {a w : World} (h : Touch T a w) {p : Addr} (hp : T p.block) (u : Value) : Touch T a (w.setCell p u) :=
  h.trans ⟨rfl, rfl, rfl, by simp [World.setCell], fun b hb => Below.heap_setCell _ _ _ _ (fun e => hb (by rw [e]; exact hp))⟩
theorem Touch.below {T : Nat → Prop} {B : Nat} {w w' : World} (h : Touch T w w') (hT : ∀ b, T b → B ≤ b) : Below B w w' :=
  ⟨h.os, h.tape, h.output, Nat.le_of_eq h.size.symm, fun k hk => h.block k fun ht => by have := hT k ht; omega⟩
theorem Touch.cell {T : Nat → Prop} {w w' : World} (h : Touch T w w') {p : Addr} (hp : ¬ T p.block) : w'.cell? p = w.cell? p := World.cell?_of_block (w := w) (h.block p.block hp)
theorem own_touch {base n size : Nat} {w w' : World} {T : Nat → Prop} {v : Value} {e : TypeId} {xs : List Value} (h : w.ownsRow base e size v n xs) (ht : Touch T w w') (hn : ∀ k, v.ownBlock = some k → ¬ T k) : w'.ownsRow base e size v n xs :=
  own_keep h fun k hk _ => ht.block k (hn k hk)

/-- the blocks of a value that owns its row -/
def Its (v : Value) (b : Nat) : Prop := v.ownBlock = some b

set_option maxHeartbeats 1600000 in
theorem markIntS_t (base n : Nat) (v : Value) (xs0 : List Value) (k : Int) (w : World) (hown : w.ownsRow base 3 1 v n xs0) (h0 : 0 ≤ k) (h1 : k ≤ 4503599627370496) (hn : n ≤ 4503599627370496) :
    Calls Tryz.prog 48 #[v, .int .i64 k] w fun e w' => e = .returned (.int .i64 (k + (n : Int))) ∧ w'.ownsRow base 3 1 v n ((marks k n).map (Value.int .i64)) ∧ Touch (Its v) w w' := by
  rcases hown.2 with ⟨rfl, rfl⟩ | ⟨g, cap, cur, rfl, hge, _⟩
  · go_enter Tryz.func48, Tryz.ntmps48
    go_wp2
    refine wp_loop_rounds 1 ?_
    rw [rounds_succ]
    go_wp2
    go_ret
    exact ⟨by simp, World.ownsRow_nil _ _ _ _, Touch.refl _ _⟩
  · have hxl := hown.1
    go_enter Tryz.func48, Tryz.ntmps48
    go_wp2
    go_loopw [1, 5] (fun kk i wr => ∃ (j : Nat) (xs : List Value), j ≤ n ∧ i = .int .i64 j ∧ kk = .int .i64 (k + (j : Int)) ∧ xs.length = n ∧ (∀ t, t < j → xs[t]? = some (.int .i64 (k + (t : Int)))) ∧
        wr.ownsRow base 3 1 (.slice (some ⟨g, 0, none⟩) n cap) n xs ∧ Touch (Its (.slice (some ⟨g, 0, none⟩) n cap)) w wr) (fun _ i _ => n - (intOf i).toNat)
    case atStart => exact ⟨0, xs0, Nat.zero_le _, rfl, by simp, by simpa using hxl, fun t h => absurd h (by omega), hown, Touch.refl _ _⟩
    case round =>
      obtain ⟨j, xs, hj, rfl, rfl, hl, hp, ho, hbel⟩ := hrel
      clear hown hxl
      have HL := Lib.hid hl
      have HP := Lib.hid hp
      have HB := Lib.hid hbel
      clear hl hp hbel
      by_cases hlt : j < n
      · obtain ⟨u, hu⟩ : ∃ u, wr.cell? ⟨g, j, none⟩ = some u := by
          rw [ho.cellAt j (by omega)]
          exact ⟨_, List.getElem?_eq_getElem (by rw [HL.out]; exact hlt)⟩
        have hfz := ho.frozenAt j
        go_wp2
        go_roundw
        case rel =>
          have hst := ho.stored j (.int .i64 (k + (j : Int)))
          exact ⟨j + 1, xs.set j (.int .i64 (k + (j : Int))), by omega, by go_num, by go_num, by rw [List.length_set]; exact HL.out, mark_set (by rw [HL.out]; exact hlt) HP.out, hst.1, HB.out.setCell (p := ⟨g, j, none⟩) rfl _⟩
        case measure => simp [intOf]; omega
      · obtain rfl : j = n := by omega
        go_wp2
        go_ret
        have hxs := marks_all HL.out HP.out
        subst hxs
        exact ⟨rfl, ho, HB.out⟩

theorem signsIn_take (ps : List Pt) (k : Nat) : signsIn (ps.take k) ≤ signsIn ps := by
  unfold signsIn
  induction ps generalizing k with
  | nil => simp
  | cons p ps ih =>
    cases k with
    | zero => simp
    | succ k => rw [List.take_succ_cons, List.map_cons, List.map_cons, List.sum_cons, List.sum_cons]; have := ih k; omega
/-- the number with which the marks of the i-th part begin -/
def kat (k : Int) (ps : List Pt) (i : Nat) : Int := k + 2 * (i : Int) + (signsIn (ps.take i) : Int)
def markOf (k : Int) (ps : List Pt) (i : Nat) (p : Pt) : Pt := ⟨kat k ps i, kat k ps i + 1, marks (kat k ps i + 1 + 1) p.signs.length⟩
/-- qs is ps with all its numbers replaced by ascending ones -/
def IsMarked (k : Int) (ps qs : List Pt) : Prop := qs.length = ps.length ∧ ∀ (i : Nat) (p : Pt), ps[i]? = some p → qs[i]? = some (markOf k ps i p)
theorem idx_lt {α : Type} {l : List α} {i : Nat} {x : α} (h : l[i]? = some x) : i < l.length := by
  rcases Nat.lt_or_ge i l.length with hlt | hge
  · exact hlt
  · rw [List.getElem?_eq_none hge] at h; cases h
theorem idx_some {α : Type} {l : List α} {i : Nat} (h : i < l.length) : ∃ x, l[i]? = some x := ⟨_, List.getElem?_eq_getElem h⟩

theorem own_ge {w : World} {base n size : Nat} {v : Value} {e : TypeId} {xs : List Value} (h : w.ownsRow base e size v n xs) : ∀ k, v.ownBlock = some k → base ≤ k := by
  intro k hk
  rcases h.2 with ⟨rfl, _⟩ | ⟨g, cap, cur, rfl, hge, _⟩
  · simp [Value.ownBlock] at hk
  · simp [Value.ownBlock] at hk; omega

theorem IsMarked.at_ {k : Int} {ps qs : List Pt} {i : Nat} {p : Pt} (h : IsMarked k ps qs) (hp : ps[i]? = some p) : qs[i]? = some (markOf k ps i p) := h.2 i p hp

end Go.Proofs.YtamainhocghlgaaGreatDoor.low


/-
  Contracts of the reference model's functions on operations that only read: spec.PartOk, l02Parts, l02Sum, OpFrom, OpTo, OpOk, Puts, Drops.
-/
namespace Go.Proofs.YtamainhocghlgaaGreatDoor.low
open Go.RowKit
set_option linter.unusedVariables false

/-- a valid part -/
def okPt (p : Pt) : Bool := decide (((p.kind = 1 ∨ p.kind = 3) ∧ (0 ≤ p.n ∧ p.n ≤ 200) ∧ p.signs.length = 0) ∨ (p.kind = 2 ∧ p.n = 0 ∧ allB p.signs = true ∧ p.signs.length ≤ 200))
theorem okPt_t {p : Pt} (h : ((p.kind = 1 ∨ p.kind = 3) ∧ (0 ≤ p.n ∧ p.n ≤ 200) ∧ p.signs.length = 0) ∨ (p.kind = 2 ∧ p.n = 0 ∧ allB p.signs = true ∧ p.signs.length ≤ 200)) : okPt p = true := decide_eq_true h
theorem okPt_f {p : Pt} (h : ¬ (((p.kind = 1 ∨ p.kind = 3) ∧ (0 ≤ p.n ∧ p.n ≤ 200) ∧ p.signs.length = 0) ∨ (p.kind = 2 ∧ p.n = 0 ∧ allB p.signs = true ∧ p.signs.length ≤ 200))) : okPt p = false := decide_eq_false h
theorem of_okPt {p : Pt} (h : okPt p = true) : ((p.kind = 1 ∨ p.kind = 3) ∧ (0 ≤ p.n ∧ p.n ≤ 200) ∧ p.signs.length = 0) ∨ (p.kind = 2 ∧ p.n = 0 ∧ allB p.signs = true ∧ p.signs.length ≤ 200) := of_decide_eq_true h
theorem alloc_below (w : World) (o : Obj) : Below w.heap.size w (w.alloc o) := (Below.refl _ _).alloc (Nat.le_refl _) _

set_option maxHeartbeats 1600000 in
theorem specPartOk_any (p : Pt) (A : Option Addr) (c : Nat) (w : World) (hr : Row (Value.int .i64) w w.heap.size A p.signs) (hl : p.signs.length ≤ 4294967296) :
    Calls Tryz.prog 142 #[.agg #[.int .i64 p.kind, .int .i64 p.n, .slice A p.signs.length c]] w (Tells (okPt p) w) := by
  obtain ⟨k, n, zs⟩ := p
  have hr' : Row (Value.int .i64) w w.heap.size A zs := hr
  have hl' : zs.length ≤ 4294967296 := hl
  clear hr hl
  by_cases hk : k = 1 ∨ k = 3
  · by_cases hn : 0 ≤ n ∧ n ≤ 200
    · have k1 := inB_t hn
      by_cases hz : zs.length = 0
      all_goals
        have HS := Lib.hid (show okPt ⟨k, n, zs⟩ = decide (zs.length = 0) by
          first
            | (rw [okPt_t (.inl ⟨hk, hn, hz⟩), decide_eq_true hz])
            | (rw [okPt_f (by simp only; omega), decide_eq_false hz]))
        have hzb : ((zs.length : Int) == 0) = decide (zs.length = 0) := by
          first
            | (rw [decide_eq_true hz, beq_iff_eq]; omega)
            | (rw [decide_eq_false hz, beq_eq_false_iff_ne]; omega)
        generalize decide (zs.length = 0) = bb at HS hzb
        clear hz hn
        rcases hk with rfl | rfl
        all_goals
          go_enter Tryz.func142, Tryz.ntmps142
          go_wp2_with (go_at_call 30; refine (in_any _ _ _ _).mono ?_; rintro e w' ⟨rfl, rfl⟩)
          go_ret
          exact ⟨ret_bool (by rw [HS.out]), alloc_below _ _⟩
    · have k1 := inB_f hn
      have HS := Lib.hid (show okPt ⟨k, n, zs⟩ = false by rw [okPt_f (by simp only; omega)])
      clear hn
      rcases hk with rfl | rfl
      all_goals
        go_enter Tryz.func142, Tryz.ntmps142
        go_wp2_with (go_at_call 30; refine (in_any _ _ _ _).mono ?_; rintro e w' ⟨rfl, rfl⟩)
        go_ret
        exact ⟨ret_bool (by rw [HS.out]), alloc_below _ _⟩
  · have hk1 : (k == 1) = false := by rw [beq_eq_false_iff_ne]; omega
    have hk3 : (k == 3) = false := by rw [beq_eq_false_iff_ne]; omega
    by_cases hk2 : k = 2
    · have hk2' : (k == 2) = true := by rw [beq_iff_eq]; exact hk2
      by_cases hn : n = 0
      · have hn' : (n == 0) = true := by rw [beq_iff_eq]; exact hn
        have HS := Lib.hid (show okPt ⟨k, n, zs⟩ = (allB zs && decide (zs.length ≤ 200)) by
          unfold okPt
          simp [hk2, hn])
        have hle : decide ((zs.length : Int) ≤ 200) = decide (zs.length ≤ 200) := by congr 1; apply propext; omega
        clear hk hk2 hn
        cases hab : allB zs
        all_goals
          by_cases hlen : zs.length ≤ 200
          all_goals
            have HL : Hid (decide (zs.length ≤ 200) = decide (zs.length ≤ 200)) := rfl
            go_enter Tryz.func142, Tryz.ntmps142
            go_wp2_with (go_at_call 87; refine (specSignsOk_any A c zs _ (hr'.past_alloc _) hl').mono ?_; rintro e w' ⟨rfl, rfl⟩)
            go_ret
            refine ⟨ret_bool ?_, alloc_below _ _⟩
            rw [HS.out, hab]
            simp [hlen]
      · have hn' : (n == 0) = false := by rw [beq_eq_false_iff_ne]; exact hn
        have HS := Lib.hid (show okPt ⟨k, n, zs⟩ = false by rw [okPt_f (by simp only; omega)])
        clear hk hk2 hn
        go_enter Tryz.func142, Tryz.ntmps142
        go_wp2
        go_ret
        exact ⟨ret_bool (by rw [HS.out]), alloc_below _ _⟩
    · have hk2' : (k == 2) = false := by rw [beq_eq_false_iff_ne]; exact hk2
      have HS := Lib.hid (show okPt ⟨k, n, zs⟩ = false by rw [okPt_f (by simp only; omega)])
      clear hk hk2
      go_enter Tryz.func142, Tryz.ntmps142
      go_wp2
      go_ret
      exact ⟨ret_bool (by rw [HS.out]), alloc_below _ _⟩

/-- all parts are valid, and there are not too many -/
def okPs (ps : List Pt) : Bool := ps.all okPt
def partsB (ps : List Pt) : Bool := okPs ps && decide (ps.length ≤ 600)
theorem okPs_f {ps : List Pt} {k : Nat} {p : Pt} (h : ps[k]? = some p) (hp : okPt p = false) : okPs ps = false := by
  unfold okPs
  rw [List.all_eq_false]
  exact ⟨p, List.mem_of_getElem? h, by simp [hp]⟩
theorem okPs_snoc {ps : List Pt} {k : Nat} {p : Pt} (h : ps[k]? = some p) (ha : okPs (ps.take k) = true) (hp : okPt p = true) : okPs (ps.take (k + 1)) = true := by
  unfold okPs at *
  rw [List.take_add_one, h]
  simp [ha, hp]
theorem okPs_at {ps : List Pt} {k : Nat} {p : Pt} (h : ps[k]? = some p) (ha : okPs ps = true) : okPt p = true := by
  unfold okPs at ha
  exact List.all_eq_true.1 ha p (List.mem_of_getElem? h)
theorem partsB_of {ps : List Pt} (h : partsB ps = true) : okPs ps = true ∧ ps.length ≤ 600 := by
  unfold partsB at h
  rw [Bool.and_eq_true] at h
  exact ⟨h.1, of_decide_eq_true h.2⟩

set_option maxHeartbeats 1600000 in
theorem specParts_any (A : Option Addr) (c : Nat) (ps : List Pt) (w : World) (hr : PRow w w.heap.size A ps) (hl : ps.length ≤ 4294967296) (hls : ∀ p ∈ ps, p.signs.length ≤ 4294967296) :
    Calls Tryz.prog 123 #[.slice A ps.length c] w (Tells (partsB ps) w) := by
  go_enter Tryz.func123, Tryz.ntmps123
  go_wp2
  go_loopw [7] (fun i wr => ∃ k : Nat, k ≤ ps.length ∧ i = .int .i64 k ∧ okPs (ps.take k) = true ∧ Below w.heap.size w wr) (fun i _ => ps.length - (intOf i).toNat)
  case atStart => exact ⟨0, Nat.zero_le _, rfl, rfl, Below.refl _ _⟩
  case round =>
    obtain ⟨k, hk, rfl, ha, hbel⟩ := hrel
    have HA := Lib.hid ha
    clear ha
    by_cases hlt : k < ps.length
    · obtain ⟨b, off, p, rfl, hb, hp, hc⟩ := hr.at_ hlt
      obtain ⟨x0, x1, A1, e1, x2, r1⟩ := hc.keep (w' := wr) hb (fun _ hq => hbel.cell hq)
      have hsp := hls p (List.mem_of_getElem? hp)
      have HP := Lib.hid hp
      clear hp hc
      cases hs : okPt p
      · go_wp2_with fail
        refine (specPartOk_any p A1 e1 _ ((r1.more hbel.size).past_alloc _) hsp).mono ?_
        rintro e w2 ⟨rfl, b2⟩
        go_wp2
        go_ret
        exact ⟨ret_bool (by unfold partsB; rw [okPs_f HP.out hs]; rfl), (hbel.trans ((alloc_below wr _).mono hbel.size)).trans (b2.mono (Nat.le_trans hbel.size (alloc_below wr _).size))⟩
      · go_wp2_with fail
        refine (specPartOk_any p A1 e1 _ ((r1.more hbel.size).past_alloc _) hsp).mono ?_
        rintro e w2 ⟨rfl, b2⟩
        go_wp2
        go_roundw
        case rel => exact ⟨k + 1, by omega, by go_num, okPs_snoc HP.out HA.out hs, (hbel.trans ((alloc_below wr _).mono hbel.size)).trans (b2.mono (Nat.le_trans hbel.size (alloc_below wr _).size))⟩
        case measure => simp [intOf]; omega
    · have HE := Lib.hid (show partsB ps = decide ((ps.length : Int) ≤ 600) by
        have h1 := HA.out
        rw [List.take_of_length_le (by omega)] at h1
        unfold partsB
        rw [h1, Bool.true_and]
        congr 1; apply propext; omega)
      go_wp2
      go_ret
      refine ⟨ret_bool ?_, hbel⟩
      rw [HE.out]

/-- the sums -/
def keepOf (p : Pt) : Int := if p.kind = 1 then p.n else 0
def putOf (p : Pt) : Int := if p.kind = 2 then (p.signs.length : Int) else 0
def dropOf (p : Pt) : Int := if p.kind = 3 then p.n else 0
def sumOf (f : Pt → Int) (ps : List Pt) : Int := (ps.map f).sum
theorem sumOf_snoc {f : Pt → Int} {ps : List Pt} {k : Nat} {p : Pt} (h : ps[k]? = some p) : sumOf f (ps.take (k + 1)) = sumOf f (ps.take k) + f p := by
  unfold sumOf
  rw [List.take_add_one, h]
  simp
theorem sumOf_bd {f : Pt → Int} : ∀ (ps : List Pt), (∀ p ∈ ps, 0 ≤ f p ∧ f p ≤ 200) → 0 ≤ sumOf f ps ∧ sumOf f ps ≤ 200 * (ps.length : Int)
  | [], _ => by simp [sumOf]
  | p :: ps, h => by
    have h1 := h p (List.mem_cons_self ..)
    have h2 := sumOf_bd ps fun q hq => h q (List.mem_cons_of_mem _ hq)
    have e : sumOf f (p :: ps) = f p + sumOf f ps := by simp [sumOf]
    rw [e, List.length_cons]
    omega
theorem ok_bd {p : Pt} (h : okPt p = true) : (0 ≤ keepOf p ∧ keepOf p ≤ 200) ∧ (0 ≤ putOf p ∧ putOf p ≤ 200) ∧ (0 ≤ dropOf p ∧ dropOf p ≤ 200) := by
  have := of_okPt h
  unfold keepOf putOf dropOf
  refine ⟨?_, ?_, ?_⟩ <;> split <;> omega
theorem sums_bd {ps : List Pt} (h : okPs ps = true) (hl : ps.length ≤ 600) : (0 ≤ sumOf keepOf ps ∧ sumOf keepOf ps ≤ 120000) ∧ (0 ≤ sumOf putOf ps ∧ sumOf putOf ps ≤ 120000) ∧ (0 ≤ sumOf dropOf ps ∧ sumOf dropOf ps ≤ 120000) := by
  have hp : ∀ p ∈ ps, okPt p = true := fun p hp => by unfold okPs at h; exact List.all_eq_true.1 h p hp
  have h1 := sumOf_bd (f := keepOf) ps fun p hq => (ok_bd (hp p hq)).1
  have h2 := sumOf_bd (f := putOf) ps fun p hq => (ok_bd (hp p hq)).2.1
  have h3 := sumOf_bd (f := dropOf) ps fun p hq => (ok_bd (hp p hq)).2.2
  omega
theorem okPs_take {ps : List Pt} (h : okPs ps = true) (k : Nat) : okPs (ps.take k) = true := by
  unfold okPs at *
  rw [List.all_eq_true] at *
  exact fun p hp => h p (List.mem_of_mem_take hp)

def three (a b c : Int) (w : World) (e : Ending) (w' : World) : Prop := e = .returned (.tuple #[.int .i64 a, .int .i64 b, .int .i64 c]) ∧ Below w.heap.size w w'
def sumK (ps : List Pt) : Int := if partsB ps = true then sumOf keepOf ps else 0
def sumP (ps : List Pt) : Int := if partsB ps = true then sumOf putOf ps else 0
def sumD (ps : List Pt) : Int := if partsB ps = true then sumOf dropOf ps else 0
theorem sum_t {ps : List Pt} (h : partsB ps = true) : sumK ps = sumOf keepOf ps ∧ sumP ps = sumOf putOf ps ∧ sumD ps = sumOf dropOf ps := by unfold sumK sumP sumD; rw [if_pos h, if_pos h, if_pos h]; exact ⟨rfl, rfl, rfl⟩
theorem sum_f {ps : List Pt} (h : partsB ps = false) : sumK ps = 0 ∧ sumP ps = 0 ∧ sumD ps = 0 := by unfold sumK sumP sumD; rw [h]; exact ⟨rfl, rfl, rfl⟩

set_option maxRecDepth 100000 in
set_option maxHeartbeats 1600000 in
theorem specSum_any (A : Option Addr) (c : Nat) (ps : List Pt) (w : World) (hr : PRow w w.heap.size A ps) (hl : ps.length ≤ 4294967296) (hls : ∀ p ∈ ps, p.signs.length ≤ 4294967296) :
    Calls Tryz.prog 125 #[.slice A ps.length c] w (three (sumK ps) (sumP ps) (sumD ps) w) := by
  cases hpb : partsB ps
  · have HS := Lib.hid (sum_f hpb)
    go_enter Tryz.func125, Tryz.ntmps125
    go_wp2_with fail
    refine (specParts_any A c ps _ hr hl hls).mono ?_
    rintro e w1 ⟨rfl, b1⟩
    go_wp2
    go_ret3
    rw [HS.out.1, HS.out.2.1, HS.out.2.2]
    exact ⟨rfl, b1⟩
  · have HS := Lib.hid (sum_t hpb)
    have HPB := Lib.hid (partsB_of hpb)
    go_enter Tryz.func125, Tryz.ntmps125
    go_wp2_with fail
    refine (specParts_any A c ps _ hr hl hls).mono ?_
    rintro e w1 ⟨rfl, b1⟩
    go_wp2
    go_loopw [5, 6, 7, 15] (fun a b d i wr => ∃ k : Nat, k ≤ ps.length ∧ i = .int .i64 k ∧ a = .int .i64 (sumOf keepOf (ps.take k)) ∧ b = .int .i64 (sumOf putOf (ps.take k)) ∧ d = .int .i64 (sumOf dropOf (ps.take k)) ∧ Below w.heap.size w wr) (fun _ _ _ i _ => ps.length - (intOf i).toNat)
    case atStart => exact ⟨0, Nat.zero_le _, rfl, rfl, rfl, rfl, b1⟩
    case round =>
      obtain ⟨k, hk, rfl, rfl, rfl, rfl, hbel⟩ := hrel
      have hsb := sums_bd (okPs_take HPB.out.1 k) (by rw [List.length_take]; have := HPB.out.2; omega)
      obtain ⟨⟨s1, s2⟩, ⟨s3, s4⟩, s5, s6⟩ := hsb
      by_cases hlt : k < ps.length
      · obtain ⟨b, off, p, rfl, hb, hp, hc⟩ := hr.at_ hlt
        obtain ⟨x0, x1, A1, e1, x2, r1⟩ := hc.keep (w' := wr) hb (fun _ hq => hbel.cell hq)
        have hok := of_okPt (okPs_at hp HPB.out.1)
        have K1 := Lib.hid (sumOf_snoc (f := keepOf) hp)
        have K2 := Lib.hid (sumOf_snoc (f := putOf) hp)
        have K3 := Lib.hid (sumOf_snoc (f := dropOf) hp)
        clear hp hc
        generalize sumOf keepOf (ps.take k) = q1 at *
        generalize sumOf putOf (ps.take k) = q2 at *
        generalize sumOf dropOf (ps.take k) = q3 at *
        obtain ⟨pk, pn, pz⟩ := p
        simp only at x0 x1 x2 hok
        rcases (show pk = 1 ∨ pk = 2 ∨ pk = 3 by omega) with rfl | rfl | rfl
        · have hn1 : 0 ≤ pn := by omega
          have hn2 : pn ≤ 200 := by omega
          clear hok
          go_wp2
          go_roundw
          case rel => exact ⟨k + 1, by omega, by go_num, by rw [K1.out]; simp [keepOf], by rw [K2.out]; simp [putOf], by rw [K3.out]; simp [dropOf], hbel.trans ((alloc_below wr _).mono hbel.size)⟩
          case measure => simp [intOf]; omega
        · have hn1 : pz.length ≤ 200 := by omega
          clear hok
          go_wp2
          go_roundw
          case rel => exact ⟨k + 1, by omega, by go_num, by rw [K1.out]; simp [keepOf], by rw [K2.out]; simp [putOf], by rw [K3.out]; simp [dropOf], hbel.trans ((alloc_below wr _).mono hbel.size)⟩
          case measure => simp [intOf]; omega
        · have hn1 : 0 ≤ pn := by omega
          have hn2 : pn ≤ 200 := by omega
          clear hok
          go_wp2
          go_roundw
          case rel => exact ⟨k + 1, by omega, by go_num, by rw [K1.out]; simp [keepOf], by rw [K2.out]; simp [putOf], by rw [K3.out]; simp [dropOf], hbel.trans ((alloc_below wr _).mono hbel.size)⟩
          case measure => simp [intOf]; omega
      · have hke : ps.take k = ps := List.take_of_length_le (by omega)
        rw [hke] at s1 s2 s3 s4 s5 s6 ⊢
        go_wp2
        go_ret3
        rw [HS.out.1, HS.out.2.1, HS.out.2.2]
        exact ⟨rfl, hbel⟩

def Nums1 (n : Int) (w : World) (e : Ending) (w' : World) : Prop := e = .returned (.int .i64 n) ∧ Below w.heap.size w w'
theorem sum_bd (ps : List Pt) : (0 ≤ sumK ps ∧ sumK ps ≤ 120000) ∧ (0 ≤ sumP ps ∧ sumP ps ≤ 120000) ∧ (0 ≤ sumD ps ∧ sumD ps ≤ 120000) := by
  cases h : partsB ps
  · obtain ⟨h1, h2, h3⟩ := sum_f h
    rw [h1, h2, h3]; omega
  · obtain ⟨h1, h2, h3⟩ := sum_t h
    have hp := partsB_of h
    have := sums_bd hp.1 hp.2
    rw [h1, h2, h3]; exact this

set_option maxHeartbeats 800000 in
theorem specOpFrom_any (A : Option Addr) (c : Nat) (ps : List Pt) (w : World) (hr : PRow w w.heap.size A ps) (hl : ps.length ≤ 4294967296) (hls : ∀ p ∈ ps, p.signs.length ≤ 4294967296) :
    Calls Tryz.prog 108 #[.slice A ps.length c] w (Nums1 (sumK ps + sumD ps) w) := by
  have hbd := sum_bd ps
  obtain ⟨⟨s1, s2⟩, ⟨s3, s4⟩, s5, s6⟩ := hbd
  go_enter Tryz.func108, Tryz.ntmps108
  go_wp2_with fail
  refine (specSum_any A c ps _ hr hl hls).mono ?_
  rintro e w1 ⟨rfl, b1⟩
  generalize sumK ps = q1 at *
  generalize sumP ps = q2 at *
  generalize sumD ps = q3 at *
  go_wp2
  go_ret
  exact ⟨rfl, b1⟩

set_option maxHeartbeats 800000 in
theorem specOpTo_any (A : Option Addr) (c : Nat) (ps : List Pt) (w : World) (hr : PRow w w.heap.size A ps) (hl : ps.length ≤ 4294967296) (hls : ∀ p ∈ ps, p.signs.length ≤ 4294967296) :
    Calls Tryz.prog 124 #[.slice A ps.length c] w (Nums1 (sumK ps + sumP ps) w) := by
  have hbd := sum_bd ps
  obtain ⟨⟨s1, s2⟩, ⟨s3, s4⟩, s5, s6⟩ := hbd
  go_enter Tryz.func124, Tryz.ntmps124
  go_wp2_with fail
  refine (specSum_any A c ps _ hr hl hls).mono ?_
  rintro e w1 ⟨rfl, b1⟩
  generalize sumK ps = q1 at *
  generalize sumP ps = q2 at *
  generalize sumD ps = q3 at *
  go_wp2
  go_ret
  exact ⟨rfl, b1⟩

/-- a valid operation -/
def okOp (ps : List Pt) : Bool := partsB ps && decide (sumK ps + sumD ps ≤ 200) && decide (sumK ps + sumP ps ≤ 200)
set_option maxHeartbeats 1600000 in
theorem specOpOk_any (A : Option Addr) (c : Nat) (ps : List Pt) (w : World) (hr : PRow w w.heap.size A ps) (hl : ps.length ≤ 4294967296) (hls : ∀ p ∈ ps, p.signs.length ≤ 4294967296) :
    Calls Tryz.prog 107 #[.slice A ps.length c] w (Tells (okOp ps) w) := by
  cases hpb : partsB ps
  · have HS := Lib.hid (show okOp ps = false by unfold okOp; rw [hpb]; rfl)
    go_enter Tryz.func107, Tryz.ntmps107
    go_wp2_with fail
    refine (specParts_any A c ps _ hr hl hls).mono ?_
    rintro e w1 ⟨rfl, b1⟩
    go_wp2
    go_ret
    exact ⟨ret_bool (by rw [HS.out]), b1⟩
  · by_cases hf : sumK ps + sumD ps ≤ 200
    · by_cases ht : sumK ps + sumP ps ≤ 200
      all_goals
        have HS := Lib.hid (show okOp ps = decide (sumK ps + sumP ps ≤ 200) by unfold okOp; rw [hpb, decide_eq_true hf]; rfl)
        go_enter Tryz.func107, Tryz.ntmps107
        go_wp2_with fail
        refine (specParts_any A c ps _ hr hl hls).mono ?_
        rintro e w1 ⟨rfl, b1⟩
        go_wp2_with fail
        refine (specOpFrom_any A c ps _ (hr.past b1) hl hls).mono ?_
        rintro e w2 ⟨rfl, b2⟩
        have d2 := b1.trans (b2.mono b1.size)
        go_wp2_with fail
        refine (specOpTo_any A c ps _ (hr.past d2) hl hls).mono ?_
        rintro e w3 ⟨rfl, b3⟩
        go_wp2
        go_ret
        refine ⟨ret_bool ?_, d2.trans (b3.mono d2.size)⟩
        rw [HS.out]
        first | done | (rw [decide_eq_true ht]) | (rw [decide_eq_false ht])
    · have HS := Lib.hid (show okOp ps = false by unfold okOp; rw [hpb, decide_eq_false hf]; rfl)
      go_enter Tryz.func107, Tryz.ntmps107
      go_wp2_with fail
      refine (specParts_any A c ps _ hr hl hls).mono ?_
      rintro e w1 ⟨rfl, b1⟩
      go_wp2_with fail
      refine (specOpFrom_any A c ps _ (hr.past b1) hl hls).mono ?_
      rintro e w2 ⟨rfl, b2⟩
      go_wp2
      go_ret
      exact ⟨ret_bool (by rw [HS.out]), b1.trans (b2.mono b1.size)⟩

end Go.Proofs.YtamainhocghlgaaGreatDoor.low


/-
  Contract of spec.Keeping.
-/
namespace Go.Proofs.YtamainhocghlgaaGreatDoor.low
open Go.RowKit
set_option linter.unusedVariables false

theorem PBuf.nil (w : World) : PBuf w.heap.size w.heap.size w (.slice none 0 0) [] :=
  ⟨[], World.ownsRow_nil _ _ _ _, ⟨rfl, fun i p u hp _ => by simp at hp, fun i j k u v hu _ _ _ => by simp at hu⟩, fun k hk => by simp [Value.ownBlock] at hk, Nat.le_refl _, Nat.le_refl _⟩
theorem PBuf.past {lo hi : Nat} {w w' : World} {v : Value} {ps : List Pt} (h : PBuf lo hi w v ps) (hb : Below w.heap.size w w') : PBuf lo hi w' v ps := by
  obtain ⟨us, ho, hap, hv, hh, hlo⟩ := h
  exact ⟨us, own_keep ho (fun k _ hk2 => hb.block k hk2), hap.keep (Nat.le_refl _) (fun i u k _ _ hk2 => hb.block k hk2), hv, Nat.le_trans hh hb.size, hlo⟩
/-- a marked slice of parts, read again -/
theorem PBuf.marked {lo hi c : Nat} {w : World} {A : Option Addr} {k : Int} {ps qs : List Pt} (h : PBuf lo hi w (.slice A ps.length c) qs) (hm : IsMarked k ps qs) : PRow w w.heap.size A qs := by
  have hh := h
  obtain ⟨A', c', e, r⟩ := h.slice
  injection e with e1 e2 e3
  obtain ⟨_, _, _, _, hs, _⟩ := hh
  rw [e1]
  exact r.more hs
/-- a slice of one part that was just made, the part without characters -/
theorem PBuf.one (w : World) (k n : Int) : PBuf w.heap.size (w.alloc (.cells #[.int .i64 k, .int .i64 n, .slice none 0 0] 145)).heap.size (w.alloc (.cells #[.int .i64 k, .int .i64 n, .slice none 0 0] 145)) (.slice (some ⟨w.heap.size, 0, none⟩) 1 1) [⟨k, n, []⟩] := by
  refine ⟨[.slice none 0 0], ⟨rfl, .inr ⟨w.heap.size, 1, _, rfl, Nat.le_refl _, heap_alloc_new w _, Nat.le_refl _, by decide, rfl, rfl⟩⟩, ⟨rfl, fun i p u hp hu => ?_, fun i j q u v hu hv hk _ => ?_⟩, fun q hq => blk_lt hq (by simp), Nat.le_refl _, by simp⟩
  · cases i with
    | zero =>
      simp at hp hu
      subst hp; subst hu
      exact ⟨World.ownsRow_nil _ _ _ _, fun q hq => by simp [Value.ownBlock] at hq⟩
    | succ i => simp at hp
  · cases i with
    | zero =>
      simp at hu
      subst hu
      simp [Value.ownBlock] at hk
    | succ i => simp at hu

end Go.Proofs.YtamainhocghlgaaGreatDoor.low


/-
  What a slice of parts of the caller's own still is behind a call that wrote elsewhere.
-/
namespace Go.Proofs.YtamainhocghlgaaGreatDoor.low
open Go.RowKit
set_option linter.unusedVariables false

/-- other blocks were written -/
theorem PBuf.apart {lo hi : Nat} {w w' : World} {v : Value} {ps : List Pt} {T : Nat → Prop} (h : PBuf lo hi w v ps) (ht : Touch T w w') (hT : ∀ b, lo ≤ b → b < hi → ¬ T b) : PBuf lo hi w' v ps := by
  obtain ⟨us, ho, hap, hv, hh, hlo⟩ := h
  refine ⟨us, own_touch ho ht (fun k hk => hT k (own_ge ho k hk) (hv k hk)), hap.keep (Nat.le_refl _) (fun i u k hu hk1 hk2 => ?_), hv, by rw [ht.size]; exact hh, hlo⟩
  obtain ⟨p, hp⟩ := idx_some (l := ps) (i := i) (by rw [← hap.1]; exact idx_lt hu)
  obtain ⟨o1, o2⟩ := hap.2.1 i p u hp hu
  exact ht.block k (hT k (own_ge o1 k hk1) (o2 k hk1))
end Go.Proofs.YtamainhocghlgaaGreatDoor.low


/-
  Data in memory, of whatever shape: a datum is a number, a bool, a string, a slice whose elements are rows of data, or a struct by value (agg: a row of data). How a value reads as a datum (RdC), how it owns one (OwC: with the list of its blocks), and what writes elsewhere leave alone.
-/
namespace Go.Proofs.YtamainhocghlgaaGreatDoor.low
open Go.RowKit
set_option linter.unusedVariables false

inductive Dat where
  | int (n : Int)
  | bool (b : Bool)
  | str (s : ByteArray)
  | rows (e : TypeId) (sz : Nat) (ds : List (List Dat))
  | agg (ds : List Dat)

mutual
/-- the value v reads as the datum; slices lie in blocks below B -/
def RdC (w : World) (B : Nat) : Dat → Value → Prop
  | .int n, v => v = .int .i64 n
  | .bool b, v => v = .bool b
  | .str s, v => v = .string s
  | .rows _ sz ds, v => ∃ A c, v = .slice A ds.length c ∧ ds.length ≤ c ∧ (0 < ds.length → ∃ ad : Addr, A = some ad ∧ ad.block < B ∧ (sz = 1 ∨ ad.spot = none) ∧ RdR w B sz ad 0 ds)
  | .agg ds, v => ∃ vs : List Value, v = .agg vs.toArray ∧ RdV w B ds vs
/-- the values read as the data -/
def RdV (w : World) (B : Nat) : List Dat → List Value → Prop
  | [], vs => vs = []
  | d :: ds, vs => ∃ x xs, vs = x :: xs ∧ RdC w B d x ∧ RdV w B ds xs
/-- the cells from o on read as the data -/
def RdL (w : World) (B : Nat) (ad : Addr) : Nat → List Dat → Prop
  | _, [] => True
  | o, d :: ds => (∃ v, w.cell? (ad.add o) = some v ∧ RdC w B d v) ∧ RdL w B ad (o + 1) ds
/-- the rows of sz cells each from o on -/
def RdR (w : World) (B : Nat) (sz : Nat) (ad : Addr) : Nat → List (List Dat) → Prop
  | _, [] => True
  | o, r :: rs => RdL w B ad o r ∧ RdR w B sz ad (o + sz) rs
end

mutual
theorem RdC.keep {w w' : World} {B : Nat} (hk : ∀ p : Addr, p.block < B → w'.cell? p = w.cell? p) : ∀ (d : Dat) (v : Value), RdC w B d v → RdC w' B d v
  | .int _, _, h => h
  | .bool _, _, h => h
  | .str _, _, h => h
  | .rows _ sz ds, _, h => by
    obtain ⟨A, c, hv, hc, h⟩ := h
    refine ⟨A, c, hv, hc, fun hn => ?_⟩
    obtain ⟨ad, hA, hb, hs, hr⟩ := h hn
    exact ⟨ad, hA, hb, hs, RdR.keep hk sz ad hb 0 ds hr⟩
  | .agg ds, _, h => by
    obtain ⟨vs, hv, h⟩ := h
    exact ⟨vs, hv, RdV.keep hk ds vs h⟩
theorem RdV.keep {w w' : World} {B : Nat} (hk : ∀ p : Addr, p.block < B → w'.cell? p = w.cell? p) : ∀ (ds : List Dat) (vs : List Value), RdV w B ds vs → RdV w' B ds vs
  | [], _, h => h
  | d :: ds, _, h => by
    obtain ⟨x, xs, hx, h1, h2⟩ := h
    exact ⟨x, xs, hx, RdC.keep hk d x h1, RdV.keep hk ds xs h2⟩
theorem RdL.keep {w w' : World} {B : Nat} (hk : ∀ p : Addr, p.block < B → w'.cell? p = w.cell? p) (ad : Addr) (hb : ad.block < B) : ∀ (o : Nat) (ds : List Dat), RdL w B ad o ds → RdL w' B ad o ds
  | _, [], _ => trivial
  | o, d :: ds, h => by
    obtain ⟨⟨v, hv, hd⟩, h2⟩ := h
    exact ⟨⟨v, (hk _ (by rw [block_of_add]; exact hb)).trans hv, RdC.keep hk d v hd⟩, RdL.keep hk ad hb (o + 1) ds h2⟩
theorem RdR.keep {w w' : World} {B : Nat} (hk : ∀ p : Addr, p.block < B → w'.cell? p = w.cell? p) (sz : Nat) (ad : Addr) (hb : ad.block < B) : ∀ (o : Nat) (rs : List (List Dat)), RdR w B sz ad o rs → RdR w' B sz ad o rs
  | _, [], _ => trivial
  | o, r :: rs, h => ⟨RdL.keep hk ad hb o r h.1, RdR.keep hk sz ad hb (o + sz) rs h.2⟩
end
mutual
theorem RdC.more {w : World} {B B' : Nat} (hB : B ≤ B') : ∀ (d : Dat) (v : Value), RdC w B d v → RdC w B' d v
  | .int _, _, h => h
  | .bool _, _, h => h
  | .str _, _, h => h
  | .rows _ sz ds, _, h => by
    obtain ⟨A, c, hv, hc, h⟩ := h
    refine ⟨A, c, hv, hc, fun hn => ?_⟩
    obtain ⟨ad, hA, hb, hs, hr⟩ := h hn
    exact ⟨ad, hA, Nat.lt_of_lt_of_le hb hB, hs, RdR.more hB sz ad 0 ds hr⟩
  | .agg ds, _, h => by
    obtain ⟨vs, hv, h⟩ := h
    exact ⟨vs, hv, RdV.more hB ds vs h⟩
theorem RdV.more {w : World} {B B' : Nat} (hB : B ≤ B') : ∀ (ds : List Dat) (vs : List Value), RdV w B ds vs → RdV w B' ds vs
  | [], _, h => h
  | d :: ds, _, h => by
    obtain ⟨x, xs, hx, h1, h2⟩ := h
    exact ⟨x, xs, hx, RdC.more hB d x h1, RdV.more hB ds xs h2⟩
theorem RdL.more {w : World} {B B' : Nat} (hB : B ≤ B') (ad : Addr) : ∀ (o : Nat) (ds : List Dat), RdL w B ad o ds → RdL w B' ad o ds
  | _, [], _ => trivial
  | o, d :: ds, h => by
    obtain ⟨⟨v, hv, hd⟩, h2⟩ := h
    exact ⟨⟨v, hv, RdC.more hB d v hd⟩, RdL.more hB ad (o + 1) ds h2⟩
theorem RdR.more {w : World} {B B' : Nat} (hB : B ≤ B') (sz : Nat) (ad : Addr) : ∀ (o : Nat) (rs : List (List Dat)), RdR w B sz ad o rs → RdR w B' sz ad o rs
  | _, [], _ => trivial
  | o, r :: rs, h => ⟨RdL.more hB ad o r h.1, RdR.more hB sz ad (o + sz) rs h.2⟩
end
theorem RdC.below {w w' : World} {B : Nat} {d : Dat} {v : Value} (h : RdC w B d v) (hb : Below B w w') : RdC w' B d v := RdC.keep (fun _ hp => hb.cell hp) d v h
theorem RdC.past {w w' : World} {d : Dat} {v : Value} (h : RdC w w.heap.size d v) (hb : Below w.heap.size w w') : RdC w' w'.heap.size d v := RdC.more hb.size d v (h.below hb)
theorem RdC.drew {w : World} {B : Nat} {d : Dat} {v : Value} (h : RdC w B d v) : RdC w.drew B d v := RdC.keep (w := w) (w' := w.drew) (fun _ _ => rfl) d v h
theorem RdC.drewS {w : World} {d : Dat} {v : Value} (h : RdC w w.heap.size d v) : RdC w.drew w.drew.heap.size d v := h.drew
theorem RdR.at_ {w : World} {B sz : Nat} {ad : Addr} : ∀ {rs : List (List Dat)} {o i : Nat} {r : List Dat}, RdR w B sz ad o rs → rs[i]? = some r → RdL w B ad (o + i * sz) r
  | [], _, _, _, _, h => by simp at h
  | r :: rs, o, 0, q, h, hq => by
    simp at hq
    subst hq
    simpa using h.1
  | r :: rs, o, i + 1, q, h, hq => by
    have := RdR.at_ (rs := rs) (o := o + sz) (i := i) (r := q) h.2 (by simpa using hq)
    rw [show o + (i + 1) * sz = o + sz + i * sz by rw [Nat.add_mul]; omega]
    exact this
/-- a slice's element -/
theorem RdC.at_ {w : World} {B sz : Nat} {e : TypeId} {ds : List (List Dat)} {A : Option Addr} {n c i : Nat} (h : RdC w B (.rows e sz ds) (.slice A n c)) (hi : i < ds.length) :
    ∃ ad r, A = some ad ∧ ad.block < B ∧ (sz = 1 ∨ ad.spot = none) ∧ ds[i]? = some r ∧ RdL w B ad (i * sz) r := by
  obtain ⟨A', c', hv, _, h⟩ := h
  injection hv with e1 e2 e3
  subst e1
  obtain ⟨ad, hA, hb, hs, hr⟩ := h (by omega)
  refine ⟨ad, ds[i], hA, hb, hs, List.getElem?_eq_getElem hi, ?_⟩
  have := hr.at_ (i := i) (List.getElem?_eq_getElem hi)
  simpa using this
theorem RdC.len {w : World} {B sz : Nat} {e : TypeId} {ds : List (List Dat)} {v : Value} (h : RdC w B (.rows e sz ds) v) : ∃ A c, v = .slice A ds.length c ∧ ds.length ≤ c := by
  obtain ⟨A, c, hv, hc, _⟩ := h
  exact ⟨A, c, hv, hc⟩

mutual
/-- the value v owns the datum; bs are its blocks -/
def OwC (w : World) : Dat → Value → List Nat → Prop
  | .int n, v, bs => v = .int .i64 n ∧ bs = []
  | .bool b, v, bs => v = .bool b ∧ bs = []
  | .str s, v, bs => v = .string s ∧ bs = []
  | .rows e sz ds, v, bs => ∃ xs cs, w.ownsRow 0 e sz v ds.length xs ∧ OwR w sz ds xs cs ∧ bs = v.ownBlock.toList ++ cs
  | .agg ds, v, bs => ∃ xs : List Value, v = .agg xs.toArray ∧ OwL w ds xs bs
def OwL (w : World) : List Dat → List Value → List Nat → Prop
  | [], xs, bs => xs = [] ∧ bs = []
  | d :: ds, xs, bs => ∃ x xs' b b', xs = x :: xs' ∧ bs = b ++ b' ∧ OwC w d x b ∧ OwL w ds xs' b'
def OwR (w : World) (sz : Nat) : List (List Dat) → List Value → List Nat → Prop
  | [], xs, bs => xs = [] ∧ bs = []
  | r :: rs, xs, bs => ∃ y ys b b', xs = y ++ ys ∧ y.length = sz ∧ bs = b ++ b' ∧ OwL w r y b ∧ OwR w sz rs ys b'
end

mutual
theorem OwC.keep {w w' : World} : ∀ (d : Dat) (v : Value) (bs : List Nat), OwC w d v bs → (∀ b ∈ bs, w'.heap[b]? = w.heap[b]?) → OwC w' d v bs
  | .int _, _, _, h, _ => h
  | .bool _, _, _, h, _ => h
  | .str _, _, _, h, _ => h
  | .rows e sz ds, v, bs, h, hk => by
    obtain ⟨xs, cs, ho, hr, hb⟩ := h
    refine ⟨xs, cs, own_keep ho (fun k hk1 _ => hk k (by rw [hb, hk1]; simp)), OwR.keep sz ds xs cs hr (fun b hb' => hk b (by rw [hb]; simp [hb'])), hb⟩
  | .agg ds, v, bs, h, hk => by
    obtain ⟨xs, hv, h⟩ := h
    exact ⟨xs, hv, OwL.keep ds xs bs h hk⟩
theorem OwL.keep {w w' : World} : ∀ (ds : List Dat) (xs : List Value) (bs : List Nat), OwL w ds xs bs → (∀ b ∈ bs, w'.heap[b]? = w.heap[b]?) → OwL w' ds xs bs
  | [], _, _, h, _ => h
  | d :: ds, xs, bs, h, hk => by
    obtain ⟨x, xs', b, b', hx, hb, h1, h2⟩ := h
    exact ⟨x, xs', b, b', hx, hb, OwC.keep d x b h1 (fun q hq => hk q (by rw [hb]; simp [hq])), OwL.keep ds xs' b' h2 (fun q hq => hk q (by rw [hb]; simp [hq]))⟩
theorem OwR.keep {w w' : World} (sz : Nat) : ∀ (rs : List (List Dat)) (xs : List Value) (bs : List Nat), OwR w sz rs xs bs → (∀ b ∈ bs, w'.heap[b]? = w.heap[b]?) → OwR w' sz rs xs bs
  | [], _, _, h, _ => h
  | r :: rs, xs, bs, h, hk => by
    obtain ⟨y, ys, b, b', hx, hl, hb, h1, h2⟩ := h
    exact ⟨y, ys, b, b', hx, hl, hb, OwL.keep r y b h1 (fun q hq => hk q (by rw [hb]; simp [hq])), OwR.keep sz rs ys b' h2 (fun q hq => hk q (by rw [hb]; simp [hq]))⟩
end

theorem own_cells {w : World} {e : TypeId} {size g n cap : Nat} {xs : List Value} (h : w.ownsRow 0 e size (.slice (some ⟨g, 0, none⟩) n cap) n xs) : ∀ (j : Nat) (x : Value), xs[j]? = some x → w.cell? ⟨g, j, none⟩ = some x := fun j x hx => by
  have hj : j < xs.length := idx_lt hx
  rw [h.cellAt j (by rw [← h.1]; exact hj), hx]

theorem own_blk0 {w : World} {base n size : Nat} {v : Value} {e : TypeId} {xs : List Value} (h : w.ownsRow base e size v n xs) {k : Nat} (hk : v.ownBlock = some k) : ∃ cur, w.heap[k]? = some (.cells cur e (0, 0)) := by
  rcases h.2 with ⟨rfl, _⟩ | ⟨g, cap, cur, rfl, hge, hh, _⟩
  · simp [Value.ownBlock] at hk
  · have : g = k := by simpa [Value.ownBlock] using hk
    subst this
    exact ⟨cur, hh⟩
theorem own_in {w : World} {base n size : Nat} {v : Value} {e : TypeId} {xs : List Value} (h : w.ownsRow base e size v n xs) {k : Nat} (hk : v.ownBlock = some k) : k < w.heap.size := by
  obtain ⟨cur, hh⟩ := own_blk0 h hk
  exact lt_of_some hh
theorem add_at (b off i : Nat) : (⟨b, off, none⟩ : Addr).add i = ⟨b, off + i, none⟩ := by
  unfold Addr.add
  split
  · rename_i h; subst h; rfl
  · rfl
theorem add_plain0 (g o : Nat) : (⟨g, 0, none⟩ : Addr).add o = ⟨g, o, none⟩ := by
  unfold Addr.add
  split
  · rename_i h; subst h; rfl
  · simp

mutual
theorem OwC.lt {w : World} : ∀ (d : Dat) (v : Value) (bs : List Nat), OwC w d v bs → ∀ b ∈ bs, b < w.heap.size
  | .int _, _, _, h, b, hb => by obtain ⟨_, h⟩ := h; subst h; simp at hb
  | .bool _, _, _, h, b, hb => by obtain ⟨_, h⟩ := h; subst h; simp at hb
  | .str _, _, _, h, b, hb => by obtain ⟨_, h⟩ := h; subst h; simp at hb
  | .rows e sz ds, v, bs, h, b, hb => by
    obtain ⟨xs, cs, ho, hr, hbs⟩ := h
    rw [hbs] at hb
    rcases List.mem_append.1 hb with hb | hb
    · obtain ⟨cur, hh⟩ := own_blk0 ho (by simpa using hb)
      exact lt_of_some hh
    · exact OwR.lt sz ds xs cs hr b hb
  | .agg ds, v, bs, h, b, hb => by
    obtain ⟨xs, hv, h⟩ := h
    exact OwL.lt ds xs bs h b hb
theorem OwL.lt {w : World} : ∀ (ds : List Dat) (xs : List Value) (bs : List Nat), OwL w ds xs bs → ∀ b ∈ bs, b < w.heap.size
  | [], _, _, h, b, hb => by obtain ⟨_, h⟩ := h; subst h; simp at hb
  | d :: ds, xs, bs, h, b, hb => by
    obtain ⟨x, xs', b1, b2, hx, hbs, h1, h2⟩ := h
    rw [hbs] at hb
    rcases List.mem_append.1 hb with hb | hb
    · exact OwC.lt d x b1 h1 b hb
    · exact OwL.lt ds xs' b2 h2 b hb
theorem OwR.lt {w : World} (sz : Nat) : ∀ (rs : List (List Dat)) (xs : List Value) (bs : List Nat), OwR w sz rs xs bs → ∀ b ∈ bs, b < w.heap.size
  | [], _, _, h, b, hb => by obtain ⟨_, h⟩ := h; subst h; simp at hb
  | r :: rs, xs, bs, h, b, hb => by
    obtain ⟨y, ys, b1, b2, hx, hl, hbs, h1, h2⟩ := h
    rw [hbs] at hb
    rcases List.mem_append.1 hb with hb | hb
    · exact OwL.lt r y b1 h1 b hb
    · exact OwR.lt sz rs ys b2 h2 b hb
end

mutual
/-- what is owned can be read -/
theorem OwC.read {w : World} {B : Nat} : ∀ (d : Dat) (v : Value) (bs : List Nat), OwC w d v bs → (∀ b ∈ bs, b < B) → RdC w B d v
  | .int _, _, _, h, _ => h.1
  | .bool _, _, _, h, _ => h.1
  | .str _, _, _, h, _ => h.1
  | .rows e sz ds, v, bs, h, hk => by
    obtain ⟨xs, cs, ho, hr, hb⟩ := h
    rcases ho.2 with ⟨rfl, h0⟩ | ⟨g, cap, cur, rfl, _, _, hnc, _⟩
    · exact ⟨none, 0, by rw [h0], by omega, fun hn => absurd h0 (by omega)⟩
    · refine ⟨_, cap, rfl, hnc, fun hn => ⟨_, rfl, hk g (by rw [hb]; simp [Value.ownBlock]), .inr rfl, ?_⟩⟩
      refine OwR.read sz g 0 ds xs cs hr (fun b hb' => hk b (by rw [hb]; simp [hb'])) (fun j x hx => ?_)
      rw [Nat.zero_add]
      exact own_cells ho j x hx
  | .agg ds, v, bs, h, hk => by
    obtain ⟨xs, hv, h⟩ := h
    exact ⟨xs, hv, OwL.readV ds xs bs h hk⟩
theorem OwL.readV {w : World} {B : Nat} : ∀ (ds : List Dat) (xs : List Value) (bs : List Nat), OwL w ds xs bs → (∀ b ∈ bs, b < B) → RdV w B ds xs
  | [], _, _, h, _ => h.1
  | d :: ds, xs, bs, h, hk => by
    obtain ⟨x, xs', b, b', hx, hb, h1, h2⟩ := h
    exact ⟨x, xs', hx, OwC.read d x b h1 (fun q hq => hk q (by rw [hb]; simp [hq])), OwL.readV ds xs' b' h2 (fun q hq => hk q (by rw [hb]; simp [hq]))⟩
theorem OwL.read {w : World} {B : Nat} (g : Nat) : ∀ (o : Nat) (ds : List Dat) (xs : List Value) (bs : List Nat), OwL w ds xs bs → (∀ b ∈ bs, b < B) → (∀ (j : Nat) (x : Value), xs[j]? = some x → w.cell? ⟨g, o + j, none⟩ = some x) → RdL w B ⟨g, 0, none⟩ o ds
  | _, [], _, _, _, _, _ => trivial
  | o, d :: ds, xs, bs, h, hk, hc => by
    obtain ⟨x, xs', b, b', hx, hb, h1, h2⟩ := h
    refine ⟨⟨x, ?_, OwC.read d x b h1 (fun q hq => hk q (by rw [hb]; simp [hq]))⟩, OwL.read g (o + 1) ds xs' b' h2 (fun q hq => hk q (by rw [hb]; simp [hq])) (fun j y hy => ?_)⟩
    · rw [add_plain0]; exact hc 0 x (by rw [hx]; rfl)
    · have := hc (j + 1) y (by rw [hx]; simpa using hy)
      rwa [show o + (j + 1) = o + 1 + j by omega] at this
theorem OwR.read {w : World} {B : Nat} (sz g : Nat) : ∀ (o : Nat) (rs : List (List Dat)) (xs : List Value) (bs : List Nat), OwR w sz rs xs bs → (∀ b ∈ bs, b < B) → (∀ (j : Nat) (x : Value), xs[j]? = some x → w.cell? ⟨g, o + j, none⟩ = some x) → RdR w B sz ⟨g, 0, none⟩ o rs
  | _, [], _, _, _, _, _ => trivial
  | o, r :: rs, xs, bs, h, hk, hc => by
    obtain ⟨y, ys, b, b', hx, hl, hb, h1, h2⟩ := h
    refine ⟨OwL.read g o r y b h1 (fun q hq => hk q (by rw [hb]; simp [hq])) (fun j x hj => hc j x ?_), OwR.read sz g (o + sz) rs ys b' h2 (fun q hq => hk q (by rw [hb]; simp [hq])) (fun j x hj => ?_)⟩
    · rw [hx, List.getElem?_append_left (idx_lt hj)]; exact hj
    · have := hc (sz + j) x (by rw [hx, List.getElem?_append_right (by omega), hl]; simpa using hj)
      rwa [← Nat.add_assoc] at this
end

/-- v is a datum of the caller's own, in blocks from lo to below hi, all apart -/
def Own (lo hi : Nat) (w : World) (d : Dat) (v : Value) : Prop := ∃ bs, OwC w d v bs ∧ bs.Nodup ∧ (∀ b ∈ bs, lo ≤ b ∧ b < hi) ∧ hi ≤ w.heap.size ∧ lo ≤ hi
theorem Own.past {lo hi : Nat} {w w' : World} {d : Dat} {v : Value} (h : Own lo hi w d v) (hb : Below w.heap.size w w') : Own lo hi w' d v := by
  obtain ⟨bs, h1, h2, h3, h4, h5⟩ := h
  exact ⟨bs, OwC.keep d v bs h1 (fun b hb' => hb.block b (OwC.lt d v bs h1 b hb')), h2, h3, Nat.le_trans h4 hb.size, h5⟩
theorem Own.apart {lo hi : Nat} {w w' : World} {d : Dat} {v : Value} {T : Nat → Prop} (h : Own lo hi w d v) (ht : Touch T w w') (hT : ∀ b, lo ≤ b → b < hi → ¬ T b) : Own lo hi w' d v := by
  obtain ⟨bs, h1, h2, h3, h4, h5⟩ := h
  exact ⟨bs, OwC.keep d v bs h1 (fun b hb => ht.block b (hT b (h3 b hb).1 (h3 b hb).2)), h2, h3, by rw [ht.size]; exact h4, h5⟩
theorem Own.read {lo hi : Nat} {w : World} {d : Dat} {v : Value} (h : Own lo hi w d v) : RdC w w.heap.size d v := by
  obtain ⟨bs, h1, h2, h3, h4, h5⟩ := h
  exact OwC.read d v bs h1 (fun b hb => Nat.lt_of_lt_of_le (h3 b hb).2 h4)
theorem Own.wide {lo hi lo' hi' : Nat} {w : World} {d : Dat} {v : Value} (h : Own lo hi w d v) (h1 : lo' ≤ lo) (h2 : hi ≤ hi') (h3 : hi' ≤ w.heap.size) : Own lo' hi' w d v := by
  obtain ⟨bs, k1, k2, k3, k4, k5⟩ := h
  exact ⟨bs, k1, k2, fun b hb => by have := k3 b hb; omega, h3, by omega⟩
theorem Own.slice {lo hi sz : Nat} {w : World} {e : TypeId} {ds : List (List Dat)} {v : Value} (h : Own lo hi w (.rows e sz ds) v) : ∃ A c, v = .slice A ds.length c ∧ ds.length ≤ c := h.read.len
/-- it returns a datum of its own -/
def OwnPost (d : Dat) (w : World) (e : Ending) (w' : World) : Prop := ∃ v, e = .returned v ∧ Own w.heap.size w'.heap.size w' d v ∧ Below w.heap.size w w'
end Go.Proofs.YtamainhocghlgaaGreatDoor.low


/-
  Data in memory: an element of an owned slice, taken out and put back; a cell of it written; what lies behind it changed.
-/
namespace Go.Proofs.YtamainhocghlgaaGreatDoor.low
open Go.RowKit
set_option linter.unusedVariables false

theorem OwR.len {w : World} {sz : Nat} : ∀ {rs : List (List Dat)} {xs : List Value} {bs : List Nat}, OwR w sz rs xs bs → xs.length = rs.length * sz
  | [], xs, bs, h => by obtain ⟨h, _⟩ := h; subst h; simp
  | r :: rs, xs, bs, h => by
    obtain ⟨y, ys, b, b', hx, hl, hb, h1, h2⟩ := h
    have := OwR.len h2
    rw [hx, List.length_append, hl, this, List.length_cons, Nat.add_mul]
    omega
theorem OwR.append {w : World} {sz : Nat} : ∀ {rs : List (List Dat)} {xs : List Value} {bs : List Nat} {rs' : List (List Dat)} {xs' : List Value} {bs' : List Nat}, OwR w sz rs xs bs → OwR w sz rs' xs' bs' → OwR w sz (rs ++ rs') (xs ++ xs') (bs ++ bs')
  | [], xs, bs, rs', xs', bs', h, h' => by obtain ⟨h1, h2⟩ := h; subst h1; subst h2; simpa using h'
  | r :: rs, xs, bs, rs', xs', bs', h, h' => by
    obtain ⟨y, ys, b, b', hx, hl, hb, h1, h2⟩ := h
    exact ⟨y, ys ++ xs', b, b' ++ bs', by rw [hx, List.append_assoc], hl, by rw [hb, List.append_assoc], h1, OwR.append h2 h'⟩
theorem OwR.one {w : World} {sz : Nat} {r : List Dat} {y : List Value} {b : List Nat} (h : OwL w r y b) (hl : y.length = sz) : OwR w sz [r] y b := ⟨y, [], b, [], by simp, hl, by simp, h, rfl, rfl⟩
/-- the i-th row, taken out -/
theorem OwR.split {w : World} {sz : Nat} : ∀ {rs : List (List Dat)} {xs : List Value} {bs : List Nat} {i : Nat} {r : List Dat}, OwR w sz rs xs bs → rs[i]? = some r →
    ∃ xs1 y xs2 b1 b b2, xs = xs1 ++ (y ++ xs2) ∧ bs = b1 ++ (b ++ b2) ∧ xs1.length = i * sz ∧ y.length = sz ∧ OwR w sz (rs.take i) xs1 b1 ∧ OwL w r y b ∧ OwR w sz (rs.drop (i + 1)) xs2 b2
  | [], _, _, _, _, _, h => by simp at h
  | q :: rs, xs, bs, 0, r, h, hr => by
    simp at hr
    subst hr
    obtain ⟨y, ys, b, b', hx, hl, hb, h1, h2⟩ := h
    exact ⟨[], y, ys, [], b, b', by simpa using hx, by simpa using hb, by simp, hl, ⟨rfl, rfl⟩, h1, by simpa using h2⟩
  | q :: rs, xs, bs, i + 1, r, h, hr => by
    obtain ⟨y, ys, b, b', hx, hl, hb, h1, h2⟩ := h
    obtain ⟨xs1, z, xs2, c1, c, c2, e1, e2, e3, e4, k1, k2, k3⟩ := OwR.split h2 (by simpa using hr)
    refine ⟨y ++ xs1, z, xs2, b ++ c1, c, c2, by rw [hx, e1, List.append_assoc], by rw [hb, e2, List.append_assoc], by rw [List.length_append, hl, e3, Nat.add_mul]; omega, e4, ⟨y, xs1, b, c1, rfl, hl, rfl, h1, by simpa using k1⟩, k2, by simpa using k3⟩
theorem set_eq {α : Type} {l : List α} {i : Nat} (h : i < l.length) (a : α) : l.set i a = l.take i ++ ([a] ++ l.drop (i + 1)) := by
  rw [List.set_eq_take_append_cons_drop, if_pos h]
  rfl

/-- the cells of a row, one taken out -/
theorem OwL.split {w : World} : ∀ {ds : List Dat} {xs : List Value} {bs : List Nat} {j : Nat} {d : Dat}, OwL w ds xs bs → ds[j]? = some d →
    ∃ u c1 c c2, xs[j]? = some u ∧ bs = c1 ++ (c ++ c2) ∧ OwC w d u c ∧ (∀ (w' : World) (d' : Dat) (u' : Value) (c' : List Nat), OwC w' d' u' c' → (∀ b ∈ c1 ++ c2, w'.heap[b]? = w.heap[b]?) → OwL w' (ds.set j d') (xs.set j u') (c1 ++ (c' ++ c2)))
  | [], _, _, _, _, _, h => by simp at h
  | q :: ds, xs, bs, 0, d, h, hd => by
    simp at hd
    subst hd
    obtain ⟨x, xs', b, b', hx, hb, h1, h2⟩ := h
    refine ⟨x, [], b, b', by rw [hx]; rfl, by simpa using hb, h1, fun w' d' u' c' hc hk => ?_⟩
    exact ⟨u', xs', c', b', by rw [hx]; rfl, by simp, hc, OwL.keep ds xs' b' h2 (fun b hb' => hk b (by simpa using hb'))⟩
  | q :: ds, xs, bs, j + 1, d, h, hd => by
    obtain ⟨x, xs', b, b', hx, hb, h1, h2⟩ := h
    obtain ⟨u, c1, c, c2, e1, e2, k1, k2⟩ := OwL.split h2 (by simpa using hd)
    refine ⟨u, b ++ c1, c, c2, by rw [hx]; simpa using e1, by rw [hb, e2, List.append_assoc], k1, fun w' d' u' c' hc hk => ?_⟩
    refine ⟨x, xs'.set j u', b, c1 ++ (c' ++ c2), by rw [hx]; rfl, by rw [List.append_assoc], OwC.keep q x b h1 (fun p hp => hk p (by simp [hp])), k2 w' d' u' c' hc (fun p hp => hk p ?_)⟩
    rcases List.mem_append.1 hp with hp | hp <;> simp [hp]

/-- an owned slice that is not nil: its block, and its rows -/
theorem OwC.open_ {w : World} {e : TypeId} {sz g n cap : Nat} {ds : List (List Dat)} {bs : List Nat} (h : OwC w (.rows e sz ds) (.slice (some ⟨g, 0, none⟩) n cap) bs) :
    n = ds.length ∧ ∃ xs cs, w.ownsRow 0 e sz (.slice (some ⟨g, 0, none⟩) ds.length cap) ds.length xs ∧ OwR w sz ds xs cs ∧ bs = g :: cs := by
  obtain ⟨xs, cs, ho, hr, hb⟩ := h
  have hn : n = ds.length := by
    rcases ho.2 with ⟨h, _⟩ | ⟨g', cap', cur, hv, _⟩
    · cases h
    · injection hv
  subst hn
  exact ⟨rfl, xs, cs, ho, hr, by rw [hb]; rfl⟩
theorem OwC.shut {w : World} {e : TypeId} {sz g cap : Nat} {ds : List (List Dat)} {xs : List Value} {cs : List Nat} (ho : w.ownsRow 0 e sz (.slice (some ⟨g, 0, none⟩) ds.length cap) ds.length xs) (hr : OwR w sz ds xs cs) : OwC w (.rows e sz ds) (.slice (some ⟨g, 0, none⟩) ds.length cap) (g :: cs) := ⟨xs, cs, ho, hr, rfl⟩

/-- a number, a bool or a string -/
def Dat.flat : Dat → Option Value
  | .int n => some (.int .i64 n)
  | .bool b => some (.bool b)
  | .str s => some (.string s)
  | .rows _ _ _ => none
  | .agg _ => none
theorem OwC.flat {w : World} {d : Dat} {u v : Value} {bs : List Nat} (h : OwC w d v bs) (hf : d.flat = some u) : v = u ∧ bs = [] := by
  cases d with
  | int n => obtain ⟨h1, h2⟩ := h; injection hf with hf; exact ⟨h1.trans hf, h2⟩
  | bool n => obtain ⟨h1, h2⟩ := h; injection hf with hf; exact ⟨h1.trans hf, h2⟩
  | str n => obtain ⟨h1, h2⟩ := h; injection hf with hf; exact ⟨h1.trans hf, h2⟩
  | rows => cases hf
  | agg => cases hf
theorem OwC.of_flat {w : World} {d : Dat} {u : Value} (hf : d.flat = some u) : OwC w d u [] := by
  cases d with
  | int n => injection hf with hf; exact ⟨hf.symm, rfl⟩
  | bool n => injection hf with hf; exact ⟨hf.symm, rfl⟩
  | str n => injection hf with hf; exact ⟨hf.symm, rfl⟩
  | rows => cases hf
  | agg => cases hf

/-- the cell j of the element i of an owned slice -/
theorem OwC.cell {w : World} {e : TypeId} {sz g n cap i j : Nat} {ds : List (List Dat)} {bs : List Nat} {r : List Dat} {d : Dat} (h : OwC w (.rows e sz ds) (.slice (some ⟨g, 0, none⟩) n cap) bs) (hr : ds[i]? = some r) (hd : r[j]? = some d) :
    (∀ o, w.frozen? ⟨g, o, none⟩ = false) ∧ ∃ u c, w.cell? ⟨g, i * sz + j, none⟩ = some u ∧ OwC w d u c ∧ (bs.Nodup → c.Nodup ∧ g ∉ c) ∧ (∀ b ∈ c, b ∈ bs) ∧
    (bs.Nodup → ∀ (w' : World) (d' : Dat), OwC w' d' u c → Touch (fun b => b ∈ c) w w' → OwC w' (.rows e sz (ds.set i (r.set j d'))) (.slice (some ⟨g, 0, none⟩) n cap) bs) ∧
    (bs.Nodup → ∀ (d' : Dat) (x' : Value), d.flat = some u → d'.flat = some x' → OwC (w.setCell ⟨g, i * sz + j, none⟩ x') (.rows e sz (ds.set i (r.set j d'))) (.slice (some ⟨g, 0, none⟩) n cap) bs) := by
  obtain ⟨rfl, xs, cs, ho, hor, rfl⟩ := h.open_
  obtain ⟨xs1, y, xs2, b1, b, b2, e1, e2, e3, e4, k1, k2, k3⟩ := hor.split hr
  obtain ⟨u, c1, c, c2, f1, f2, l1, l2⟩ := k2.split hd
  have hi := idx_lt hr
  have hj : j < y.length := idx_lt f1
  have hcell : xs[i * sz + j]? = some u := by
    rw [e1, ← e3, List.getElem?_append_right (by omega)]
    simp only [Nat.add_sub_cancel_left]
    rw [List.getElem?_append_left hj]
    exact f1
  refine ⟨fun o => ho.frozenAt o, u, c, own_cells ho _ _ hcell, l1, fun hnd => ?_, fun q hq => by rw [e2, f2]; simp [hq], fun hnd w' d' hd' ht => ?_, fun hnd d' x' hf hf' => ?_⟩
  · rw [e2, f2] at hnd
    have h1 := List.nodup_cons.1 hnd
    refine ⟨?_, fun hg => h1.1 (by simp [hg])⟩
    have h2 := (List.nodup_append.1 h1.2).2.1
    have h3 := (List.nodup_append.1 h2).1
    have h4 := (List.nodup_append.1 h3).2.1
    exact (List.nodup_append.1 h4).1
  · rw [e2, f2] at hnd
    have h1 := List.nodup_cons.1 hnd
    have a2 := List.nodup_append.1 h1.2
    have a3 := List.nodup_append.1 a2.2.1
    have a4 := List.nodup_append.1 a3.1
    have a5 := List.nodup_append.1 a4.2.1
    have hsame : (ds.set i (r.set j d')).length = ds.length := by rw [List.length_set]
    have ho' : w'.ownsRow 0 e sz (.slice (some ⟨g, 0, none⟩) ds.length cap) ds.length xs := own_touch ho ht (fun k hk hc => by
      have : g = k := by simpa [Value.ownBlock] using hk
      subst this
      exact h1.1 (by simp [hc]))
    have hk1 := OwR.keep sz _ xs1 b1 k1 (w' := w') (fun q hq => ht.block q (fun hc => a2.2.2 q hq q (by simp [hc]) rfl))
    have hk3 := OwR.keep sz _ xs2 b2 k3 (w' := w') (fun q hq => ht.block q (fun hc => a3.2.2 q (by simp [hc]) q hq rfl))
    have hk2 := l2 w' d' u c hd' (fun q hq => ht.block q (fun hc => by
      rcases List.mem_append.1 hq with hq | hq
      · exact a4.2.2 q hq q (by simp [hc]) rfl
      · exact a5.2.2 q hc q hq rfl))
    have hyu : y.set j u = y := by
      apply List.ext_getElem?
      intro t
      rw [List.getElem?_set]
      split
      · rename_i h; subst h; simp [f1]
      · rfl
    rw [hyu] at hk2
    have hall := hk1.append ((OwR.one hk2 e4).append hk3)
    rw [← set_eq hi, ← e1] at hall
    rw [← hsame] at ho' ⊢
    have := OwC.shut ho' hall
    rw [e2, f2]
    simpa using this
  · obtain ⟨_, rfl⟩ := l1.flat hf
    have hsame : (ds.set i (r.set j d')).length = ds.length := by rw [List.length_set]
    have ho' := (ho.stored (i * sz + j) x').1
    have h1 := (List.nodup_cons.1 hnd).1
    have hbb : ∀ q, q ∈ cs → (w.setCell ⟨g, i * sz + j, none⟩ x').heap[q]? = w.heap[q]? := fun q hq => Below.heap_setCell _ _ _ _ (fun e => h1 (by have e' : q = g := e; rw [← e']; exact hq))
    have hk1 := OwR.keep sz _ xs1 b1 k1 (fun q hq => hbb q (by rw [e2]; simp [hq]))
    have hk3 := OwR.keep sz _ xs2 b2 k3 (fun q hq => hbb q (by rw [e2]; simp [hq]))
    have hk2 := l2 (w.setCell ⟨g, i * sz + j, none⟩ x') d' x' [] (OwC.of_flat hf') (fun q hq => hbb q (by
      rw [e2, f2]
      rcases List.mem_append.1 hq with hq | hq <;> simp [hq]))
    have hall := hk1.append ((OwR.one hk2 (by rw [List.length_set]; exact e4)).append hk3)
    rw [← set_eq hi] at hall
    have ex : xs.set (i * sz + j) x' = xs1 ++ (y.set j x' ++ xs2) := by
      rw [e1, ← e3, List.set_append_right _ _ (by omega)]
      simp only [Nat.add_sub_cancel_left]
      rw [List.set_append_left _ _ hj]
    rw [← ex] at hall
    rw [← hsame] at ho' ⊢
    have := OwC.shut ho' hall
    rw [e2, f2]
    simpa using this
end Go.Proofs.YtamainhocghlgaaGreatDoor.low


/-
  The builder of a normal form behind a pointer: its memory (a block of three cells: the parts so far, the characters still to be put, how many are dropped), and what becomes of it when a part is appended.
-/
namespace Go.Proofs.YtamainhocghlgaaGreatDoor.low
open Go.RowKit
set_option linter.unusedVariables false

theorem own_blk {w : World} {base n size : Nat} {v : Value} {e : TypeId} {xs : List Value} (h : w.ownsRow base e size v n xs) {k : Nat} (hk : v.ownBlock = some k) : ∃ cur, w.heap[k]? = some (.cells cur e (0, 0)) := by
  rcases h.2 with ⟨rfl, _⟩ | ⟨g, cap, cur, rfl, hge, hh, _⟩
  · simp [Value.ownBlock] at hk
  · have : g = k := by simpa [Value.ownBlock] using hk
    subst this
    exact ⟨cur, hh⟩
theorem own_far {w : World} {base n size g : Nat} {v : Value} {e T : TypeId} {xs : List Value} {cs : Array Value} {fr : Nat × Nat} (h : w.ownsRow base e size v n xs) (hg : w.heap[g]? = some (.cells cs T fr)) (hT : ¬ T = e) : ¬ v.ownBlock = some g := fun hk => by
  obtain ⟨cur, hh⟩ := own_blk h hk
  rw [hg] at hh
  injection hh with hh
  injection hh with _ ht _
  exact hT ht

/-- the builder at block g: v the parts so far, u the slice of characters to be put, d how many are dropped -/
structure Box (lo g : Nat) (T : TypeId) (w : World) (v u : Value) (d : Int) (ps : List Pt) (us : List Value) : Prop where
  box : w.heap[g]? = some (.cells #[v, u, .int .i64 d] T (0, 0))
  row : w.ownsRow lo 145 3 v ps.length (cellsOf ps us)
  len : us.length = ps.length
  low : lo ≤ g
theorem Box.cell0 {lo g : Nat} {T : TypeId} {w : World} {v u : Value} {d : Int} {ps : List Pt} {us : List Value} (h : Box lo g T w v u d ps us) : w.cell? ⟨g, 0, none⟩ = some v := cell_of_row _ _ 0 _ _ _ h.box
theorem Box.cell1 {lo g : Nat} {T : TypeId} {w : World} {v u : Value} {d : Int} {ps : List Pt} {us : List Value} (h : Box lo g T w v u d ps us) : w.cell? ⟨g, 1, none⟩ = some u := cell_of_row _ _ 1 _ _ _ h.box
theorem Box.cell2 {lo g : Nat} {T : TypeId} {w : World} {v u : Value} {d : Int} {ps : List Pt} {us : List Value} (h : Box lo g T w v u d ps us) : w.cell? ⟨g, 2, none⟩ = some (.int .i64 d) := cell_of_row _ _ 2 _ _ _ h.box
theorem Box.free {lo g : Nat} {T : TypeId} {w : World} {v u : Value} {d : Int} {ps : List Pt} {us : List Value} (h : Box lo g T w v u d ps us) (o : Nat) : w.frozen? ⟨g, o, none⟩ = false := by simp [World.frozen?, h.box]
theorem Box.lt {lo g : Nat} {T : TypeId} {w : World} {v u : Value} {d : Int} {ps : List Pt} {us : List Value} (h : Box lo g T w v u d ps us) : g < w.heap.size := lt_of_some h.box

/-- a part more: behind the making of a block of one part, the append and the store -/
theorem Box.push {lo g gg cap : Nat} {T : TypeId} {w w0 w1 : World} {v u : Value} {d : Int} {ps : List Pt} {us : List Value} {p : Pt} {u' : Value} (h : Box lo g T w v u d ps us) (hT1 : ¬ T = 3) (hT2 : ¬ T = 145)
    (ha : Apart lo w.heap.size w (ps ++ [p]) (us ++ [u'])) (h0 : Below w.heap.size w w0) 
    (hown : w1.ownsRow lo 145 3 (.slice (some ⟨gg, 0, none⟩) (ps.length + 1) cap) (ps.length + 1) (cellsOf ps us ++ [.int .i64 p.kind, .int .i64 p.n, u']))
    (hgrow : w0.grownBy w1 v.ownBlock) :
    Box lo g T (w1.setCell ⟨g, 0, none⟩ (.slice (some ⟨gg, 0, none⟩) (ps.length + 1) cap)) (.slice (some ⟨gg, 0, none⟩) (ps.length + 1) cap) u d (ps ++ [p]) (us ++ [u']) ∧
    Apart lo (w1.setCell ⟨g, 0, none⟩ (.slice (some ⟨gg, 0, none⟩) (ps.length + 1) cap)).heap.size (w1.setCell ⟨g, 0, none⟩ (.slice (some ⟨gg, 0, none⟩) (ps.length + 1) cap)) (ps ++ [p]) (us ++ [u']) ∧
    Below lo w (w1.setCell ⟨g, 0, none⟩ (.slice (some ⟨gg, 0, none⟩) (ps.length + 1) cap)) := by
  have hlt := h.lt
  have hsz : w.heap.size ≤ w1.heap.size := Nat.le_trans h0.size hgrow.size
  have hold : ∀ k, k < w.heap.size → ¬ v.ownBlock = some k → w1.heap[k]? = w.heap[k]? := fun k hk hne => by
    rw [hgrow.block k (Nat.lt_of_lt_of_le hk h0.size) (fun e => hne e.symm), h0.block k hk]
  have hg1 : w1.heap[g]? = some (.cells #[v, u, .int .i64 d] T (0, 0)) := by rw [hold g hlt (own_far h.row h.box hT2)]; exact h.box
  have hgg : ¬ (Value.slice (some ⟨gg, 0, none⟩) (ps.length + 1) cap).ownBlock = some g := own_far hown hg1 hT2
  refine ⟨⟨?_, ?_, by simp [h.len], h.low⟩, ?_, ?_⟩
  · rw [heap_setCell_same _ _ _ _ _ _ hg1]; rfl
  · rw [cellsOf_snoc _ _ _ _ h.len]
    have := ownsRow_setCell_other hown (a := ⟨g, 0, none⟩) hgg (.slice (some ⟨gg, 0, none⟩) (ps.length + 1) cap)
    simpa using this
  · refine ha.keep (by simp; exact hsz) (fun i x k hx hk1 hk2 => ?_)
    obtain ⟨q, hq⟩ := idx_some (l := ps ++ [p]) (i := i) (by rw [← ha.1]; exact idx_lt hx)
    have hox := (ha.2.1 i q x hq hx).1
    have hkg : ¬ k = g := fun e => own_far hox h.box hT1 (by rw [hk1, e])
    rw [Below.heap_setCell _ _ _ _ hkg, hold k hk2]
    intro hv
    obtain ⟨c1, e1⟩ := own_blk hox hk1
    obtain ⟨c2, e2⟩ := own_blk h.row hv
    rw [e1] at e2
    injection e2 with e2
    injection e2 with _ ht _
    exact absurd ht (by decide)
  · refine Below.setCell ?_ h.low _
    have hb : Below lo w w0 := h0.mono (Nat.le_trans h.low (Nat.le_of_lt hlt))
    exact hb.grown hgrow (Nat.le_trans (Nat.le_trans h.low (Nat.le_of_lt hlt)) h0.size) (fun k hk => own_ge h.row k hk)
end Go.Proofs.YtamainhocghlgaaGreatDoor.low


/-
  Data in memory: numbers, parts, lists of parts as data; the words of the earlier texts (Row, PRow, PBuf) and these words say the same.
-/
namespace Go.Proofs.YtamainhocghlgaaGreatDoor.low
open Go.RowKit
set_option linter.unusedVariables false

def encInts (zs : List Int) : Dat := .rows 3 1 (zs.map fun z => [.int z])
def encPt (p : Pt) : List Dat := [.int p.kind, .int p.n, encInts p.signs]
def encPs (ps : List Pt) : Dat := .rows 145 3 (ps.map encPt)

theorem rdR_of {α : Type} {w : World} {B sz : Nat} {ad : Addr} (f : α → List Dat) : ∀ (xs : List α) (o : Nat), (∀ i x, xs[i]? = some x → RdL w B ad (o + i * sz) (f x)) → RdR w B sz ad o (xs.map f)
  | [], _, _ => trivial
  | x :: xs, o, h => ⟨by have := h 0 x rfl; simpa using this, rdR_of f xs (o + sz) (fun i y hy => by
      have := h (i + 1) y (by simpa using hy)
      rwa [show o + (i + 1) * sz = o + sz + i * sz by rw [Nat.add_mul]; omega] at this)⟩

theorem rd_ints {w : World} {B : Nat} {A : Option Addr} {c : Nat} {zs : List Int} (h : Row (Value.int .i64) w B A zs) (hc : zs.length ≤ c) : RdC w B (encInts zs) (.slice A zs.length c) := by
  refine ⟨A, c, by simp, by simpa using hc, fun hn => ?_⟩
  obtain ⟨ad, hA, hb, hc⟩ := h (by simpa using hn)
  refine ⟨ad, hA, hb, .inl rfl, rdR_of _ zs 0 (fun i z hz => ⟨⟨_, ?_, rfl⟩, trivial⟩)⟩
  rw [Nat.zero_add, Nat.mul_one]
  exact hc i z hz
theorem ints_rd {w : World} {B : Nat} {v : Value} {zs : List Int} (h : RdC w B (encInts zs) v) : ∃ A c, v = .slice A zs.length c ∧ Row (Value.int .i64) w B A zs ∧ zs.length ≤ c := by
  obtain ⟨A, c, hv, hc, h⟩ := h
  refine ⟨A, c, by simpa using hv, fun hn => ?_, by simpa using hc⟩
  obtain ⟨ad, hA, hb, _, hr⟩ := h (by simpa using hn)
  refine ⟨ad, hA, hb, fun k z hz => ?_⟩
  have := hr.at_ (i := k) (r := [.int z]) (by rw [List.getElem?_map, hz]; rfl)
  obtain ⟨⟨v, hv, rfl⟩, _⟩ := this
  rwa [Nat.zero_add, Nat.mul_one] at hv
theorem parts_rd {w : World} {B : Nat} {v : Value} {ps : List Pt} (h : RdC w B (encPs ps) v) : ∃ A c, v = .slice A ps.length c ∧ PRow w B A ps ∧ ps.length ≤ c := by
  obtain ⟨A, c, hv, hc, h⟩ := h
  refine ⟨A, c, by simpa using hv, fun hn => ?_, by simpa using hc⟩
  obtain ⟨ad, hA, hb, hs, hr⟩ := h (by simpa using hn)
  obtain ⟨b, off, spot⟩ := ad
  obtain rfl : spot = none := by
    rcases hs with hs | hs
    · cases hs
    · exact hs
  refine ⟨b, off, hA, hb, fun i p hp => ?_⟩
  have := hr.at_ (i := i) (r := encPt p) (by rw [List.getElem?_map, hp]; rfl)
  obtain ⟨⟨v0, h0, rfl⟩, ⟨v1, h1, rfl⟩, ⟨v2, h2, r2⟩, _⟩ := this
  obtain ⟨A', c', rfl, r3, _⟩ := ints_rd r2
  rw [add_at] at h0 h1 h2
  refine ⟨?_, ?_, A', c', ?_, r3⟩
  · simpa using h0
  · simpa [Nat.add_assoc] using h1
  · simpa [Nat.add_assoc] using h2

theorem owR_ints {w : World} : ∀ {zs : List Int} {xs : List Value} {cs : List Nat}, OwR w 1 (zs.map fun z => [Dat.int z]) xs cs → xs = zs.map (Value.int .i64) ∧ cs = []
  | [], xs, cs, h => by obtain ⟨h1, h2⟩ := h; exact ⟨h1, h2⟩
  | z :: zs, xs, cs, h => by
    obtain ⟨y, ys, b, b', hx, hl, hb, ⟨x, xs', c, c', e1, e2, ⟨e3, e4⟩, e5, e6⟩, h2⟩ := h
    obtain ⟨k1, k2⟩ := owR_ints h2
    subst e1; subst e2; subst e3; subst e4; subst e5; subst e6
    refine ⟨by rw [hx, k1]; rfl, by rw [hb, k2]; rfl⟩
theorem ints_owR (w : World) : ∀ zs : List Int, OwR w 1 (zs.map fun z => [Dat.int z]) (zs.map (Value.int .i64)) []
  | [] => ⟨rfl, rfl⟩
  | z :: zs => ⟨[.int .i64 z], zs.map (Value.int .i64), [], [], rfl, rfl, rfl, ⟨_, [], [], [], rfl, rfl, ⟨rfl, rfl⟩, rfl, rfl⟩, ints_owR w zs⟩
theorem ow_ints {w : World} {base : Nat} {v : Value} {zs : List Int} (h : w.ownsRow base 3 1 v zs.length (zs.map (Value.int .i64))) : OwC w (encInts zs) v v.ownBlock.toList :=
  ⟨zs.map (Value.int .i64), [], by simpa using own_lower h (Nat.zero_le base), ints_owR w zs, by simp⟩
theorem ints_ow {w : World} {v : Value} {zs : List Int} {bs : List Nat} (h : OwC w (encInts zs) v bs) : w.ownsRow 0 3 1 v zs.length (zs.map (Value.int .i64)) ∧ bs = v.ownBlock.toList := by
  obtain ⟨xs, cs, ho, hr, hb⟩ := h
  obtain ⟨rfl, rfl⟩ := owR_ints hr
  exact ⟨by simpa using ho, by simpa using hb⟩
/-- the blocks of slices -/
def blksOf (us : List Value) : List Nat := us.flatMap fun u => u.ownBlock.toList
theorem mem_blks {us : List Value} {k : Nat} : k ∈ blksOf us ↔ ∃ (i : Nat) (u : Value), us[i]? = some u ∧ u.ownBlock = some k := by
  unfold blksOf
  rw [List.mem_flatMap]
  constructor
  · rintro ⟨u, hu, hk⟩
    obtain ⟨i, hi⟩ := List.getElem?_of_mem hu
    exact ⟨i, u, hi, by simpa using hk⟩
  · rintro ⟨i, u, hu, hk⟩
    exact ⟨u, List.mem_of_getElem? hu, by simpa using hk⟩
theorem nodup_blks : ∀ {us : List Value}, (∀ (i j k : Nat) (u v : Value), us[i]? = some u → us[j]? = some v → u.ownBlock = some k → v.ownBlock = some k → i = j) → (blksOf us).Nodup
  | [], _ => by simp [blksOf]
  | u :: us, h => by
    have ih : (blksOf us).Nodup := nodup_blks (fun i j k a b ha hb ka kb => by
      have := h (i + 1) (j + 1) k a b (by simpa using ha) (by simpa using hb) ka kb
      omega)
    show (u.ownBlock.toList ++ blksOf us).Nodup
    rw [List.nodup_append]
    refine ⟨by cases u.ownBlock <;> simp, ih, fun a ha b hb e => ?_⟩
    subst e
    obtain ⟨i, v, hv, hk⟩ := mem_blks.1 hb
    have := h 0 (i + 1) a u v rfl (by simpa using hv) (by simpa using ha) hk
    omega
theorem parts_owR {w : World} : ∀ {ps : List Pt} {us : List Value}, us.length = ps.length → (∀ (i : Nat) (p : Pt) (u : Value), ps[i]? = some p → us[i]? = some u → OwC w (encInts p.signs) u u.ownBlock.toList) → OwR w 3 (ps.map encPt) (cellsOf ps us) (blksOf us)
  | [], [], _, _ => ⟨rfl, rfl⟩
  | [], _ :: _, h, _ => by simp at h
  | _ :: _, [], h, _ => by simp at h
  | p :: ps, u :: us, hl, h => by
    refine ⟨[.int .i64 p.kind, .int .i64 p.n, u], cellsOf ps us, u.ownBlock.toList, blksOf us, rfl, rfl, rfl, ?_, parts_owR (by simpa using hl) (fun i q v hq hv => h (i + 1) q v (by simpa using hq) (by simpa using hv))⟩
    exact ⟨_, _, [], u.ownBlock.toList, rfl, rfl, ⟨rfl, rfl⟩, _, _, [], u.ownBlock.toList, rfl, rfl, ⟨rfl, rfl⟩, u, [], u.ownBlock.toList, [], rfl, by simp, h 0 p u rfl rfl, rfl, rfl⟩
theorem owR_parts {w : World} : ∀ {ps : List Pt} {xs : List Value} {cs : List Nat}, OwR w 3 (ps.map encPt) xs cs → ∃ us : List Value, us.length = ps.length ∧ xs = cellsOf ps us ∧ cs = blksOf us ∧ ∀ (i : Nat) (p : Pt) (u : Value), ps[i]? = some p → us[i]? = some u → OwC w (encInts p.signs) u u.ownBlock.toList
  | [], xs, cs, h => by obtain ⟨h1, h2⟩ := h; exact ⟨[], rfl, h1, h2, fun i p u hp => by simp at hp⟩
  | p :: ps, xs, cs, h => by
    obtain ⟨y, ys, b, b', hx, hl, hb, ⟨x0, r0, c0, d0, a1, a2, ⟨a3, a4⟩, x1, r1, c1, d1, a5, a6, ⟨a7, a8⟩, x2, r2, c2, d2, a9, a10, a11, a12, a13⟩, h2⟩ := h
    obtain ⟨us, k1, k2, k3, k4⟩ := owR_parts h2
    have hbs := (ints_ow a11).2
    subst a13; subst a12; subst a10; subst a9; subst a8; subst a7; subst a6; subst a5; subst a4; subst a3; subst a2; subst a1; subst hbs
    refine ⟨x2 :: us, by simp [k1], by rw [hx, k2]; rfl, by rw [hb, k3]; simp [blksOf], fun i q u hq hu => ?_⟩
    cases i with
    | zero =>
      simp at hq hu
      subst hq; subst hu
      exact a11
    | succ i => exact k4 i q u (by simpa using hq) (by simpa using hu)
theorem own_parts {lo hi : Nat} {w : World} {v : Value} {ps : List Pt} (h : PBuf lo hi w v ps) : Own lo hi w (encPs ps) v := by
  obtain ⟨us, ho, ⟨hl, hu, hap⟩, hv, hh, hlo⟩ := h
  refine ⟨v.ownBlock.toList ++ blksOf us, ⟨cellsOf ps us, blksOf us, by simpa using own_lower ho (Nat.zero_le lo), parts_owR hl (fun i p u hp hu' => ow_ints (hu i p u hp hu').1), rfl⟩, ?_, fun b hb => ?_, hh, hlo⟩
  · rw [List.nodup_append]
    refine ⟨by cases v.ownBlock <;> simp, nodup_blks hap, fun a ha b hb e => ?_⟩
    subst e
    obtain ⟨i, u, hui, hk⟩ := mem_blks.1 hb
    obtain ⟨p, hp⟩ := idx_some (l := ps) (i := i) (by rw [← hl]; exact idx_lt hui)
    obtain ⟨c1, e1⟩ := own_blk (hu i p u hp hui).1 hk
    exact own_far ho e1 (by decide) (by simpa using ha)
  · rcases List.mem_append.1 hb with hb | hb
    · have : v.ownBlock = some b := by simpa using hb
      exact ⟨own_ge ho b this, hv b this⟩
    · obtain ⟨i, u, hui, hk⟩ := mem_blks.1 hb
      obtain ⟨p, hp⟩ := idx_some (l := ps) (i := i) (by rw [← hl]; exact idx_lt hui)
      obtain ⟨o1, o2⟩ := hu i p u hp hui
      exact ⟨own_ge o1 b hk, o2 b hk⟩
end Go.Proofs.YtamainhocghlgaaGreatDoor.low


/-
  Data in memory: ascending numbers written into every cell (mkC), how many cells there are (cntC); the laws' markIntS and heldIntS, toIntS and eqIntS, in these words.
-/
namespace Go.Proofs.YtamainhocghlgaaGreatDoor.low
open Go.RowKit
set_option linter.unusedVariables false

def markDigs : Nat → Int → List UInt8 → List UInt8
  | 0, _, out => out
  | f + 1, k, out => if 0 < k then markDigs f (k / 10) (UInt8.ofNat (48 + (k % 10).toNat) :: out) else out
def markD (k : Int) : ByteArray := ⟨(109 :: markDigs k.toNat k []).toArray⟩
mutual
def cntC : Dat → Nat
  | .int _ => 1
  | .bool _ => 1
  | .str _ => 1
  | .rows _ _ ds => cntR ds
  | .agg ds => cntA ds
/-- a struct by value: what lies behind its slices -/
def cntF : Dat → Nat
  | .rows _ _ ds => cntR ds
  | _ => 0
def cntA : List Dat → Nat
  | [] => 0
  | d :: ds => cntF d + cntA ds
def cntL : List Dat → Nat
  | [] => 0
  | d :: ds => cntC d + cntL ds
def cntR : List (List Dat) → Nat
  | [] => 0
  | r :: rs => cntL r + cntR rs
end
mutual
def mkC (k : Int) : Dat → Dat
  | .int _ => .int k
  | .bool _ => .bool (decide (k % 3 = 0))
  | .str _ => .str (markD k)
  | .rows e sz ds => .rows e sz (mkR k ds)
  | .agg ds => .agg (mkA k ds)
def mkF (k : Int) : Dat → Dat
  | .rows e sz ds => .rows e sz (mkR k ds)
  | .int n => .int n
  | .bool b => .bool b
  | .str s => .str s
  | .agg ds => .agg ds
def mkA (k : Int) : List Dat → List Dat
  | [] => []
  | d :: ds => mkF k d :: mkA (k + (cntF d : Int)) ds
def mkL (k : Int) : List Dat → List Dat
  | [] => []
  | d :: ds => mkC k d :: mkL (k + (cntC d : Int)) ds
def mkR (k : Int) : List (List Dat) → List (List Dat)
  | [] => []
  | r :: rs => mkL k r :: mkR (k + (cntL r : Int)) rs
end
theorem mkR_len : ∀ (k : Int) (rs : List (List Dat)), (mkR k rs).length = rs.length
  | _, [] => rfl
  | k, r :: rs => by rw [mkR, List.length_cons, List.length_cons, mkR_len]
theorem mkR_at : ∀ (rs : List (List Dat)) (k : Int) (i : Nat) (r : List Dat), rs[i]? = some r → (mkR k rs)[i]? = some (mkL (k + (cntR (rs.take i) : Int)) r)
  | [], _, _, _, h => by simp at h
  | q :: rs, k, 0, r, h => by
    simp at h
    subst h
    simp [mkR, cntR]
  | q :: rs, k, i + 1, r, h => by
    rw [mkR, List.getElem?_cons_succ, mkR_at rs _ i r (by simpa using h), List.take_succ_cons, cntR]
    congr 2
    omega
theorem cntR_app : ∀ (a b : List (List Dat)), cntR (a ++ b) = cntR a + cntR b
  | [], b => by simp [cntR]
  | r :: a, b => by rw [List.cons_append, cntR, cntR, cntR_app]; omega
theorem cntR_snoc {rs : List (List Dat)} {i : Nat} {r : List Dat} (h : rs[i]? = some r) : cntR (rs.take (i + 1)) = cntR (rs.take i) + cntL r := by
  rw [List.take_add_one, h, cntR_app]
  simp [cntR]
theorem cntR_take (rs : List (List Dat)) (i : Nat) : cntR (rs.take i) ≤ cntR rs := by
  have := cntR_app (rs.take i) (rs.drop i)
  rw [List.take_append_drop] at this
  omega
theorem cntR_at {rs : List (List Dat)} {i : Nat} {r : List Dat} (h : rs[i]? = some r) : cntR (rs.take i) + cntL r ≤ cntR rs := by
  rw [← cntR_snoc h]
  exact cntR_take rs (i + 1)
theorem mkR_app : ∀ (a b : List (List Dat)) (k : Int), mkR k (a ++ b) = mkR k a ++ mkR (k + (cntR a : Int)) b
  | [], b, k => by simp [mkR, cntR]
  | r :: a, b, k => by
    rw [List.cons_append, mkR, mkR, mkR_app, cntR, List.cons_append]
    congr 3
    omega
/-- one row more is marked -/
theorem mk_set {rs : List (List Dat)} {i : Nat} {r : List Dat} (k : Int) (h : rs[i]? = some r) : (mkR k (rs.take i) ++ rs.drop i).set i (mkL (k + (cntR (rs.take i) : Int)) r) = mkR k (rs.take (i + 1)) ++ rs.drop (i + 1) := by
  have hi := idx_lt h
  have hl : (mkR k (rs.take i)).length = i := by rw [mkR_len, List.length_take]; omega
  rw [List.set_append_right _ _ (by omega), hl, Nat.sub_self, List.take_add_one, h, Option.toList_some, mkR_app]
  have hd : rs.drop i = rs[i] :: rs.drop (i + 1) := List.drop_eq_getElem_cons hi
  rw [hd, List.set_cons_zero]
  simp [mkR]
theorem mk_at {rs : List (List Dat)} {i : Nat} {r : List Dat} (k : Int) (h : rs[i]? = some r) : (mkR k (rs.take i) ++ rs.drop i)[i]? = some r := by
  have hi := idx_lt h
  have hl : (mkR k (rs.take i)).length = i := by rw [mkR_len, List.length_take]; omega
  rw [List.getElem?_append_right (by omega), hl, Nat.sub_self, List.getElem?_drop]
  simpa using h
theorem mk_len (k : Int) (rs : List (List Dat)) (i : Nat) : (mkR k (rs.take i) ++ rs.drop i).length = rs.length := by
  rw [List.length_append, mkR_len, List.length_take, List.length_drop]
  omega
theorem mk_all (k : Int) (rs : List (List Dat)) : mkR k (rs.take rs.length) ++ rs.drop rs.length = mkR k rs := by simp
theorem mk_none (k : Int) (rs : List (List Dat)) : mkR k (rs.take 0) ++ rs.drop 0 = rs := by simp [mkR]

/-- it returns the next number; the datum is marked; only its own blocks were written -/
def MarkP (k : Int) (d : Dat) (v : Value) (bs : List Nat) (w : World) (e : Ending) (w' : World) : Prop :=
  e = .returned (.int .i64 (k + (cntC d : Int))) ∧ OwC w' (mkC k d) v bs ∧ Touch (fun b => b ∈ bs) w w'
/-- it returns the number behind the marks, and writes nothing -/
def HeldP (k : Int) (d : Dat) (w : World) (e : Ending) (w' : World) : Prop := e = .returned (.int .i64 (k + (cntC d : Int))) ∧ w = w'
theorem cnt_ints : ∀ zs : List Int, cntR (zs.map fun z => [Dat.int z]) = zs.length
  | [] => rfl
  | z :: zs => by rw [List.map_cons, cntR, cnt_ints, cntL, cntC, cntL, List.length_cons]; omega
theorem mk_ints : ∀ (zs : List Int) (k : Int), mkR k (zs.map fun z => [Dat.int z]) = (marks k zs.length).map fun z => [Dat.int z]
  | [], _ => rfl
  | z :: zs, k => by
    rw [List.map_cons, mkR, mkL, mkC, mkL, mk_ints zs, cntL, cntC, cntL, List.length_cons]
    apply List.ext_getElem?
    intro t
    cases t with
    | zero => simp [marks]
    | succ t =>
      rw [List.getElem?_cons_succ, List.getElem?_map, List.getElem?_map]
      by_cases ht : t < zs.length
      · rw [marks_at ht, marks_at (by omega)]
        simp
        omega
      · rw [List.getElem?_eq_none (by rw [marks_len]; omega), List.getElem?_eq_none (by rw [marks_len]; omega)]
theorem mkC_ints (k : Int) (zs : List Int) : mkC k (encInts zs) = encInts (marks k zs.length) := by unfold encInts; rw [mkC, mk_ints]
theorem cntC_ints (zs : List Int) : cntC (encInts zs) = zs.length := by unfold encInts; rw [cntC, cnt_ints]

theorem toIntS_d (v : Value) (zs : List Int) (w : World) (h : RdC w w.heap.size (encInts zs) v) (hl : zs.length ≤ 4294967296) : Calls Tryz.prog 64 #[v] w (OwnPost (encInts zs) w) := by
  obtain ⟨A, c, rfl, hr, _⟩ := ints_rd h
  refine (toIntS_own A c zs w hr hl).mono ?_
  rintro e w1 ⟨rfl, ho, b1⟩
  refine ⟨_, rfl, ⟨_, ow_ints ho, by simp [Value.ownBlock], fun b hb => ?_, Nat.le_refl _, b1.size⟩, b1⟩
  have hb' : (Value.slice (some ⟨w.heap.size, 0, none⟩) zs.length zs.length).ownBlock = some b := by simpa using hb
  obtain ⟨cur, hh⟩ := own_blk ho hb'
  exact ⟨own_ge ho b hb', lt_of_some hh⟩
theorem eqIntS_d (v v' : Value) (zs : List Int) (w : World) (h : RdC w w.heap.size (encInts zs) v) (h' : RdC w w.heap.size (encInts zs) v') (hl : zs.length ≤ 4294967296) : Calls Tryz.prog 80 #[v, v'] w (Tells true w) := by
  obtain ⟨A, c, rfl, hr, _⟩ := ints_rd h
  obtain ⟨A', c', rfl, hr', _⟩ := ints_rd h'
  refine (eqIntS_any A A' c c' zs zs w hr hr' hl hl).mono ?_
  intro e w1 hs
  have := says_tells hs
  rwa [sameB_self] at this
theorem markIntS_d (v : Value) (zs : List Int) (bs : List Nat) (k : Int) (w : World) (h : OwC w (encInts zs) v bs) (h0 : 0 ≤ k) (h1 : k ≤ 4503599627370496) (hl : zs.length ≤ 4503599627370496) : Calls Tryz.prog 48 #[v, .int .i64 k] w (MarkP k (encInts zs) v bs w) := by
  obtain ⟨ho, rfl⟩ := ints_ow h
  refine (markIntS_t 0 zs.length v _ k w ho h0 h1 hl).mono ?_
  rintro e w1 ⟨rfl, ho1, t1⟩
  refine ⟨by rw [cntC_ints], ?_, t1.mono (fun b hb => by have : v.ownBlock = some b := hb; simp [this])⟩
  rw [mkC_ints]
  exact ow_ints (by rw [marks_len]; exact ho1)
theorem heldIntS_d (v : Value) (zs : List Int) (k : Int) (w : World) (h : RdC w w.heap.size (mkC k (encInts zs)) v) (h0 : 0 ≤ k) (h1 : k ≤ 4503599627370496) (hl : zs.length ≤ 4503599627370496) : Calls Tryz.prog 51 #[v, .int .i64 k] w (HeldP k (encInts zs) w) := by
  rw [mkC_ints] at h
  obtain ⟨A, c, rfl, hr, _⟩ := ints_rd h
  rw [marks_len]
  refine (heldIntS_any A c zs.length k w hr h0 h1 hl).mono ?_
  rintro e w1 ⟨rfl, rfl⟩
  exact ⟨by rw [cntC_ints], rfl⟩
end Go.Proofs.YtamainhocghlgaaGreatDoor.low


/-
  Data in memory: the cells of one element of an owned slice, read and written one by one.
-/
namespace Go.Proofs.YtamainhocghlgaaGreatDoor.low
open Go.RowKit
set_option linter.unusedVariables false

theorem OwC.cases {w : World} {e : TypeId} {sz : Nat} {ds : List (List Dat)} {v : Value} {bs : List Nat} (h : OwC w (.rows e sz ds) v bs) : (v = .slice none 0 0 ∧ ds = [] ∧ bs = []) ∨ ∃ g cap, v = .slice (some ⟨g, 0, none⟩) ds.length cap := by
  obtain ⟨xs, cs, ho, hr, hb⟩ := h
  rcases ho.2 with ⟨rfl, h0⟩ | ⟨g, cap, cur, rfl, _⟩
  · have : ds = [] := List.eq_nil_of_length_eq_zero h0
    subst this
    obtain ⟨_, rfl⟩ := hr
    exact .inl ⟨rfl, rfl, by rw [hb]; rfl⟩
  · exact .inr ⟨g, cap, rfl⟩
theorem set_same {α : Type} {l : List α} {i : Nat} {x : α} (h : l[i]? = some x) : l.set i x = l := by
  apply List.ext_getElem?
  intro t
  rw [List.getElem?_set]
  split
  · rename_i e; subst e; rw [h]; simp [idx_lt h]
  · rfl
theorem OwC.frozen {w : World} {e : TypeId} {sz g n cap : Nat} {ds : List (List Dat)} {bs : List Nat} (h : OwC w (.rows e sz ds) (.slice (some ⟨g, 0, none⟩) n cap) bs) (o : Nat) : w.frozen? ⟨g, o, none⟩ = false := by
  obtain ⟨rfl, xs, cs, ho, hor, rfl⟩ := h.open_
  exact ho.frozenAt o
theorem OwC.head {w : World} {e : TypeId} {sz g n cap : Nat} {ds : List (List Dat)} {bs : List Nat} (h : OwC w (.rows e sz ds) (.slice (some ⟨g, 0, none⟩) n cap) bs) : g ∈ bs := by
  obtain ⟨rfl, xs, cs, ho, hor, rfl⟩ := h.open_
  simp
/-- the cell j of the element i: what it holds -/
theorem OwC.get {w : World} {e : TypeId} {sz g n cap i : Nat} {ds : List (List Dat)} {bs : List Nat} {r : List Dat} (h : OwC w (.rows e sz (ds.set i r)) (.slice (some ⟨g, 0, none⟩) n cap) bs) (hi : i < ds.length) (j : Nat) {d : Dat} (hd : r[j]? = some d) {x : Value} (hf : d.flat = some x) :
    w.cell? ⟨g, i * sz + j, none⟩ = some x := by
  obtain ⟨_, u, c, h1, h2, _⟩ := h.cell (i := i) (r := r) (by rw [List.getElem?_set_self hi]) hd
  rw [h1, (h2.flat hf).1]
/-- a number, a bool or a string is written into the cell j -/
theorem OwC.put {w : World} {e : TypeId} {sz g n cap i : Nat} {ds : List (List Dat)} {bs : List Nat} {r : List Dat} (h : OwC w (.rows e sz (ds.set i r)) (.slice (some ⟨g, 0, none⟩) n cap) bs) (hnd : bs.Nodup) (hi : i < ds.length) (j : Nat) {d : Dat} (hd : r[j]? = some d) {x : Value} (hf : d.flat = some x)
    {d' : Dat} {x' : Value} (hf' : d'.flat = some x') : OwC (w.setCell ⟨g, i * sz + j, none⟩ x') (.rows e sz (ds.set i (r.set j d'))) (.slice (some ⟨g, 0, none⟩) n cap) bs := by
  obtain ⟨_, u, c, h1, h2, _, _, _, h3⟩ := h.cell (i := i) (r := r) (by rw [List.getElem?_set_self hi]) hd
  have := h3 hnd d' x' (by rw [hf, (h2.flat hf).1]) hf'
  rwa [List.set_set] at this
/-- what lies behind the cell j -/
theorem OwC.sub {w : World} {e : TypeId} {sz g n cap i : Nat} {ds : List (List Dat)} {bs : List Nat} {r : List Dat} (h : OwC w (.rows e sz (ds.set i r)) (.slice (some ⟨g, 0, none⟩) n cap) bs) (hnd : bs.Nodup) (hi : i < ds.length) (j : Nat) {d : Dat} (hd : r[j]? = some d) :
    ∃ u c, w.cell? ⟨g, i * sz + j, none⟩ = some u ∧ OwC w d u c ∧ c.Nodup ∧ (∀ b ∈ c, b ∈ bs) ∧ g ∉ c ∧ ∀ (w' : World) (d' : Dat), OwC w' d' u c → Touch (fun b => b ∈ c) w w' → OwC w' (.rows e sz (ds.set i (r.set j d'))) (.slice (some ⟨g, 0, none⟩) n cap) bs := by
  obtain ⟨_, u, c, h1, h2, h3, h4, h5, _⟩ := h.cell (i := i) (r := r) (by rw [List.getElem?_set_self hi]) hd
  refine ⟨u, c, h1, h2, (h3 hnd).1, h4, (h3 hnd).2, fun w' d' hd' ht => ?_⟩
  have := h5 hnd w' d' hd' ht
  rwa [List.set_set] at this
theorem cell_set {w : World} {g a o : Nat} {x u : Value} (h : w.cell? ⟨g, o, none⟩ = some u) (hne : ¬ a = o) : (w.setCell ⟨g, a, none⟩ x).cell? ⟨g, o, none⟩ = some u := by
  rw [← h]
  exact World.cell?_setCell_other _ _ _ _ (fun e => hne (by injection e))
theorem touch_set {T : Nat → Prop} {w w' : World} (h : Touch T w w') {g o : Nat} (hg : T g) (x : Value) : Touch T w (w'.setCell ⟨g, o, none⟩ x) := h.setCell (p := ⟨g, o, none⟩) hg x
end Go.Proofs.YtamainhocghlgaaGreatDoor.low


/-
  The laws' own functions on slices of parts, in the words of data: toPartS, eqPartS, markPartS, heldPartS.
-/
namespace Go.Proofs.YtamainhocghlgaaGreatDoor.low
open Go.RowKit
set_option linter.unusedVariables false

theorem cnt_parts : ∀ ps : List Pt, cntR (ps.map encPt) = 2 * ps.length + signsIn ps
  | [] => rfl
  | p :: ps => by
    rw [List.map_cons, cntR, cnt_parts]
    show cntL [.int p.kind, .int p.n, encInts p.signs] + _ = _
    simp only [cntL, cntC, cntC_ints, signsIn, List.map_cons, List.sum_cons, List.length_cons]
    omega
theorem cntC_parts (ps : List Pt) : cntC (encPs ps) = 2 * ps.length + signsIn ps := by unfold encPs; rw [cntC, cnt_parts]
theorem mkL_pt (k : Int) (p : Pt) : mkL k (encPt p) = [.int k, .int (k + 1), mkC (k + 1 + 1) (encInts p.signs)] := by
  show mkL k [.int p.kind, .int p.n, encInts p.signs] = _
  simp [mkL, mkC, cntC]
theorem cntL_pt (p : Pt) : cntL (encPt p) = p.signs.length + 2 := by
  show cntL [.int p.kind, .int p.n, encInts p.signs] = _
  simp only [cntL, cntC, cntC_ints]
  omega
theorem map_at {α β : Type} {f : α → β} {xs : List α} {i : Nat} (h : i < xs.length) : ∃ x, xs[i]? = some x ∧ (xs.map f)[i]? = some (f x) := ⟨xs[i], List.getElem?_eq_getElem h, by rw [List.getElem?_map, List.getElem?_eq_getElem h]; rfl⟩

theorem toPartS_d (v : Value) (ps : List Pt) (w : World) (h : RdC w w.heap.size (encPs ps) v) (hl : ps.length ≤ 1048576) (hls : ∀ p ∈ ps, p.signs.length ≤ 1048576) : Calls Tryz.prog 112 #[v] w (OwnPost (encPs ps) w) := by
  obtain ⟨A, c, rfl, hr, _⟩ := parts_rd h
  refine (toPartS_any A c ps w hr hl hls).mono ?_
  rintro e w1 ⟨v1, rfl, p1, b1⟩
  exact ⟨v1, rfl, own_parts p1, b1⟩
theorem eqPartS_d (v v' : Value) (ps : List Pt) (w : World) (h : RdC w w.heap.size (encPs ps) v) (h' : RdC w w.heap.size (encPs ps) v') (hl : ps.length ≤ 4294967296) (hls : ∀ p ∈ ps, p.signs.length ≤ 4294967296) : Calls Tryz.prog 121 #[v, v'] w (Tells true w) := by
  obtain ⟨A, c, rfl, hr, _⟩ := parts_rd h
  obtain ⟨A', c', rfl, hr', _⟩ := parts_rd h'
  refine (eqPartS_any A A' c c' ps ps w hr hr' hl hl hls hls).mono ?_
  rintro e w1 h1
  rwa [samePs_self] at h1

set_option maxRecDepth 100000 in
set_option maxHeartbeats 3200000 in
theorem markPartS_d (v : Value) (ps : List Pt) (bs : List Nat) (k : Int) (w : World) (h : OwC w (encPs ps) v bs) (hnd : bs.Nodup) (h0 : 0 ≤ k) (h1 : k + (cntC (encPs ps) : Int) ≤ 4503599627370496) :
    Calls Tryz.prog 84 #[v, .int .i64 k] w (MarkP k (encPs ps) v bs w) := by
  have hlen : (ps.map encPt).length = ps.length := by simp
  rcases h.cases with ⟨rfl, hds, rfl⟩ | ⟨g, cap, rfl⟩
  · have hz : ps = [] := by simpa using hds
    subst hz
    go_enter Tryz.func84, Tryz.ntmps84
    go_wp2
    refine wp_loop_rounds 1 ?_
    rw [rounds_succ]
    go_wp2
    go_ret
    exact ⟨by rw [show cntC (encPs []) = 0 from rfl]; simp, h, Touch.refl _ _⟩
  · have hl : ps.length ≤ 4503599627370496 := by rw [cntC_parts] at h1; omega
    have HC := Lib.hid (show ∀ j p, ps[j]? = some p → k + (cntR ((ps.map encPt).take j) : Int) + 2 + (p.signs.length : Int) ≤ 4503599627370496 ∧ cntR ((ps.map encPt).take (j + 1)) = cntR ((ps.map encPt).take j) + (p.signs.length + 2) from fun j p hp => by
      have hj : (ps.map encPt)[j]? = some (encPt p) := by rw [List.getElem?_map, hp]; rfl
      have a1 := cntR_at hj
      rw [cntL_pt] at a1
      have a2 : cntC (encPs ps) = cntR (ps.map encPt) := rfl
      rw [a2] at h1
      exact ⟨by omega, by rw [cntR_snoc hj, cntL_pt]⟩)
    have HE : Hid (cntC (encPs ps) = cntR (ps.map encPt)) := rfl
    have HM : Hid (mkC k (encPs ps) = .rows 145 3 (mkR k (ps.map encPt))) := rfl
    have HAT := Lib.hid (show ∀ j, j < ps.length → ∃ p, ps[j]? = some p ∧ (ps.map encPt)[j]? = some (encPt p) from fun j hj => map_at hj)
    change OwC w (.rows 145 3 (ps.map encPt)) _ bs at h
    have HL := Lib.hid hlen
    rw [hlen] at h ⊢
    clear hlen h1
    generalize ps.map encPt = D at *
    have hgin := h.head
    go_enter Tryz.func84, Tryz.ntmps84
    go_wp2
    go_loopw [1, 5] (fun kk i wr => ∃ j : Nat, j ≤ ps.length ∧ i = .int .i64 j ∧ kk = .int .i64 (k + (cntR (D.take j) : Int)) ∧ OwC wr (.rows 145 3 (mkR k (D.take j) ++ D.drop j)) (.slice (some ⟨g, 0, none⟩) ps.length cap) bs ∧ Touch (fun b => b ∈ bs) w wr) (fun _ i _ => ps.length - (intOf i).toNat)
    case atStart => exact ⟨0, Nat.zero_le _, rfl, by simp [cntR], by rw [mk_none]; exact h, Touch.refl _ _⟩
    case round =>
      obtain ⟨j, hj, rfl, rfl, ho, ht⟩ := hrel
      clear h
      by_cases hlt : j < ps.length
      · obtain ⟨p, hp, hD⟩ := HAT.out j hlt
        obtain ⟨kb, kc⟩ := HC.out j p hp
        have hk0 : 0 ≤ k + (cntR (D.take j) : Int) := by omega
        have K := Lib.hid kc
        have hst := Lib.hid (mk_set k hD)
        rw [mkL_pt] at hst
        have hself := set_same (mk_at k hD)
        rw [← hself] at ho
        have hjl : j < (mkR k (D.take j) ++ D.drop j).length := by rw [mk_len, HL.out]; exact hlt
        generalize hkk : k + (cntR (D.take j) : Int) = kk at *
        have HKK := Lib.hid hkk
        clear hkk
        have x0 := ho.get hjl 0 (d := .int p.kind) rfl rfl
        have x1 := ho.get hjl 1 (d := .int p.n) rfl rfl
        obtain ⟨u, c, x2, r2, _⟩ := ho.sub hnd hjl 2 (d := encInts p.signs) rfl
        obtain ⟨A1, e1, rfl, _⟩ := ints_rd (r2.read _ _ _ (fun b hb => r2.lt _ _ _ b hb))
        have f0 := ho.frozen (j * 3)
        have f1 := ho.frozen (j * 3 + 1)
        have HO := Lib.hid ho
        have HT := Lib.hid ht
        have HJ := Lib.hid hjl
        clear ho ht hjl r2 hD hp hself kc
        rw [Nat.add_zero] at x0
        go_wp2_with fail
        have o1 := HO.out.put hnd HJ.out 0 (d := .int p.kind) rfl rfl (d' := .int kk) rfl
        rw [Nat.add_zero] at o1
        have o2 := o1.put hnd HJ.out 1 (d := .int p.n) rfl rfl (d' := .int (kk + 1)) rfl
        obtain ⟨u', c', y2, q2, nd2, sub2, _, back⟩ := o2.sub hnd HJ.out 2 (d := encInts p.signs) rfl
        have y2' := cell_set (x := .int .i64 (kk + 1)) (a := j * 3 + 1) (cell_set (x := .int .i64 kk) (a := j * 3) x2 (by omega)) (by omega)
        rw [y2'] at y2
        injection y2 with y2
        subst y2
        refine (markIntS_d _ p.signs c' (kk + 1 + 1) _ q2 (by omega) (by omega) (by omega)).mono ?_
        rintro e w3 ⟨rfl, q3, t3⟩
        have o3 := back w3 _ q3 t3
        have ht3 := ((touch_set HT.out hgin (o := j * 3) (.int .i64 kk)) |> fun t => touch_set t hgin (o := j * 3 + 1) (.int .i64 (kk + 1))).trans (t3.mono sub2)
        have o3' := Lib.hid o3
        have HT3 := Lib.hid ht3
        clear o1 o2 o3 q2 q3 t3 back ht3 x0 x1 x2 y2' f0 f1
        rw [cntC_ints]
        go_wp2
        go_roundw
        case rel =>
          refine ⟨j + 1, by omega, by go_num, ?_, ?_, HT3.out⟩
          · congr 1
            have := HKK.out
            rw [K.out]
            omega
          · rw [← hst.out]
            exact o3'.out
        case measure => simp [intOf]; omega
      · obtain rfl : j = ps.length := by omega
        go_wp2
        go_ret
        refine ⟨?_, ?_, ht⟩
        · rw [HE.out, List.take_of_length_le (by rw [HL.out]; omega)]
          try rfl
        · rw [HM.out]
          rw [← HL.out, mk_all] at ho
          rw [← HL.out]
          exact ho
end Go.Proofs.YtamainhocghlgaaGreatDoor.low


/-
  The laws' own functions on lists of slices of parts, in the words of data: szPartSS, toPartSS, eqPartSS, markPartSS, heldPartSS; and heldPartS.
-/
namespace Go.Proofs.YtamainhocghlgaaGreatDoor.low
open Go.RowKit
set_option linter.unusedVariables false

def encPss (l : List (List Pt)) : Dat := .rows 104 1 (l.map fun ps => [encPs ps])
/-- how many parts and characters the lists hold -/
def bulk (l : List (List Pt)) : Nat := (l.map fun ps => ps.length + signsIn ps).sum
theorem bulk_at {l : List (List Pt)} {k : Nat} {ps : List Pt} (h : l[k]? = some ps) : ps.length + signsIn ps ≤ bulk l := by
  have hm := List.mem_of_getElem? h
  clear h
  unfold bulk
  induction l with
  | nil => cases hm
  | cons q r ih =>
    rw [List.map_cons, List.sum_cons]
    rcases List.mem_cons.1 hm with rfl | hm
    · omega
    · have := ih hm; omega
/-- a list of slices of parts: one of them -/
theorem pss_at {w : World} {B : Nat} {A : Option Addr} {n c i : Nat} {l : List (List Pt)} (h : RdC w B (encPss l) (.slice A n c)) (hi : i < l.length) :
    ∃ ad ps A' c', A = some ad ∧ ad.block < B ∧ l[i]? = some ps ∧ w.cell? (ad.add i) = some (.slice A' ps.length c') ∧ RdC w B (encPs ps) (.slice A' ps.length c') := by
  obtain ⟨ad, r, hA, hb, _, hr, hl⟩ := RdC.at_ (ds := l.map fun ps => [encPs ps]) h (by simpa using hi)
  rw [List.getElem?_map, List.getElem?_eq_getElem hi] at hr
  obtain rfl : [encPs l[i]] = r := by simpa using hr
  obtain ⟨⟨v, hv, r1⟩, _⟩ := hl
  obtain ⟨A', c', rfl, _⟩ := parts_rd r1
  rw [Nat.mul_one] at hv
  exact ⟨ad, l[i], A', c', hA, hb, List.getElem?_eq_getElem hi, hv, r1⟩
theorem pss_len {w : World} {B : Nat} {v : Value} {l : List (List Pt)} (h : RdC w B (encPss l) v) : ∃ A c, v = .slice A l.length c := by
  obtain ⟨A, c, hv, _⟩ := RdC.len h
  exact ⟨A, c, by simpa using hv⟩

end Go.Proofs.YtamainhocghlgaaGreatDoor.low


/-
  The laws' own heldPartS, markPartSS and heldPartSS, in the words of data.
-/
namespace Go.Proofs.YtamainhocghlgaaGreatDoor.low
open Go.RowKit
set_option linter.unusedVariables false

set_option maxRecDepth 100000 in
set_option maxHeartbeats 3200000 in
theorem heldPartS_d (v : Value) (ps : List Pt) (k : Int) (w : World) (h : RdC w w.heap.size (mkC k (encPs ps)) v) (h0 : 0 ≤ k) (h1 : k + (cntC (encPs ps) : Int) ≤ 4503599627370496) :
    Calls Tryz.prog 85 #[v, .int .i64 k] w (HeldP k (encPs ps) w) := by
  have hl : ps.length ≤ 4503599627370496 := by rw [cntC_parts] at h1; omega
  have HC := Lib.hid (show ∀ j p, ps[j]? = some p → k + (cntR ((ps.map encPt).take j) : Int) + 2 + (p.signs.length : Int) ≤ 4503599627370496 ∧ cntR ((ps.map encPt).take (j + 1)) = cntR ((ps.map encPt).take j) + (p.signs.length + 2) from fun j p hp => by
    have hj : (ps.map encPt)[j]? = some (encPt p) := by rw [List.getElem?_map, hp]; rfl
    have a1 := cntR_at hj
    rw [cntL_pt] at a1
    have a2 : cntC (encPs ps) = cntR (ps.map encPt) := rfl
    rw [a2] at h1
    exact ⟨by omega, by rw [cntR_snoc hj, cntL_pt]⟩)
  have HE : Hid (cntC (encPs ps) = cntR (ps.map encPt)) := rfl
  have HAT := Lib.hid (show ∀ j, j < ps.length → ∃ p, ps[j]? = some p ∧ (ps.map encPt)[j]? = some (encPt p) from fun j hj => map_at hj)
  have hlen : (ps.map encPt).length = ps.length := by simp
  have h : RdC w w.heap.size (.rows 145 3 (mkR k (ps.map encPt))) v := h
  generalize ps.map encPt = D at *
  obtain ⟨A, c, rfl, _⟩ := h.len
  have HL := Lib.hid hlen
  rw [mkR_len, hlen] at h ⊢
  clear hlen h1
  go_enter Tryz.func85, Tryz.ntmps85
  go_wp2
  go_loop [1, 5] (fun kk i => ∃ j : Nat, j ≤ ps.length ∧ i = .int .i64 j ∧ kk = .int .i64 (k + (cntR (D.take j) : Int))) (fun _ i => ps.length - (intOf i).toNat)
  case atStart => exact ⟨0, Nat.zero_le _, rfl, by simp [cntR]⟩
  case round =>
    obtain ⟨j, hj, rfl, rfl⟩ := hrel
    by_cases hlt : j < ps.length
    · obtain ⟨p, hp, hD⟩ := HAT.out j hlt
      obtain ⟨kb, kc⟩ := HC.out j p hp
      have hk0 : 0 ≤ k + (cntR (D.take j) : Int) := by omega
      have K := Lib.hid kc
      obtain ⟨ad, r, rfl, hb, hs, hr, hrl⟩ := h.at_ (i := j) (by rw [mkR_len, HL.out]; exact hlt)
      rw [mkR_at D k j _ hD, mkL_pt] at hr
      obtain rfl : _ = r := by injection hr
      clear hr hD hp kc
      generalize hkk : k + (cntR (D.take j) : Int) = kk at *
      have HKK := Lib.hid hkk
      clear hkk
      obtain ⟨b, off, spot⟩ := ad
      obtain rfl : spot = none := by
        rcases hs with hs | hs
        · cases hs
        · exact hs
      obtain ⟨⟨v0, x0, rfl⟩, ⟨v1, x1, rfl⟩, ⟨v2, x2, r2⟩, _⟩ := hrl
      have r2' := r2
      rw [mkC_ints] at r2'
      obtain ⟨A1, e1, rfl, _⟩ := ints_rd r2'
      rw [add_at] at x0 x1 x2
      rw [marks_len] at x2 r2
      rw [← Nat.add_assoc] at x1 x2
      rw [← Nat.add_assoc] at x2
      have R2 := Lib.hid r2
      clear r2 r2' hs
      go_wp2_with fail
      refine (heldIntS_d _ p.signs (kk + 1 + 1) _ R2.out (by omega) (by omega) (by omega)).mono ?_
      rintro e w' ⟨rfl, rfl⟩
      rw [cntC_ints]
      have hnn : 0 ≤ kk + 1 + 1 + (p.signs.length : Int) := by omega
      go_wp2
      go_round
      case rel =>
        refine ⟨j + 1, by omega, by go_num, ?_⟩
        congr 1
        have := HKK.out
        rw [K.out]
        omega
      case measure => simp [intOf]; omega
    · obtain rfl : j = ps.length := by omega
      go_wp2
      go_ret
      refine ⟨?_, rfl⟩
      rw [HE.out, List.take_of_length_le (by rw [HL.out]; omega)]
      try rfl

def encPsL (ps : List Pt) : List Dat := [encPs ps]
end Go.Proofs.YtamainhocghlgaaGreatDoor.low


/-
  Words for the laws' walks: small data, objects with their blocks, and the laws' own functions on them.
-/
namespace Go.Proofs.YtamainhocghlgaaGreatDoor.low
open Go.RowKit
set_option linter.unusedVariables false

/-- a datum of the caller's own with its blocks b, in [lo, hi) -/
structure OwB (lo hi : Nat) (w : World) (d : Dat) (v : Value) (b : List Nat) : Prop where
  ow : OwC w d v b
  nd : b.Nodup
  rng : ∀ x ∈ b, lo ≤ x ∧ x < hi
  top : hi ≤ w.heap.size
  le : lo ≤ hi
theorem Own.blocks {lo hi : Nat} {w : World} {d : Dat} {v : Value} (h : Own lo hi w d v) : ∃ b, OwB lo hi w d v b := by
  obtain ⟨b, h1, h2, h3, h4, h5⟩ := h
  exact ⟨b, h1, h2, h3, h4, h5⟩
theorem OwB.past {lo hi : Nat} {w w' : World} {d : Dat} {v : Value} {b : List Nat} (h : OwB lo hi w d v b) (hb : Below w.heap.size w w') : OwB lo hi w' d v b :=
  ⟨OwC.keep d v b h.ow (fun x hx => hb.block x (OwC.lt d v b h.ow x hx)), h.nd, h.rng, Nat.le_trans h.top hb.size, h.le⟩
theorem OwB.touch {lo hi : Nat} {w w' : World} {d : Dat} {v : Value} {b : List Nat} {T : Nat → Prop} (h : OwB lo hi w d v b) (ht : Touch T w w') (hn : ∀ x ∈ b, ¬ T x) : OwB lo hi w' d v b :=
  ⟨OwC.keep d v b h.ow (fun x hx => ht.block x (hn x hx)), h.nd, h.rng, by rw [ht.size]; exact h.top, h.le⟩
theorem OwB.apart {lo hi lo' hi' : Nat} {w w' : World} {d d' : Dat} {v v' : Value} {b b' : List Nat} {w0 : World} (h : OwB lo hi w d v b) (h' : OwB lo' hi' w0 d' v' b') (ht : Touch (fun x => x ∈ b') w w') (hd : hi ≤ lo' ∨ hi' ≤ lo) : OwB lo hi w' d v b :=
  h.touch ht (fun x hx hx' => by have := h.rng x hx; have := h'.rng x hx'; omega)
theorem OwB.read {lo hi : Nat} {w : World} {d : Dat} {v : Value} {b : List Nat} (h : OwB lo hi w d v b) : RdC w w.heap.size d v := OwC.read d v b h.ow (fun x hx => OwC.lt d v b h.ow x hx)
theorem OwB.marked {lo hi : Nat} {w w' : World} {d d' : Dat} {v : Value} {b : List Nat} (h : OwB lo hi w d v b) (o : OwC w' d' v b) (ht : Touch (fun x => x ∈ b) w w') : OwB lo hi w' d' v b := ⟨o, h.nd, h.rng, by rw [ht.size]; exact h.top, h.le⟩
theorem OwB.under {lo hi B : Nat} {w w' : World} {d : Dat} {v : Value} {b : List Nat} (h : OwB lo hi w d v b) (ht : Touch (fun x => x ∈ b) w w') (hB : B ≤ lo) : Below B w w' := ht.below (fun x hx => Nat.le_trans hB (h.rng x hx).1)

/-- small data -/
def SmI (zs : List Int) : Prop := zs.length ≤ 1048576
def SmP (ps : List Pt) : Prop := ps.length ≤ 1048576 ∧ signsIn ps ≤ 1048576
def SmPP (l : List (List Pt)) : Prop := l.length ≤ 1048576 ∧ bulk l ≤ 1048576
theorem SmP.all {ps : List Pt} (h : SmP ps) : ∀ p ∈ ps, p.signs.length ≤ 1048576 := fun p hp => by
  obtain ⟨i, hi⟩ := List.getElem?_of_mem hp
  exact Nat.le_trans (signsIn_at hi) h.2
theorem SmPP.all {l : List (List Pt)} (h : SmPP l) : ∀ ps ∈ l, SmP ps := fun ps hp => by
  obtain ⟨i, hi⟩ := List.getElem?_of_mem hp
  have := bulk_at hi
  have := h.2
  exact ⟨by omega, by omega⟩
theorem toI (v : Value) (zs : List Int) (w : World) (h : RdC w w.heap.size (encInts zs) v) (hs : SmI zs) : Calls Tryz.prog 64 #[v] w (OwnPost (encInts zs) w) := toIntS_d v zs w h (by unfold SmI at hs; omega)
theorem toP (v : Value) (ps : List Pt) (w : World) (h : RdC w w.heap.size (encPs ps) v) (hs : SmP ps) : Calls Tryz.prog 112 #[v] w (OwnPost (encPs ps) w) := toPartS_d v ps w h hs.1 hs.all
theorem eqI (v v' : Value) (zs : List Int) (w : World) (h : RdC w w.heap.size (encInts zs) v) (h' : RdC w w.heap.size (encInts zs) v') (hs : SmI zs) : Calls Tryz.prog 80 #[v, v'] w (Tells true w) := eqIntS_d v v' zs w h h' (by unfold SmI at hs; omega)
theorem eqP (v v' : Value) (ps : List Pt) (w : World) (h : RdC w w.heap.size (encPs ps) v) (h' : RdC w w.heap.size (encPs ps) v') (hs : SmP ps) : Calls Tryz.prog 121 #[v, v'] w (Tells true w) := eqPartS_d v v' ps w h h' (by have := hs.1; omega) (fun p hp => by have := hs.all p hp; omega)
/-- a list of small operations, of whatever bulk -/
def SmQ (l : List (List Pt)) : Prop := l.length ≤ 1048576 ∧ ∀ ps ∈ l, SmP ps
theorem SmQ.bulk : ∀ {l : List (List Pt)}, (∀ ps ∈ l, SmP ps) → low.bulk l ≤ 2097152 * l.length
  | [], _ => by simp [low.bulk]
  | ps :: l, h => by
    have i := SmQ.bulk (l := l) (fun q hq => h q (by simp [hq]))
    have b := h ps (by simp)
    have b1 := b.1
    have b2 := b.2
    have e : low.bulk (ps :: l) = (ps.length + signsIn ps) + low.bulk l := by simp [low.bulk]
    rw [e, List.length_cons]
    omega
theorem szP (v : Value) (ps : List Pt) (left : Int) (w : World) (h : RdC w w.heap.size (encPs ps) v) (h0 : 0 ≤ left) (h1 : left ≤ 1048576) (hl : ps.length ≤ maxLen ∧ ∀ p ∈ ps, p.signs.length ≤ maxLen) :
    Calls Tryz.prog 105 #[v, .int .i64 left] w (Sized (ps.length + signsIn ps) left w) := by
  obtain ⟨A, c, rfl, hr, _⟩ := parts_rd h
  unfold maxLen at hl
  exact szPartS_any A c ps left w hr h0 h1 (by omega) (fun p hp => by have := hl.2 p hp; omega)
/-- two results of its own and a bool, or one and a bool -/
def ResB (d : Dat) (ok : Bool) (w : World) (e : Ending) (w' : World) : Prop := ∃ v, e = .returned (.tuple #[v, .bool ok]) ∧ Own w.heap.size w'.heap.size w' d v ∧ Below w.heap.size w w'
theorem sliceI {w : World} {B : Nat} {zs : List Int} {v : Value} (h : RdC w B (encInts zs) v) : ∃ A c, v = .slice A zs.length c := by obtain ⟨A, c, e, _⟩ := ints_rd h; exact ⟨A, c, e⟩
theorem sliceP {w : World} {B : Nat} {ps : List Pt} {v : Value} (h : RdC w B (encPs ps) v) : ∃ A c, v = .slice A ps.length c := by obtain ⟨A, c, e, _⟩ := parts_rd h; exact ⟨A, c, e⟩
end Go.Proofs.YtamainhocghlgaaGreatDoor.low


/-
  A law's arguments opened, in the words of data: a slice of numbers, of parts, a list of slices of parts.
-/
namespace Go.Proofs.YtamainhocghlgaaGreatDoor.low
open Go.RowKit Go.ChangeShapes Go.WideShapes Go.Deep
set_option linter.unusedVariables false
section
variable {H : Type} {enc : TypeId × Value → H} {w : World} {base : Nat} {spare : Nat → Bool} {held : Bool}
theorem add_zero (p : Addr) : p.add 0 = p := by unfold Addr.add; simp
theorem open_dints {fuel : Nat} {cs : List Value} {x : DataW H × List MemPlace} (h : DataW.trod enc Tryz.prog w base spare held fuel 61 cs = some x) :
    ∃ A c, ∃ zs : List Int, cs = [.slice A zs.length c] ∧ RdC w w.heap.size (encInts zs) (.slice A zs.length c) ∧ zs.length ≤ maxLen := by
  have h' := h
  obtain ⟨A, c, zs, e, hr, hl⟩ := read_ints h
  refine ⟨A, c, zs, e, rd_ints hr ?_, hl⟩
  rcases open_slice Tryz.underlying61 h' with ⟨hcs, _⟩ | ⟨a, len, cap, m, n, D, Pl, hcs, _, hl', _⟩
  · rw [hcs] at e
    simp at e
    omega
  · rw [hcs] at e
    simp at e
    omega
set_option maxRecDepth 100000 in
theorem open_dpart {fuel : Nat} {cs : List Value} {x : DataW H × List MemPlace} (h : DataW.trod enc Tryz.prog w base spare held fuel 184 cs = some x) :
    ∃ (p : Pt) (v : Value), cs = [.int .i64 p.kind, .int .i64 p.n, v] ∧ RdC w w.heap.size (encInts p.signs) v ∧ p.signs.length ≤ maxLen := by
  obtain ⟨xs, n, _, _, hl, hxl, hf⟩ := DataW.trod_struct Tryz.underlying184 h
  rw [cellsPart] at hl
  match cs, hl with
  | [c0, c1, c2], _ =>
    match xs, hxl with
    | [y0, y1, y2], _ =>
      have h0 := hf 0 _ rfl
      have h1 := hf 1 _ rfl
      have h2 := hf 2 _ rfl
      simp [cellsInt, cellsInts] at h0 h1 h2
      obtain ⟨k, e0, _, _⟩ := DataW.trod_int Tryz.underlying3 h0
      obtain ⟨m, e1, _, _⟩ := DataW.trod_int Tryz.underlying3 h1
      obtain ⟨A, c, zs, e2, hr, hz⟩ := open_dints h2
      simp at e0 e1 e2
      subst e0; subst e1; subst e2
      exact ⟨⟨k, m, zs⟩, _, rfl, hr, hz⟩
/-- a slice whose elements are read one by one -/
theorem open_rows {α : Type} {f : α → List Dat} {P : α → Prop} {sz : Nat} {e : TypeId} {a : Addr} {len cap : Nat} (hc : len ≤ cap) (hs : sz = 1 ∨ 0 < len → a.spot = none ∨ sz = 1)
    (hi : ∀ i, i < len → ∃ x, a.block < w.heap.size ∧ RdL w w.heap.size a (i * sz) (f x) ∧ P x) :
    ∃ l : List α, l.length = len ∧ RdC w w.heap.size (.rows e sz (l.map f)) (.slice (some a) len cap) ∧ ∀ x ∈ l, P x := by
  obtain ⟨l, hl, hq⟩ := choose_list (α := α) (Q := fun i x => a.block < w.heap.size ∧ RdL w w.heap.size a (i * sz) (f x) ∧ P x) len hi
  refine ⟨l, hl, ⟨some a, cap, by simp [hl], by simpa [hl] using hc, fun hn => ?_⟩, fun x hx => ?_⟩
  · have hn' : 0 < l.length := by simpa using hn
    obtain ⟨x0, hx0⟩ : ∃ x, l[0]? = some x := ⟨_, List.getElem?_eq_getElem hn'⟩
    refine ⟨a, rfl, (hq 0 x0 hx0).1, ?_, rdR_of f l 0 (fun i x hx => by rw [Nat.zero_add]; exact (hq i x hx).2.1)⟩
    rcases hs (.inr (by omega)) with h | h
    · exact .inr h
    · exact .inl h
  · obtain ⟨i, hi', rfl⟩ := List.getElem_of_mem hx
    exact (hq i _ (List.getElem?_eq_getElem hi')).2.2
set_option maxRecDepth 100000 in
theorem open_dparts {fuel : Nat} {cs : List Value} {x : DataW H × List MemPlace} (h : DataW.trod enc Tryz.prog w base spare held fuel 140 cs = some x) :
    ∃ (ps : List Pt) (A : Option Addr) (c : Nat), cs = [.slice A ps.length c] ∧ RdC w w.heap.size (encPs ps) (.slice A ps.length c) ∧ ps.length ≤ maxLen ∧ ∀ p ∈ ps, p.signs.length ≤ maxLen := by
  rcases open_slice Tryz.underlying140 h with ⟨hcs, _⟩ | ⟨a, len, cap, m, n, D, Pl, hcs, _, hl, hm, hmm, _, hi⟩
  · exact ⟨[], none, 0, hcs, ⟨none, 0, rfl, Nat.le_refl _, fun hn => absurd hn (by simp)⟩, Nat.zero_le _, by simp⟩
  · have hlm : len ≤ m := by rw [hmm]; split <;> omega
    have hrow : ∀ i, i < len → ∃ p : Pt, a.block < w.heap.size ∧ (0 < len → a.spot = none) ∧ RdL w w.heap.size a (i * 3) (encPt p) ∧ p.signs.length ≤ maxLen := fun i hil => by
      have hs : a.spot = none := by
        obtain ⟨cs', hc, ht⟩ := hi 0 (by omega)
        obtain ⟨p, v, rfl, _⟩ := open_dpart ht
        rw [cellsPart] at hc
        obtain ⟨_, _, hcell⟩ := World.cells?_some hc
        have k0 := hcell 0 (by omega)
        simp only [List.getElem?_cons_zero] at k0
        simpa [Addr.add] using World.cell?_spot k0
      obtain ⟨b, off, spot⟩ := a
      simp only at hs
      subst hs
      obtain ⟨cs', hc, ht⟩ := hi i (by omega)
      obtain ⟨p, v, rfl, hr, hz⟩ := open_dpart ht
      rw [cellsPart] at hc
      obtain ⟨_, _, hcell⟩ := World.cells?_some hc
      have k0 := hcell 0 (by omega)
      have k1 := hcell 1 (by omega)
      have k2 := hcell 2 (by omega)
      simp only [List.getElem?_cons_zero, List.getElem?_cons_succ] at k0 k1 k2
      rw [add_at, add_at] at k0 k1 k2
      have hb := cell_lt k0
      refine ⟨p, hb, fun _ => rfl, ⟨⟨_, ?_, rfl⟩, ⟨_, ?_, rfl⟩, ⟨v, ?_, hr⟩, trivial⟩, hz⟩
      · rw [add_at]; exact k0
      · rw [add_at]; exact k1
      · rw [add_at]; exact k2
    obtain ⟨ps, e1, e2, e3⟩ := open_rows (α := Pt) (f := encPt) (P := fun p => p.signs.length ≤ maxLen ∧ (0 < len → a.spot = none)) (sz := 3) (e := 145) (w := w) (a := a) hl (fun hd => by
      rcases hd with hd | hd
      · cases hd
      · obtain ⟨p, _, hs, _⟩ := hrow 0 hd
        exact .inl (hs hd)) (fun i hil => by
      obtain ⟨p, h1, h2, h3, h4⟩ := hrow i hil
      exact ⟨p, h1, h3, h4, h2⟩)
    subst e1
    exact ⟨ps, some a, cap, hcs, e2, by omega, fun p hp => (e3 p hp).1⟩
theorem cellsParts : Tryz.prog.cellsOf 140 = 1 := by kernel_rfl
end
end Go.Proofs.YtamainhocghlgaaGreatDoor.low


/-
  Data in memory: structs by value, rows of a slice filled one by one, sums over lists. General words for the laws' own functions on struct types (the texts that mkty.py writes).
-/
namespace Go.Proofs.YtamainhocghlgaaGreatDoor.low
open Go.RowKit
set_option linter.unusedVariables false

/-- a sum over a list -/
def sumN {α : Type} (f : α → Nat) (l : List α) : Nat := (l.map f).sum
theorem sumN_snoc {α : Type} {f : α → Nat} {l : List α} {k : Nat} {x : α} (h : l[k]? = some x) : sumN f (l.take (k + 1)) = sumN f (l.take k) + f x := by
  unfold sumN
  rw [List.take_add_one, h]
  simp
theorem sumN_at {α : Type} {f : α → Nat} {l : List α} {x : α} (hm : x ∈ l) : f x ≤ sumN f l := by
  unfold sumN
  induction l with
  | nil => cases hm
  | cons q r ih =>
    rw [List.map_cons, List.sum_cons]
    rcases List.mem_cons.1 hm with rfl | hm
    · omega
    · have := ih hm; omega
theorem sumN_cons {α : Type} (f : α → Nat) (x : α) (l : List α) : sumN f (x :: l) = f x + sumN f l := by simp [sumN]

/-- values of the caller's own that hold the data, in blocks from lo to below hi, all apart -/
def OwnL (lo hi : Nat) (w : World) (ds : List Dat) (vs : List Value) : Prop := ∃ bs, OwL w ds vs bs ∧ bs.Nodup ∧ (∀ b ∈ bs, lo ≤ b ∧ b < hi) ∧ hi ≤ w.heap.size ∧ lo ≤ hi
theorem OwnL.nil {lo hi : Nat} {w : World} (h : hi ≤ w.heap.size) (h2 : lo ≤ hi) : OwnL lo hi w [] [] := ⟨[], ⟨rfl, rfl⟩, by simp, fun b hb => by simp at hb, h, h2⟩
theorem OwnL.flat {lo hi : Nat} {w : World} {d : Dat} {u : Value} {ds : List Dat} {vs : List Value} (hf : d.flat = some u) (h : OwnL lo hi w ds vs) : OwnL lo hi w (d :: ds) (u :: vs) := by
  obtain ⟨bs, h1, h2⟩ := h
  exact ⟨bs, ⟨u, vs, [], bs, rfl, rfl, OwC.of_flat hf, h1⟩, h2⟩
theorem OwnL.own {lo mid hi : Nat} {w : World} {d : Dat} {v : Value} {ds : List Dat} {vs : List Value} (h : Own lo mid w d v) (h' : OwnL mid hi w ds vs) : OwnL lo hi w (d :: ds) (v :: vs) := by
  obtain ⟨b, k1, k2, k3, k4, k5⟩ := h
  obtain ⟨b', l1, l2, l3, l4, l5⟩ := h'
  refine ⟨b ++ b', ⟨v, vs, b, b', rfl, rfl, k1, l1⟩, ?_, fun x hx => ?_, l4, by omega⟩
  · rw [List.nodup_append]
    refine ⟨k2, l2, fun x hx y hy e => ?_⟩
    subst e
    have := k3 x hx
    have := l3 x hy
    omega
  · rcases List.mem_append.1 hx with hx | hx
    · have := k3 x hx; omega
    · have := l3 x hx; omega
theorem OwnL.past {lo hi : Nat} {w w' : World} {ds : List Dat} {vs : List Value} (h : OwnL lo hi w ds vs) (hb : Below w.heap.size w w') : OwnL lo hi w' ds vs := by
  obtain ⟨bs, h1, h2, h3, h4, h5⟩ := h
  exact ⟨bs, OwL.keep ds vs bs h1 (fun b hb' => hb.block b (OwL.lt ds vs bs h1 b hb')), h2, h3, Nat.le_trans h4 hb.size, h5⟩
theorem OwnL.agg {lo hi : Nat} {w : World} {ds : List Dat} {vs : List Value} (h : OwnL lo hi w ds vs) : Own lo hi w (.agg ds) (.agg vs.toArray) := by
  obtain ⟨bs, h1, h2⟩ := h
  exact ⟨bs, ⟨vs, rfl, h1⟩, h2⟩
theorem Own.aggL {lo hi : Nat} {w : World} {ds : List Dat} {v : Value} (h : Own lo hi w (.agg ds) v) : ∃ vs : List Value, v = .agg vs.toArray ∧ OwnL lo hi w ds vs := by
  obtain ⟨bs, ⟨vs, hv, h1⟩, h2⟩ := h
  exact ⟨vs, hv, bs, h1, h2⟩
theorem Own.setUnder {lo hi : Nat} {w : World} {d : Dat} {v : Value} (h : Own lo hi w d v) {g o : Nat} (hg : g < lo ∨ hi ≤ g) (x : Value) : Own lo hi (w.setCell ⟨g, o, none⟩ x) d v := by
  obtain ⟨bs, h1, h2, h3, h4, h5⟩ := h
  exact ⟨bs, OwC.keep d v bs h1 (fun b hb => Below.heap_setCell _ _ _ _ (fun e => by have := h3 b hb; have e' : b = g := e; omega)), h2, h3, by simpa [World.setCell] using h4, h5⟩

/-- values written into cells one behind the other -/
def putRow (w : World) (g : Nat) : Nat → List Value → World
  | _, [] => w
  | o, y :: ys => putRow (w.setCell ⟨g, o, none⟩ y) g (o + 1) ys
theorem putRow_size (g : Nat) : ∀ (ys : List Value) (w : World) (o : Nat), (putRow w g o ys).heap.size = w.heap.size
  | [], _, _ => rfl
  | y :: ys, w, o => by rw [putRow, putRow_size g ys]; simp [World.setCell]
theorem putRow_block (g : Nat) : ∀ (ys : List Value) (w : World) (o b : Nat), b ≠ g → (putRow w g o ys).heap[b]? = w.heap[b]?
  | [], _, _, _, _ => rfl
  | y :: ys, w, o, b, hb => by rw [putRow, putRow_block g ys _ _ b hb]; exact Below.heap_setCell _ _ _ _ hb
theorem putRow_below {lo g : Nat} {a : World} (hg : lo ≤ g) : ∀ (ys : List Value) (w : World) (o : Nat), Below lo a w → Below lo a (putRow w g o ys)
  | [], _, _, h => h
  | y :: ys, w, o, h => by rw [putRow]; exact putRow_below hg ys _ _ (h.setCell (p := ⟨g, o, none⟩) hg y)
/-- the cells of a list written one behind the other -/
def setRow (xs : List Value) : Nat → List Value → List Value
  | _, [] => xs
  | o, y :: ys => setRow (xs.set o y) (o + 1) ys
theorem setRow_eq : ∀ (ys xs : List Value) (o : Nat), o + ys.length ≤ xs.length → setRow xs o ys = xs.take o ++ ys ++ xs.drop (o + ys.length)
  | [], xs, o, h => by simp [setRow]
  | y :: ys, xs, o, h => by
    rw [List.length_cons] at h
    rw [setRow, setRow_eq ys (xs.set o y) (o + 1) (by rw [List.length_set]; omega)]
    have e1 : (xs.set o y).take (o + 1) = xs.take o ++ [y] := by
      rw [List.take_add_one, List.take_set_of_le (Nat.le_refl o)]
      simp [show o < xs.length by omega]
    have e2 : (xs.set o y).drop (o + 1 + ys.length) = xs.drop (o + (ys.length + 1)) := by
      rw [List.drop_set_of_lt (by omega)]
      congr 1
      omega
    rw [e1, e2]
    simp
theorem putRow_own {lo e sz n g cap : Nat} : ∀ (ys : List Value) (w : World) (xs : List Value) (o : Nat), w.ownsRow lo e sz (.slice (some ⟨g, 0, none⟩) n cap) n xs → (putRow w g o ys).ownsRow lo e sz (.slice (some ⟨g, 0, none⟩) n cap) n (setRow xs o ys)
  | [], _, _, _, h => h
  | y :: ys, w, xs, o, h => by
    rw [putRow, setRow]
    exact putRow_own ys _ _ _ (h.stored o y).1

theorem Own.putRow {lo hi g : Nat} {d : Dat} {v : Value} (hg : g < lo ∨ hi ≤ g) : ∀ (ys : List Value) (w : World) (o : Nat), Own lo hi w d v → Own lo hi (low.putRow w g o ys) d v
  | [], _, _, h => h
  | y :: ys, w, o, h => Own.putRow hg ys _ _ (h.setUnder hg y)
/-- a slice of n rows under way, in block lo: its first rows hold the data -/
def Fil (lo e sz n : Nat) (rs : List (List Dat)) (w : World) : Prop := ∃ xs cs, w.ownsRow lo e sz (.slice (some ⟨lo, 0, none⟩) n n) n xs ∧ OwR w sz rs (xs.take (rs.length * sz)) cs ∧ cs.Nodup ∧ (∀ b ∈ cs, lo < b)
theorem Fil.start {lo e sz n : Nat} {w : World} {xs : List Value} (h : w.ownsRow lo e sz (.slice (some ⟨lo, 0, none⟩) n n) n xs) : Fil lo e sz n [] w := ⟨xs, [], h, by simpa using ⟨rfl, rfl⟩, by simp, fun b hb => by simp at hb⟩
theorem Fil.lt {lo e sz n : Nat} {rs : List (List Dat)} {w : World} (h : Fil lo e sz n rs w) : lo < w.heap.size := by
  obtain ⟨xs, cs, h1, _⟩ := h
  exact own_in h1 (k := lo) rfl
theorem Fil.cell {lo e sz n : Nat} {rs : List (List Dat)} {w : World} (h : Fil lo e sz n rs w) {o : Nat} (ho : o < n * sz) : ∃ u, w.cell? ⟨lo, o, none⟩ = some u := by
  obtain ⟨xs, cs, h1, _⟩ := h
  rw [h1.cellAt o ho]
  exact ⟨_, List.getElem?_eq_getElem (by rw [h1.1]; exact ho)⟩
theorem Fil.free {lo e sz n : Nat} {rs : List (List Dat)} {w : World} (h : Fil lo e sz n rs w) (o : Nat) : w.frozen? ⟨lo, o, none⟩ = false := by
  obtain ⟨xs, cs, h1, _⟩ := h
  exact h1.frozenAt o
theorem Fil.past {lo e sz n : Nat} {rs : List (List Dat)} {w w' : World} (h : Fil lo e sz n rs w) (hb : Below w.heap.size w w') : Fil lo e sz n rs w' := by
  obtain ⟨xs, cs, h1, h2, h3, h4⟩ := h
  exact ⟨xs, cs, own_past3 h1 hb, OwR.keep sz _ _ cs h2 (fun b hb' => hb.block b (OwR.lt sz _ _ cs h2 b hb')), h3, h4⟩
/-- a row more: made in a later world, then written -/
theorem Fil.push {lo e sz n m : Nat} {rs : List (List Dat)} {w : World} {r : List Dat} {ys : List Value} (h : Fil lo e sz n rs w) (hn : rs.length < n) (hy : ys.length = sz) {w1 : World} (hb : Below w.heap.size w w1) (ho : OwnL w.heap.size m w1 r ys) : Fil lo e sz n (rs ++ [r]) (putRow w1 lo (rs.length * sz) ys) := by
  have hlt := h.lt
  obtain ⟨xs, cs, h1, h2, h3, h4⟩ := h
  obtain ⟨bs, k1, k2, k3, k4, k5⟩ := ho
  have hcs := OwR.lt sz _ _ cs h2
  have l1 := own_past3 h1 hb
  have l2 := OwR.keep sz _ _ cs h2 (fun b hb' => hb.block b (hcs b hb'))
  have hxl : xs.length = n * sz := h1.1
  have hfit : rs.length * sz + ys.length ≤ xs.length := by
    rw [hxl, hy]
    calc rs.length * sz + sz = (rs.length + 1) * sz := by rw [Nat.add_mul]; omega
      _ ≤ n * sz := Nat.mul_le_mul_right _ (by omega)
  have l3 := l2.append (OwR.one k1 hy)
  have l4 := OwR.keep sz _ _ _ l3 (w' := putRow w1 lo (rs.length * sz) ys) (fun b hb' => putRow_block lo ys _ _ b (by
    rcases List.mem_append.1 hb' with hb' | hb'
    · have := h4 b hb'; omega
    · have := k3 b hb'; omega))
  refine ⟨_, cs ++ bs, putRow_own ys w1 xs (rs.length * sz) l1, ?_, ?_, fun b hb' => ?_⟩
  · rw [setRow_eq ys xs _ hfit]
    have e : (xs.take (rs.length * sz) ++ ys ++ xs.drop (rs.length * sz + ys.length)).take ((rs ++ [r]).length * sz) = xs.take (rs.length * sz) ++ ys := by
      have hl : (xs.take (rs.length * sz) ++ ys).length = (rs ++ [r]).length * sz := by
        rw [List.length_append, List.length_take, List.length_append, hy, Nat.min_eq_left (by omega), List.length_singleton, Nat.add_mul]
        omega
      rw [← hl, List.take_left]
    rw [e]
    exact l4
  · rw [List.nodup_append]
    refine ⟨h3, k2, fun a ha b hb' e => ?_⟩
    subst e
    have := hcs a ha
    have := (k3 a hb').1
    omega
  · rcases List.mem_append.1 hb' with hb' | hb'
    · exact h4 b hb'
    · have := (k3 b hb').1; omega
theorem Fil.done {lo e sz n : Nat} {rs : List (List Dat)} {w : World} (h : Fil lo e sz n rs w) (hn : rs.length = n) : Own lo w.heap.size w (.rows e sz rs) (.slice (some ⟨lo, 0, none⟩) n n) := by
  have hlt := h.lt
  obtain ⟨xs, cs, h1, h2, h3, h4⟩ := h
  rw [List.take_of_length_le (by rw [h1.1, hn]; omega)] at h2
  refine ⟨lo :: cs, ⟨xs, cs, by rw [hn]; exact own_lower h1 (Nat.zero_le _), h2, rfl⟩, ?_, fun b hb => ?_, Nat.le_refl _, Nat.le_of_lt hlt⟩
  · rw [List.nodup_cons]
    exact ⟨fun hc => by have := h4 _ hc; omega, h3⟩
  · rcases List.mem_cons.1 hb with rfl | hb
    · exact ⟨Nat.le_refl _, hlt⟩
    · exact ⟨Nat.le_of_lt (h4 b hb), OwR.lt sz _ _ cs h2 b hb⟩

theorem heap_kept (w : World) (o : Obj) {g : Nat} {x : Obj} (h : w.heap[g]? = some x) : (w.alloc o).heap[g]? = some x := by
  rw [Below.heap_alloc _ _ _ (lt_of_some h)]
  exact h
/-- a struct's box: the cells of a block made just now -/
theorem bxnew {w : World} {cs : Array Value} {T : TypeId} {j : Nat} {u : Value} (hu : cs[j]? = some u) : (w.alloc (.cells cs T)).cell? ⟨w.heap.size, j, none⟩ = some u := by
  rw [← hu]
  exact cell_of_row _ _ j _ _ _ (heap_alloc_new w _)
theorem bxcell {w : World} {g j : Nat} {cs : Array Value} {T : TypeId} {u : Value} (h : w.heap[g]? = some (.cells cs T (0, 0))) (hu : cs[j]? = some u) : w.cell? ⟨g, j, none⟩ = some u := by
  rw [← hu]
  exact cell_of_row _ _ j _ _ _ h
theorem bxfree {w : World} {g j : Nat} {cs : Array Value} {T : TypeId} (h : w.heap[g]? = some (.cells cs T (0, 0))) : w.frozen? ⟨g, j, none⟩ = false := by simp [World.frozen?, h]
theorem bxset {w : World} {g j : Nat} {cs : Array Value} {T : TypeId} (h : w.heap[g]? = some (.cells cs T (0, 0))) (x : Value) : (w.setCell ⟨g, j, none⟩ x).heap[g]? = some (.cells (cs.setIfInBounds j x) T (0, 0)) := by
  rw [heap_setCell_same _ _ _ _ _ _ h]
theorem two_boxes (w : World) (c1 c2 : Array Value) (T : TypeId) : ((w.alloc (.cells c1 T)).alloc (.cells c2 T)).heap[w.heap.size]? = some (.cells c1 T (0, 0)) ∧ ((w.alloc (.cells c1 T)).alloc (.cells c2 T)).heap[w.heap.size + 1]? = some (.cells c2 T (0, 0)) ∧ Below w.heap.size w ((w.alloc (.cells c1 T)).alloc (.cells c2 T)) := by
  have s1 : (w.alloc (.cells c1 T)).heap.size = w.heap.size + 1 := World.size_alloc _ _
  exact ⟨heap_kept _ _ (heap_alloc_new w _), by rw [← s1]; exact heap_alloc_new _ _, ((Below.refl _ _).alloc (Nat.le_refl _) _).alloc (by omega) _⟩
theorem Own.aggV {lo hi : Nat} {w : World} {ds : List Dat} {vs : List Value} (h : Own lo hi w (.agg ds) (.agg vs.toArray)) : OwnL lo hi w ds vs := by
  obtain ⟨vs', hv, h1⟩ := h.aggL
  injection hv with hv
  have : vs = vs' := by simpa using congrArg Array.toList hv
  subst this
  exact h1
/-- a variable's block: a struct in memory -/
def Bx (W : World) (g : Nat) (cs : Array Value) (T : TypeId) : Prop := W.heap[g]? = some (.cells cs T (0, 0))
theorem Bx.new (w : World) (cs : Array Value) (T : TypeId) : Bx (w.alloc (.cells cs T)) w.heap.size cs T := heap_alloc_new w _
theorem Bx.lt {W : World} {g : Nat} {cs : Array Value} {T : TypeId} (h : Bx W g cs T) : g < W.heap.size := lt_of_some h
theorem Bx.past {W W' : World} {g : Nat} {cs : Array Value} {T : TypeId} (h : Bx W g cs T) (hb : Below W.heap.size W W') : Bx W' g cs T := (hb.block _ h.lt).trans h
theorem Bx.apart {W W' w0 : World} {g lo hi : Nat} {cs : Array Value} {T : TypeId} {d : Dat} {v : Value} {b : List Nat} (h : Bx W g cs T) (h' : OwB lo hi w0 d v b) (ht : Touch (fun x => x ∈ b) W W') (hd : g < lo ∨ hi ≤ g) : Bx W' g cs T :=
  (ht.block _ (fun hx => by have := h'.rng g hx; omega)).trans h
theorem Bx.cell {W : World} {g j : Nat} {cs : Array Value} {T : TypeId} {u : Value} (h : Bx W g cs T) (hu : cs[j]? = some u) : W.cell? ⟨g, j, none⟩ = some u := bxcell h hu
/-- a copy under way: the argument's box, the result's block, the variable's block, one behind the other -/
structure ToS (w : World) (c0 : Array Value) (T0 : TypeId) (c1 : Array Value) (T : TypeId) (c2 : Array Value) (W : World) : Prop where
  b0 : W.heap[w.heap.size]? = some (.cells c0 T0 (0, 0))
  b1 : W.heap[w.heap.size + 1]? = some (.cells c1 T (0, 0))
  b2 : W.heap[w.heap.size + 1 + 1]? = some (.cells c2 T (0, 0))
  bel : Below w.heap.size w W
theorem ToS.start (w : World) (c0 : Array Value) (T0 : TypeId) (c1 : Array Value) (T : TypeId) (c2 : Array Value) : ToS w c0 T0 c1 T c2 (((w.alloc (.cells c0 T0)).alloc (.cells c1 T)).alloc (.cells c2 T)) := by
  obtain ⟨W, rfl, hb, hs, k1, k2⟩ := three_new w (.cells c0 T0) (.cells c1 T) (.cells c2 T)
  exact ⟨heap_kept _ _ (heap_kept _ _ (heap_alloc_new w _)), k1, k2, hb⟩
theorem ToS.lt {w : World} {c0 : Array Value} {T0 : TypeId} {c1 : Array Value} {T : TypeId} {c2 : Array Value} {W : World} (h : ToS w c0 T0 c1 T c2 W) : w.heap.size + 1 + 1 < W.heap.size := lt_of_some h.b2
theorem ToS.past {w : World} {c0 : Array Value} {T0 : TypeId} {c1 : Array Value} {T : TypeId} {c2 : Array Value} {W W' : World} (h : ToS w c0 T0 c1 T c2 W) (hb : Below W.heap.size W W') : ToS w c0 T0 c1 T c2 W' := by
  have := h.lt
  exact ⟨(hb.block _ (by omega)).trans h.b0, (hb.block _ (by omega)).trans h.b1, (hb.block _ (by omega)).trans h.b2, h.bel.trans (hb.mono h.bel.size)⟩
theorem ToS.set {w : World} {c0 : Array Value} {T0 : TypeId} {c1 : Array Value} {T : TypeId} {c2 : Array Value} {W : World} (h : ToS w c0 T0 c1 T c2 W) (j : Nat) (x : Value) : ToS w c0 T0 c1 T (c2.setIfInBounds j x) (W.setCell ⟨w.heap.size + 1 + 1, j, none⟩ x) :=
  ⟨(Below.heap_setCell _ _ _ _ (by simp only; omega)).trans h.b0, (Below.heap_setCell _ _ _ _ (by simp only; omega)).trans h.b1, bxset h.b2 x, h.bel.setCell (p := ⟨w.heap.size + 1 + 1, j, none⟩) (by simp only; omega) x⟩

/-- numbers and parts: how much they are, when they are small, and the laws' functions on them, in one form for all kinds -/
def totI (zs : List Int) : Nat := zs.length
def LimI (zs : List Int) : Prop := zs.length ≤ maxLen
def totP (ps : List Pt) : Nat := ps.length + signsIn ps
def LimP (ps : List Pt) : Prop := ps.length ≤ maxLen ∧ ∀ p ∈ ps, p.signs.length ≤ maxLen
theorem smI_of {zs : List Int} (h : totI zs ≤ 1048576) : SmI zs := h
theorem smP_of {ps : List Pt} (h : totP ps ≤ 1048576) : SmP ps := by unfold totP at h; exact ⟨by omega, by omega⟩
theorem cntI_le (zs : List Int) : cntC (encInts zs) ≤ totI zs := by rw [cntC_ints]; exact Nat.le_refl _
theorem cntP_le (ps : List Pt) : cntC (encPs ps) ≤ 2 * totP ps := by rw [cntC_parts]; unfold totP; omega
theorem szI_ (v : Value) (zs : List Int) (left : Int) (w : World) (h : RdC w w.heap.size (encInts zs) v) (h0 : 0 ≤ left) (h1 : left ≤ 1048576) (hl : LimI zs) : Calls Tryz.prog 54 #[v, .int .i64 left] w (Sized (totI zs) left w) := by
  obtain ⟨A, c, rfl⟩ := sliceI h
  unfold LimI maxLen at hl
  exact szIntS_any A zs.length c left w h0 h1 (by omega)
theorem szP_r (v : Value) (ps : List Pt) (left : Int) (w : World) (h : RdC w w.heap.size (encPs ps) v) (h0 : 0 ≤ left) (h1 : left ≤ 1048576) (hl : LimP ps) : Calls Tryz.prog 105 #[v, .int .i64 left] w (Sized (totP ps) left w) := szP v ps left w h h0 h1 hl
theorem mkI_r (v : Value) (zs : List Int) (b : List Nat) (k : Int) (w : World) (h : OwC w (encInts zs) v b) (hnd : b.Nodup) (h0 : 0 ≤ k) (h1 : k + (cntC (encInts zs) : Int) ≤ 4503599627370496) (hs : SmI zs) : Calls Tryz.prog 48 #[v, .int .i64 k] w (MarkP k (encInts zs) v b w) := markIntS_d v zs b k w h h0 (by omega) (by rw [cntC_ints] at h1; omega)
theorem mkP_r (v : Value) (ps : List Pt) (b : List Nat) (k : Int) (w : World) (h : OwC w (encPs ps) v b) (hnd : b.Nodup) (h0 : 0 ≤ k) (h1 : k + (cntC (encPs ps) : Int) ≤ 4503599627370496) (hs : SmP ps) : Calls Tryz.prog 84 #[v, .int .i64 k] w (MarkP k (encPs ps) v b w) := markPartS_d v ps b k w h hnd h0 h1
theorem hdI_r (v : Value) (zs : List Int) (k : Int) (w : World) (h : RdC w w.heap.size (mkC k (encInts zs)) v) (h0 : 0 ≤ k) (h1 : k + (cntC (encInts zs) : Int) ≤ 4503599627370496) (hs : SmI zs) : Calls Tryz.prog 51 #[v, .int .i64 k] w (HeldP k (encInts zs) w) := heldIntS_d v zs k w h h0 (by omega) (by rw [cntC_ints] at h1; omega)
theorem hdP_r (v : Value) (ps : List Pt) (k : Int) (w : World) (h : RdC w w.heap.size (mkC k (encPs ps)) v) (h0 : 0 ≤ k) (h1 : k + (cntC (encPs ps) : Int) ≤ 4503599627370496) (hs : SmP ps) : Calls Tryz.prog 85 #[v, .int .i64 k] w (HeldP k (encPs ps) w) := heldPartS_d v ps k w h h0 h1
theorem mklI {w : World} {B : Nat} {k : Int} {zs : List Int} {v : Value} (h : RdC w B (mkC k (encInts zs)) v) : ∃ A c, v = .slice A zs.length c := by
  rw [mkC_ints] at h
  obtain ⟨A, c, hv⟩ := sliceI h
  exact ⟨A, c, by rw [hv, marks_len]⟩
theorem mklP {w : World} {B : Nat} {k : Int} {ps : List Pt} {v : Value} (h : RdC w B (mkC k (encPs ps)) v) : ∃ A c, v = .slice A ps.length c := by
  have h' : RdC w B (.rows 145 3 (mkR k (ps.map encPt))) v := h
  obtain ⟨A, c, hv, _⟩ := h'.len
  exact ⟨A, c, by simpa [mkR_len] using hv⟩
theorem ret_i {a b : Int} (h : a = b) : Ending.returned (.int .i64 a) = .returned (.int .i64 b) := by rw [h]
/-- marks behind a struct by value: a block is made ahead -/
def MarkG (k : Int) (d : Dat) (v : Value) (bs : List Nat) (w : World) (e : Ending) (w' : World) : Prop := e = .returned (.int .i64 (k + (cntC d : Int))) ∧ OwC w' (mkC k d) v bs ∧ ∃ w1, Below w.heap.size w w1 ∧ Touch (fun b => b ∈ bs) w1 w'
def HeldG (k : Int) (d : Dat) (w : World) (e : Ending) (w' : World) : Prop := e = .returned (.int .i64 (k + (cntC d : Int))) ∧ Below w.heap.size w w'
end Go.Proofs.YtamainhocghlgaaGreatDoor.low


/-
  Cells of strings and bools.
-/
namespace Go.Proofs.YtamainhocghlgaaGreatDoor.low
theorem cellsStr : Tryz.prog.cellsOf 9 = 1 := by kernel_rfl
theorem cellsBool : Tryz.prog.cellsOf 4 = 1 := by kernel_rfl
end Go.Proofs.YtamainhocghlgaaGreatDoor.low


/-
  The struct type Entry of the laws: its words, and the laws' own functions on it and on slices of it. Written by mkty.py.
-/
namespace Go.Proofs.YtamainhocghlgaaGreatDoor.low
open Go.RowKit
set_option linter.unusedVariables false

structure En where
  client : Int
  seq : Int
  o : List Pt
def encEn (x : En) : List Dat := [.int x.client, .int x.seq, encPs x.o]
def datEn (x : En) : Dat := .agg (encEn x)
def encEns (l : List En) : Dat := .rows 106 3 (l.map encEn)
def totEn (x : En) : Nat := totP x.o
def LimEn (x : En) : Prop := LimP x.o
def SmEn (x : En) : Prop := totEn x ≤ 1048576
def totEns (l : List En) : Nat := l.length + sumN totEn l
def LimEns (l : List En) : Prop := l.length ≤ maxLen ∧ ∀ x ∈ l, LimEn x
def SmEns (l : List En) : Prop := totEns l ≤ 1048576
theorem smEns_of {l : List En} (h : totEns l ≤ 1048576) : SmEns l := h
theorem SmEns.len {l : List En} (h : SmEns l) : l.length ≤ 1048576 := by unfold SmEns totEns at h; omega
theorem SmEns.at_ {l : List En} (h : SmEns l) {x : En} (hx : x ∈ l) : SmEn x := by
  unfold SmEns totEns at h
  have := sumN_at (f := totEn) hx
  unfold SmEn
  omega
theorem SmEn.o {x : En} (h : SmEn x) : SmP x.o := smP_of (by unfold SmEn totEn at h; omega)
theorem aggEn {w : World} {B : Nat} {x : En} {v : Value} (h : RdC w B (datEn x) v) : ∃ (A2 : Option Addr) (c2 : Nat), v = .agg #[.int .i64 x.client, .int .i64 x.seq, .slice A2 x.o.length c2] ∧ RdC w B (encPs x.o) (.slice A2 x.o.length c2) := by
  obtain ⟨vs, rfl, v0, _, rfl, rfl, v1, _, rfl, rfl, v2, _, rfl, r2, rfl⟩ := h
  obtain ⟨A2, c2, rfl⟩ := sliceP r2
  exact ⟨A2, c2, rfl, r2⟩
theorem rdEn {w : World} {B : Nat} (x : En) {v2 : Value} (r2 : RdC w B (encPs x.o) v2) : RdC w B (datEn x) (.agg #[.int .i64 x.client, .int .i64 x.seq, v2]) := ⟨_, rfl, _, _, rfl, rfl, _, _, rfl, rfl, _, _, rfl, r2, rfl⟩
theorem sliceEns {w : World} {B : Nat} {l : List En} {v : Value} (h : RdC w B (encEns l) v) : ∃ A c, v = .slice A l.length c := by
  obtain ⟨A, c, hv, _⟩ := RdC.len h
  exact ⟨A, c, by simpa using hv⟩
theorem atEns {w : World} {B : Nat} {A : Option Addr} {m c i : Nat} {l : List En} (h : RdC w B (encEns l) (.slice A m c)) (hi : i < l.length) : ∃ (b off : Nat) (x : En) (A2 : Option Addr) (c2 : Nat), A = some ⟨b, off, none⟩ ∧ b < B ∧ l[i]? = some x ∧ w.cell? ⟨b, off + i * 3, none⟩ = some (.int .i64 x.client) ∧ w.cell? ⟨b, off + i * 3 + 1, none⟩ = some (.int .i64 x.seq) ∧ w.cell? ⟨b, off + i * 3 + 2, none⟩ = some (.slice A2 x.o.length c2) ∧ RdC w B (encPs x.o) (.slice A2 x.o.length c2) := by
  obtain ⟨ad, r, hA, hb, hs, hr, hl⟩ := RdC.at_ (ds := l.map encEn) h (by simpa using hi)
  rw [List.getElem?_map, List.getElem?_eq_getElem hi] at hr
  obtain rfl : encEn l[i] = r := by simpa using hr
  obtain ⟨b, off, spot⟩ := ad
  obtain rfl : spot = none := by
    rcases hs with hs | hs
    · cases hs
    · exact hs
  obtain ⟨⟨v0, x0, rfl⟩, ⟨v1, x1, rfl⟩, ⟨v2, x2, r2⟩, _⟩ := hl
  obtain ⟨A2, c2, rfl⟩ := sliceP r2
  rw [add_at] at x0 x1 x2
  exact ⟨b, off, l[i], A2, c2, hA, hb, List.getElem?_eq_getElem hi, by simpa [Nat.add_assoc] using x0, by simpa [Nat.add_assoc] using x1, by simpa [Nat.add_assoc] using x2, r2⟩
theorem cntEn_l (x : En) : cntL (encEn x) = 1 + 1 + cntC (encPs x.o) := by
  show cntL [.int x.client, .int x.seq, encPs x.o] = _
  simp only [cntL, cntC]
  try omega
theorem cntEn_row (x : En) : cntL (encEn x) ≤ 2 * (1 + totEn x) := by
  rw [cntEn_l]
  unfold totEn
  have h2 := cntP_le x.o
  omega
theorem cntEns_le : ∀ l : List En, cntC (encEns l) ≤ 2 * totEns l
  | [] => by simp [encEns, cntC, cntR]
  | x :: l => by
    have ih := cntEns_le l
    have h1 := cntEn_row x
    have e1 : cntC (encEns (x :: l)) = cntL (encEn x) + cntC (encEns l) := rfl
    rw [e1]
    unfold totEns at ih ⊢
    rw [sumN_cons, List.length_cons]
    omega
theorem mkEn_l (k : Int) (x : En) : mkL k (encEn x) = [.int (k), .int (k + 1), mkC (k + 1 + 1) (encPs x.o)] := by
  show mkL k [.int x.client, .int x.seq, encPs x.o] = _
  simp [mkL, mkC, cntC]
set_option maxRecDepth 100000 in
set_option maxHeartbeats 1600000 in
theorem szEn (v : Value) (x : En) (left : Int) (w : World) (h : RdC w w.heap.size (datEn x) v) (h0 : 0 ≤ left) (h1 : left ≤ 1048576) (hl : LimEn x) : Calls Tryz.prog 86 #[v, .int .i64 left] w (Sized (totEn x) left w) := by
  obtain ⟨A2, c2, rfl, r2⟩ := aggEn h
  have b0 := alloc_below w (.cells #[.int .i64 x.client, .int .i64 x.seq, .slice A2 x.o.length c2] 142)
  have hlt : w.heap.size < (w.alloc (.cells #[.int .i64 x.client, .int .i64 x.seq, .slice A2 x.o.length c2] 142)).heap.size := by rw [World.size_alloc]; omega
  have D0 : Below (w.alloc (.cells #[.int .i64 x.client, .int .i64 x.seq, .slice A2 x.o.length c2] 142)).heap.size (w.alloc (.cells #[.int .i64 x.client, .int .i64 x.seq, .slice A2 x.o.length c2] 142)) (w.alloc (.cells #[.int .i64 x.client, .int .i64 x.seq, .slice A2 x.o.length c2] 142)) := Below.refl _ _
  unfold LimEn at hl
  have HT := Lib.hid (show totEn x = totP x.o from rfl)
  go_enter Tryz.func86, Tryz.ntmps86
  go_wp2_with fail
  refine (szP_r _ x.o left _ ((r2.past b0).past D0) (by omega) (by omega) hl).mono ?_
  rintro e w1 ⟨e1, rfl, hr1, k1⟩
  have D1 := D0.trans (k1.mono D0.size)
  rcases hr1 with rfl | ⟨p1, q1⟩
  · go_wp2
    go_ret
    exact ⟨_, rfl, .inl rfl, b0.trans (D1.mono b0.size)⟩
  have t1 : e1 ≤ 1048576 := by omega
  have Q1 := Lib.hid q1
  clear q1 k1
  go_wp2
  go_ret
  refine ⟨_, rfl, .inr ⟨by omega, ?_⟩, b0.trans (D1.mono b0.size)⟩
  rw [HT.out]
  have := Q1.out
  omega

set_option maxRecDepth 100000 in
set_option maxHeartbeats 1600000 in
theorem toEn (v : Value) (x : En) (w : World) (h : RdC w w.heap.size (datEn x) v) (hs : SmEn x) : Calls Tryz.prog 91 #[v] w (OwnPost (datEn x) w) := by
  obtain ⟨A2, c2, rfl, r2⟩ := aggEn h
  go_enter Tryz.func91, Tryz.ntmps91
  have s0 := ToS.start w #[.int .i64 x.client, .int .i64 x.seq, .slice A2 x.o.length c2] 142 #[.int .i64 0, .int .i64 0, .slice none 0 0] 106 #[.int .i64 x.client, .int .i64 x.seq, .slice none 0 0]
  go_wp2_with fail
  generalize hW0 : (((w.alloc (.cells #[.int .i64 x.client, .int .i64 x.seq, .slice A2 x.o.length c2] 142)).alloc (.cells #[.int .i64 0, .int .i64 0, .slice none 0 0] 106)).alloc (.cells #[.int .i64 x.client, .int .i64 x.seq, .slice none 0 0] 106)) = W0 at s0 ⊢
  clear hW0
  have l0 := s0.lt
  refine (toP _ x.o W0 (r2.past s0.bel) hs.o).mono ?_
  rintro e w1 ⟨v1, rfl, o1, k1⟩
  obtain ⟨B2, d2, rfl⟩ := sliceP o1.read
  have zk1 := k1.size
  have u1 := s0.past k1
  have y2 : w1.cell? ⟨w.heap.size + 1 + 1, 2, none⟩ = some (.slice none 0 0) := bxcell u1.b2 rfl
  have f2 : w1.frozen? ⟨w.heap.size + 1 + 1, 2, none⟩ = false := bxfree u1.b2
  have t0 : w1.cell? ⟨w.heap.size + 1 + 1, 0, none⟩ = some (.int .i64 x.client) := bxcell u1.b2 rfl
  have q0 : w1.cell? ⟨w.heap.size + 1, 0, none⟩ = some (.int .i64 0) := bxcell u1.b1 rfl
  have g0 : w1.frozen? ⟨w.heap.size + 1, 0, none⟩ = false := bxfree u1.b1
  have t1 : w1.cell? ⟨w.heap.size + 1 + 1, 1, none⟩ = some (.int .i64 x.seq) := bxcell u1.b2 rfl
  have q1 : w1.cell? ⟨w.heap.size + 1, 1, none⟩ = some (.int .i64 0) := bxcell u1.b1 rfl
  have g1 : w1.frozen? ⟨w.heap.size + 1, 1, none⟩ = false := bxfree u1.b1
  have q2 : w1.cell? ⟨w.heap.size + 1, 2, none⟩ = some (.slice none 0 0) := bxcell u1.b1 rfl
  have g2 : w1.frozen? ⟨w.heap.size + 1, 2, none⟩ = false := bxfree u1.b1
  have s1 : ToS w #[.int .i64 x.client, .int .i64 x.seq, .slice A2 x.o.length c2] 142 #[.int .i64 0, .int .i64 0, .slice none 0 0] 106 #[.int .i64 x.client, .int .i64 x.seq, .slice B2 x.o.length d2] (w1.setCell ⟨w.heap.size + 1 + 1, 2, none⟩ (.slice B2 x.o.length d2)) := u1.set 2 _
  clear u1
  have o1 := (o1.setUnder (g := w.heap.size + 1 + 1) (o := 2) (.inl (by omega)) (.slice B2 x.o.length d2)).putRow (g := w.heap.size + 1) (.inl (by omega)) [.int .i64 x.client, .int .i64 x.seq, .slice B2 x.o.length d2] _ 0
  have hB : Below w.heap.size w (putRow (w1.setCell ⟨w.heap.size + 1 + 1, 2, none⟩ (.slice B2 x.o.length d2)) (w.heap.size + 1) 0 [.int .i64 x.client, .int .i64 x.seq, .slice B2 x.o.length d2]) := putRow_below (by omega) _ _ _ s1.bel
  have hZ : (putRow (w1.setCell ⟨w.heap.size + 1 + 1, 2, none⟩ (.slice B2 x.o.length d2)) (w.heap.size + 1) 0 [.int .i64 x.client, .int .i64 x.seq, .slice B2 x.o.length d2]).heap.size = w1.heap.size := (putRow_size _ _ _ _).trans (by simp [World.setCell])
  have hF : ∀ m, m ≤ w1.heap.size → m ≤ (putRow (w1.setCell ⟨w.heap.size + 1 + 1, 2, none⟩ (.slice B2 x.o.length d2)) (w.heap.size + 1) 0 [.int .i64 x.client, .int .i64 x.seq, .slice B2 x.o.length d2]).heap.size := fun m hm => by rw [hZ]; exact hm
  go_wp2
  refine bodyPost_ret (v := .agg #[.int .i64 x.client, .int .i64 x.seq, .slice B2 x.o.length d2]) (by simp [results, Tryz.results91, go_sem, q0, q1, q2]) rfl ⟨_, rfl, ?_, hB⟩
  exact OwnL.agg (OwnL.flat rfl (OwnL.flat rfl (OwnL.own (lo := w.heap.size) (mid := w1.heap.size) (o1.wide (by omega) (Nat.le_refl _) (hF _ (by omega))) (OwnL.nil (Nat.le_refl _) (hF _ (by omega))))))

set_option maxRecDepth 100000 in
set_option maxHeartbeats 1600000 in
theorem eqEn (v v' : Value) (x : En) (w : World) (h : RdC w w.heap.size (datEn x) v) (h' : RdC w w.heap.size (datEn x) v') (hs : SmEn x) : Calls Tryz.prog 103 #[v, v'] w (Tells true w) := by
  obtain ⟨A2, c2, rfl, r2⟩ := aggEn h
  obtain ⟨B2, d2, rfl, s2⟩ := aggEn h'
  obtain ⟨g1, g2, b0⟩ := two_boxes w #[.int .i64 x.client, .int .i64 x.seq, .slice A2 x.o.length c2] #[.int .i64 x.client, .int .i64 x.seq, .slice B2 x.o.length d2] 106
  have D0 : Below ((w.alloc (.cells #[.int .i64 x.client, .int .i64 x.seq, .slice A2 x.o.length c2] 106)).alloc (.cells #[.int .i64 x.client, .int .i64 x.seq, .slice B2 x.o.length d2] 106)).heap.size ((w.alloc (.cells #[.int .i64 x.client, .int .i64 x.seq, .slice A2 x.o.length c2] 106)).alloc (.cells #[.int .i64 x.client, .int .i64 x.seq, .slice B2 x.o.length d2] 106)) ((w.alloc (.cells #[.int .i64 x.client, .int .i64 x.seq, .slice A2 x.o.length c2] 106)).alloc (.cells #[.int .i64 x.client, .int .i64 x.seq, .slice B2 x.o.length d2] 106)) := Below.refl _ _
  have lt2 := lt_of_some g2
  have lt1 := lt_of_some g1
  have n0 : (x.client != x.client) = false := by simp
  have n1 : (x.seq != x.seq) = false := by simp
  go_enter Tryz.func103, Tryz.ntmps103
  go_wp2_with fail
  refine (eqP _ _ x.o _ ((r2.past b0).past D0) ((s2.past b0).past D0) hs.o).mono ?_
  rintro e w1 ⟨rfl, k1⟩
  have D1 := D0.trans (k1.mono D0.size)
  clear k1
  go_wp2
  go_ret
  exact ⟨rfl, b0.trans (D1.mono b0.size)⟩

set_option maxRecDepth 100000 in
set_option maxHeartbeats 1600000 in
theorem szEns (v : Value) (l : List En) (left : Int) (w : World) (h : RdC w w.heap.size (encEns l) v) (h0 : 0 ≤ left) (h1 : left ≤ 1048576) (hl : LimEns l) : Calls Tryz.prog 55 #[v, .int .i64 left] w (Sized (totEns l) left w) := by
  obtain ⟨A, c, rfl⟩ := sliceEns h
  have hl1 : l.length ≤ 9223372036854775807 := by have := hl.1; unfold maxLen at this; omega
  have HT := Lib.hid (show totEns l = l.length + sumN totEn l from rfl)
  by_cases hle : (l.length : Int) ≤ left
  · go_enter Tryz.func55, Tryz.ntmps55
    go_wp2
    go_loopw [1, 5] (fun x i wr => ∃ j : Nat, j ≤ l.length ∧ i = .int .i64 j ∧ x = .int .i64 (left - (l.length : Int) - (sumN totEn (l.take j) : Int)) ∧ 0 ≤ left - (l.length : Int) - (sumN totEn (l.take j) : Int) ∧ Below w.heap.size w wr) (fun _ i _ => l.length - (intOf i).toNat)
    case atStart => exact ⟨0, Nat.zero_le _, rfl, by simp [sumN], by simp [sumN]; omega, Below.refl _ _⟩
    case round =>
      obtain ⟨j, hj, rfl, rfl, hs, hbel⟩ := hrel
      by_cases hlt : j < l.length
      · obtain ⟨b, off, x, A2, c2, rfl, hb, hp, y0, y1, y2, r2⟩ := atEns (h.below hbel) hlt
        have HS := Lib.hid (sumN_snoc (f := totEn) hp)
        have hlp := hl.2 x (List.mem_of_getElem? hp)
        have hb1 : left - (l.length : Int) - (sumN totEn (l.take j) : Int) ≤ 1048576 := by omega
        clear hp
        generalize hq : left - (l.length : Int) - (sumN totEn (l.take j) : Int) = q at *
        have HQ := Lib.hid hq
        clear hq
        go_wp2_with fail
        refine (szEn _ x q _ (rdEn x (RdC.more hbel.size _ _ r2)) hs hb1 hlp).mono ?_
        rintro e w1 ⟨r, rfl, hr', b1⟩
        rcases hr' with rfl | ⟨hr0, hr1⟩
        · go_wp2
          go_ret
          exact ⟨_, rfl, .inl rfl, hbel.trans (b1.mono hbel.size)⟩
        · have HR := Lib.hid hr1
          clear hr1
          go_wp2
          go_roundw
          case rel =>
            have e1 : r = left - (l.length : Int) - (sumN totEn (l.take (j + 1)) : Int) := by rw [HR.out, HS.out, ← HQ.out]; omega
            exact ⟨j + 1, by omega, by go_num, by rw [e1], by rw [← e1]; exact hr0, hbel.trans (b1.mono hbel.size)⟩
          case measure => simp [intOf]; omega
      · have hke : l.take j = l := List.take_of_length_le (by omega)
        rw [hke] at hs ⊢
        go_wp2
        go_ret
        exact ⟨_, rfl, .inr ⟨hs, by rw [HT.out]; omega⟩, hbel⟩
  · have h' : left - (l.length : Int) < 0 := by omega
    go_enter Tryz.func55, Tryz.ntmps55
    go_wp2
    go_ret
    exact ⟨_, rfl, .inl rfl, Below.refl _ _⟩
theorem infoEn : (Tryz.prog.info? 106).map (fun i => (i.zero, i.size, i.bytes)) = some (some (.agg #[.int .i64 0, .int .i64 0, .slice none 0 0]), 3, 40) := by kernel_rfl

set_option maxRecDepth 100000 in
set_option maxHeartbeats 1600000 in
theorem toEns (v : Value) (l : List En) (w : World) (h : RdC w w.heap.size (encEns l) v) (hs : SmEns l) : Calls Tryz.prog 65 #[v] w (OwnPost (encEns l) w) := by
  obtain ⟨A, c, rfl⟩ := sliceEns h
  have hll := hs.len
  obtain ⟨i0, hi0, hz0, hz1, hz2⟩ := info_parts infoEn
  go_enter Tryz.func65, Tryz.ntmps65
  go_wp2_with (at_make; refine wpList_make_full _ rfl _ _ 72 rfl w.heap.size 106 i0 (.agg #[.int .i64 0, .int .i64 0, .slice none 0 0]) 3 Tryz.underlying72 hi0 hz0 hz1 _ _ _ _ l.length rfl rfl (by omega) (by omega) (by rw [hz2]; omega) (by unfold maxLen; omega) (Nat.le_refl _) ?_; intro w1 hown hg)
  have hbel : Below w.heap.size w w1 := (Below.refl _ _).grown hg (Nat.le_refl _) (fun _ h => by cases h)
  have HF0 := Lib.hid (Fil.start hown)
  clear hown hg
  go_loopw [4] (fun i wr => ∃ j : Nat, j ≤ l.length ∧ i = .int .i64 j ∧ Fil w.heap.size 106 3 l.length ((l.take j).map encEn) wr ∧ Below w.heap.size w wr) (fun i _ => l.length - (intOf i).toNat)
  case atStart => exact ⟨0, Nat.zero_le _, rfl, by simpa using HF0.out, hbel⟩
  case round =>
    obtain ⟨j, hj, rfl, hf, hb⟩ := hrel
    clear HF0 hbel
    have HF := Lib.hid hf
    clear hf
    by_cases hlt : j < l.length
    · obtain ⟨b, off, x, A2, c2, rfl, hbb, hp, y0, y1, y2, r2⟩ := atEns (h.below hb) hlt
      have hsx := hs.at_ (List.mem_of_getElem? hp)
      have HP := Lib.hid hp
      clear hp
      go_wp2_with fail
      refine (toEn _ x wr (rdEn x (RdC.more hb.size _ _ r2)) hsx).mono ?_
      rintro e w2 ⟨v2, rfl, o2, b2⟩
      obtain ⟨B2, d2, rfl, _⟩ := aggEn o2.read
      have OL := Lib.hid (o2.aggV (vs := [.int .i64 x.client, .int .i64 x.seq, .slice B2 x.o.length d2]))
      have F2 := HF.out.past b2
      obtain ⟨u0, hu0⟩ := F2.cell (o := j * 3) (by omega)
      have f0 := F2.free (j * 3)
      obtain ⟨u1, hu1⟩ := F2.cell (o := j * 3 + 1) (by omega)
      have f1 := F2.free (j * 3 + 1)
      obtain ⟨u2, hu2⟩ := F2.cell (o := j * 3 + 2) (by omega)
      have f2 := F2.free (j * 3 + 2)
      clear F2 o2
      go_wp2
      go_roundw
      case rel =>
        have key := HF.out.push (r := encEn x) (ys := [.int .i64 x.client, .int .i64 x.seq, .slice B2 x.o.length d2]) (by simp; omega) rfl b2 OL.out
        have e1 : ((l.take j).map encEn).length = j := by simp; omega
        have e2 : (l.take (j + 1)).map encEn = (l.take j).map encEn ++ [encEn x] := by rw [List.take_add_one, HP.out]; simp
        rw [e1] at key
        refine ⟨j + 1, by omega, by go_num, by rw [e2]; exact key, ?_⟩
        exact putRow_below (Nat.le_refl _) [.int .i64 x.client, .int .i64 x.seq, .slice B2 x.o.length d2] w2 (j * 3) (hb.trans (b2.mono hb.size))
      case measure => simp [intOf]; omega
    · obtain rfl : j = l.length := by omega
      go_wp2
      go_ret
      have k1 := HF.out
      rw [List.take_length] at k1
      exact ⟨_, rfl, by have := k1.done (by simp); exact this, hb⟩

set_option maxRecDepth 100000 in
set_option maxHeartbeats 1600000 in
theorem eqEns (v v' : Value) (l : List En) (w : World) (h : RdC w w.heap.size (encEns l) v) (h' : RdC w w.heap.size (encEns l) v') (hs : SmEns l) : Calls Tryz.prog 81 #[v, v'] w (Tells true w) := by
  obtain ⟨A, c, rfl⟩ := sliceEns h
  obtain ⟨A', c', rfl⟩ := sliceEns h'
  have hll := hs.len
  go_enter Tryz.func81, Tryz.ntmps81
  have hb : ((l.length : Int) != (l.length : Int)) = false := by simp
  go_wp2
  go_loopw [5] (fun i wr => ∃ k : Nat, k ≤ l.length ∧ i = .int .i64 k ∧ Below w.heap.size w wr) (fun i _ => l.length - (intOf i).toNat)
  case atStart => exact ⟨0, Nat.zero_le _, rfl, Below.refl _ _⟩
  case round =>
    obtain ⟨k, hk, rfl, hbel⟩ := hrel
    by_cases hlt : k < l.length
    · obtain ⟨b, off, x, A2, c2, rfl, hb1, hp, y0, y1, y2, r2⟩ := atEns (h.below hbel) hlt
      obtain ⟨b', off', x', B2, d2, rfl, hb2, hq, z0, z1, z2, s2⟩ := atEns (h'.below hbel) hlt
      obtain rfl : x = x' := by rw [hp] at hq; injection hq
      have hsx := hs.at_ (List.mem_of_getElem? hp)
      clear hp hq
      have q1 := Lib.hid (show RdC wr.drew wr.drew.heap.size (datEn x) (.agg #[.int .i64 x.client, .int .i64 x.seq, .slice A2 x.o.length c2]) from (rdEn x (RdC.more hbel.size _ _ r2)).drewS)
      have q2 := Lib.hid (show RdC wr.drew wr.drew.heap.size (datEn x) (.agg #[.int .i64 x.client, .int .i64 x.seq, .slice B2 x.o.length d2]) from (rdEn x (RdC.more hbel.size _ _ s2)).drewS)
      clear r2 s2
      go_wp2
      go_region_with (go_at_call 103; refine (eqEn _ _ x _ (by exact q1.out) (by exact q2.out) hsx).mono ?_; rintro e w2 ⟨rfl, b2⟩)
      all_goals
        go_wp2
        go_roundw
        case rel => exact ⟨k + 1, by omega, by go_num, hbel.drew.trans (b2.mono hbel.size)⟩
        case measure => simp [intOf]; omega
    · go_wp2
      go_ret
      exact ⟨rfl, hbel⟩

set_option maxRecDepth 100000 in
set_option maxHeartbeats 1600000 in
theorem mkEns_r (v : Value) (l : List En) (bs : List Nat) (k : Int) (w : World) (h : OwC w (encEns l) v bs) (hnd : bs.Nodup) (h0 : 0 ≤ k) (h1 : k + (cntC (encEns l) : Int) ≤ 4503599627370496) (hs : SmEns l) :
    Calls Tryz.prog 49 #[v, .int .i64 k] w (MarkP k (encEns l) v bs w) := by
  have hlen : (l.map encEn).length = l.length := by simp
  have hll := hs.len
  rcases h.cases with ⟨rfl, hds, rfl⟩ | ⟨g, cap, rfl⟩
  · have hz : l = [] := by simpa using hds
    subst hz
    go_enter Tryz.func49, Tryz.ntmps49
    go_wp2
    refine wp_loop_rounds 1 ?_
    rw [rounds_succ]
    go_wp2
    go_ret
    exact ⟨by rw [show cntC (encEns []) = 0 from rfl]; simp, h, Touch.refl _ _⟩
  · have HC := Lib.hid (show ∀ j x, l[j]? = some x → k + (cntR ((l.map encEn).take j) : Int) + (cntL (encEn x) : Int) ≤ 4503599627370496 ∧ cntR ((l.map encEn).take (j + 1)) = cntR ((l.map encEn).take j) + cntL (encEn x) from fun j x hp => by
      have hj : (l.map encEn)[j]? = some (encEn x) := by rw [List.getElem?_map, hp]; rfl
      have a1 := cntR_at hj
      have a2 : cntC (encEns l) = cntR (l.map encEn) := rfl
      rw [a2] at h1
      exact ⟨by omega, cntR_snoc hj⟩)
    have HE : Hid (cntC (encEns l) = cntR (l.map encEn)) := rfl
    have HM : Hid (mkC k (encEns l) = .rows 106 3 (mkR k (l.map encEn))) := rfl
    have HAT := Lib.hid (show ∀ j, j < l.length → ∃ x, l[j]? = some x ∧ (l.map encEn)[j]? = some (encEn x) from fun j hj => map_at hj)
    change OwC w (.rows 106 3 (l.map encEn)) (.slice _ (l.map encEn).length _) bs at h
    change Calls _ _ #[.slice _ (l.map encEn).length _, _] _ (MarkP _ _ (.slice _ (l.map encEn).length _) _ _)
    have HL := Lib.hid hlen
    rw [hlen] at h ⊢
    clear hlen h1
    generalize l.map encEn = D at *
    have hgin := h.head
    go_enter Tryz.func49, Tryz.ntmps49
    go_wp2
    go_loopw [1, 5] (fun kk i wr => ∃ j : Nat, j ≤ l.length ∧ i = .int .i64 j ∧ kk = .int .i64 (k + (cntR (D.take j) : Int)) ∧ OwC wr (.rows 106 3 (mkR k (D.take j) ++ D.drop j)) (.slice (some ⟨g, 0, none⟩) l.length cap) bs ∧ Touch (fun b => b ∈ bs) w wr) (fun _ i _ => l.length - (intOf i).toNat)
    case atStart => exact ⟨0, Nat.zero_le _, rfl, by simp [cntR], by rw [mk_none]; exact h, Touch.refl _ _⟩
    case round =>
      obtain ⟨j, hj, rfl, rfl, ho, ht⟩ := hrel
      clear h
      by_cases hlt : j < l.length
      · obtain ⟨x, hp, hD⟩ := HAT.out j hlt
        obtain ⟨kb, kc⟩ := HC.out j x hp
        rw [cntEn_l] at kb kc
        have hsx := hs.at_ (List.mem_of_getElem? hp)
        have hk0 : 0 ≤ k + (cntR (D.take j) : Int) := by omega
        have K := Lib.hid kc
        have hst := Lib.hid (mk_set k hD)
        rw [mkEn_l] at hst
        have hself := set_same (mk_at k hD)
        rw [← hself] at ho
        have hjl : j < (mkR k (D.take j) ++ D.drop j).length := by rw [mk_len, HL.out]; exact hlt
        generalize hkk : k + (cntR (D.take j) : Int) = kk at *
        have HKK := Lib.hid hkk
        clear hkk
        have HT := Lib.hid ht
        have HJ := Lib.hid hjl
        have o0 := ho
        clear ho ht hjl hD hp hself kc
        have x0 := o0.get HJ.out 0 (d := .int x.client) rfl rfl
        have f0 := o0.frozen (j * 3)
        rw [Nat.add_zero] at x0
        have x1 := o0.get HJ.out 1 (d := .int x.seq) rfl rfl
        have f1 := o0.frozen (j * 3 + 1)
        obtain ⟨u2, c2, x2, r2, _⟩ := o0.sub hnd HJ.out 2 (d := encPs x.o) rfl
        obtain ⟨A2, e2, rfl⟩ := sliceP (r2.read _ _ _ (fun b hb => r2.lt _ _ _ b hb))
        clear r2
        have O0 := Lib.hid o0
        clear o0
        go_wp2_with fail
        have p0_0 := O0.out.put hnd HJ.out 0 (d := .int x.client) rfl rfl (d' := .int (kk)) rfl
        rw [Nat.add_zero] at p0_0
        have p0_1 := p0_0.put hnd HJ.out 1 (d := .int x.seq) rfl rfl (d' := .int (kk + 1)) rfl
        obtain ⟨u', c', y', q', nd', sub', _, back'⟩ := p0_1.sub hnd HJ.out 2 (d := encPs x.o) rfl
        have yy := (cell_set (x := .int .i64 (kk + 1)) (a := j * 3 + 1) (cell_set (x := .int .i64 (kk)) (a := j * 3) x2 (by omega)) (by omega))
        rw [yy] at y'
        injection y' with y'
        subst y'
        clear yy
        refine (mkP_r _ x.o c' (kk + 1 + 1) _ q' nd' (by omega) (by omega) hsx.o).mono ?_
        rintro e w1 ⟨rfl, q'', t''⟩
        have o1 := back' w1 _ q'' t''
        have T1 := Lib.hid ((touch_set (touch_set HT.out hgin (o := j * 3) (.int .i64 (kk))) hgin (o := j * 3 + 1) (.int .i64 (kk + 1))).trans (t''.mono sub'))
        clear p0_0 p0_1 x0 f0 x1 f1 x2 back' q' q'' t'' nd'
        have O1 := Lib.hid o1
        clear o1
        go_wp2
        go_roundw
        case rel =>
          refine ⟨j + 1, by omega, by go_num, ?_, ?_, T1.out⟩
          · congr 1
            have := HKK.out
            rw [K.out]
            omega
          · rw [← hst.out]
            exact O1.out
        case measure => simp [intOf]; omega
      · obtain rfl : j = l.length := by omega
        go_wp2
        go_ret
        refine ⟨?_, ?_, ht⟩
        · rw [HE.out, List.take_of_length_le (by rw [HL.out]; omega)]
          try rfl
        · rw [HM.out]
          rw [← HL.out, mk_all] at ho
          rw [← HL.out]
          exact ho

set_option maxRecDepth 100000 in
set_option maxHeartbeats 1600000 in
theorem hdEns_r (v : Value) (l : List En) (k : Int) (w : World) (h : RdC w w.heap.size (mkC k (encEns l)) v) (h0 : 0 ≤ k) (h1 : k + (cntC (encEns l) : Int) ≤ 4503599627370496) (hs : SmEns l) :
    Calls Tryz.prog 52 #[v, .int .i64 k] w (HeldP k (encEns l) w) := by
  have hll := hs.len
  have HC := Lib.hid (show ∀ j x, l[j]? = some x → k + (cntR ((l.map encEn).take j) : Int) + (cntL (encEn x) : Int) ≤ 4503599627370496 ∧ cntR ((l.map encEn).take (j + 1)) = cntR ((l.map encEn).take j) + cntL (encEn x) from fun j x hp => by
    have hj : (l.map encEn)[j]? = some (encEn x) := by rw [List.getElem?_map, hp]; rfl
    have a1 := cntR_at hj
    have a2 : cntC (encEns l) = cntR (l.map encEn) := rfl
    rw [a2] at h1
    exact ⟨by omega, cntR_snoc hj⟩)
  have HE : Hid (cntC (encEns l) = cntR (l.map encEn)) := rfl
  have HAT := Lib.hid (show ∀ j, j < l.length → ∃ x, l[j]? = some x ∧ (l.map encEn)[j]? = some (encEn x) from fun j hj => map_at hj)
  have hlen : (l.map encEn).length = l.length := by simp
  have h : RdC w w.heap.size (.rows 106 3 (mkR k (l.map encEn))) v := h
  generalize l.map encEn = D at *
  obtain ⟨A, c, rfl, _⟩ := h.len
  have HL := Lib.hid hlen
  rw [mkR_len, hlen] at h ⊢
  clear hlen h1
  go_enter Tryz.func52, Tryz.ntmps52
  go_wp2
  go_loop [1, 5] (fun kk i => ∃ j : Nat, j ≤ l.length ∧ i = .int .i64 j ∧ kk = .int .i64 (k + (cntR (D.take j) : Int))) (fun _ i => l.length - (intOf i).toNat)
  case atStart => exact ⟨0, Nat.zero_le _, rfl, by simp [cntR]⟩
  case round =>
    obtain ⟨j, hj, rfl, rfl⟩ := hrel
    by_cases hlt : j < l.length
    · obtain ⟨x, hp, hD⟩ := HAT.out j hlt
      obtain ⟨kb, kc⟩ := HC.out j x hp
      rw [cntEn_l] at kb kc
      have hsx := hs.at_ (List.mem_of_getElem? hp)
      have hk0 : 0 ≤ k + (cntR (D.take j) : Int) := by omega
      have K := Lib.hid kc
      obtain ⟨ad, r, rfl, hb, hsp, hr, hrl⟩ := h.at_ (i := j) (by rw [mkR_len, HL.out]; exact hlt)
      rw [mkR_at D k j _ hD, mkEn_l] at hr
      obtain rfl : _ = r := by injection hr
      clear hr hD hp kc
      generalize hkk : k + (cntR (D.take j) : Int) = kk at *
      have HKK := Lib.hid hkk
      clear hkk
      obtain ⟨b, off, spot⟩ := ad
      obtain rfl : spot = none := by
        rcases hsp with hsp | hsp
        · cases hsp
        · exact hsp
      obtain ⟨⟨v0, x0, rfl⟩, ⟨v1, x1, rfl⟩, ⟨v2, x2, r2⟩, _⟩ := hrl
      obtain ⟨A2, e2, rfl⟩ := mklP r2
      rw [add_at] at x0 x1 x2
      rw [← Nat.add_assoc] at x1
      rw [← Nat.add_assoc, ← Nat.add_assoc] at x2
      have HH := hk0
      have R2 := Lib.hid r2
      clear r2
      clear hsp HH
      go_wp2_with fail
      refine (hdP_r _ x.o (kk + 1 + 1) _ R2.out (by omega) (by omega) hsx.o).mono ?_
      rintro e w' ⟨rfl, rfl⟩
      have nn2 : 0 ≤ kk + 1 + 1 + (cntC (encPs x.o) : Int) := by omega
      go_wp2
      go_round
      case rel =>
        refine ⟨j + 1, by omega, by go_num, ?_⟩
        congr 1
        have := HKK.out
        rw [K.out]
        omega
      case measure => simp [intOf]; omega
    · obtain rfl : j = l.length := by omega
      go_wp2
      go_ret
      refine ⟨?_, rfl⟩
      rw [HE.out, List.take_of_length_le (by rw [HL.out]; omega)]
      try rfl
theorem mklEns {w : World} {B : Nat} {k : Int} {l : List En} {v : Value} (h : RdC w B (mkC k (encEns l)) v) : ∃ A c, v = .slice A l.length c := by
  have h' : RdC w B (.rows 106 3 (mkR k (l.map encEn))) v := h
  obtain ⟨A, c, hv, _⟩ := h'.len
  exact ⟨A, c, by simpa [mkR_len] using hv⟩
end Go.Proofs.YtamainhocghlgaaGreatDoor.low


/-
  The struct type Seen of the laws: its words, and the laws' own functions on it and on slices of it. Written by mkty.py.
-/
namespace Go.Proofs.YtamainhocghlgaaGreatDoor.low
open Go.RowKit
set_option linter.unusedVariables false

structure Se where
  client : Int
  seq : Int
  rev : Int
def encSe (x : Se) : List Dat := [.int x.client, .int x.seq, .int x.rev]
def datSe (x : Se) : Dat := .agg (encSe x)
def encSes (l : List Se) : Dat := .rows 111 3 (l.map encSe)
def totSe (x : Se) : Nat := 0
def LimSe (x : Se) : Prop := True
def SmSe (x : Se) : Prop := totSe x ≤ 1048576
def totSes (l : List Se) : Nat := l.length + sumN totSe l
def LimSes (l : List Se) : Prop := l.length ≤ maxLen ∧ ∀ x ∈ l, LimSe x
def SmSes (l : List Se) : Prop := totSes l ≤ 1048576
theorem smSes_of {l : List Se} (h : totSes l ≤ 1048576) : SmSes l := h
theorem SmSes.len {l : List Se} (h : SmSes l) : l.length ≤ 1048576 := by unfold SmSes totSes at h; omega
theorem SmSes.at_ {l : List Se} (h : SmSes l) {x : Se} (hx : x ∈ l) : SmSe x := by
  unfold SmSes totSes at h
  have := sumN_at (f := totSe) hx
  unfold SmSe
  omega
theorem aggSe {w : World} {B : Nat} {x : Se} {v : Value} (h : RdC w B (datSe x) v) : v = .agg #[.int .i64 x.client, .int .i64 x.seq, .int .i64 x.rev] := by
  obtain ⟨vs, rfl, v0, _, rfl, rfl, v1, _, rfl, rfl, v2, _, rfl, rfl, rfl⟩ := h
  rfl
theorem rdSe {w : World} {B : Nat} (x : Se)   : RdC w B (datSe x) (.agg #[.int .i64 x.client, .int .i64 x.seq, .int .i64 x.rev]) := ⟨_, rfl, _, _, rfl, rfl, _, _, rfl, rfl, _, _, rfl, rfl, rfl⟩
theorem sliceSes {w : World} {B : Nat} {l : List Se} {v : Value} (h : RdC w B (encSes l) v) : ∃ A c, v = .slice A l.length c := by
  obtain ⟨A, c, hv, _⟩ := RdC.len h
  exact ⟨A, c, by simpa using hv⟩
theorem atSes {w : World} {B : Nat} {A : Option Addr} {m c i : Nat} {l : List Se} (h : RdC w B (encSes l) (.slice A m c)) (hi : i < l.length) : ∃ (b off : Nat) (x : Se), A = some ⟨b, off, none⟩ ∧ b < B ∧ l[i]? = some x ∧ w.cell? ⟨b, off + i * 3, none⟩ = some (.int .i64 x.client) ∧ w.cell? ⟨b, off + i * 3 + 1, none⟩ = some (.int .i64 x.seq) ∧ w.cell? ⟨b, off + i * 3 + 2, none⟩ = some (.int .i64 x.rev) := by
  obtain ⟨ad, r, hA, hb, hs, hr, hl⟩ := RdC.at_ (ds := l.map encSe) h (by simpa using hi)
  rw [List.getElem?_map, List.getElem?_eq_getElem hi] at hr
  obtain rfl : encSe l[i] = r := by simpa using hr
  obtain ⟨b, off, spot⟩ := ad
  obtain rfl : spot = none := by
    rcases hs with hs | hs
    · cases hs
    · exact hs
  obtain ⟨⟨v0, x0, rfl⟩, ⟨v1, x1, rfl⟩, ⟨v2, x2, rfl⟩, _⟩ := hl
  rw [add_at] at x0 x1 x2
  exact ⟨b, off, l[i], hA, hb, List.getElem?_eq_getElem hi, by simpa [Nat.add_assoc] using x0, by simpa [Nat.add_assoc] using x1, by simpa [Nat.add_assoc] using x2⟩
theorem cntSe_l (x : Se) : cntL (encSe x) = 1 + 1 + 1 := by
  show cntL [.int x.client, .int x.seq, .int x.rev] = _
  simp only [cntL, cntC]
  try omega
theorem cntSe_row (x : Se) : cntL (encSe x) ≤ 3 * (1 + totSe x) := by
  rw [cntSe_l]
  unfold totSe
  omega
theorem cntSes_le : ∀ l : List Se, cntC (encSes l) ≤ 3 * totSes l
  | [] => by simp [encSes, cntC, cntR]
  | x :: l => by
    have ih := cntSes_le l
    have h1 := cntSe_row x
    have e1 : cntC (encSes (x :: l)) = cntL (encSe x) + cntC (encSes l) := rfl
    rw [e1]
    unfold totSes at ih ⊢
    rw [sumN_cons, List.length_cons]
    omega
theorem mkSe_l (k : Int) (x : Se) : mkL k (encSe x) = [.int (k), .int (k + 1), .int (k + 1 + 1)] := by
  show mkL k [.int x.client, .int x.seq, .int x.rev] = _
  simp [mkL, mkC, cntC]
set_option maxRecDepth 100000 in
set_option maxHeartbeats 1600000 in
theorem toSe (v : Value) (x : Se) (w : World) (h : RdC w w.heap.size (datSe x) v) (hs : SmSe x) : Calls Tryz.prog 92 #[v] w (OwnPost (datSe x) w) := by
  obtain rfl := aggSe h
  go_enter Tryz.func92, Tryz.ntmps92
  have s0 := ToS.start w #[.int .i64 x.client, .int .i64 x.seq, .int .i64 x.rev] 150 #[.int .i64 x.client, .int .i64 x.seq, .int .i64 x.rev] 111 #[.int .i64 x.client, .int .i64 x.seq, .int .i64 x.rev]
  go_wp2
  have p0 := bxcell (j := 0) s0.b1 rfl
  have p1 := bxcell (j := 1) s0.b1 rfl
  have p2 := bxcell (j := 2) s0.b1 rfl
  refine bodyPost_ret (v := .agg #[.int .i64 x.client, .int .i64 x.seq, .int .i64 x.rev]) (by simp [results, Tryz.results92, go_sem, p0, p1, p2]) rfl ⟨_, rfl, ?_, s0.bel⟩
  exact OwnL.agg (OwnL.flat rfl (OwnL.flat rfl (OwnL.flat rfl (OwnL.nil (Nat.le_refl _) s0.bel.size))))

set_option maxRecDepth 100000 in
set_option maxHeartbeats 1600000 in
theorem eqSe (v v' : Value) (x : Se) (w : World) (h : RdC w w.heap.size (datSe x) v) (h' : RdC w w.heap.size (datSe x) v') (hs : SmSe x) : Calls Tryz.prog 104 #[v, v'] w (Tells true w) := by
  obtain rfl := aggSe h
  obtain rfl := aggSe h'
  obtain ⟨g1, g2, b0⟩ := two_boxes w #[.int .i64 x.client, .int .i64 x.seq, .int .i64 x.rev] #[.int .i64 x.client, .int .i64 x.seq, .int .i64 x.rev] 111
  have D0 : Below ((w.alloc (.cells #[.int .i64 x.client, .int .i64 x.seq, .int .i64 x.rev] 111)).alloc (.cells #[.int .i64 x.client, .int .i64 x.seq, .int .i64 x.rev] 111)).heap.size ((w.alloc (.cells #[.int .i64 x.client, .int .i64 x.seq, .int .i64 x.rev] 111)).alloc (.cells #[.int .i64 x.client, .int .i64 x.seq, .int .i64 x.rev] 111)) ((w.alloc (.cells #[.int .i64 x.client, .int .i64 x.seq, .int .i64 x.rev] 111)).alloc (.cells #[.int .i64 x.client, .int .i64 x.seq, .int .i64 x.rev] 111)) := Below.refl _ _
  have lt2 := lt_of_some g2
  have lt1 := lt_of_some g1
  have n0 : (x.client != x.client) = false := by simp
  have n1 : (x.seq != x.seq) = false := by simp
  have n2 : (x.rev != x.rev) = false := by simp
  go_enter Tryz.func104, Tryz.ntmps104
  go_wp2
  go_ret
  exact ⟨rfl, b0.trans (D0.mono b0.size)⟩

set_option maxRecDepth 100000 in
set_option maxHeartbeats 1600000 in
theorem szSes (v : Value) (l : List Se) (left : Int) (w : World) (h : RdC w w.heap.size (encSes l) v) (h0 : 0 ≤ left) (h1 : left ≤ 1048576) (hl : LimSes l) : Calls Tryz.prog 56 #[v, .int .i64 left] w (Sized (totSes l) left w) := by
  obtain ⟨A, c, rfl⟩ := sliceSes h
  have hl1 : l.length ≤ 9223372036854775807 := by have := hl.1; unfold maxLen at this; omega
  have hz : sumN totSe l = 0 := by
    clear h hl hl1
    induction l with
    | nil => rfl
    | cons x l ih => rw [sumN_cons, ih]; rfl
  have HT := Lib.hid (show totSes l = l.length by unfold totSes; rw [hz]; rfl)
  clear hz
  by_cases hle : (l.length : Int) ≤ left
  · go_enter Tryz.func56, Tryz.ntmps56
    go_wp2
    go_ret
    exact ⟨_, rfl, .inr ⟨by omega, by rw [HT.out]⟩, Below.refl _ _⟩
  · have h' : left - (l.length : Int) < 0 := by omega
    go_enter Tryz.func56, Tryz.ntmps56
    go_wp2
    go_ret
    exact ⟨_, rfl, .inl rfl, Below.refl _ _⟩
theorem infoSe : (Tryz.prog.info? 111).map (fun i => (i.zero, i.size, i.bytes)) = some (some (.agg #[.int .i64 0, .int .i64 0, .int .i64 0]), 3, 24) := by kernel_rfl

set_option maxRecDepth 100000 in
set_option maxHeartbeats 1600000 in
theorem toSes (v : Value) (l : List Se) (w : World) (h : RdC w w.heap.size (encSes l) v) (hs : SmSes l) : Calls Tryz.prog 66 #[v] w (OwnPost (encSes l) w) := by
  obtain ⟨A, c, rfl⟩ := sliceSes h
  have hll := hs.len
  obtain ⟨i0, hi0, hz0, hz1, hz2⟩ := info_parts infoSe
  go_enter Tryz.func66, Tryz.ntmps66
  go_wp2_with (at_make; refine wpList_make_full _ rfl _ _ 73 rfl w.heap.size 111 i0 (.agg #[.int .i64 0, .int .i64 0, .int .i64 0]) 3 Tryz.underlying73 hi0 hz0 hz1 _ _ _ _ l.length rfl rfl (by omega) (by omega) (by rw [hz2]; omega) (by unfold maxLen; omega) (Nat.le_refl _) ?_; intro w1 hown hg)
  have hbel : Below w.heap.size w w1 := (Below.refl _ _).grown hg (Nat.le_refl _) (fun _ h => by cases h)
  have HF0 := Lib.hid (Fil.start hown)
  clear hown hg
  go_loopw [4] (fun i wr => ∃ j : Nat, j ≤ l.length ∧ i = .int .i64 j ∧ Fil w.heap.size 111 3 l.length ((l.take j).map encSe) wr ∧ Below w.heap.size w wr) (fun i _ => l.length - (intOf i).toNat)
  case atStart => exact ⟨0, Nat.zero_le _, rfl, by simpa using HF0.out, hbel⟩
  case round =>
    obtain ⟨j, hj, rfl, hf, hb⟩ := hrel
    clear HF0 hbel
    have HF := Lib.hid hf
    clear hf
    by_cases hlt : j < l.length
    · obtain ⟨b, off, x, rfl, hbb, hp, y0, y1, y2⟩ := atSes (h.below hb) hlt
      have hsx := hs.at_ (List.mem_of_getElem? hp)
      have HP := Lib.hid hp
      clear hp
      go_wp2_with fail
      refine (toSe _ x wr (rdSe x ) hsx).mono ?_
      rintro e w2 ⟨v2, rfl, o2, b2⟩
      obtain rfl := aggSe o2.read
      have OL := Lib.hid (o2.aggV (vs := [.int .i64 x.client, .int .i64 x.seq, .int .i64 x.rev]))
      have F2 := HF.out.past b2
      obtain ⟨u0, hu0⟩ := F2.cell (o := j * 3) (by omega)
      have f0 := F2.free (j * 3)
      obtain ⟨u1, hu1⟩ := F2.cell (o := j * 3 + 1) (by omega)
      have f1 := F2.free (j * 3 + 1)
      obtain ⟨u2, hu2⟩ := F2.cell (o := j * 3 + 2) (by omega)
      have f2 := F2.free (j * 3 + 2)
      clear F2 o2
      go_wp2
      go_roundw
      case rel =>
        have key := HF.out.push (r := encSe x) (ys := [.int .i64 x.client, .int .i64 x.seq, .int .i64 x.rev]) (by simp; omega) rfl b2 OL.out
        have e1 : ((l.take j).map encSe).length = j := by simp; omega
        have e2 : (l.take (j + 1)).map encSe = (l.take j).map encSe ++ [encSe x] := by rw [List.take_add_one, HP.out]; simp
        rw [e1] at key
        refine ⟨j + 1, by omega, by go_num, by rw [e2]; exact key, ?_⟩
        exact putRow_below (Nat.le_refl _) [.int .i64 x.client, .int .i64 x.seq, .int .i64 x.rev] w2 (j * 3) (hb.trans (b2.mono hb.size))
      case measure => simp [intOf]; omega
    · obtain rfl : j = l.length := by omega
      go_wp2
      go_ret
      have k1 := HF.out
      rw [List.take_length] at k1
      exact ⟨_, rfl, by have := k1.done (by simp); exact this, hb⟩

set_option maxRecDepth 100000 in
set_option maxHeartbeats 1600000 in
theorem eqSes (v v' : Value) (l : List Se) (w : World) (h : RdC w w.heap.size (encSes l) v) (h' : RdC w w.heap.size (encSes l) v') (hs : SmSes l) : Calls Tryz.prog 82 #[v, v'] w (Tells true w) := by
  obtain ⟨A, c, rfl⟩ := sliceSes h
  obtain ⟨A', c', rfl⟩ := sliceSes h'
  have hll := hs.len
  go_enter Tryz.func82, Tryz.ntmps82
  have hb : ((l.length : Int) != (l.length : Int)) = false := by simp
  go_wp2
  go_loopw [5] (fun i wr => ∃ k : Nat, k ≤ l.length ∧ i = .int .i64 k ∧ Below w.heap.size w wr) (fun i _ => l.length - (intOf i).toNat)
  case atStart => exact ⟨0, Nat.zero_le _, rfl, Below.refl _ _⟩
  case round =>
    obtain ⟨k, hk, rfl, hbel⟩ := hrel
    by_cases hlt : k < l.length
    · obtain ⟨b, off, x, rfl, hb1, hp, y0, y1, y2⟩ := atSes (h.below hbel) hlt
      obtain ⟨b', off', x', rfl, hb2, hq, z0, z1, z2⟩ := atSes (h'.below hbel) hlt
      obtain rfl : x = x' := by rw [hp] at hq; injection hq
      have hsx := hs.at_ (List.mem_of_getElem? hp)
      clear hp hq
      have q1 := Lib.hid (show RdC wr.drew wr.drew.heap.size (datSe x) (.agg #[.int .i64 x.client, .int .i64 x.seq, .int .i64 x.rev]) from (rdSe x ).drewS)
      have q2 := Lib.hid (show RdC wr.drew wr.drew.heap.size (datSe x) (.agg #[.int .i64 x.client, .int .i64 x.seq, .int .i64 x.rev]) from (rdSe x ).drewS)
      
      go_wp2
      go_region_with (go_at_call 104; refine (eqSe _ _ x _ (by exact q1.out) (by exact q2.out) hsx).mono ?_; rintro e w2 ⟨rfl, b2⟩)
      all_goals
        go_wp2
        go_roundw
        case rel => exact ⟨k + 1, by omega, by go_num, hbel.drew.trans (b2.mono hbel.size)⟩
        case measure => simp [intOf]; omega
    · go_wp2
      go_ret
      exact ⟨rfl, hbel⟩

set_option maxRecDepth 100000 in
set_option maxHeartbeats 1600000 in
theorem mkSes_r (v : Value) (l : List Se) (bs : List Nat) (k : Int) (w : World) (h : OwC w (encSes l) v bs) (hnd : bs.Nodup) (h0 : 0 ≤ k) (h1 : k + (cntC (encSes l) : Int) ≤ 4503599627370496) (hs : SmSes l) :
    Calls Tryz.prog 50 #[v, .int .i64 k] w (MarkP k (encSes l) v bs w) := by
  have hlen : (l.map encSe).length = l.length := by simp
  have hll := hs.len
  rcases h.cases with ⟨rfl, hds, rfl⟩ | ⟨g, cap, rfl⟩
  · have hz : l = [] := by simpa using hds
    subst hz
    go_enter Tryz.func50, Tryz.ntmps50
    go_wp2
    refine wp_loop_rounds 1 ?_
    rw [rounds_succ]
    go_wp2
    go_ret
    exact ⟨by rw [show cntC (encSes []) = 0 from rfl]; simp, h, Touch.refl _ _⟩
  · have HC := Lib.hid (show ∀ j x, l[j]? = some x → k + (cntR ((l.map encSe).take j) : Int) + (cntL (encSe x) : Int) ≤ 4503599627370496 ∧ cntR ((l.map encSe).take (j + 1)) = cntR ((l.map encSe).take j) + cntL (encSe x) from fun j x hp => by
      have hj : (l.map encSe)[j]? = some (encSe x) := by rw [List.getElem?_map, hp]; rfl
      have a1 := cntR_at hj
      have a2 : cntC (encSes l) = cntR (l.map encSe) := rfl
      rw [a2] at h1
      exact ⟨by omega, cntR_snoc hj⟩)
    have HE : Hid (cntC (encSes l) = cntR (l.map encSe)) := rfl
    have HM : Hid (mkC k (encSes l) = .rows 111 3 (mkR k (l.map encSe))) := rfl
    have HAT := Lib.hid (show ∀ j, j < l.length → ∃ x, l[j]? = some x ∧ (l.map encSe)[j]? = some (encSe x) from fun j hj => map_at hj)
    change OwC w (.rows 111 3 (l.map encSe)) (.slice _ (l.map encSe).length _) bs at h
    change Calls _ _ #[.slice _ (l.map encSe).length _, _] _ (MarkP _ _ (.slice _ (l.map encSe).length _) _ _)
    have HL := Lib.hid hlen
    rw [hlen] at h ⊢
    clear hlen h1
    generalize l.map encSe = D at *
    have hgin := h.head
    go_enter Tryz.func50, Tryz.ntmps50
    go_wp2
    go_loopw [1, 5] (fun kk i wr => ∃ j : Nat, j ≤ l.length ∧ i = .int .i64 j ∧ kk = .int .i64 (k + (cntR (D.take j) : Int)) ∧ OwC wr (.rows 111 3 (mkR k (D.take j) ++ D.drop j)) (.slice (some ⟨g, 0, none⟩) l.length cap) bs ∧ Touch (fun b => b ∈ bs) w wr) (fun _ i _ => l.length - (intOf i).toNat)
    case atStart => exact ⟨0, Nat.zero_le _, rfl, by simp [cntR], by rw [mk_none]; exact h, Touch.refl _ _⟩
    case round =>
      obtain ⟨j, hj, rfl, rfl, ho, ht⟩ := hrel
      clear h
      by_cases hlt : j < l.length
      · obtain ⟨x, hp, hD⟩ := HAT.out j hlt
        obtain ⟨kb, kc⟩ := HC.out j x hp
        rw [cntSe_l] at kb kc
        have hsx := hs.at_ (List.mem_of_getElem? hp)
        have hk0 : 0 ≤ k + (cntR (D.take j) : Int) := by omega
        have K := Lib.hid kc
        have hst := Lib.hid (mk_set k hD)
        rw [mkSe_l] at hst
        have hself := set_same (mk_at k hD)
        rw [← hself] at ho
        have hjl : j < (mkR k (D.take j) ++ D.drop j).length := by rw [mk_len, HL.out]; exact hlt
        generalize hkk : k + (cntR (D.take j) : Int) = kk at *
        have HKK := Lib.hid hkk
        clear hkk
        have HT := Lib.hid ht
        have HJ := Lib.hid hjl
        have o0 := ho
        clear ho ht hjl hD hp hself kc
        have x0 := o0.get HJ.out 0 (d := .int x.client) rfl rfl
        have f0 := o0.frozen (j * 3)
        rw [Nat.add_zero] at x0
        have x1 := o0.get HJ.out 1 (d := .int x.seq) rfl rfl
        have f1 := o0.frozen (j * 3 + 1)
        have x2 := o0.get HJ.out 2 (d := .int x.rev) rfl rfl
        have f2 := o0.frozen (j * 3 + 2)
        have O0 := Lib.hid o0
        clear o0
        go_wp2
        have p0_0 := O0.out.put hnd HJ.out 0 (d := .int x.client) rfl rfl (d' := .int (kk)) rfl
        rw [Nat.add_zero] at p0_0
        have p0_1 := p0_0.put hnd HJ.out 1 (d := .int x.seq) rfl rfl (d' := .int (kk + 1)) rfl
        have p0_2 := p0_1.put hnd HJ.out 2 (d := .int x.rev) rfl rfl (d' := .int (kk + 1 + 1)) rfl
        go_roundw
        case rel =>
          refine ⟨j + 1, by omega, by go_num, ?_, ?_, (touch_set (touch_set (touch_set HT.out hgin (o := j * 3) (.int .i64 (kk))) hgin (o := j * 3 + 1) (.int .i64 (kk + 1))) hgin (o := j * 3 + 2) (.int .i64 (kk + 1 + 1)))⟩
          · congr 1
            have := HKK.out
            rw [K.out]
            omega
          · rw [← hst.out]
            exact p0_2
        case measure => simp [intOf]; omega
      · obtain rfl : j = l.length := by omega
        go_wp2
        go_ret
        refine ⟨?_, ?_, ht⟩
        · rw [HE.out, List.take_of_length_le (by rw [HL.out]; omega)]
          try rfl
        · rw [HM.out]
          rw [← HL.out, mk_all] at ho
          rw [← HL.out]
          exact ho

set_option maxRecDepth 100000 in
set_option maxHeartbeats 1600000 in
theorem hdSes_r (v : Value) (l : List Se) (k : Int) (w : World) (h : RdC w w.heap.size (mkC k (encSes l)) v) (h0 : 0 ≤ k) (h1 : k + (cntC (encSes l) : Int) ≤ 4503599627370496) (hs : SmSes l) :
    Calls Tryz.prog 53 #[v, .int .i64 k] w (HeldP k (encSes l) w) := by
  have hll := hs.len
  have HC := Lib.hid (show ∀ j x, l[j]? = some x → k + (cntR ((l.map encSe).take j) : Int) + (cntL (encSe x) : Int) ≤ 4503599627370496 ∧ cntR ((l.map encSe).take (j + 1)) = cntR ((l.map encSe).take j) + cntL (encSe x) from fun j x hp => by
    have hj : (l.map encSe)[j]? = some (encSe x) := by rw [List.getElem?_map, hp]; rfl
    have a1 := cntR_at hj
    have a2 : cntC (encSes l) = cntR (l.map encSe) := rfl
    rw [a2] at h1
    exact ⟨by omega, cntR_snoc hj⟩)
  have HE : Hid (cntC (encSes l) = cntR (l.map encSe)) := rfl
  have HAT := Lib.hid (show ∀ j, j < l.length → ∃ x, l[j]? = some x ∧ (l.map encSe)[j]? = some (encSe x) from fun j hj => map_at hj)
  have hlen : (l.map encSe).length = l.length := by simp
  have h : RdC w w.heap.size (.rows 111 3 (mkR k (l.map encSe))) v := h
  generalize l.map encSe = D at *
  obtain ⟨A, c, rfl, _⟩ := h.len
  have HL := Lib.hid hlen
  rw [mkR_len, hlen] at h ⊢
  clear hlen h1
  go_enter Tryz.func53, Tryz.ntmps53
  go_wp2
  go_loop [1, 5] (fun kk i => ∃ j : Nat, j ≤ l.length ∧ i = .int .i64 j ∧ kk = .int .i64 (k + (cntR (D.take j) : Int))) (fun _ i => l.length - (intOf i).toNat)
  case atStart => exact ⟨0, Nat.zero_le _, rfl, by simp [cntR]⟩
  case round =>
    obtain ⟨j, hj, rfl, rfl⟩ := hrel
    by_cases hlt : j < l.length
    · obtain ⟨x, hp, hD⟩ := HAT.out j hlt
      obtain ⟨kb, kc⟩ := HC.out j x hp
      rw [cntSe_l] at kb kc
      have hsx := hs.at_ (List.mem_of_getElem? hp)
      have hk0 : 0 ≤ k + (cntR (D.take j) : Int) := by omega
      have K := Lib.hid kc
      obtain ⟨ad, r, rfl, hb, hsp, hr, hrl⟩ := h.at_ (i := j) (by rw [mkR_len, HL.out]; exact hlt)
      rw [mkR_at D k j _ hD, mkSe_l] at hr
      obtain rfl : _ = r := by injection hr
      clear hr hD hp kc
      generalize hkk : k + (cntR (D.take j) : Int) = kk at *
      have HKK := Lib.hid hkk
      clear hkk
      obtain ⟨b, off, spot⟩ := ad
      obtain rfl : spot = none := by
        rcases hsp with hsp | hsp
        · cases hsp
        · exact hsp
      obtain ⟨⟨v0, x0, rfl⟩, ⟨v1, x1, rfl⟩, ⟨v2, x2, rfl⟩, _⟩ := hrl
      rw [add_at] at x0 x1 x2
      rw [← Nat.add_assoc] at x1
      rw [← Nat.add_assoc, ← Nat.add_assoc] at x2
      have HH := hk0
      clear hsp HH
      go_wp2
      go_round
      case rel =>
        refine ⟨j + 1, by omega, by go_num, ?_⟩
        congr 1
        have := HKK.out
        rw [K.out]
        omega
      case measure => simp [intOf]; omega
    · obtain rfl : j = l.length := by omega
      go_wp2
      go_ret
      refine ⟨?_, rfl⟩
      rw [HE.out, List.take_of_length_le (by rw [HL.out]; omega)]
      try rfl
theorem mklSes {w : World} {B : Nat} {k : Int} {l : List Se} {v : Value} (h : RdC w B (mkC k (encSes l)) v) : ∃ A c, v = .slice A l.length c := by
  have h' : RdC w B (.rows 111 3 (mkR k (l.map encSe))) v := h
  obtain ⟨A, c, hv, _⟩ := h'.len
  exact ⟨A, c, by simpa [mkR_len] using hv⟩
end Go.Proofs.YtamainhocghlgaaGreatDoor.low

