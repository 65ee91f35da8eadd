/-
  Texts that the proofs over this seat rest on, one behind the other (1 of 3).
-/
import Derived.Test.YtglklgnggkenhaaChecked
import Derived.WalkKit
import Derived.Lib.Hide
import Derived.BigQuiet
import Derived.Deep.QuietTactic
import Derived.Below
import Derived.Laws.OwnMore
import Derived.Deep.Draws
import Derived.Lib.OthersKept
import Derived.WalkSmall
import Derived.Deep.RegionWith
import Derived.ProofKit
import Derived.OpenShut
import Derived.Deep.Slices
import Derived.Lib.SmallJoins
import Derived.OneCell
import Derived.Deep.RegionHeld3
import Derived.Deep.AppendLies
import Derived.Maps.AppendAt
import Derived.Laws.AppendOwnNone
import Derived.Deep.RegionLaw
import Derived.StillTailTactics
import Derived.Laws.CopyOwn
set_option maxHeartbeats 12800000
set_option maxRecDepth 1000000
namespace Go.Proofs.Ytglklgnggkenhaa.low
open Go.RowKit
set_option linter.unusedVariables false
def inB (n lo hi : Int) : Bool := decide (lo ≤ n ∧ n ≤ hi)
def signB (n : Int) : Bool := decide ((0 ≤ n ∧ n ≤ 1114111) ∧ ¬ (55296 ≤ n ∧ n ≤ 57343))
theorem inB_t {n lo hi : Int} (h : lo ≤ n ∧ n ≤ hi) : inB n lo hi = true := by simp [inB, h]
theorem inB_f {n lo hi : Int} (h : ¬ (lo ≤ n ∧ n ≤ hi)) : inB n lo hi = false := by simpa [inB] using h
theorem signB_t {n : Int} (h : (0 ≤ n ∧ n ≤ 1114111) ∧ ¬ (55296 ≤ n ∧ n ≤ 57343)) : signB n = true := by unfold signB; exact decide_eq_true h
theorem signB_f {n : Int} (h : ¬ ((0 ≤ n ∧ n ≤ 1114111) ∧ ¬ (55296 ≤ n ∧ n ≤ 57343))) : signB n = false := by unfold signB; exact decide_eq_false h
theorem ret_bool {a b : Bool} (h : a = b) : Ending.returned (.bool a) = .returned (.bool b) := by rw [h]
theorem in_any (n lo hi : Int) (w : World) :
  Calls Try.prog 43 #[.int .i64 n, .int .i64 lo, .int .i64 hi] w fun e w' => e = .returned (.bool (inB n lo hi)) ∧ w = w' := by
 by_cases h1 : lo ≤ n
 ·by_cases h2 : n ≤ hi
  ·go_enter Try.func43, Try.ntmps43
   go_wp2
   go_ret
   exact ⟨ret_bool (by simp [inB, h1, h2]), rfl⟩
  ·go_enter Try.func43, Try.ntmps43
   go_wp2
   go_ret
   exact ⟨ret_bool (by simp [inB, h1, h2]), rfl⟩
 ·go_enter Try.func43, Try.ntmps43
  go_wp2
  go_ret
  exact ⟨ret_bool (by rw [inB_f (by omega)]), rfl⟩
theorem specSignOk_any (n : Int) (w : World) :
  Calls Try.prog 135 #[.int .i64 n] w fun e w' => e = .returned (.bool (signB n)) ∧ w = w' := by
 by_cases h1 : 0 ≤ n ∧ n ≤ 1114111
 ·have k1 := inB_t h1
  by_cases h2 : 55296 ≤ n ∧ n ≤ 57343
  ·have k2 := inB_t h2
   have H := Lib.hid (signB_f (n := n) (by omega))
   clear h1 h2
   go_enter Try.func135, Try.ntmps135
   go_wp2_with (go_at_call 43; refine (in_any _ _ _ _).mono ?_; rintro e w' ⟨rfl, rfl⟩)
   go_ret
   exact ⟨ret_bool (by rw [H.out]), rfl⟩
  ·have k2 := inB_f h2
   have H := Lib.hid (signB_t (n := n) ⟨h1, h2⟩)
   clear h1 h2
   go_enter Try.func135, Try.ntmps135
   go_wp2_with (go_at_call 43; refine (in_any _ _ _ _).mono ?_; rintro e w' ⟨rfl, rfl⟩)
   go_ret
   exact ⟨ret_bool (by rw [H.out]), rfl⟩
 ·have k1 := inB_f h1
  have H := Lib.hid (signB_f (n := n) (by omega))
  clear h1
  go_enter Try.func135, Try.ntmps135
  go_wp2_with (go_at_call 43; refine (in_any _ _ _ _).mono ?_; rintro e w' ⟨rfl, rfl⟩)
  go_ret
  exact ⟨ret_bool (by rw [H.out]), rfl⟩
theorem implSignOk_any (n : Int) (w : World) :
  Calls Try.prog 136 #[.int .i64 n] w fun e w' => e = .returned (.bool (signB n)) ∧ w = w' := by
 rcases (show n < 0 ∨ (0 ≤ n ∧ n < 55296) ∨ (55296 ≤ n ∧ n ≤ 57343) ∨ (57343 < n ∧ n ≤ 1114111) ∨ 1114111 < n by omega) with h | ⟨h1, h2⟩ | ⟨h1, h2⟩ | ⟨h1, h2⟩ | h
 ·have H := Lib.hid (signB_f (n := n) (by omega))
  go_enter Try.func136, Try.ntmps136
  go_wp2
  go_ret
  exact ⟨ret_bool (by rw [H.out]; first | done | (rw [decide_eq_true_iff]; omega) | (rw [decide_eq_false_iff_not]; omega)), rfl⟩
 ·have H := Lib.hid (signB_t (n := n) (by omega))
  go_enter Try.func136, Try.ntmps136
  go_wp2
  go_ret
  exact ⟨ret_bool (by rw [H.out]; first | done | (rw [decide_eq_true_iff]; omega) | (rw [decide_eq_false_iff_not]; omega)), rfl⟩
 ·have H := Lib.hid (signB_f (n := n) (by omega))
  go_enter Try.func136, Try.ntmps136
  go_wp2
  go_ret
  exact ⟨ret_bool (by rw [H.out]; first | done | (rw [decide_eq_true_iff]; omega) | (rw [decide_eq_false_iff_not]; omega)), rfl⟩
 ·have H := Lib.hid (signB_t (n := n) (by omega))
  go_enter Try.func136, Try.ntmps136
  go_wp2
  go_ret
  exact ⟨ret_bool (by rw [H.out]; first | done | (rw [decide_eq_true_iff]; omega) | (rw [decide_eq_false_iff_not]; omega)), rfl⟩
 ·have H := Lib.hid (signB_f (n := n) (by omega))
  go_enter Try.func136, Try.ntmps136
  go_wp2
  go_ret
  exact ⟨ret_bool (by rw [H.out]; first | done | (rw [decide_eq_true_iff]; omega) | (rw [decide_eq_false_iff_not]; omega)), rfl⟩
end Go.Proofs.Ytglklgnggkenhaa.low
namespace Go.Proofs.Ytglklgnggkenhaa.low
open Go.RowKit
theorem block_of_add (a : Addr) (n : Nat) : (a.add n).block = a.block := by unfold Addr.add; split <;> rfl
def Row {α : Type} (f : α → Value) (w : World) (B : Nat) (A : Option Addr) (zs : List α) : Prop :=
 0 < zs.length → ∃ ad, A = some ad ∧ ad.block < B ∧ ∀ (k : Nat) (z : α), zs[k]? = some z → w.cell? (ad.add k) = some (f z)
theorem Row.nil {α : Type} {f : α → Value} {w : World} {B : Nat} {A : Option Addr} : Row f w B A [] := fun h => absurd h (by simp)
theorem Row.at_ {α : Type} {f : α → Value} {w : World} {B : Nat} {A : Option Addr} {zs : List α} {k : Nat} (h : Row f w B A zs) (hk : k < zs.length) :
  ∃ ad z, A = some ad ∧ ad.block < B ∧ zs[k]? = some z ∧ w.cell? (ad.add k) = some (f z) := by
 obtain ⟨ad, e, hb, hc⟩ := h (by omega)
 exact ⟨ad, zs[k], e, hb, List.getElem?_eq_getElem hk, hc k _ (List.getElem?_eq_getElem hk)⟩
theorem Row.keep {α : Type} {f : α → Value} {w w' : World} {B : Nat} {A : Option Addr} {zs : List α} (h : Row f w B A zs)
  (hk : ∀ p : Addr, p.block < B → w'.cell? p = w.cell? p) : Row f w' B A zs := fun hn => by
 obtain ⟨ad, e, hb, hc⟩ := h hn
 exact ⟨ad, e, hb, fun j u hu => (hk _ (by rw [block_of_add]; exact hb)).trans (hc j u hu)⟩
theorem Row.more {α : Type} {f : α → Value} {w : World} {B B' : Nat} {A : Option Addr} {zs : List α} (h : Row f w B A zs) (hB : B ≤ B') : Row f w B' A zs := fun hn => by
 obtain ⟨ad, e, hb, hc⟩ := h hn
 exact ⟨ad, e, by omega, hc⟩
theorem Row.below {α : Type} {f : α → Value} {w w' : World} {B : Nat} {A : Option Addr} {zs : List α} (h : Row f w B A zs) (hb : Below B w w') : Row f w' B A zs := h.keep fun _ hp => hb.cell hp
theorem Row.past {α : Type} {f : α → Value} {w w' : World} {A : Option Addr} {zs : List α} (h : Row f w w.heap.size A zs) (hb : Below w.heap.size w w') : Row f w' w'.heap.size A zs :=
 (h.below hb).more hb.size
theorem Row.drewN {α : Type} {f : α → Value} {w : World} {B : Nat} {A : Option Addr} {zs : List α} (h : Row f w B A zs) (k : Nat) : Row f (w.drewN k) B A zs := h
theorem Row.of_own {α : Type} {f : α → Value} {w : World} {base n c : Nat} {e : TypeId} {A : Option Addr} {zs : List α} (h : w.ownsRow base e 1 (.slice A n c) n (zs.map f)) :
  Row f w w.heap.size A zs := fun hn => by
 rcases h.2 with ⟨he, h0⟩ | ⟨g, cap, cur, hv, _, hh, hnc, _, hs, ht⟩
 ·have := h.1
  simp at this
  omega
 ·have hA : A = some ⟨g, 0, none⟩ := by injection hv
  subst hA
  have hlt : g < w.heap.size := by
   rcases Nat.lt_or_ge g w.heap.size with hlt | hge
   ·exact hlt
   ·rw [Array.getElem?_eq_none hge] at hh; cases hh
  refine ⟨_, rfl, hlt, fun k z hz => ?_⟩
  have hk : k < zs.length := by
   rcases Nat.lt_or_ge k zs.length with hlt | hge
   ·exact hlt
   ·rw [List.getElem?_eq_none hge] at hz; cases hz
  have h1 := h.1
  simp at h1
  have hcap : c = cap := by injection hv
  subst hcap
  have hc := World.ownsRow.cellAt (g := g) h k (by omega)
  have ha : (Addr.add ⟨g, 0, none⟩ k) = ⟨g, k, none⟩ := by unfold Addr.add; split <;> simp_all
  rw [ha, hc, List.getElem?_map, hz]
  rfl
def IsInts (k : IntKind) (w : World) (a : Option Addr) (len cap : Nat) (zs : List Int) : Prop :=
 (a = none ∧ len = 0 ∧ cap = 0 ∧ zs = []) ∨
 ∃ x, a = some x ∧ len ≤ cap ∧ cap ≤ maxLen ∧ zs.length = cap ∧ (∀ i, i < zs.length → w.cell? (x.add i) = some (.int k (zs.getD i 0))) ∧ ∀ n ∈ zs, (Lit.int k n).wf = true
theorem cell_lt {w : World} {p : Addr} {v : Value} (h : w.cell? p = some v) : p.block < w.heap.size := by
 rcases Nat.lt_or_ge p.block w.heap.size with hlt | hge
 ·exact hlt
 ·unfold World.cell? at h; rw [Array.getElem?_eq_none hge] at h; simp at h
theorem IsInts.row {k : IntKind} {w : World} {a : Option Addr} {len cap : Nat} {zs : List Int} (h : IsInts k w a len cap zs) :
  ∃ ys : List Int, ys.length = len ∧ Row (Value.int k) w w.heap.size a ys ∧ ∀ n ∈ ys, (Lit.int k n).wf = true := by
 rcases h with ⟨rfl, rfl, rfl, rfl⟩ | ⟨x, rfl, h1, h2, h3, h4, h5⟩
 ·exact ⟨[], rfl, Row.nil, by simp⟩
 ·refine ⟨zs.take len, by simp; omega, fun hn => ?_, fun n hn => h5 n (List.mem_of_mem_take hn)⟩
  have hl : 0 < len := by simp at hn; omega
  have h0 := cell_lt (h4 0 (by omega))
  rw [block_of_add] at h0
  refine ⟨x, rfl, h0, fun i z hz => ?_⟩
  have hi : i < zs.length := by
   rcases Nat.lt_or_ge i zs.length with hlt | hge
   ·exact hlt
   ·rw [List.getElem?_eq_none (by simp; omega)] at hz; cases hz
  have hz' : zs[i]? = some z := by
   rw [List.getElem?_take] at hz
   split at hz
   ·exact hz
   ·cases hz
  rw [h4 i hi]
  simp [List.getD, hz']
end Go.Proofs.Ytglklgnggkenhaa.low
namespace Go.Proofs.Ytglklgnggkenhaa.low
open Go.RowKit
set_option linter.unusedVariables false
def allB (zs : List Int) : Bool := zs.all signB
theorem allB_f {zs : List Int} {k : Nat} {z : Int} (h : zs[k]? = some z) (hz : signB z = false) : allB zs = false := by
 unfold allB
 rw [List.all_eq_false]
 exact ⟨z, List.mem_of_getElem? h, by simp [hz]⟩
theorem allB_snoc {zs : List Int} {k : Nat} {z : Int} (h : zs[k]? = some z) (ha : allB (zs.take k) = true) (hz : signB z = true) : allB (zs.take (k + 1)) = true := by
 unfold allB at *
 rw [List.take_add_one, h]
 simp [ha, hz]
theorem allB_all {zs : List Int} {k : Nat} (hk : zs.length ≤ k) (ha : allB (zs.take k) = true) : allB zs = true := by
 rwa [List.take_of_length_le hk] at ha
theorem specSignsOk_any (A : Option Addr) (c : Nat) (zs : List Int) (w : World) (hr : Row (Value.int .i64) w w.heap.size A zs) (hl : zs.length ≤ 4294967296) :
  Calls Try.prog 132 #[.slice A zs.length c] w fun e w' => e = .returned (.bool (allB zs)) ∧ w = w' := by
 go_enter Try.func132, Try.ntmps132
 go_wp2
 go_loop [7] (fun i => ∃ k : Nat, k ≤ zs.length ∧ i = .int .i64 k ∧ allB (zs.take k) = true) (fun i => zs.length - (intOf i).toNat)
 case atStart => exact ⟨0, Nat.zero_le _, rfl, rfl⟩
 case round =>
  obtain ⟨k, hk, rfl, ha⟩ := hrel
  have HA := Lib.hid ha
  clear ha
  by_cases hlt : k < zs.length
  ·obtain ⟨ad, z, rfl, hbl, hz, hc⟩ := hr.at_ hlt
   have HZ := Lib.hid hz
   clear hz
   cases hs : signB z
   ·go_wp2_with (go_at_call 135; refine (specSignOk_any _ _).mono ?_; rintro e w' ⟨rfl, rfl⟩)
    go_ret
    exact ⟨ret_bool (by rw [allB_f HZ.out hs]), rfl⟩
   ·go_wp2_with (go_at_call 135; refine (specSignOk_any _ _).mono ?_; rintro e w' ⟨rfl, rfl⟩)
    go_round
    case rel => exact ⟨k + 1, by omega, by go_num, allB_snoc HZ.out HA.out hs⟩
    case measure => simp [intOf]; omega
  ·go_wp2
   go_ret
   exact ⟨ret_bool (by rw [allB_all (by omega) HA.out]), rfl⟩
theorem implSignsOk_any (A : Option Addr) (c : Nat) (zs : List Int) (w : World) (hr : Row (Value.int .i64) w w.heap.size A zs) (hl : zs.length ≤ 4294967296) :
  Calls Try.prog 133 #[.slice A zs.length c] w fun e w' => e = .returned (.bool (allB zs)) ∧ w = w' := by
 go_enter Try.func133, Try.ntmps133
 go_wp2
 go_loop [7] (fun i => ∃ k : Nat, k ≤ zs.length ∧ i = .int .i64 k ∧ allB (zs.take k) = true) (fun i => zs.length - (intOf i).toNat)
 case atStart => exact ⟨0, Nat.zero_le _, rfl, rfl⟩
 case round =>
  obtain ⟨k, hk, rfl, ha⟩ := hrel
  have HA := Lib.hid ha
  clear ha
  by_cases hlt : k < zs.length
  ·obtain ⟨ad, z, rfl, hbl, hz, hc⟩ := hr.at_ hlt
   have HZ := Lib.hid hz
   clear hz
   cases hs : signB z
   ·go_wp2_with (go_at_call 136; refine (implSignOk_any _ _).mono ?_; rintro e w' ⟨rfl, rfl⟩)
    go_ret
    exact ⟨ret_bool (by rw [allB_f HZ.out hs]), rfl⟩
   ·go_wp2_with (go_at_call 136; refine (implSignOk_any _ _).mono ?_; rintro e w' ⟨rfl, rfl⟩)
    go_round
    case rel => exact ⟨k + 1, by omega, by go_num, allB_snoc HZ.out HA.out hs⟩
    case measure => simp [intOf]; omega
  ·go_wp2
   go_ret
   exact ⟨ret_bool (by rw [allB_all (by omega) HA.out]), rfl⟩
def sameB (xs ys : List Int) : Bool := decide (xs = ys)
theorem sameB_len {xs ys : List Int} (h : ¬ xs.length = ys.length) : sameB xs ys = false := decide_eq_false fun e => h (by rw [e])
theorem sameB_at {xs ys : List Int} {k : Nat} {x y : Int} (hx : xs[k]? = some x) (hy : ys[k]? = some y) (h : ¬ x = y) : sameB xs ys = false :=
 decide_eq_false fun e => h (by subst e; rw [hx] at hy; injection hy)
theorem take_at {xs ys : List Int} {k : Nat} {x y : Int} (hx : xs[k]? = some x) (hy : ys[k]? = some y) (h : x = y) (ht : xs.take k = ys.take k) : xs.take (k + 1) = ys.take (k + 1) := by
 rw [List.take_add_one, List.take_add_one, hx, hy, ht, h]
theorem sameB_all {xs ys : List Int} {k : Nat} (h1 : xs.length ≤ k) (h2 : ys.length ≤ k) (ht : xs.take k = ys.take k) : sameB xs ys = true :=
 decide_eq_true (by rwa [List.take_of_length_le h1, List.take_of_length_le h2] at ht)
theorem sameB_self (xs : List Int) : sameB xs xs = true := decide_eq_true rfl
def Says (b : Bool) (w : World) (e : Ending) (w' : World) : Prop := e = .returned (.bool b) ∧ ∃ n, w' = w.drewN n
theorem slicesEqual_any (A B : Option Addr) (c d : Nat) (xs ys : List Int) (w : World) (hx : Row (Value.int .i64) w w.heap.size A xs) (hy : Row (Value.int .i64) w w.heap.size B ys)
  (hl : xs.length ≤ 4294967296) (hl2 : ys.length ≤ 4294967296) :
  Calls Try.prog 109 #[.slice A xs.length c, .slice B ys.length d] w (Says (sameB xs ys) w) := by
 by_cases hlen : xs.length = ys.length
 ·have HL := Lib.hid hlen
  have hb : ((xs.length : Int) != (ys.length : Int)) = false := by simp [hlen]
  clear hlen
  go_enter Try.func109, Try.ntmps109
  go_wp2
  go_loopw [13] (fun i wr => ∃ k n : Nat, k ≤ xs.length ∧ i = .int .i64 k ∧ xs.take k = ys.take k ∧ wr = w.drewN n) (fun i _ => xs.length - (intOf i).toNat)
  case atStart => exact ⟨0, 0, Nat.zero_le _, rfl, rfl, rfl⟩
  case round =>
   obtain ⟨k, n, hk, rfl, ht, rfl⟩ := hrel
   have HT := Lib.hid ht
   clear ht
   by_cases hlt : k < xs.length
   ·obtain ⟨ad, x, rfl, hbl, hzx, hcx⟩ := hx.at_ hlt
    obtain ⟨bd, y, rfl, hbl', hzy, hcy⟩ := hy.at_ (k := k) (by have := HL.out; omega)
    have hlt2 : k < ys.length := by have := HL.out; omega
    have HZX := Lib.hid hzx
    have HZY := Lib.hid hzy
    clear hzx hzy
    by_cases he : x = y
    ·have hne : (x != y) = false := by simp [he]
     have HE := Lib.hid he
     clear he
     go_wp2
     go_quiet (fail)
     go_wp2
     go_roundw
     case rel => exact ⟨k + 1, _, by omega, by go_num, take_at HZX.out HZY.out HE.out HT.out, rfl⟩
     case measure => simp [intOf]; omega
    ·have hne : (x != y) = true := by simp [he]
     have HE := Lib.hid he
     clear he
     go_wp2
     go_quiet (fail)
     go_wp2
     go_ret
     exact ⟨ret_bool (by rw [sameB_at HZX.out HZY.out HE.out]), _, World.drewN_drewN _ _ _⟩
   ·go_wp2
    go_ret
    exact ⟨ret_bool (by rw [sameB_all (k := k) (by omega) (by have := HL.out; omega) HT.out]), _, rfl⟩
 ·have hb : ((xs.length : Int) != (ys.length : Int)) = true := by simp; omega
  have H := Lib.hid (sameB_len hlen)
  clear hlen
  go_enter Try.func109, Try.ntmps109
  go_wp2
  go_ret
  exact ⟨ret_bool (by rw [H.out]), 0, rfl⟩
theorem implSignsSame_any (A B : Option Addr) (c d : Nat) (xs ys : List Int) (w : World) (hx : Row (Value.int .i64) w w.heap.size A xs) (hy : Row (Value.int .i64) w w.heap.size B ys)
  (hl : xs.length ≤ 4294967296) (hl2 : ys.length ≤ 4294967296) :
  Calls Try.prog 82 #[.slice A xs.length c, .slice B ys.length d] w (Says (sameB xs ys) w) := by
 go_enter Try.func82, Try.ntmps82
 go_wp2_with fail
 refine (slicesEqual_any _ _ _ _ xs ys _ hx hy hl hl2).mono ?_
 rintro e w' ⟨rfl, n, rfl⟩
 go_wp2
 go_ret
 exact ⟨rfl, n, rfl⟩
theorem lt_of_some {w : World} {g : Nat} {o : Obj} (h : w.heap[g]? = some o) : g < w.heap.size := by
 rcases Nat.lt_or_ge g w.heap.size with hlt | hge
 ·exact hlt
 ·rw [Array.getElem?_eq_none hge] at h; cases h
def IBuf (base : Nat) (w : World) (v : Value) (zs : List Int) : Prop := w.ownsRow base 3 1 v zs.length (zs.map (Value.int .i64)) ∧ base ≤ w.heap.size
theorem IBuf.alloc {base : Nat} {w : World} {v : Value} {bs : List Int} (h : IBuf base w v bs) (o : Obj) : IBuf base (w.alloc o) v bs := ⟨h.1.alloc o, by have := h.2; simp; omega⟩
theorem IBuf.nil (base : Nat) (w : World) (h : base ≤ w.heap.size) : IBuf base w (.slice none 0 0) [] := ⟨World.ownsRow_nil _ _ _ _, h⟩
theorem IBuf.slice {base : Nat} {w : World} {v : Value} {zs : List Int} (h : IBuf base w v zs) : ∃ A c, v = .slice A zs.length c ∧ Row (Value.int .i64) w w.heap.size A zs := by
 rcases h.1.2 with ⟨rfl, h0⟩ | ⟨g, cap, cur, rfl, _⟩
 ·have : zs = [] := List.eq_nil_of_length_eq_zero h0
  subst this
  exact ⟨none, 0, rfl, Row.nil⟩
 ·exact ⟨_, cap, rfl, Row.of_own h.1⟩
theorem IBuf.own {base : Nat} {w : World} {v : Value} {zs : List Int} (h : IBuf base w v zs) : ∀ k, v.ownBlock = some k → base ≤ k := by
 intro k hk
 rcases h.1.2 with ⟨rfl, _⟩ | ⟨g, cap, cur, rfl, hge, _⟩
 ·simp [Value.ownBlock] at hk
 ·simp [Value.ownBlock] at hk; omega
theorem IBuf.past {base : Nat} {w w' : World} {v : Value} {zs : List Int} (h : IBuf base w v zs) (hb : Below w.heap.size w w') : IBuf base w' v zs := by
 refine ⟨⟨h.1.1, ?_⟩, Nat.le_trans h.2 hb.size⟩
 rcases h.1.2 with hn | ⟨g, cap, cur, hv, hge, hh, hr⟩
 ·exact .inl hn
 ·have hlt : g < w.heap.size := by
   rcases Nat.lt_or_ge g w.heap.size with hlt | hge
   ·exact hlt
   ·rw [Array.getElem?_eq_none hge] at hh; cases hh
  exact .inr ⟨g, cap, cur, hv, hge, (hb.block g hlt).trans hh, hr⟩
structure Pt where
 kind : Int
 n : Int
 signs : List Int
def PtAt (w : World) (B : Nat) (b o : Nat) (p : Pt) : Prop :=
 w.cell? ⟨b, o, none⟩ = some (.int .i64 p.kind) ∧ w.cell? ⟨b, o + 1, none⟩ = some (.int .i64 p.n) ∧
 ∃ A c, w.cell? ⟨b, o + 2, none⟩ = some (.slice A p.signs.length c) ∧ Row (Value.int .i64) w B A p.signs
def PRow (w : World) (B : Nat) (A : Option Addr) (ps : List Pt) : Prop :=
 0 < ps.length → ∃ b off, A = some ⟨b, off, none⟩ ∧ b < B ∧ ∀ (i : Nat) (p : Pt), ps[i]? = some p → PtAt w B b (off + i * 3) p
theorem PtAt.keep {w w' : World} {B b o : Nat} {p : Pt} (h : PtAt w B b o p) (hb : b < B) (hk : ∀ q : Addr, q.block < B → w'.cell? q = w.cell? q) : PtAt w' B b o p := by
 obtain ⟨h1, h2, A, c, h3, h4⟩ := h
 exact ⟨(hk _ hb).trans h1, (hk _ hb).trans h2, A, c, (hk _ hb).trans h3, h4.keep hk⟩
theorem PtAt.more {w : World} {B B' b o : Nat} {p : Pt} (h : PtAt w B b o p) (hB : B ≤ B') : PtAt w B' b o p := by
 obtain ⟨h1, h2, A, c, h3, h4⟩ := h
 exact ⟨h1, h2, A, c, h3, h4.more hB⟩
theorem PRow.nil {w : World} {B : Nat} {A : Option Addr} : PRow w B A [] := fun h => absurd h (by simp)
theorem PRow.keep {w w' : World} {B : Nat} {A : Option Addr} {ps : List Pt} (h : PRow w B A ps) (hk : ∀ q : Addr, q.block < B → w'.cell? q = w.cell? q) : PRow w' B A ps := fun hn => by
 obtain ⟨b, off, e, hb, hc⟩ := h hn
 exact ⟨b, off, e, hb, fun i p hp => (hc i p hp).keep hb hk⟩
theorem PRow.more {w : World} {B B' : Nat} {A : Option Addr} {ps : List Pt} (h : PRow w B A ps) (hB : B ≤ B') : PRow w B' A ps := fun hn => by
 obtain ⟨b, off, e, hb, hc⟩ := h hn
 exact ⟨b, off, e, by omega, fun i p hp => (hc i p hp).more hB⟩
theorem PRow.below {w w' : World} {B : Nat} {A : Option Addr} {ps : List Pt} (h : PRow w B A ps) (hb : Below B w w') : PRow w' B A ps := h.keep fun _ hp => hb.cell hp
theorem PRow.past {w w' : World} {A : Option Addr} {ps : List Pt} (h : PRow w w.heap.size A ps) (hb : Below w.heap.size w w') : PRow w' w'.heap.size A ps := (h.below hb).more hb.size
theorem PRow.at_ {w : World} {B : Nat} {A : Option Addr} {ps : List Pt} {k : Nat} (h : PRow w B A ps) (hk : k < ps.length) :
  ∃ b off p, A = some ⟨b, off, none⟩ ∧ b < B ∧ ps[k]? = some p ∧ PtAt w B b (off + k * 3) p := by
 obtain ⟨b, off, e, hb, hc⟩ := h (by omega)
 exact ⟨b, off, ps[k], e, hb, List.getElem?_eq_getElem hk, hc k _ (List.getElem?_eq_getElem hk)⟩
theorem Row.past_alloc {α : Type} {f : α → Value} {w : World} {A : Option Addr} {zs : List α} (h : Row f w w.heap.size A zs) (o : Obj) : Row f (w.alloc o) (w.alloc o).heap.size A zs := h.past ((Below.refl _ _).alloc (Nat.le_refl _) o)
def signsIn (ps : List Pt) : Nat := (ps.map fun p => p.signs.length).sum
theorem signsIn_snoc {ps : List Pt} {k : Nat} {p : Pt} (h : ps[k]? = some p) : signsIn (ps.take (k + 1)) = signsIn (ps.take k) + p.signs.length := by
 unfold signsIn
 rw [List.take_add_one, h]
 simp
theorem signsIn_at {ps : List Pt} {k : Nat} {p : Pt} (h : ps[k]? = some p) : p.signs.length ≤ signsIn ps := by
 have hm := List.mem_of_getElem? h
 clear h
 unfold signsIn
 induction ps with
 | nil => cases hm
 | cons q r ih =>
  rw [List.map_cons, List.sum_cons]
  rcases List.mem_cons.1 hm with rfl | hm
  ·omega
  ·have := ih hm; omega
def Tells (b : Bool) (w : World) (e : Ending) (w' : World) : Prop := e = .returned (.bool b) ∧ Below w.heap.size w w'
theorem says_tells {b : Bool} {w w' : World} {e : Ending} (h : Says b w e w') : Tells b w e w' := by
 obtain ⟨h1, n, rfl⟩ := h
 exact ⟨h1, ⟨rfl, rfl, rfl, Nat.le_refl _, fun _ _ => rfl⟩⟩
def samePt (p q : Pt) : Bool := p.kind == q.kind && p.n == q.n && sameB p.signs q.signs
theorem samePt_self (p : Pt) : samePt p p = true := by simp [samePt, sameB_self]
def samePs : List Pt → List Pt → Bool
 | [], [] => true
 | p :: ps, q :: qs => samePt p q && samePs ps qs
 | _, _ => false
theorem samePs_self : ∀ ps : List Pt, samePs ps ps = true
 | [] => rfl
 | p :: ps => by show (samePt p p && samePs ps ps) = true; rw [samePt_self, samePs_self ps]; rfl
theorem samePs_len : ∀ ps qs : List Pt, samePs ps qs = true → ps.length = qs.length
 | [], [], _ => rfl
 | p :: ps, q :: qs, h => by
  have h' : (samePt p q && samePs ps qs) = true := h
  rw [Bool.and_eq_true] at h'
  rw [List.length_cons, List.length_cons, samePs_len ps qs h'.2]
theorem samePs_at : ∀ (ps qs : List Pt) (k : Nat) (p q : Pt), ps[k]? = some p → qs[k]? = some q → samePt p q = false → samePs ps qs = false
 | [], _, k, p, q, hp, _, _ => by simp at hp
 | _ :: _, [], k, p, q, _, hq, _ => by simp at hq
 | a :: ps, b :: qs, k, p, q, hp, hq, h => by
  show (samePt a b && samePs ps qs) = false
  cases k with
  | zero =>
   simp at hp hq
   subst hp; subst hq
   rw [h]; rfl
  | succ k =>
   rw [samePs_at ps qs k p q (by simpa using hp) (by simpa using hq) h]
   simp
theorem samePs_snoc : ∀ (ps qs : List Pt) (k : Nat) (p q : Pt), ps[k]? = some p → qs[k]? = some q → samePt p q = true → samePs (ps.take k) (qs.take k) = true → samePs (ps.take (k + 1)) (qs.take (k + 1)) = true
 | [], _, k, p, q, hp, _, _, _ => by simp at hp
 | _ :: _, [], k, p, q, _, hq, _, _ => by simp at hq
 | a :: ps, b :: qs, k, p, q, hp, hq, h, ht => by
  cases k with
  | zero =>
   simp at hp hq
   subst hp; subst hq
   show (samePt a b && samePs (ps.take 0) (qs.take 0)) = true
   rw [h]; rfl
  | succ k =>
   have ht' : (samePt a b && samePs (ps.take k) (qs.take k)) = true := ht
   rw [Bool.and_eq_true] at ht'
   show (samePt a b && samePs (ps.take (k + 1)) (qs.take (k + 1))) = true
   rw [ht'.1, samePs_snoc ps qs k p q (by simpa using hp) (by simpa using hq) h ht'.2]
   rfl
theorem three_new (w : World) (o0 o1 o2 : Obj) : ∃ W, W = ((w.alloc o0).alloc o1).alloc o2 ∧ Below w.heap.size w W ∧ W.heap.size = w.heap.size + 3 ∧ W.heap[w.heap.size + 1]? = some o1 ∧ W.heap[w.heap.size + 1 + 1]? = some o2 := by
 have s1 : (w.alloc o0).heap.size = w.heap.size + 1 := Array.size_push ..
 have s2 : ((w.alloc o0).alloc o1).heap.size = w.heap.size + 1 + 1 := by rw [← s1]; exact Array.size_push ..
 refine ⟨_, rfl, (((Below.refl _ _).alloc (Nat.le_refl _) _).alloc (by omega) _).alloc (by omega) _, ?_, ?_, ?_⟩
 ·have : (((w.alloc o0).alloc o1).alloc o2).heap.size = ((w.alloc o0).alloc o1).heap.size + 1 := Array.size_push ..
  omega
 ·rw [Below.heap_alloc _ _ _ (by omega), ← s1]; exact heap_alloc_new _ _
 ·rw [← s2]; exact heap_alloc_new _ _
theorem own_lower {w : World} {base base' size n : Nat} {v : Value} {e : TypeId} {xs : List Value} (h : w.ownsRow base e size v n xs) (hb : base' ≤ base) : w.ownsRow base' e size v n xs := by
 refine ⟨h.1, ?_⟩
 rcases h.2 with hn | ⟨g, cap, cur, hv, hge, hr⟩
 ·exact .inl hn
 ·exact .inr ⟨g, cap, cur, hv, Nat.le_trans hb hge, hr⟩
def cellsOf : List Pt → List Value → List Value
 | p :: ps, u :: us => .int .i64 p.kind :: .int .i64 p.n :: u :: cellsOf ps us
 | _, _ => []
theorem cellsOf_at : ∀ (ps : List Pt) (us : List Value) (i : Nat) (p : Pt) (u : Value), ps[i]? = some p → us[i]? = some u →
  (cellsOf ps us)[i * 3]? = some (.int .i64 p.kind) ∧ (cellsOf ps us)[i * 3 + 1]? = some (.int .i64 p.n) ∧ (cellsOf ps us)[i * 3 + 2]? = some u
 | [], us, i, p, u, hp, _ => by simp at hp
 | _ :: _, [], i, p, u, _, hu => by simp at hu
 | q :: ps, v :: us, 0, p, u, hp, hu => by
  simp at hp hu
  subst hp; subst hu
  exact ⟨rfl, rfl, rfl⟩
 | q :: ps, v :: us, i + 1, p, u, hp, hu => by
  have := cellsOf_at ps us i p u (by simpa using hp) (by simpa using hu)
  have e0 : (i + 1) * 3 = i * 3 + 1 + 1 + 1 := by omega
  rw [e0]
  exact this
theorem cellsOf_snoc : ∀ (ps : List Pt) (us : List Value) (p : Pt) (u : Value), us.length = ps.length → cellsOf (ps ++ [p]) (us ++ [u]) = cellsOf ps us ++ [.int .i64 p.kind, .int .i64 p.n, u]
 | [], [], p, u, _ => rfl
 | [], _ :: _, p, u, h => by simp at h
 | _ :: _, [], p, u, h => by simp at h
 | q :: ps, v :: us, p, u, h => by
  show .int .i64 q.kind :: .int .i64 q.n :: v :: cellsOf (ps ++ [p]) (us ++ [u]) = _
  rw [cellsOf_snoc ps us p u (by simpa using h)]
  rfl
def Apart (lo hi : Nat) (w : World) (ps : List Pt) (us : List Value) : Prop :=
 us.length = ps.length ∧ (∀ (i : Nat) (p : Pt) (u : Value), ps[i]? = some p → us[i]? = some u → w.ownsRow lo 3 1 u p.signs.length (p.signs.map (Value.int .i64)) ∧ ∀ k, u.ownBlock = some k → k < hi) ∧
 ∀ (i j k : Nat) (u v : Value), us[i]? = some u → us[j]? = some v → u.ownBlock = some k → v.ownBlock = some k → i = j
def PBuf (lo hi : Nat) (w : World) (v : Value) (ps : List Pt) : Prop :=
 ∃ us, w.ownsRow lo 93 3 v ps.length (cellsOf ps us) ∧ Apart lo hi w ps us ∧ (∀ k, v.ownBlock = some k → k < hi) ∧ hi ≤ w.heap.size ∧ lo ≤ hi
theorem own_form {w : World} {base n size : Nat} {v : Value} {e : TypeId} {xs : List Value} (h : w.ownsRow base e size v n xs) : ∃ A c, v = .slice A n c := by
 rcases h.2 with ⟨rfl, h0⟩ | ⟨g, cap, cur, rfl, _⟩
 ·subst h0; exact ⟨none, 0, rfl⟩
 ·exact ⟨_, cap, rfl⟩
theorem own_row {w : World} {base n hi c : Nat} {A : Option Addr} {zs : List Int} (h : w.ownsRow base 3 1 (.slice A n c) n (zs.map (Value.int .i64))) (hk : ∀ k, (Value.slice A n c).ownBlock = some k → k < hi) : Row (Value.int .i64) w hi A zs := fun hn => by
 obtain ⟨ad, e, _, hc⟩ := Row.of_own h hn
 subst e
 exact ⟨ad, rfl, hk ad.block rfl, hc⟩
theorem PBuf.slice {lo hi : Nat} {w : World} {v : Value} {ps : List Pt} (h : PBuf lo hi w v ps) : ∃ A c, v = .slice A ps.length c ∧ PRow w hi A ps := by
 obtain ⟨us, ho, ⟨hl, hu, _⟩, hv, hh, hlo⟩ := h
 rcases ho.2 with ⟨rfl, h0⟩ | ⟨g, cap, cur, rfl, hge, hhg, _⟩
 ·have : ps = [] := List.eq_nil_of_length_eq_zero h0
  subst this
  exact ⟨none, 0, rfl, PRow.nil⟩
 ·refine ⟨_, cap, rfl, fun hn => ⟨g, 0, rfl, hv g rfl, fun i p hp => ?_⟩⟩
  have hi' : i < ps.length := by
   rcases Nat.lt_or_ge i ps.length with hlt | hge
   ·exact hlt
   ·rw [List.getElem?_eq_none hge] at hp; cases hp
  obtain ⟨u, hui⟩ : ∃ u, us[i]? = some u := ⟨_, List.getElem?_eq_getElem (by omega)⟩
  obtain ⟨c0, c1, c2⟩ := cellsOf_at ps us i p u hp hui
  obtain ⟨hou, hbu⟩ := hu i p u hp hui
  obtain ⟨A, c, rfl⟩ := own_form hou
  refine ⟨?_, ?_, A, c, ?_, own_row hou hbu⟩
  ·rw [Nat.zero_add, ho.cellAt (i * 3) (by omega), c0]
  ·rw [Nat.zero_add, ho.cellAt (i * 3 + 1) (by omega), c1]
  ·rw [Nat.zero_add, ho.cellAt (i * 3 + 2) (by omega), c2]
theorem part_info : (Try.prog.info? 93).map (fun i => (i.zero, i.size, i.bytes)) = some (some (.agg #[.int .i64 0, .int .i64 0, .slice none 0 0]), 3, 40) := by kernel_rfl
theorem own_past3 {base n cap g size : Nat} {w w' : World} {e : TypeId} {xs : List Value} (h : w.ownsRow base e size (.slice (some ⟨g, 0, none⟩) n cap) n xs) (hb : Below w.heap.size w w') : w'.ownsRow base e size (.slice (some ⟨g, 0, none⟩) n cap) n xs := by
 refine ⟨h.1, ?_⟩
 rcases h.2 with ⟨hn, _⟩ | ⟨g', cap', cur, hv, hge, hh, hr⟩
 ·cases hn
 ·exact .inr ⟨g', cap', cur, hv, hge, (hb.block g' (lt_of_some hh)).trans hh, hr⟩
theorem own_keep {base n size : Nat} {w w' : World} {v : Value} {e : TypeId} {xs : List Value} (h : w.ownsRow base e size v n xs) (hk : ∀ k, v.ownBlock = some k → k < w.heap.size → w'.heap[k]? = w.heap[k]?) : w'.ownsRow base e size v n xs := by
 refine ⟨h.1, ?_⟩
 rcases h.2 with hn | ⟨g, cap, cur, rfl, hge, hh, hr⟩
 ·exact .inl hn
 ·exact .inr ⟨g, cap, cur, rfl, hge, (hk g rfl (lt_of_some hh)).trans hh, hr⟩
theorem Apart.keep {lo hi hi' : Nat} {w w' : World} {ps : List Pt} {us : List Value} (h : Apart lo hi w ps us) (hh : hi ≤ hi') (hk : ∀ (i : Nat) (u : Value) (k : Nat), us[i]? = some u → u.ownBlock = some k → k < w.heap.size → w'.heap[k]? = w.heap[k]?) : Apart lo hi' w' ps us := by
 obtain ⟨h1, h2, h3⟩ := h
 refine ⟨h1, fun i p u hp hu => ?_, h3⟩
 obtain ⟨ho, hb⟩ := h2 i p u hp hu
 exact ⟨own_keep ho (fun k hk1 hk2 => hk i u k hu hk1 hk2), fun k hk1 => Nat.lt_of_lt_of_le (hb k hk1) hh⟩
theorem Apart.snoc {lo hi : Nat} {w : World} {ps : List Pt} {us : List Value} {p : Pt} {u : Value} (h : Apart lo hi w ps us) (ho : w.ownsRow lo 3 1 u p.signs.length (p.signs.map (Value.int .i64))) (hb : ∀ k, u.ownBlock = some k → k < hi)
  (hn : ∀ (i : Nat) (v : Value) (k : Nat), us[i]? = some v → v.ownBlock = some k → ¬ u.ownBlock = some k) : Apart lo hi w (ps ++ [p]) (us ++ [u]) := by
 obtain ⟨h1, h2, h3⟩ := h
 refine ⟨by simp [h1], fun i q v hq hv => ?_, fun i j k a b ha hb' hka hkb => ?_⟩
 ·by_cases hi' : i < ps.length
  ·rw [List.getElem?_append_left hi'] at hq
   rw [List.getElem?_append_left (by omega)] at hv
   exact h2 i q v hq hv
  ·have e : i = ps.length := by
    rcases Nat.lt_or_ge i (ps.length + 1) with h | h
    ·omega
    ·rw [List.getElem?_eq_none (by simpa using h)] at hq; cases hq
   subst e
   rw [List.getElem?_append_right (Nat.le_refl _)] at hq
   rw [List.getElem?_append_right (by omega)] at hv
   simp [h1] at hq hv
   subst hq; subst hv
   exact ⟨ho, hb⟩
 ·by_cases hi' : i < us.length
  ·rw [List.getElem?_append_left hi'] at ha
   by_cases hj : j < us.length
   ·rw [List.getElem?_append_left hj] at hb'
    exact h3 i j k a b ha hb' hka hkb
   ·have e : j = us.length := by
     rcases Nat.lt_or_ge j (us.length + 1) with h | h
     ·omega
     ·rw [List.getElem?_eq_none (by simpa using h)] at hb'; cases hb'
    subst e
    rw [List.getElem?_append_right (Nat.le_refl _)] at hb'
    simp at hb'
    subst hb'
    exact absurd hkb (hn i a k ha hka)
  ·have e : i = us.length := by
    rcases Nat.lt_or_ge i (us.length + 1) with h | h
    ·omega
    ·rw [List.getElem?_eq_none (by simpa using h)] at ha; cases ha
   subst e
   rw [List.getElem?_append_right (Nat.le_refl _)] at ha
   simp at ha
   subst ha
   by_cases hj : j < us.length
   ·rw [List.getElem?_append_left hj] at hb'
    exact absurd hka (hn j b k hb' hkb)
   ·have e : j = us.length := by
     rcases Nat.lt_or_ge j (us.length + 1) with h | h
     ·omega
     ·rw [List.getElem?_eq_none (by simpa using h)] at hb'; cases hb'
    omega
theorem blk_lt {g n c k hi : Nat} (h : (Value.slice (some ⟨g, 0, none⟩) n c).ownBlock = some k) (hg : g < hi) : k < hi := by
 have : g = k := by simpa [Value.ownBlock] using h
 omega
def PsPost (ps : List Pt) (w : World) (e : Ending) (w' : World) : Prop := ∃ v, e = .returned v ∧ PBuf w.heap.size w'.heap.size w' v ps ∧ Below w.heap.size w w'
end Go.Proofs.Ytglklgnggkenhaa.low
namespace Go.Proofs.Ytglklgnggkenhaa.low
open Go.RowKit Go.ChangeShapes Go.WideShapes Go.Deep
set_option linter.unusedVariables false
theorem laidOut : laidOutB Try.prog = true := by kernel_rfl
section
variable {H : Type} {enc : TypeId × Value → H} {w : World} {base : Nat} {spare : Nat → Bool} {held : Bool}
end
end Go.Proofs.Ytglklgnggkenhaa.low
namespace Go.Proofs.Ytglklgnggkenhaa.low
open Go.RowKit
set_option linter.unusedVariables false
def marks (k : Int) (n : Nat) : List Int := (List.range n).map fun (i : Nat) => k + (i : Int)
structure Touch (T : Nat → Prop) (w w' : World) : Prop where
 os : w'.os = w.os
 tape : w'.tape = w.tape
 output : w'.output = w.output
 size : w'.heap.size = w.heap.size
 block : ∀ b, ¬ T b → w'.heap[b]? = w.heap[b]?
theorem Touch.refl (T : Nat → Prop) (w : World) : Touch T w w := ⟨rfl, rfl, rfl, rfl, fun _ _ => rfl⟩
theorem Touch.trans {T : Nat → Prop} {a b c : World} (h : Touch T a b) (k : Touch T b c) : Touch T a c :=
 ⟨k.os.trans h.os, k.tape.trans h.tape, k.output.trans h.output, k.size.trans h.size, fun i hi => (k.block i hi).trans (h.block i hi)⟩
theorem Touch.mono {T T' : Nat → Prop} {w w' : World} (h : Touch T w w') (hT : ∀ b, T b → T' b) : Touch T' w w' := ⟨h.os, h.tape, h.output, h.size, fun b hb => h.block b fun ht => hb (hT b ht)⟩
theorem Touch.setCell {T : Nat → Prop} {a w : World} (h : Touch T a w) {p : Addr} (hp : T p.block) (u : Value) : Touch T a (w.setCell p u) :=
 h.trans ⟨rfl, rfl, rfl, by simp [World.setCell], fun b hb => Below.heap_setCell _ _ _ _ (fun e => hb (by rw [e]; exact hp))⟩
theorem Touch.below {T : Nat → Prop} {B : Nat} {w w' : World} (h : Touch T w w') (hT : ∀ b, T b → B ≤ b) : Below B w w' :=
 ⟨h.os, h.tape, h.output, Nat.le_of_eq h.size.symm, fun k hk => h.block k fun ht => by have := hT k ht; omega⟩
theorem Touch.cell {T : Nat → Prop} {w w' : World} (h : Touch T w w') {p : Addr} (hp : ¬ T p.block) : w'.cell? p = w.cell? p := World.cell?_of_block (w := w) (h.block p.block hp)
theorem own_touch {base n size : Nat} {w w' : World} {T : Nat → Prop} {v : Value} {e : TypeId} {xs : List Value} (h : w.ownsRow base e size v n xs) (ht : Touch T w w') (hn : ∀ k, v.ownBlock = some k → ¬ T k) : w'.ownsRow base e size v n xs :=
 own_keep h fun k hk _ => ht.block k (hn k hk)
theorem signsIn_take (ps : List Pt) (k : Nat) : signsIn (ps.take k) ≤ signsIn ps := by
 unfold signsIn
 induction ps generalizing k with
 | nil => simp
 | cons p ps ih =>
  cases k with
  | zero => simp
  | succ k => rw [List.take_succ_cons, List.map_cons, List.map_cons, List.sum_cons, List.sum_cons]; have := ih k; omega
def kat (k : Int) (ps : List Pt) (i : Nat) : Int := k + 2 * (i : Int) + (signsIn (ps.take i) : Int)
def markOf (k : Int) (ps : List Pt) (i : Nat) (p : Pt) : Pt := ⟨kat k ps i, kat k ps i + 1, marks (kat k ps i + 1 + 1) p.signs.length⟩
def IsMarked (k : Int) (ps qs : List Pt) : Prop := qs.length = ps.length ∧ ∀ (i : Nat) (p : Pt), ps[i]? = some p → qs[i]? = some (markOf k ps i p)
theorem idx_lt {α : Type} {l : List α} {i : Nat} {x : α} (h : l[i]? = some x) : i < l.length := by
 rcases Nat.lt_or_ge i l.length with hlt | hge
 ·exact hlt
 ·rw [List.getElem?_eq_none hge] at h; cases h
theorem idx_some {α : Type} {l : List α} {i : Nat} (h : i < l.length) : ∃ x, l[i]? = some x := ⟨_, List.getElem?_eq_getElem h⟩
theorem own_ge {w : World} {base n size : Nat} {v : Value} {e : TypeId} {xs : List Value} (h : w.ownsRow base e size v n xs) : ∀ k, v.ownBlock = some k → base ≤ k := by
 intro k hk
 rcases h.2 with ⟨rfl, _⟩ | ⟨g, cap, cur, rfl, hge, _⟩
 ·simp [Value.ownBlock] at hk
 ·simp [Value.ownBlock] at hk; omega
theorem IsMarked.at_ {k : Int} {ps qs : List Pt} {i : Nat} {p : Pt} (h : IsMarked k ps qs) (hp : ps[i]? = some p) : qs[i]? = some (markOf k ps i p) := h.2 i p hp
def okPt (p : Pt) : Bool := decide (((p.kind = 1 ∨ p.kind = 3) ∧ (0 ≤ p.n ∧ p.n ≤ 200) ∧ p.signs.length = 0) ∨ (p.kind = 2 ∧ p.n = 0 ∧ allB p.signs = true ∧ p.signs.length ≤ 200))
theorem okPt_t {p : Pt} (h : ((p.kind = 1 ∨ p.kind = 3) ∧ (0 ≤ p.n ∧ p.n ≤ 200) ∧ p.signs.length = 0) ∨ (p.kind = 2 ∧ p.n = 0 ∧ allB p.signs = true ∧ p.signs.length ≤ 200)) : okPt p = true := decide_eq_true h
theorem okPt_f {p : Pt} (h : ¬ (((p.kind = 1 ∨ p.kind = 3) ∧ (0 ≤ p.n ∧ p.n ≤ 200) ∧ p.signs.length = 0) ∨ (p.kind = 2 ∧ p.n = 0 ∧ allB p.signs = true ∧ p.signs.length ≤ 200))) : okPt p = false := decide_eq_false h
theorem of_okPt {p : Pt} (h : okPt p = true) : ((p.kind = 1 ∨ p.kind = 3) ∧ (0 ≤ p.n ∧ p.n ≤ 200) ∧ p.signs.length = 0) ∨ (p.kind = 2 ∧ p.n = 0 ∧ allB p.signs = true ∧ p.signs.length ≤ 200) := of_decide_eq_true h
theorem alloc_below (w : World) (o : Obj) : Below w.heap.size w (w.alloc o) := (Below.refl _ _).alloc (Nat.le_refl _) _
theorem specPartOk_any (p : Pt) (A : Option Addr) (c : Nat) (w : World) (hr : Row (Value.int .i64) w w.heap.size A p.signs) (hl : p.signs.length ≤ 4294967296) :
  Calls Try.prog 113 #[.agg #[.int .i64 p.kind, .int .i64 p.n, .slice A p.signs.length c]] w (Tells (okPt p) w) := by
 obtain ⟨k, n, zs⟩ := p
 have hr' : Row (Value.int .i64) w w.heap.size A zs := hr
 have hl' : zs.length ≤ 4294967296 := hl
 clear hr hl
 by_cases hk : k = 1 ∨ k = 3
 ·by_cases hn : 0 ≤ n ∧ n ≤ 200
  ·have k1 := inB_t hn
   by_cases hz : zs.length = 0
   all_goals
    have HS := Lib.hid (show okPt ⟨k, n, zs⟩ = decide (zs.length = 0) by
     first
      | (rw [okPt_t (.inl ⟨hk, hn, hz⟩), decide_eq_true hz])
      | (rw [okPt_f (by simp only; omega), decide_eq_false hz]))
    have hzb : ((zs.length : Int) == 0) = decide (zs.length = 0) := by
     first
      | (rw [decide_eq_true hz, beq_iff_eq]; omega)
      | (rw [decide_eq_false hz, beq_eq_false_iff_ne]; omega)
    generalize decide (zs.length = 0) = bb at HS hzb
    clear hz hn
    rcases hk with rfl | rfl
    all_goals
     go_enter Try.func113, Try.ntmps113
     go_wp2_with (go_at_call 43; refine (in_any _ _ _ _).mono ?_; rintro e w' ⟨rfl, rfl⟩)
     go_ret
     exact ⟨ret_bool (by rw [HS.out]), alloc_below _ _⟩
  ·have k1 := inB_f hn
   have HS := Lib.hid (show okPt ⟨k, n, zs⟩ = false by rw [okPt_f (by simp only; omega)])
   clear hn
   rcases hk with rfl | rfl
   all_goals
    go_enter Try.func113, Try.ntmps113
    go_wp2_with (go_at_call 43; refine (in_any _ _ _ _).mono ?_; rintro e w' ⟨rfl, rfl⟩)
    go_ret
    exact ⟨ret_bool (by rw [HS.out]), alloc_below _ _⟩
 ·have hk1 : (k == 1) = false := by rw [beq_eq_false_iff_ne]; omega
  have hk3 : (k == 3) = false := by rw [beq_eq_false_iff_ne]; omega
  by_cases hk2 : k = 2
  ·have hk2' : (k == 2) = true := by rw [beq_iff_eq]; exact hk2
   by_cases hn : n = 0
   ·have hn' : (n == 0) = true := by rw [beq_iff_eq]; exact hn
    have HS := Lib.hid (show okPt ⟨k, n, zs⟩ = (allB zs && decide (zs.length ≤ 200)) by
     unfold okPt
     simp [hk2, hn])
    have hle : decide ((zs.length : Int) ≤ 200) = decide (zs.length ≤ 200) := by congr 1; apply propext; omega
    clear hk hk2 hn
    cases hab : allB zs
    all_goals
     by_cases hlen : zs.length ≤ 200
     all_goals
      have HL : Hid (decide (zs.length ≤ 200) = decide (zs.length ≤ 200)) := rfl
      go_enter Try.func113, Try.ntmps113
      go_wp2_with (go_at_call 132; refine (specSignsOk_any A c zs _ (hr'.past_alloc _) hl').mono ?_; rintro e w' ⟨rfl, rfl⟩)
      go_ret
      refine ⟨ret_bool ?_, alloc_below _ _⟩
      rw [HS.out, hab]
      simp [hlen]
   ·have hn' : (n == 0) = false := by rw [beq_eq_false_iff_ne]; exact hn
    have HS := Lib.hid (show okPt ⟨k, n, zs⟩ = false by rw [okPt_f (by simp only; omega)])
    clear hk hk2 hn
    go_enter Try.func113, Try.ntmps113
    go_wp2
    go_ret
    exact ⟨ret_bool (by rw [HS.out]), alloc_below _ _⟩
  ·have hk2' : (k == 2) = false := by rw [beq_eq_false_iff_ne]; exact hk2
   have HS := Lib.hid (show okPt ⟨k, n, zs⟩ = false by rw [okPt_f (by simp only; omega)])
   clear hk hk2
   go_enter Try.func113, Try.ntmps113
   go_wp2
   go_ret
   exact ⟨ret_bool (by rw [HS.out]), alloc_below _ _⟩
def okPs (ps : List Pt) : Bool := ps.all okPt
def partsB (ps : List Pt) : Bool := okPs ps && decide (ps.length ≤ 600)
theorem okPs_f {ps : List Pt} {k : Nat} {p : Pt} (h : ps[k]? = some p) (hp : okPt p = false) : okPs ps = false := by
 unfold okPs
 rw [List.all_eq_false]
 exact ⟨p, List.mem_of_getElem? h, by simp [hp]⟩
theorem okPs_snoc {ps : List Pt} {k : Nat} {p : Pt} (h : ps[k]? = some p) (ha : okPs (ps.take k) = true) (hp : okPt p = true) : okPs (ps.take (k + 1)) = true := by
 unfold okPs at *
 rw [List.take_add_one, h]
 simp [ha, hp]
theorem okPs_at {ps : List Pt} {k : Nat} {p : Pt} (h : ps[k]? = some p) (ha : okPs ps = true) : okPt p = true := by
 unfold okPs at ha
 exact List.all_eq_true.1 ha p (List.mem_of_getElem? h)
theorem partsB_of {ps : List Pt} (h : partsB ps = true) : okPs ps = true ∧ ps.length ≤ 600 := by
 unfold partsB at h
 rw [Bool.and_eq_true] at h
 exact ⟨h.1, of_decide_eq_true h.2⟩
theorem specParts_any (A : Option Addr) (c : Nat) (ps : List Pt) (w : World) (hr : PRow w w.heap.size A ps) (hl : ps.length ≤ 4294967296) (hls : ∀ p ∈ ps, p.signs.length ≤ 4294967296) :
  Calls Try.prog 89 #[.slice A ps.length c] w (Tells (partsB ps) w) := by
 go_enter Try.func89, Try.ntmps89
 go_wp2
 go_loopw [7] (fun i wr => ∃ k : Nat, k ≤ ps.length ∧ i = .int .i64 k ∧ okPs (ps.take k) = true ∧ Below w.heap.size w wr) (fun i _ => ps.length - (intOf i).toNat)
 case atStart => exact ⟨0, Nat.zero_le _, rfl, rfl, Below.refl _ _⟩
 case round =>
  obtain ⟨k, hk, rfl, ha, hbel⟩ := hrel
  have HA := Lib.hid ha
  clear ha
  by_cases hlt : k < ps.length
  ·obtain ⟨b, off, p, rfl, hb, hp, hc⟩ := hr.at_ hlt
   obtain ⟨x0, x1, A1, e1, x2, r1⟩ := hc.keep (w' := wr) hb (fun _ hq => hbel.cell hq)
   have hsp := hls p (List.mem_of_getElem? hp)
   have HP := Lib.hid hp
   clear hp hc
   cases hs : okPt p
   ·go_wp2_with fail
    refine (specPartOk_any p A1 e1 _ ((r1.more hbel.size).past_alloc _) hsp).mono ?_
    rintro e w2 ⟨rfl, b2⟩
    go_wp2
    go_ret
    exact ⟨ret_bool (by unfold partsB; rw [okPs_f HP.out hs]; rfl), (hbel.trans ((alloc_below wr _).mono hbel.size)).trans (b2.mono (Nat.le_trans hbel.size (alloc_below wr _).size))⟩
   ·go_wp2_with fail
    refine (specPartOk_any p A1 e1 _ ((r1.more hbel.size).past_alloc _) hsp).mono ?_
    rintro e w2 ⟨rfl, b2⟩
    go_wp2
    go_roundw
    case rel => exact ⟨k + 1, by omega, by go_num, okPs_snoc HP.out HA.out hs, (hbel.trans ((alloc_below wr _).mono hbel.size)).trans (b2.mono (Nat.le_trans hbel.size (alloc_below wr _).size))⟩
    case measure => simp [intOf]; omega
  ·have HE := Lib.hid (show partsB ps = decide ((ps.length : Int) ≤ 600) by
    have h1 := HA.out
    rw [List.take_of_length_le (by omega)] at h1
    unfold partsB
    rw [h1, Bool.true_and]
    congr 1; apply propext; omega)
   go_wp2
   go_ret
   refine ⟨ret_bool ?_, hbel⟩
   rw [HE.out]
def keepOf (p : Pt) : Int := if p.kind = 1 then p.n else 0
def putOf (p : Pt) : Int := if p.kind = 2 then (p.signs.length : Int) else 0
def dropOf (p : Pt) : Int := if p.kind = 3 then p.n else 0
def sumOf (f : Pt → Int) (ps : List Pt) : Int := (ps.map f).sum
theorem sumOf_snoc {f : Pt → Int} {ps : List Pt} {k : Nat} {p : Pt} (h : ps[k]? = some p) : sumOf f (ps.take (k + 1)) = sumOf f (ps.take k) + f p := by
 unfold sumOf
 rw [List.take_add_one, h]
 simp
theorem sumOf_bd {f : Pt → Int} : ∀ (ps : List Pt), (∀ p ∈ ps, 0 ≤ f p ∧ f p ≤ 200) → 0 ≤ sumOf f ps ∧ sumOf f ps ≤ 200 * (ps.length : Int)
 | [], _ => by simp [sumOf]
 | p :: ps, h => by
  have h1 := h p (List.mem_cons_self ..)
  have h2 := sumOf_bd ps fun q hq => h q (List.mem_cons_of_mem _ hq)
  have e : sumOf f (p :: ps) = f p + sumOf f ps := by simp [sumOf]
  rw [e, List.length_cons]
  omega
theorem ok_bd {p : Pt} (h : okPt p = true) : (0 ≤ keepOf p ∧ keepOf p ≤ 200) ∧ (0 ≤ putOf p ∧ putOf p ≤ 200) ∧ (0 ≤ dropOf p ∧ dropOf p ≤ 200) := by
 have := of_okPt h
 unfold keepOf putOf dropOf
 refine ⟨?_, ?_, ?_⟩ <;> split <;> omega
theorem sums_bd {ps : List Pt} (h : okPs ps = true) (hl : ps.length ≤ 600) : (0 ≤ sumOf keepOf ps ∧ sumOf keepOf ps ≤ 120000) ∧ (0 ≤ sumOf putOf ps ∧ sumOf putOf ps ≤ 120000) ∧ (0 ≤ sumOf dropOf ps ∧ sumOf dropOf ps ≤ 120000) := by
 have hp : ∀ p ∈ ps, okPt p = true := fun p hp => by unfold okPs at h; exact List.all_eq_true.1 h p hp
 have h1 := sumOf_bd (f := keepOf) ps fun p hq => (ok_bd (hp p hq)).1
 have h2 := sumOf_bd (f := putOf) ps fun p hq => (ok_bd (hp p hq)).2.1
 have h3 := sumOf_bd (f := dropOf) ps fun p hq => (ok_bd (hp p hq)).2.2
 omega
theorem okPs_take {ps : List Pt} (h : okPs ps = true) (k : Nat) : okPs (ps.take k) = true := by
 unfold okPs at *
 rw [List.all_eq_true] at *
 exact fun p hp => h p (List.mem_of_mem_take hp)
def three (a b c : Int) (w : World) (e : Ending) (w' : World) : Prop := e = .returned (.tuple #[.int .i64 a, .int .i64 b, .int .i64 c]) ∧ Below w.heap.size w w'
def sumK (ps : List Pt) : Int := if partsB ps = true then sumOf keepOf ps else 0
def sumP (ps : List Pt) : Int := if partsB ps = true then sumOf putOf ps else 0
def sumD (ps : List Pt) : Int := if partsB ps = true then sumOf dropOf ps else 0
theorem sum_t {ps : List Pt} (h : partsB ps = true) : sumK ps = sumOf keepOf ps ∧ sumP ps = sumOf putOf ps ∧ sumD ps = sumOf dropOf ps := by unfold sumK sumP sumD; rw [if_pos h, if_pos h, if_pos h]; exact ⟨rfl, rfl, rfl⟩
theorem sum_f {ps : List Pt} (h : partsB ps = false) : sumK ps = 0 ∧ sumP ps = 0 ∧ sumD ps = 0 := by unfold sumK sumP sumD; rw [h]; exact ⟨rfl, rfl, rfl⟩
theorem specSum_any (A : Option Addr) (c : Nat) (ps : List Pt) (w : World) (hr : PRow w w.heap.size A ps) (hl : ps.length ≤ 4294967296) (hls : ∀ p ∈ ps, p.signs.length ≤ 4294967296) :
  Calls Try.prog 114 #[.slice A ps.length c] w (three (sumK ps) (sumP ps) (sumD ps) w) := by
 cases hpb : partsB ps
 ·have HS := Lib.hid (sum_f hpb)
  go_enter Try.func114, Try.ntmps114
  go_wp2_with fail
  refine (specParts_any A c ps _ hr hl hls).mono ?_
  rintro e w1 ⟨rfl, b1⟩
  go_wp2
  go_ret3
  rw [HS.out.1, HS.out.2.1, HS.out.2.2]
  exact ⟨rfl, b1⟩
 ·have HS := Lib.hid (sum_t hpb)
  have HPB := Lib.hid (partsB_of hpb)
  go_enter Try.func114, Try.ntmps114
  go_wp2_with fail
  refine (specParts_any A c ps _ hr hl hls).mono ?_
  rintro e w1 ⟨rfl, b1⟩
  go_wp2
  go_loopw [5, 6, 7, 15] (fun a b d i wr => ∃ k : Nat, k ≤ ps.length ∧ i = .int .i64 k ∧ a = .int .i64 (sumOf keepOf (ps.take k)) ∧ b = .int .i64 (sumOf putOf (ps.take k)) ∧ d = .int .i64 (sumOf dropOf (ps.take k)) ∧ Below w.heap.size w wr) (fun _ _ _ i _ => ps.length - (intOf i).toNat)
  case atStart => exact ⟨0, Nat.zero_le _, rfl, rfl, rfl, rfl, b1⟩
  case round =>
   obtain ⟨k, hk, rfl, rfl, rfl, rfl, hbel⟩ := hrel
   have hsb := sums_bd (okPs_take HPB.out.1 k) (by rw [List.length_take]; have := HPB.out.2; omega)
   obtain ⟨⟨s1, s2⟩, ⟨s3, s4⟩, s5, s6⟩ := hsb
   by_cases hlt : k < ps.length
   ·obtain ⟨b, off, p, rfl, hb, hp, hc⟩ := hr.at_ hlt
    obtain ⟨x0, x1, A1, e1, x2, r1⟩ := hc.keep (w' := wr) hb (fun _ hq => hbel.cell hq)
    have hok := of_okPt (okPs_at hp HPB.out.1)
    have K1 := Lib.hid (sumOf_snoc (f := keepOf) hp)
    have K2 := Lib.hid (sumOf_snoc (f := putOf) hp)
    have K3 := Lib.hid (sumOf_snoc (f := dropOf) hp)
    clear hp hc
    generalize sumOf keepOf (ps.take k) = q1 at *
    generalize sumOf putOf (ps.take k) = q2 at *
    generalize sumOf dropOf (ps.take k) = q3 at *
    obtain ⟨pk, pn, pz⟩ := p
    simp only at x0 x1 x2 hok
    rcases (show pk = 1 ∨ pk = 2 ∨ pk = 3 by omega) with rfl | rfl | rfl
    ·have hn1 : 0 ≤ pn := by omega
     have hn2 : pn ≤ 200 := by omega
     clear hok
     go_wp2
     go_roundw
     case rel => exact ⟨k + 1, by omega, by go_num, by rw [K1.out]; simp [keepOf], by rw [K2.out]; simp [putOf], by rw [K3.out]; simp [dropOf], hbel.trans ((alloc_below wr _).mono hbel.size)⟩
     case measure => simp [intOf]; omega
    ·have hn1 : pz.length ≤ 200 := by omega
     clear hok
     go_wp2
     go_roundw
     case rel => exact ⟨k + 1, by omega, by go_num, by rw [K1.out]; simp [keepOf], by rw [K2.out]; simp [putOf], by rw [K3.out]; simp [dropOf], hbel.trans ((alloc_below wr _).mono hbel.size)⟩
     case measure => simp [intOf]; omega
    ·have hn1 : 0 ≤ pn := by omega
     have hn2 : pn ≤ 200 := by omega
     clear hok
     go_wp2
     go_roundw
     case rel => exact ⟨k + 1, by omega, by go_num, by rw [K1.out]; simp [keepOf], by rw [K2.out]; simp [putOf], by rw [K3.out]; simp [dropOf], hbel.trans ((alloc_below wr _).mono hbel.size)⟩
     case measure => simp [intOf]; omega
   ·have hke : ps.take k = ps := List.take_of_length_le (by omega)
    rw [hke] at s1 s2 s3 s4 s5 s6 ⊢
    go_wp2
    go_ret3
    rw [HS.out.1, HS.out.2.1, HS.out.2.2]
    exact ⟨rfl, hbel⟩
def Nums1 (n : Int) (w : World) (e : Ending) (w' : World) : Prop := e = .returned (.int .i64 n) ∧ Below w.heap.size w w'
theorem sum_bd (ps : List Pt) : (0 ≤ sumK ps ∧ sumK ps ≤ 120000) ∧ (0 ≤ sumP ps ∧ sumP ps ≤ 120000) ∧ (0 ≤ sumD ps ∧ sumD ps ≤ 120000) := by
 cases h : partsB ps
 ·obtain ⟨h1, h2, h3⟩ := sum_f h
  rw [h1, h2, h3]; omega
 ·obtain ⟨h1, h2, h3⟩ := sum_t h
  have hp := partsB_of h
  have := sums_bd hp.1 hp.2
  rw [h1, h2, h3]; exact this
theorem specOpFrom_any (A : Option Addr) (c : Nat) (ps : List Pt) (w : World) (hr : PRow w w.heap.size A ps) (hl : ps.length ≤ 4294967296) (hls : ∀ p ∈ ps, p.signs.length ≤ 4294967296) :
  Calls Try.prog 90 #[.slice A ps.length c] w (Nums1 (sumK ps + sumD ps) w) := by
 have hbd := sum_bd ps
 obtain ⟨⟨s1, s2⟩, ⟨s3, s4⟩, s5, s6⟩ := hbd
 go_enter Try.func90, Try.ntmps90
 go_wp2_with fail
 refine (specSum_any A c ps _ hr hl hls).mono ?_
 rintro e w1 ⟨rfl, b1⟩
 generalize sumK ps = q1 at *
 generalize sumP ps = q2 at *
 generalize sumD ps = q3 at *
 go_wp2
 go_ret
 exact ⟨rfl, b1⟩
theorem specOpTo_any (A : Option Addr) (c : Nat) (ps : List Pt) (w : World) (hr : PRow w w.heap.size A ps) (hl : ps.length ≤ 4294967296) (hls : ∀ p ∈ ps, p.signs.length ≤ 4294967296) :
  Calls Try.prog 91 #[.slice A ps.length c] w (Nums1 (sumK ps + sumP ps) w) := by
 have hbd := sum_bd ps
 obtain ⟨⟨s1, s2⟩, ⟨s3, s4⟩, s5, s6⟩ := hbd
 go_enter Try.func91, Try.ntmps91
 go_wp2_with fail
 refine (specSum_any A c ps _ hr hl hls).mono ?_
 rintro e w1 ⟨rfl, b1⟩
 generalize sumK ps = q1 at *
 generalize sumP ps = q2 at *
 generalize sumD ps = q3 at *
 go_wp2
 go_ret
 exact ⟨rfl, b1⟩
def okOp (ps : List Pt) : Bool := partsB ps && decide (sumK ps + sumD ps ≤ 200) && decide (sumK ps + sumP ps ≤ 200)
theorem specOpOk_any (A : Option Addr) (c : Nat) (ps : List Pt) (w : World) (hr : PRow w w.heap.size A ps) (hl : ps.length ≤ 4294967296) (hls : ∀ p ∈ ps, p.signs.length ≤ 4294967296) :
  Calls Try.prog 69 #[.slice A ps.length c] w (Tells (okOp ps) w) := by
 cases hpb : partsB ps
 ·have HS := Lib.hid (show okOp ps = false by unfold okOp; rw [hpb]; rfl)
  go_enter Try.func69, Try.ntmps69
  go_wp2_with fail
  refine (specParts_any A c ps _ hr hl hls).mono ?_
  rintro e w1 ⟨rfl, b1⟩
  go_wp2
  go_ret
  exact ⟨ret_bool (by rw [HS.out]), b1⟩
 ·by_cases hf : sumK ps + sumD ps ≤ 200
  ·by_cases ht : sumK ps + sumP ps ≤ 200
   all_goals
    have HS := Lib.hid (show okOp ps = decide (sumK ps + sumP ps ≤ 200) by unfold okOp; rw [hpb, decide_eq_true hf]; rfl)
    go_enter Try.func69, Try.ntmps69
    go_wp2_with fail
    refine (specParts_any A c ps _ hr hl hls).mono ?_
    rintro e w1 ⟨rfl, b1⟩
    go_wp2_with fail
    refine (specOpFrom_any A c ps _ (hr.past b1) hl hls).mono ?_
    rintro e w2 ⟨rfl, b2⟩
    have d2 := b1.trans (b2.mono b1.size)
    go_wp2_with fail
    refine (specOpTo_any A c ps _ (hr.past d2) hl hls).mono ?_
    rintro e w3 ⟨rfl, b3⟩
    go_wp2
    go_ret
    refine ⟨ret_bool ?_, d2.trans (b3.mono d2.size)⟩
    rw [HS.out]
    first | done | (rw [decide_eq_true ht]) | (rw [decide_eq_false ht])
  ·have HS := Lib.hid (show okOp ps = false by unfold okOp; rw [hpb, decide_eq_false hf]; rfl)
   go_enter Try.func69, Try.ntmps69
   go_wp2_with fail
   refine (specParts_any A c ps _ hr hl hls).mono ?_
   rintro e w1 ⟨rfl, b1⟩
   go_wp2_with fail
   refine (specOpFrom_any A c ps _ (hr.past b1) hl hls).mono ?_
   rintro e w2 ⟨rfl, b2⟩
   go_wp2
   go_ret
   exact ⟨ret_bool (by rw [HS.out]), b1.trans (b2.mono b1.size)⟩
theorem PBuf.nil (w : World) : PBuf w.heap.size w.heap.size w (.slice none 0 0) [] :=
 ⟨[], World.ownsRow_nil _ _ _ _, ⟨rfl, fun i p u hp _ => by simp at hp, fun i j k u v hu _ _ _ => by simp at hu⟩, fun k hk => by simp [Value.ownBlock] at hk, Nat.le_refl _, Nat.le_refl _⟩
theorem PBuf.past {lo hi : Nat} {w w' : World} {v : Value} {ps : List Pt} (h : PBuf lo hi w v ps) (hb : Below w.heap.size w w') : PBuf lo hi w' v ps := by
 obtain ⟨us, ho, hap, hv, hh, hlo⟩ := h
 exact ⟨us, own_keep ho (fun k _ hk2 => hb.block k hk2), hap.keep (Nat.le_refl _) (fun i u k _ _ hk2 => hb.block k hk2), hv, Nat.le_trans hh hb.size, hlo⟩
theorem PBuf.one (w : World) (k n : Int) : PBuf w.heap.size (w.alloc (.cells #[.int .i64 k, .int .i64 n, .slice none 0 0] 93)).heap.size (w.alloc (.cells #[.int .i64 k, .int .i64 n, .slice none 0 0] 93)) (.slice (some ⟨w.heap.size, 0, none⟩) 1 1) [⟨k, n, []⟩] := by
 refine ⟨[.slice none 0 0], ⟨rfl, .inr ⟨w.heap.size, 1, _, rfl, Nat.le_refl _, heap_alloc_new w _, Nat.le_refl _, by decide, rfl, rfl⟩⟩, ⟨rfl, fun i p u hp hu => ?_, fun i j q u v hu hv hk _ => ?_⟩, fun q hq => blk_lt hq (by simp), Nat.le_refl _, by simp⟩
 ·cases i with
  | zero =>
   simp at hp hu
   subst hp; subst hu
   exact ⟨World.ownsRow_nil _ _ _ _, fun q hq => by simp [Value.ownBlock] at hq⟩
  | succ i => simp at hp
 ·cases i with
  | zero =>
   simp at hu
   subst hu
   simp [Value.ownBlock] at hk
  | succ i => simp at hu
theorem PBuf.apart {lo hi : Nat} {w w' : World} {v : Value} {ps : List Pt} {T : Nat → Prop} (h : PBuf lo hi w v ps) (ht : Touch T w w') (hT : ∀ b, lo ≤ b → b < hi → ¬ T b) : PBuf lo hi w' v ps := by
 obtain ⟨us, ho, hap, hv, hh, hlo⟩ := h
 refine ⟨us, own_touch ho ht (fun k hk => hT k (own_ge ho k hk) (hv k hk)), hap.keep (Nat.le_refl _) (fun i u k hu hk1 hk2 => ?_), hv, by rw [ht.size]; exact hh, hlo⟩
 obtain ⟨p, hp⟩ := idx_some (l := ps) (i := i) (by rw [← hap.1]; exact idx_lt hu)
 obtain ⟨o1, o2⟩ := hap.2.1 i p u hp hu
 exact ht.block k (hT k (own_ge o1 k hk1) (o2 k hk1))
inductive Dat where
 | int (n : Int)
 | bool (b : Bool)
 | str (s : ByteArray)
 | rows (e : TypeId) (sz : Nat) (ds : List (List Dat))
 | agg (ds : List Dat)
mutual
def RdC (w : World) (B : Nat) : Dat → Value → Prop
 | .int n, v => v = .int .i64 n
 | .bool b, v => v = .bool b
 | .str s, v => v = .string s
 | .rows _ sz ds, v => ∃ A c, v = .slice A ds.length c ∧ ds.length ≤ c ∧ (0 < ds.length → ∃ ad : Addr, A = some ad ∧ ad.block < B ∧ (sz = 1 ∨ ad.spot = none) ∧ RdR w B sz ad 0 ds)
 | .agg ds, v => ∃ vs : List Value, v = .agg vs.toArray ∧ RdV w B ds vs
def RdV (w : World) (B : Nat) : List Dat → List Value → Prop
 | [], vs => vs = []
 | d :: ds, vs => ∃ x xs, vs = x :: xs ∧ RdC w B d x ∧ RdV w B ds xs
def RdL (w : World) (B : Nat) (ad : Addr) : Nat → List Dat → Prop
 | _, [] => True
 | o, d :: ds => (∃ v, w.cell? (ad.add o) = some v ∧ RdC w B d v) ∧ RdL w B ad (o + 1) ds
def RdR (w : World) (B : Nat) (sz : Nat) (ad : Addr) : Nat → List (List Dat) → Prop
 | _, [] => True
 | o, r :: rs => RdL w B ad o r ∧ RdR w B sz ad (o + sz) rs
end
mutual
theorem RdC.keep {w w' : World} {B : Nat} (hk : ∀ p : Addr, p.block < B → w'.cell? p = w.cell? p) : ∀ (d : Dat) (v : Value), RdC w B d v → RdC w' B d v
 | .int _, _, h => h
 | .bool _, _, h => h
 | .str _, _, h => h
 | .rows _ sz ds, _, h => by
  obtain ⟨A, c, hv, hc, h⟩ := h
  refine ⟨A, c, hv, hc, fun hn => ?_⟩
  obtain ⟨ad, hA, hb, hs, hr⟩ := h hn
  exact ⟨ad, hA, hb, hs, RdR.keep hk sz ad hb 0 ds hr⟩
 | .agg ds, _, h => by
  obtain ⟨vs, hv, h⟩ := h
  exact ⟨vs, hv, RdV.keep hk ds vs h⟩
theorem RdV.keep {w w' : World} {B : Nat} (hk : ∀ p : Addr, p.block < B → w'.cell? p = w.cell? p) : ∀ (ds : List Dat) (vs : List Value), RdV w B ds vs → RdV w' B ds vs
 | [], _, h => h
 | d :: ds, _, h => by
  obtain ⟨x, xs, hx, h1, h2⟩ := h
  exact ⟨x, xs, hx, RdC.keep hk d x h1, RdV.keep hk ds xs h2⟩
theorem RdL.keep {w w' : World} {B : Nat} (hk : ∀ p : Addr, p.block < B → w'.cell? p = w.cell? p) (ad : Addr) (hb : ad.block < B) : ∀ (o : Nat) (ds : List Dat), RdL w B ad o ds → RdL w' B ad o ds
 | _, [], _ => trivial
 | o, d :: ds, h => by
  obtain ⟨⟨v, hv, hd⟩, h2⟩ := h
  exact ⟨⟨v, (hk _ (by rw [block_of_add]; exact hb)).trans hv, RdC.keep hk d v hd⟩, RdL.keep hk ad hb (o + 1) ds h2⟩
theorem RdR.keep {w w' : World} {B : Nat} (hk : ∀ p : Addr, p.block < B → w'.cell? p = w.cell? p) (sz : Nat) (ad : Addr) (hb : ad.block < B) : ∀ (o : Nat) (rs : List (List Dat)), RdR w B sz ad o rs → RdR w' B sz ad o rs
 | _, [], _ => trivial
 | o, r :: rs, h => ⟨RdL.keep hk ad hb o r h.1, RdR.keep hk sz ad hb (o + sz) rs h.2⟩
end
mutual
theorem RdC.more {w : World} {B B' : Nat} (hB : B ≤ B') : ∀ (d : Dat) (v : Value), RdC w B d v → RdC w B' d v
 | .int _, _, h => h
 | .bool _, _, h => h
 | .str _, _, h => h
 | .rows _ sz ds, _, h => by
  obtain ⟨A, c, hv, hc, h⟩ := h
  refine ⟨A, c, hv, hc, fun hn => ?_⟩
  obtain ⟨ad, hA, hb, hs, hr⟩ := h hn
  exact ⟨ad, hA, Nat.lt_of_lt_of_le hb hB, hs, RdR.more hB sz ad 0 ds hr⟩
 | .agg ds, _, h => by
  obtain ⟨vs, hv, h⟩ := h
  exact ⟨vs, hv, RdV.more hB ds vs h⟩
theorem RdV.more {w : World} {B B' : Nat} (hB : B ≤ B') : ∀ (ds : List Dat) (vs : List Value), RdV w B ds vs → RdV w B' ds vs
 | [], _, h => h
 | d :: ds, _, h => by
  obtain ⟨x, xs, hx, h1, h2⟩ := h
  exact ⟨x, xs, hx, RdC.more hB d x h1, RdV.more hB ds xs h2⟩
theorem RdL.more {w : World} {B B' : Nat} (hB : B ≤ B') (ad : Addr) : ∀ (o : Nat) (ds : List Dat), RdL w B ad o ds → RdL w B' ad o ds
 | _, [], _ => trivial
 | o, d :: ds, h => by
  obtain ⟨⟨v, hv, hd⟩, h2⟩ := h
  exact ⟨⟨v, hv, RdC.more hB d v hd⟩, RdL.more hB ad (o + 1) ds h2⟩
theorem RdR.more {w : World} {B B' : Nat} (hB : B ≤ B') (sz : Nat) (ad : Addr) : ∀ (o : Nat) (rs : List (List Dat)), RdR w B sz ad o rs → RdR w B' sz ad o rs
 | _, [], _ => trivial
 | o, r :: rs, h => ⟨RdL.more hB ad o r h.1, RdR.more hB sz ad (o + sz) rs h.2⟩
end
theorem RdC.below {w w' : World} {B : Nat} {d : Dat} {v : Value} (h : RdC w B d v) (hb : Below B w w') : RdC w' B d v := RdC.keep (fun _ hp => hb.cell hp) d v h
theorem RdC.past {w w' : World} {d : Dat} {v : Value} (h : RdC w w.heap.size d v) (hb : Below w.heap.size w w') : RdC w' w'.heap.size d v := RdC.more hb.size d v (h.below hb)
theorem RdC.drew {w : World} {B : Nat} {d : Dat} {v : Value} (h : RdC w B d v) : RdC w.drew B d v := RdC.keep (w := w) (w' := w.drew) (fun _ _ => rfl) d v h
theorem RdC.drewS {w : World} {d : Dat} {v : Value} (h : RdC w w.heap.size d v) : RdC w.drew w.drew.heap.size d v := h.drew
theorem RdR.at_ {w : World} {B sz : Nat} {ad : Addr} : ∀ {rs : List (List Dat)} {o i : Nat} {r : List Dat}, RdR w B sz ad o rs → rs[i]? = some r → RdL w B ad (o + i * sz) r
 | [], _, _, _, _, h => by simp at h
 | r :: rs, o, 0, q, h, hq => by
  simp at hq
  subst hq
  simpa using h.1
 | r :: rs, o, i + 1, q, h, hq => by
  have := RdR.at_ (rs := rs) (o := o + sz) (i := i) (r := q) h.2 (by simpa using hq)
  rw [show o + (i + 1) * sz = o + sz + i * sz by rw [Nat.add_mul]; omega]
  exact this
theorem RdC.at_ {w : World} {B sz : Nat} {e : TypeId} {ds : List (List Dat)} {A : Option Addr} {n c i : Nat} (h : RdC w B (.rows e sz ds) (.slice A n c)) (hi : i < ds.length) :
  ∃ ad r, A = some ad ∧ ad.block < B ∧ (sz = 1 ∨ ad.spot = none) ∧ ds[i]? = some r ∧ RdL w B ad (i * sz) r := by
 obtain ⟨A', c', hv, _, h⟩ := h
 injection hv with e1 e2 e3
 subst e1
 obtain ⟨ad, hA, hb, hs, hr⟩ := h (by omega)
 refine ⟨ad, ds[i], hA, hb, hs, List.getElem?_eq_getElem hi, ?_⟩
 have := hr.at_ (i := i) (List.getElem?_eq_getElem hi)
 simpa using this
theorem RdC.len {w : World} {B sz : Nat} {e : TypeId} {ds : List (List Dat)} {v : Value} (h : RdC w B (.rows e sz ds) v) : ∃ A c, v = .slice A ds.length c ∧ ds.length ≤ c := by
 obtain ⟨A, c, hv, hc, _⟩ := h
 exact ⟨A, c, hv, hc⟩
mutual
def OwC (w : World) : Dat → Value → List Nat → Prop
 | .int n, v, bs => v = .int .i64 n ∧ bs = []
 | .bool b, v, bs => v = .bool b ∧ bs = []
 | .str s, v, bs => v = .string s ∧ bs = []
 | .rows e sz ds, v, bs => ∃ xs cs, w.ownsRow 0 e sz v ds.length xs ∧ OwR w sz ds xs cs ∧ bs = v.ownBlock.toList ++ cs
 | .agg ds, v, bs => ∃ xs : List Value, v = .agg xs.toArray ∧ OwL w ds xs bs
def OwL (w : World) : List Dat → List Value → List Nat → Prop
 | [], xs, bs => xs = [] ∧ bs = []
 | d :: ds, xs, bs => ∃ x xs' b b', xs = x :: xs' ∧ bs = b ++ b' ∧ OwC w d x b ∧ OwL w ds xs' b'
def OwR (w : World) (sz : Nat) : List (List Dat) → List Value → List Nat → Prop
 | [], xs, bs => xs = [] ∧ bs = []
 | r :: rs, xs, bs => ∃ y ys b b', xs = y ++ ys ∧ y.length = sz ∧ bs = b ++ b' ∧ OwL w r y b ∧ OwR w sz rs ys b'
end
mutual
theorem OwC.keep {w w' : World} : ∀ (d : Dat) (v : Value) (bs : List Nat), OwC w d v bs → (∀ b ∈ bs, w'.heap[b]? = w.heap[b]?) → OwC w' d v bs
 | .int _, _, _, h, _ => h
 | .bool _, _, _, h, _ => h
 | .str _, _, _, h, _ => h
 | .rows e sz ds, v, bs, h, hk => by
  obtain ⟨xs, cs, ho, hr, hb⟩ := h
  refine ⟨xs, cs, own_keep ho (fun k hk1 _ => hk k (by rw [hb, hk1]; simp)), OwR.keep sz ds xs cs hr (fun b hb' => hk b (by rw [hb]; simp [hb'])), hb⟩
 | .agg ds, v, bs, h, hk => by
  obtain ⟨xs, hv, h⟩ := h
  exact ⟨xs, hv, OwL.keep ds xs bs h hk⟩
theorem OwL.keep {w w' : World} : ∀ (ds : List Dat) (xs : List Value) (bs : List Nat), OwL w ds xs bs → (∀ b ∈ bs, w'.heap[b]? = w.heap[b]?) → OwL w' ds xs bs
 | [], _, _, h, _ => h
 | d :: ds, xs, bs, h, hk => by
  obtain ⟨x, xs', b, b', hx, hb, h1, h2⟩ := h
  exact ⟨x, xs', b, b', hx, hb, OwC.keep d x b h1 (fun q hq => hk q (by rw [hb]; simp [hq])), OwL.keep ds xs' b' h2 (fun q hq => hk q (by rw [hb]; simp [hq]))⟩
theorem OwR.keep {w w' : World} (sz : Nat) : ∀ (rs : List (List Dat)) (xs : List Value) (bs : List Nat), OwR w sz rs xs bs → (∀ b ∈ bs, w'.heap[b]? = w.heap[b]?) → OwR w' sz rs xs bs
 | [], _, _, h, _ => h
 | r :: rs, xs, bs, h, hk => by
  obtain ⟨y, ys, b, b', hx, hl, hb, h1, h2⟩ := h
  exact ⟨y, ys, b, b', hx, hl, hb, OwL.keep r y b h1 (fun q hq => hk q (by rw [hb]; simp [hq])), OwR.keep sz rs ys b' h2 (fun q hq => hk q (by rw [hb]; simp [hq]))⟩
end
theorem own_cells {w : World} {e : TypeId} {size g n cap : Nat} {xs : List Value} (h : w.ownsRow 0 e size (.slice (some ⟨g, 0, none⟩) n cap) n xs) : ∀ (j : Nat) (x : Value), xs[j]? = some x → w.cell? ⟨g, j, none⟩ = some x := fun j x hx => by
 have hj : j < xs.length := idx_lt hx
 rw [h.cellAt j (by rw [← h.1]; exact hj), hx]
theorem own_blk0 {w : World} {base n size : Nat} {v : Value} {e : TypeId} {xs : List Value} (h : w.ownsRow base e size v n xs) {k : Nat} (hk : v.ownBlock = some k) : ∃ cur, w.heap[k]? = some (.cells cur e (0, 0)) := by
 rcases h.2 with ⟨rfl, _⟩ | ⟨g, cap, cur, rfl, hge, hh, _⟩
 ·simp [Value.ownBlock] at hk
 ·have : g = k := by simpa [Value.ownBlock] using hk
  subst this
  exact ⟨cur, hh⟩
theorem own_in {w : World} {base n size : Nat} {v : Value} {e : TypeId} {xs : List Value} (h : w.ownsRow base e size v n xs) {k : Nat} (hk : v.ownBlock = some k) : k < w.heap.size := by
 obtain ⟨cur, hh⟩ := own_blk0 h hk
 exact lt_of_some hh
theorem add_at (b off i : Nat) : (⟨b, off, none⟩ : Addr).add i = ⟨b, off + i, none⟩ := by
 unfold Addr.add
 split
 ·rename_i h; subst h; rfl
 ·rfl
theorem add_plain0 (g o : Nat) : (⟨g, 0, none⟩ : Addr).add o = ⟨g, o, none⟩ := by
 unfold Addr.add
 split
 ·rename_i h; subst h; rfl
 ·simp
mutual
theorem OwC.lt {w : World} : ∀ (d : Dat) (v : Value) (bs : List Nat), OwC w d v bs → ∀ b ∈ bs, b < w.heap.size
 | .int _, _, _, h, b, hb => by obtain ⟨_, h⟩ := h; subst h; simp at hb
 | .bool _, _, _, h, b, hb => by obtain ⟨_, h⟩ := h; subst h; simp at hb
 | .str _, _, _, h, b, hb => by obtain ⟨_, h⟩ := h; subst h; simp at hb
 | .rows e sz ds, v, bs, h, b, hb => by
  obtain ⟨xs, cs, ho, hr, hbs⟩ := h
  rw [hbs] at hb
  rcases List.mem_append.1 hb with hb | hb
  ·obtain ⟨cur, hh⟩ := own_blk0 ho (by simpa using hb)
   exact lt_of_some hh
  ·exact OwR.lt sz ds xs cs hr b hb
 | .agg ds, v, bs, h, b, hb => by
  obtain ⟨xs, hv, h⟩ := h
  exact OwL.lt ds xs bs h b hb
theorem OwL.lt {w : World} : ∀ (ds : List Dat) (xs : List Value) (bs : List Nat), OwL w ds xs bs → ∀ b ∈ bs, b < w.heap.size
 | [], _, _, h, b, hb => by obtain ⟨_, h⟩ := h; subst h; simp at hb
 | d :: ds, xs, bs, h, b, hb => by
  obtain ⟨x, xs', b1, b2, hx, hbs, h1, h2⟩ := h
  rw [hbs] at hb
  rcases List.mem_append.1 hb with hb | hb
  ·exact OwC.lt d x b1 h1 b hb
  ·exact OwL.lt ds xs' b2 h2 b hb
theorem OwR.lt {w : World} (sz : Nat) : ∀ (rs : List (List Dat)) (xs : List Value) (bs : List Nat), OwR w sz rs xs bs → ∀ b ∈ bs, b < w.heap.size
 | [], _, _, h, b, hb => by obtain ⟨_, h⟩ := h; subst h; simp at hb
 | r :: rs, xs, bs, h, b, hb => by
  obtain ⟨y, ys, b1, b2, hx, hl, hbs, h1, h2⟩ := h
  rw [hbs] at hb
  rcases List.mem_append.1 hb with hb | hb
  ·exact OwL.lt r y b1 h1 b hb
  ·exact OwR.lt sz rs ys b2 h2 b hb
end
mutual
theorem OwC.read {w : World} {B : Nat} : ∀ (d : Dat) (v : Value) (bs : List Nat), OwC w d v bs → (∀ b ∈ bs, b < B) → RdC w B d v
 | .int _, _, _, h, _ => h.1
 | .bool _, _, _, h, _ => h.1
 | .str _, _, _, h, _ => h.1
 | .rows e sz ds, v, bs, h, hk => by
  obtain ⟨xs, cs, ho, hr, hb⟩ := h
  rcases ho.2 with ⟨rfl, h0⟩ | ⟨g, cap, cur, rfl, _, _, hnc, _⟩
  ·exact ⟨none, 0, by rw [h0], by omega, fun hn => absurd h0 (by omega)⟩
  ·refine ⟨_, cap, rfl, hnc, fun hn => ⟨_, rfl, hk g (by rw [hb]; simp [Value.ownBlock]), .inr rfl, ?_⟩⟩
   refine OwR.read sz g 0 ds xs cs hr (fun b hb' => hk b (by rw [hb]; simp [hb'])) (fun j x hx => ?_)
   rw [Nat.zero_add]
   exact own_cells ho j x hx
 | .agg ds, v, bs, h, hk => by
  obtain ⟨xs, hv, h⟩ := h
  exact ⟨xs, hv, OwL.readV ds xs bs h hk⟩
theorem OwL.readV {w : World} {B : Nat} : ∀ (ds : List Dat) (xs : List Value) (bs : List Nat), OwL w ds xs bs → (∀ b ∈ bs, b < B) → RdV w B ds xs
 | [], _, _, h, _ => h.1
 | d :: ds, xs, bs, h, hk => by
  obtain ⟨x, xs', b, b', hx, hb, h1, h2⟩ := h
  exact ⟨x, xs', hx, OwC.read d x b h1 (fun q hq => hk q (by rw [hb]; simp [hq])), OwL.readV ds xs' b' h2 (fun q hq => hk q (by rw [hb]; simp [hq]))⟩
theorem OwL.read {w : World} {B : Nat} (g : Nat) : ∀ (o : Nat) (ds : List Dat) (xs : List Value) (bs : List Nat), OwL w ds xs bs → (∀ b ∈ bs, b < B) → (∀ (j : Nat) (x : Value), xs[j]? = some x → w.cell? ⟨g, o + j, none⟩ = some x) → RdL w B ⟨g, 0, none⟩ o ds
 | _, [], _, _, _, _, _ => trivial
 | o, d :: ds, xs, bs, h, hk, hc => by
  obtain ⟨x, xs', b, b', hx, hb, h1, h2⟩ := h
  refine ⟨⟨x, ?_, OwC.read d x b h1 (fun q hq => hk q (by rw [hb]; simp [hq]))⟩, OwL.read g (o + 1) ds xs' b' h2 (fun q hq => hk q (by rw [hb]; simp [hq])) (fun j y hy => ?_)⟩
  ·rw [add_plain0]; exact hc 0 x (by rw [hx]; rfl)
  ·have := hc (j + 1) y (by rw [hx]; simpa using hy)
   rwa [show o + (j + 1) = o + 1 + j by omega] at this
theorem OwR.read {w : World} {B : Nat} (sz g : Nat) : ∀ (o : Nat) (rs : List (List Dat)) (xs : List Value) (bs : List Nat), OwR w sz rs xs bs → (∀ b ∈ bs, b < B) → (∀ (j : Nat) (x : Value), xs[j]? = some x → w.cell? ⟨g, o + j, none⟩ = some x) → RdR w B sz ⟨g, 0, none⟩ o rs
 | _, [], _, _, _, _, _ => trivial
 | o, r :: rs, xs, bs, h, hk, hc => by
  obtain ⟨y, ys, b, b', hx, hl, hb, h1, h2⟩ := h
  refine ⟨OwL.read g o r y b h1 (fun q hq => hk q (by rw [hb]; simp [hq])) (fun j x hj => hc j x ?_), OwR.read sz g (o + sz) rs ys b' h2 (fun q hq => hk q (by rw [hb]; simp [hq])) (fun j x hj => ?_)⟩
  ·rw [hx, List.getElem?_append_left (idx_lt hj)]; exact hj
  ·have := hc (sz + j) x (by rw [hx, List.getElem?_append_right (by omega), hl]; simpa using hj)
   rwa [← Nat.add_assoc] at this
end
def Own (lo hi : Nat) (w : World) (d : Dat) (v : Value) : Prop := ∃ bs, OwC w d v bs ∧ bs.Nodup ∧ (∀ b ∈ bs, lo ≤ b ∧ b < hi) ∧ hi ≤ w.heap.size ∧ lo ≤ hi
theorem Own.past {lo hi : Nat} {w w' : World} {d : Dat} {v : Value} (h : Own lo hi w d v) (hb : Below w.heap.size w w') : Own lo hi w' d v := by
 obtain ⟨bs, h1, h2, h3, h4, h5⟩ := h
 exact ⟨bs, OwC.keep d v bs h1 (fun b hb' => hb.block b (OwC.lt d v bs h1 b hb')), h2, h3, Nat.le_trans h4 hb.size, h5⟩
theorem Own.apart {lo hi : Nat} {w w' : World} {d : Dat} {v : Value} {T : Nat → Prop} (h : Own lo hi w d v) (ht : Touch T w w') (hT : ∀ b, lo ≤ b → b < hi → ¬ T b) : Own lo hi w' d v := by
 obtain ⟨bs, h1, h2, h3, h4, h5⟩ := h
 exact ⟨bs, OwC.keep d v bs h1 (fun b hb => ht.block b (hT b (h3 b hb).1 (h3 b hb).2)), h2, h3, by rw [ht.size]; exact h4, h5⟩
theorem Own.read {lo hi : Nat} {w : World} {d : Dat} {v : Value} (h : Own lo hi w d v) : RdC w w.heap.size d v := by
 obtain ⟨bs, h1, h2, h3, h4, h5⟩ := h
 exact OwC.read d v bs h1 (fun b hb => Nat.lt_of_lt_of_le (h3 b hb).2 h4)
theorem Own.wide {lo hi lo' hi' : Nat} {w : World} {d : Dat} {v : Value} (h : Own lo hi w d v) (h1 : lo' ≤ lo) (h2 : hi ≤ hi') (h3 : hi' ≤ w.heap.size) : Own lo' hi' w d v := by
 obtain ⟨bs, k1, k2, k3, k4, k5⟩ := h
 exact ⟨bs, k1, k2, fun b hb => by have := k3 b hb; omega, h3, by omega⟩
theorem Own.slice {lo hi sz : Nat} {w : World} {e : TypeId} {ds : List (List Dat)} {v : Value} (h : Own lo hi w (.rows e sz ds) v) : ∃ A c, v = .slice A ds.length c ∧ ds.length ≤ c := h.read.len
def OwnPost (d : Dat) (w : World) (e : Ending) (w' : World) : Prop := ∃ v, e = .returned v ∧ Own w.heap.size w'.heap.size w' d v ∧ Below w.heap.size w w'
theorem OwR.len {w : World} {sz : Nat} : ∀ {rs : List (List Dat)} {xs : List Value} {bs : List Nat}, OwR w sz rs xs bs → xs.length = rs.length * sz
 | [], xs, bs, h => by obtain ⟨h, _⟩ := h; subst h; simp
 | r :: rs, xs, bs, h => by
  obtain ⟨y, ys, b, b', hx, hl, hb, h1, h2⟩ := h
  have := OwR.len h2
  rw [hx, List.length_append, hl, this, List.length_cons, Nat.add_mul]
  omega
theorem OwR.append {w : World} {sz : Nat} : ∀ {rs : List (List Dat)} {xs : List Value} {bs : List Nat} {rs' : List (List Dat)} {xs' : List Value} {bs' : List Nat}, OwR w sz rs xs bs → OwR w sz rs' xs' bs' → OwR w sz (rs ++ rs') (xs ++ xs') (bs ++ bs')
 | [], xs, bs, rs', xs', bs', h, h' => by obtain ⟨h1, h2⟩ := h; subst h1; subst h2; simpa using h'
 | r :: rs, xs, bs, rs', xs', bs', h, h' => by
  obtain ⟨y, ys, b, b', hx, hl, hb, h1, h2⟩ := h
  exact ⟨y, ys ++ xs', b, b' ++ bs', by rw [hx, List.append_assoc], hl, by rw [hb, List.append_assoc], h1, OwR.append h2 h'⟩
theorem OwR.one {w : World} {sz : Nat} {r : List Dat} {y : List Value} {b : List Nat} (h : OwL w r y b) (hl : y.length = sz) : OwR w sz [r] y b := ⟨y, [], b, [], by simp, hl, by simp, h, rfl, rfl⟩
theorem OwR.split {w : World} {sz : Nat} : ∀ {rs : List (List Dat)} {xs : List Value} {bs : List Nat} {i : Nat} {r : List Dat}, OwR w sz rs xs bs → rs[i]? = some r →
  ∃ xs1 y xs2 b1 b b2, xs = xs1 ++ (y ++ xs2) ∧ bs = b1 ++ (b ++ b2) ∧ xs1.length = i * sz ∧ y.length = sz ∧ OwR w sz (rs.take i) xs1 b1 ∧ OwL w r y b ∧ OwR w sz (rs.drop (i + 1)) xs2 b2
 | [], _, _, _, _, _, h => by simp at h
 | q :: rs, xs, bs, 0, r, h, hr => by
  simp at hr
  subst hr
  obtain ⟨y, ys, b, b', hx, hl, hb, h1, h2⟩ := h
  exact ⟨[], y, ys, [], b, b', by simpa using hx, by simpa using hb, by simp, hl, ⟨rfl, rfl⟩, h1, by simpa using h2⟩
 | q :: rs, xs, bs, i + 1, r, h, hr => by
  obtain ⟨y, ys, b, b', hx, hl, hb, h1, h2⟩ := h
  obtain ⟨xs1, z, xs2, c1, c, c2, e1, e2, e3, e4, k1, k2, k3⟩ := OwR.split h2 (by simpa using hr)
  refine ⟨y ++ xs1, z, xs2, b ++ c1, c, c2, by rw [hx, e1, List.append_assoc], by rw [hb, e2, List.append_assoc], by rw [List.length_append, hl, e3, Nat.add_mul]; omega, e4, ⟨y, xs1, b, c1, rfl, hl, rfl, h1, by simpa using k1⟩, k2, by simpa using k3⟩
theorem set_eq {α : Type} {l : List α} {i : Nat} (h : i < l.length) (a : α) : l.set i a = l.take i ++ ([a] ++ l.drop (i + 1)) := by
 rw [List.set_eq_take_append_cons_drop, if_pos h]
 rfl
theorem OwL.split {w : World} : ∀ {ds : List Dat} {xs : List Value} {bs : List Nat} {j : Nat} {d : Dat}, OwL w ds xs bs → ds[j]? = some d →
  ∃ u c1 c c2, xs[j]? = some u ∧ bs = c1 ++ (c ++ c2) ∧ OwC w d u c ∧ (∀ (w' : World) (d' : Dat) (u' : Value) (c' : List Nat), OwC w' d' u' c' → (∀ b ∈ c1 ++ c2, w'.heap[b]? = w.heap[b]?) → OwL w' (ds.set j d') (xs.set j u') (c1 ++ (c' ++ c2)))
 | [], _, _, _, _, _, h => by simp at h
 | q :: ds, xs, bs, 0, d, h, hd => by
  simp at hd
  subst hd
  obtain ⟨x, xs', b, b', hx, hb, h1, h2⟩ := h
  refine ⟨x, [], b, b', by rw [hx]; rfl, by simpa using hb, h1, fun w' d' u' c' hc hk => ?_⟩
  exact ⟨u', xs', c', b', by rw [hx]; rfl, by simp, hc, OwL.keep ds xs' b' h2 (fun b hb' => hk b (by simpa using hb'))⟩
 | q :: ds, xs, bs, j + 1, d, h, hd => by
  obtain ⟨x, xs', b, b', hx, hb, h1, h2⟩ := h
  obtain ⟨u, c1, c, c2, e1, e2, k1, k2⟩ := OwL.split h2 (by simpa using hd)
  refine ⟨u, b ++ c1, c, c2, by rw [hx]; simpa using e1, by rw [hb, e2, List.append_assoc], k1, fun w' d' u' c' hc hk => ?_⟩
  refine ⟨x, xs'.set j u', b, c1 ++ (c' ++ c2), by rw [hx]; rfl, by rw [List.append_assoc], OwC.keep q x b h1 (fun p hp => hk p (by simp [hp])), k2 w' d' u' c' hc (fun p hp => hk p ?_)⟩
  rcases List.mem_append.1 hp with hp | hp <;> simp [hp]
theorem OwC.open_ {w : World} {e : TypeId} {sz g n cap : Nat} {ds : List (List Dat)} {bs : List Nat} (h : OwC w (.rows e sz ds) (.slice (some ⟨g, 0, none⟩) n cap) bs) :
  n = ds.length ∧ ∃ xs cs, w.ownsRow 0 e sz (.slice (some ⟨g, 0, none⟩) ds.length cap) ds.length xs ∧ OwR w sz ds xs cs ∧ bs = g :: cs := by
 obtain ⟨xs, cs, ho, hr, hb⟩ := h
 have hn : n = ds.length := by
  rcases ho.2 with ⟨h, _⟩ | ⟨g', cap', cur, hv, _⟩
  ·cases h
  ·injection hv
 subst hn
 exact ⟨rfl, xs, cs, ho, hr, by rw [hb]; rfl⟩
theorem OwC.shut {w : World} {e : TypeId} {sz g cap : Nat} {ds : List (List Dat)} {xs : List Value} {cs : List Nat} (ho : w.ownsRow 0 e sz (.slice (some ⟨g, 0, none⟩) ds.length cap) ds.length xs) (hr : OwR w sz ds xs cs) : OwC w (.rows e sz ds) (.slice (some ⟨g, 0, none⟩) ds.length cap) (g :: cs) := ⟨xs, cs, ho, hr, rfl⟩
def Dat.flat : Dat → Option Value
 | .int n => some (.int .i64 n)
 | .bool b => some (.bool b)
 | .str s => some (.string s)
 | .rows _ _ _ => none
 | .agg _ => none
theorem OwC.flat {w : World} {d : Dat} {u v : Value} {bs : List Nat} (h : OwC w d v bs) (hf : d.flat = some u) : v = u ∧ bs = [] := by
 cases d with
 | int n => obtain ⟨h1, h2⟩ := h; injection hf with hf; exact ⟨h1.trans hf, h2⟩
 | bool n => obtain ⟨h1, h2⟩ := h; injection hf with hf; exact ⟨h1.trans hf, h2⟩
 | str n => obtain ⟨h1, h2⟩ := h; injection hf with hf; exact ⟨h1.trans hf, h2⟩
 | rows => cases hf
 | agg => cases hf
theorem OwC.of_flat {w : World} {d : Dat} {u : Value} (hf : d.flat = some u) : OwC w d u [] := by
 cases d with
 | int n => injection hf with hf; exact ⟨hf.symm, rfl⟩
 | bool n => injection hf with hf; exact ⟨hf.symm, rfl⟩
 | str n => injection hf with hf; exact ⟨hf.symm, rfl⟩
 | rows => cases hf
 | agg => cases hf
theorem OwC.cell {w : World} {e : TypeId} {sz g n cap i j : Nat} {ds : List (List Dat)} {bs : List Nat} {r : List Dat} {d : Dat} (h : OwC w (.rows e sz ds) (.slice (some ⟨g, 0, none⟩) n cap) bs) (hr : ds[i]? = some r) (hd : r[j]? = some d) :
  (∀ o, w.frozen? ⟨g, o, none⟩ = false) ∧ ∃ u c, w.cell? ⟨g, i * sz + j, none⟩ = some u ∧ OwC w d u c ∧ (bs.Nodup → c.Nodup ∧ g ∉ c) ∧ (∀ b ∈ c, b ∈ bs) ∧
  (bs.Nodup → ∀ (w' : World) (d' : Dat), OwC w' d' u c → Touch (fun b => b ∈ c) w w' → OwC w' (.rows e sz (ds.set i (r.set j d'))) (.slice (some ⟨g, 0, none⟩) n cap) bs) ∧
  (bs.Nodup → ∀ (d' : Dat) (x' : Value), d.flat = some u → d'.flat = some x' → OwC (w.setCell ⟨g, i * sz + j, none⟩ x') (.rows e sz (ds.set i (r.set j d'))) (.slice (some ⟨g, 0, none⟩) n cap) bs) := by
 obtain ⟨rfl, xs, cs, ho, hor, rfl⟩ := h.open_
 obtain ⟨xs1, y, xs2, b1, b, b2, e1, e2, e3, e4, k1, k2, k3⟩ := hor.split hr
 obtain ⟨u, c1, c, c2, f1, f2, l1, l2⟩ := k2.split hd
 have hi := idx_lt hr
 have hj : j < y.length := idx_lt f1
 have hcell : xs[i * sz + j]? = some u := by
  rw [e1, ← e3, List.getElem?_append_right (by omega)]
  simp only [Nat.add_sub_cancel_left]
  rw [List.getElem?_append_left hj]
  exact f1
 refine ⟨fun o => ho.frozenAt o, u, c, own_cells ho _ _ hcell, l1, fun hnd => ?_, fun q hq => by rw [e2, f2]; simp [hq], fun hnd w' d' hd' ht => ?_, fun hnd d' x' hf hf' => ?_⟩
 ·rw [e2, f2] at hnd
  have h1 := List.nodup_cons.1 hnd
  refine ⟨?_, fun hg => h1.1 (by simp [hg])⟩
  have h2 := (List.nodup_append.1 h1.2).2.1
  have h3 := (List.nodup_append.1 h2).1
  have h4 := (List.nodup_append.1 h3).2.1
  exact (List.nodup_append.1 h4).1
 ·rw [e2, f2] at hnd
  have h1 := List.nodup_cons.1 hnd
  have a2 := List.nodup_append.1 h1.2
  have a3 := List.nodup_append.1 a2.2.1
  have a4 := List.nodup_append.1 a3.1
  have a5 := List.nodup_append.1 a4.2.1
  have hsame : (ds.set i (r.set j d')).length = ds.length := by rw [List.length_set]
  have ho' : w'.ownsRow 0 e sz (.slice (some ⟨g, 0, none⟩) ds.length cap) ds.length xs := own_touch ho ht (fun k hk hc => by
   have : g = k := by simpa [Value.ownBlock] using hk
   subst this
   exact h1.1 (by simp [hc]))
  have hk1 := OwR.keep sz _ xs1 b1 k1 (w' := w') (fun q hq => ht.block q (fun hc => a2.2.2 q hq q (by simp [hc]) rfl))
  have hk3 := OwR.keep sz _ xs2 b2 k3 (w' := w') (fun q hq => ht.block q (fun hc => a3.2.2 q (by simp [hc]) q hq rfl))
  have hk2 := l2 w' d' u c hd' (fun q hq => ht.block q (fun hc => by
   rcases List.mem_append.1 hq with hq | hq
   ·exact a4.2.2 q hq q (by simp [hc]) rfl
   ·exact a5.2.2 q hc q hq rfl))
  have hyu : y.set j u = y := by
   apply List.ext_getElem?
   intro t
   rw [List.getElem?_set]
   split
   ·rename_i h; subst h; simp [f1]
   ·rfl
  rw [hyu] at hk2
  have hall := hk1.append ((OwR.one hk2 e4).append hk3)
  rw [← set_eq hi, ← e1] at hall
  rw [← hsame] at ho' ⊢
  have := OwC.shut ho' hall
  rw [e2, f2]
  simpa using this
 ·obtain ⟨_, rfl⟩ := l1.flat hf
  have hsame : (ds.set i (r.set j d')).length = ds.length := by rw [List.length_set]
  have ho' := (ho.stored (i * sz + j) x').1
  have h1 := (List.nodup_cons.1 hnd).1
  have hbb : ∀ q, q ∈ cs → (w.setCell ⟨g, i * sz + j, none⟩ x').heap[q]? = w.heap[q]? := fun q hq => Below.heap_setCell _ _ _ _ (fun e => h1 (by have e' : q = g := e; rw [← e']; exact hq))
  have hk1 := OwR.keep sz _ xs1 b1 k1 (fun q hq => hbb q (by rw [e2]; simp [hq]))
  have hk3 := OwR.keep sz _ xs2 b2 k3 (fun q hq => hbb q (by rw [e2]; simp [hq]))
  have hk2 := l2 (w.setCell ⟨g, i * sz + j, none⟩ x') d' x' [] (OwC.of_flat hf') (fun q hq => hbb q (by
   rw [e2, f2]
   rcases List.mem_append.1 hq with hq | hq <;> simp [hq]))
  have hall := hk1.append ((OwR.one hk2 (by rw [List.length_set]; exact e4)).append hk3)
  rw [← set_eq hi] at hall
  have ex : xs.set (i * sz + j) x' = xs1 ++ (y.set j x' ++ xs2) := by
   rw [e1, ← e3, List.set_append_right _ _ (by omega)]
   simp only [Nat.add_sub_cancel_left]
   rw [List.set_append_left _ _ hj]
  rw [← ex] at hall
  rw [← hsame] at ho' ⊢
  have := OwC.shut ho' hall
  rw [e2, f2]
  simpa using this
theorem own_blk {w : World} {base n size : Nat} {v : Value} {e : TypeId} {xs : List Value} (h : w.ownsRow base e size v n xs) {k : Nat} (hk : v.ownBlock = some k) : ∃ cur, w.heap[k]? = some (.cells cur e (0, 0)) := by
 rcases h.2 with ⟨rfl, _⟩ | ⟨g, cap, cur, rfl, hge, hh, _⟩
 ·simp [Value.ownBlock] at hk
 ·have : g = k := by simpa [Value.ownBlock] using hk
  subst this
  exact ⟨cur, hh⟩
theorem own_far {w : World} {base n size g : Nat} {v : Value} {e T : TypeId} {xs : List Value} {cs : Array Value} {fr : Nat × Nat} (h : w.ownsRow base e size v n xs) (hg : w.heap[g]? = some (.cells cs T fr)) (hT : ¬ T = e) : ¬ v.ownBlock = some g := fun hk => by
 obtain ⟨cur, hh⟩ := own_blk h hk
 rw [hg] at hh
 injection hh with hh
 injection hh with _ ht _
 exact hT ht
structure Box (lo g : Nat) (T : TypeId) (w : World) (v u : Value) (d : Int) (ps : List Pt) (us : List Value) : Prop where
 box : w.heap[g]? = some (.cells #[v, u, .int .i64 d] T (0, 0))
 row : w.ownsRow lo 93 3 v ps.length (cellsOf ps us)
 len : us.length = ps.length
 low : lo ≤ g
theorem Box.cell0 {lo g : Nat} {T : TypeId} {w : World} {v u : Value} {d : Int} {ps : List Pt} {us : List Value} (h : Box lo g T w v u d ps us) : w.cell? ⟨g, 0, none⟩ = some v := cell_of_row _ _ 0 _ _ _ h.box
theorem Box.cell1 {lo g : Nat} {T : TypeId} {w : World} {v u : Value} {d : Int} {ps : List Pt} {us : List Value} (h : Box lo g T w v u d ps us) : w.cell? ⟨g, 1, none⟩ = some u := cell_of_row _ _ 1 _ _ _ h.box
theorem Box.cell2 {lo g : Nat} {T : TypeId} {w : World} {v u : Value} {d : Int} {ps : List Pt} {us : List Value} (h : Box lo g T w v u d ps us) : w.cell? ⟨g, 2, none⟩ = some (.int .i64 d) := cell_of_row _ _ 2 _ _ _ h.box
theorem Box.free {lo g : Nat} {T : TypeId} {w : World} {v u : Value} {d : Int} {ps : List Pt} {us : List Value} (h : Box lo g T w v u d ps us) (o : Nat) : w.frozen? ⟨g, o, none⟩ = false := by simp [World.frozen?, h.box]
theorem Box.lt {lo g : Nat} {T : TypeId} {w : World} {v u : Value} {d : Int} {ps : List Pt} {us : List Value} (h : Box lo g T w v u d ps us) : g < w.heap.size := lt_of_some h.box
theorem Box.push {lo g gg cap : Nat} {T : TypeId} {w w0 w1 : World} {v u : Value} {d : Int} {ps : List Pt} {us : List Value} {p : Pt} {u' : Value} (h : Box lo g T w v u d ps us) (hT1 : ¬ T = 3) (hT2 : ¬ T = 93)
  (ha : Apart lo w.heap.size w (ps ++ [p]) (us ++ [u'])) (h0 : Below w.heap.size w w0) 
  (hown : w1.ownsRow lo 93 3 (.slice (some ⟨gg, 0, none⟩) (ps.length + 1) cap) (ps.length + 1) (cellsOf ps us ++ [.int .i64 p.kind, .int .i64 p.n, u']))
  (hgrow : w0.grownBy w1 v.ownBlock) :
  Box lo g T (w1.setCell ⟨g, 0, none⟩ (.slice (some ⟨gg, 0, none⟩) (ps.length + 1) cap)) (.slice (some ⟨gg, 0, none⟩) (ps.length + 1) cap) u d (ps ++ [p]) (us ++ [u']) ∧
  Apart lo (w1.setCell ⟨g, 0, none⟩ (.slice (some ⟨gg, 0, none⟩) (ps.length + 1) cap)).heap.size (w1.setCell ⟨g, 0, none⟩ (.slice (some ⟨gg, 0, none⟩) (ps.length + 1) cap)) (ps ++ [p]) (us ++ [u']) ∧
  Below lo w (w1.setCell ⟨g, 0, none⟩ (.slice (some ⟨gg, 0, none⟩) (ps.length + 1) cap)) := by
 have hlt := h.lt
 have hsz : w.heap.size ≤ w1.heap.size := Nat.le_trans h0.size hgrow.size
 have hold : ∀ k, k < w.heap.size → ¬ v.ownBlock = some k → w1.heap[k]? = w.heap[k]? := fun k hk hne => by
  rw [hgrow.block k (Nat.lt_of_lt_of_le hk h0.size) (fun e => hne e.symm), h0.block k hk]
 have hg1 : w1.heap[g]? = some (.cells #[v, u, .int .i64 d] T (0, 0)) := by rw [hold g hlt (own_far h.row h.box hT2)]; exact h.box
 have hgg : ¬ (Value.slice (some ⟨gg, 0, none⟩) (ps.length + 1) cap).ownBlock = some g := own_far hown hg1 hT2
 refine ⟨⟨?_, ?_, by simp [h.len], h.low⟩, ?_, ?_⟩
 ·rw [heap_setCell_same _ _ _ _ _ _ hg1]; rfl
 ·rw [cellsOf_snoc _ _ _ _ h.len]
  have := ownsRow_setCell_other hown (a := ⟨g, 0, none⟩) hgg (.slice (some ⟨gg, 0, none⟩) (ps.length + 1) cap)
  simpa using this
 ·refine ha.keep (by simp; exact hsz) (fun i x k hx hk1 hk2 => ?_)
  obtain ⟨q, hq⟩ := idx_some (l := ps ++ [p]) (i := i) (by rw [← ha.1]; exact idx_lt hx)
  have hox := (ha.2.1 i q x hq hx).1
  have hkg : ¬ k = g := fun e => own_far hox h.box hT1 (by rw [hk1, e])
  rw [Below.heap_setCell _ _ _ _ hkg, hold k hk2]
  intro hv
  obtain ⟨c1, e1⟩ := own_blk hox hk1
  obtain ⟨c2, e2⟩ := own_blk h.row hv
  rw [e1] at e2
  injection e2 with e2
  injection e2 with _ ht _
  exact absurd ht (by decide)
 ·refine Below.setCell ?_ h.low _
  have hb : Below lo w w0 := h0.mono (Nat.le_trans h.low (Nat.le_of_lt hlt))
  exact hb.grown hgrow (Nat.le_trans (Nat.le_trans h.low (Nat.le_of_lt hlt)) h0.size) (fun k hk => own_ge h.row k hk)
def encInts (zs : List Int) : Dat := .rows 3 1 (zs.map fun z => [.int z])
def encPt (p : Pt) : List Dat := [.int p.kind, .int p.n, encInts p.signs]
def encPs (ps : List Pt) : Dat := .rows 93 3 (ps.map encPt)
theorem ints_rd {w : World} {B : Nat} {v : Value} {zs : List Int} (h : RdC w B (encInts zs) v) : ∃ A c, v = .slice A zs.length c ∧ Row (Value.int .i64) w B A zs ∧ zs.length ≤ c := by
 obtain ⟨A, c, hv, hc, h⟩ := h
 refine ⟨A, c, by simpa using hv, fun hn => ?_, by simpa using hc⟩
 obtain ⟨ad, hA, hb, _, hr⟩ := h (by simpa using hn)
 refine ⟨ad, hA, hb, fun k z hz => ?_⟩
 have := hr.at_ (i := k) (r := [.int z]) (by rw [List.getElem?_map, hz]; rfl)
 obtain ⟨⟨v, hv, rfl⟩, _⟩ := this
 rwa [Nat.zero_add, Nat.mul_one] at hv
theorem parts_rd {w : World} {B : Nat} {v : Value} {ps : List Pt} (h : RdC w B (encPs ps) v) : ∃ A c, v = .slice A ps.length c ∧ PRow w B A ps ∧ ps.length ≤ c := by
 obtain ⟨A, c, hv, hc, h⟩ := h
 refine ⟨A, c, by simpa using hv, fun hn => ?_, by simpa using hc⟩
 obtain ⟨ad, hA, hb, hs, hr⟩ := h (by simpa using hn)
 obtain ⟨b, off, spot⟩ := ad
 obtain rfl : spot = none := by
  rcases hs with hs | hs
  ·cases hs
  ·exact hs
 refine ⟨b, off, hA, hb, fun i p hp => ?_⟩
 have := hr.at_ (i := i) (r := encPt p) (by rw [List.getElem?_map, hp]; rfl)
 obtain ⟨⟨v0, h0, rfl⟩, ⟨v1, h1, rfl⟩, ⟨v2, h2, r2⟩, _⟩ := this
 obtain ⟨A', c', rfl, r3, _⟩ := ints_rd r2
 rw [add_at] at h0 h1 h2
 refine ⟨?_, ?_, A', c', ?_, r3⟩
 ·simpa using h0
 ·simpa [Nat.add_assoc] using h1
 ·simpa [Nat.add_assoc] using h2
theorem owR_ints {w : World} : ∀ {zs : List Int} {xs : List Value} {cs : List Nat}, OwR w 1 (zs.map fun z => [Dat.int z]) xs cs → xs = zs.map (Value.int .i64) ∧ cs = []
 | [], xs, cs, h => by obtain ⟨h1, h2⟩ := h; exact ⟨h1, h2⟩
 | z :: zs, xs, cs, h => by
  obtain ⟨y, ys, b, b', hx, hl, hb, ⟨x, xs', c, c', e1, e2, ⟨e3, e4⟩, e5, e6⟩, h2⟩ := h
  obtain ⟨k1, k2⟩ := owR_ints h2
  subst e1; subst e2; subst e3; subst e4; subst e5; subst e6
  refine ⟨by rw [hx, k1]; rfl, by rw [hb, k2]; rfl⟩
theorem ints_owR (w : World) : ∀ zs : List Int, OwR w 1 (zs.map fun z => [Dat.int z]) (zs.map (Value.int .i64)) []
 | [] => ⟨rfl, rfl⟩
 | z :: zs => ⟨[.int .i64 z], zs.map (Value.int .i64), [], [], rfl, rfl, rfl, ⟨_, [], [], [], rfl, rfl, ⟨rfl, rfl⟩, rfl, rfl⟩, ints_owR w zs⟩
theorem ow_ints {w : World} {base : Nat} {v : Value} {zs : List Int} (h : w.ownsRow base 3 1 v zs.length (zs.map (Value.int .i64))) : OwC w (encInts zs) v v.ownBlock.toList :=
 ⟨zs.map (Value.int .i64), [], by simpa using own_lower h (Nat.zero_le base), ints_owR w zs, by simp⟩
theorem ints_ow {w : World} {v : Value} {zs : List Int} {bs : List Nat} (h : OwC w (encInts zs) v bs) : w.ownsRow 0 3 1 v zs.length (zs.map (Value.int .i64)) ∧ bs = v.ownBlock.toList := by
 obtain ⟨xs, cs, ho, hr, hb⟩ := h
 obtain ⟨rfl, rfl⟩ := owR_ints hr
 exact ⟨by simpa using ho, by simpa using hb⟩
def blksOf (us : List Value) : List Nat := us.flatMap fun u => u.ownBlock.toList
theorem mem_blks {us : List Value} {k : Nat} : k ∈ blksOf us ↔ ∃ (i : Nat) (u : Value), us[i]? = some u ∧ u.ownBlock = some k := by
 unfold blksOf
 rw [List.mem_flatMap]
 constructor
 ·rintro ⟨u, hu, hk⟩
  obtain ⟨i, hi⟩ := List.getElem?_of_mem hu
  exact ⟨i, u, hi, by simpa using hk⟩
 ·rintro ⟨i, u, hu, hk⟩
  exact ⟨u, List.mem_of_getElem? hu, by simpa using hk⟩
theorem nodup_blks : ∀ {us : List Value}, (∀ (i j k : Nat) (u v : Value), us[i]? = some u → us[j]? = some v → u.ownBlock = some k → v.ownBlock = some k → i = j) → (blksOf us).Nodup
 | [], _ => by simp [blksOf]
 | u :: us, h => by
  have ih : (blksOf us).Nodup := nodup_blks (fun i j k a b ha hb ka kb => by
   have := h (i + 1) (j + 1) k a b (by simpa using ha) (by simpa using hb) ka kb
   omega)
  show (u.ownBlock.toList ++ blksOf us).Nodup
  rw [List.nodup_append]
  refine ⟨by cases u.ownBlock <;> simp, ih, fun a ha b hb e => ?_⟩
  subst e
  obtain ⟨i, v, hv, hk⟩ := mem_blks.1 hb
  have := h 0 (i + 1) a u v rfl (by simpa using hv) (by simpa using ha) hk
  omega
theorem parts_owR {w : World} : ∀ {ps : List Pt} {us : List Value}, us.length = ps.length → (∀ (i : Nat) (p : Pt) (u : Value), ps[i]? = some p → us[i]? = some u → OwC w (encInts p.signs) u u.ownBlock.toList) → OwR w 3 (ps.map encPt) (cellsOf ps us) (blksOf us)
 | [], [], _, _ => ⟨rfl, rfl⟩
 | [], _ :: _, h, _ => by simp at h
 | _ :: _, [], h, _ => by simp at h
 | p :: ps, u :: us, hl, h => by
  refine ⟨[.int .i64 p.kind, .int .i64 p.n, u], cellsOf ps us, u.ownBlock.toList, blksOf us, rfl, rfl, rfl, ?_, parts_owR (by simpa using hl) (fun i q v hq hv => h (i + 1) q v (by simpa using hq) (by simpa using hv))⟩
  exact ⟨_, _, [], u.ownBlock.toList, rfl, rfl, ⟨rfl, rfl⟩, _, _, [], u.ownBlock.toList, rfl, rfl, ⟨rfl, rfl⟩, u, [], u.ownBlock.toList, [], rfl, by simp, h 0 p u rfl rfl, rfl, rfl⟩
theorem owR_parts {w : World} : ∀ {ps : List Pt} {xs : List Value} {cs : List Nat}, OwR w 3 (ps.map encPt) xs cs → ∃ us : List Value, us.length = ps.length ∧ xs = cellsOf ps us ∧ cs = blksOf us ∧ ∀ (i : Nat) (p : Pt) (u : Value), ps[i]? = some p → us[i]? = some u → OwC w (encInts p.signs) u u.ownBlock.toList
 | [], xs, cs, h => by obtain ⟨h1, h2⟩ := h; exact ⟨[], rfl, h1, h2, fun i p u hp => by simp at hp⟩
 | p :: ps, xs, cs, h => by
  obtain ⟨y, ys, b, b', hx, hl, hb, ⟨x0, r0, c0, d0, a1, a2, ⟨a3, a4⟩, x1, r1, c1, d1, a5, a6, ⟨a7, a8⟩, x2, r2, c2, d2, a9, a10, a11, a12, a13⟩, h2⟩ := h
  obtain ⟨us, k1, k2, k3, k4⟩ := owR_parts h2
  have hbs := (ints_ow a11).2
  subst a13; subst a12; subst a10; subst a9; subst a8; subst a7; subst a6; subst a5; subst a4; subst a3; subst a2; subst a1; subst hbs
  refine ⟨x2 :: us, by simp [k1], by rw [hx, k2]; rfl, by rw [hb, k3]; simp [blksOf], fun i q u hq hu => ?_⟩
  cases i with
  | zero =>
   simp at hq hu
   subst hq; subst hu
   exact a11
  | succ i => exact k4 i q u (by simpa using hq) (by simpa using hu)
theorem own_parts {lo hi : Nat} {w : World} {v : Value} {ps : List Pt} (h : PBuf lo hi w v ps) : Own lo hi w (encPs ps) v := by
 obtain ⟨us, ho, ⟨hl, hu, hap⟩, hv, hh, hlo⟩ := h
 refine ⟨v.ownBlock.toList ++ blksOf us, ⟨cellsOf ps us, blksOf us, by simpa using own_lower ho (Nat.zero_le lo), parts_owR hl (fun i p u hp hu' => ow_ints (hu i p u hp hu').1), rfl⟩, ?_, fun b hb => ?_, hh, hlo⟩
 ·rw [List.nodup_append]
  refine ⟨by cases v.ownBlock <;> simp, nodup_blks hap, fun a ha b hb e => ?_⟩
  subst e
  obtain ⟨i, u, hui, hk⟩ := mem_blks.1 hb
  obtain ⟨p, hp⟩ := idx_some (l := ps) (i := i) (by rw [← hl]; exact idx_lt hui)
  obtain ⟨c1, e1⟩ := own_blk (hu i p u hp hui).1 hk
  exact own_far ho e1 (by decide) (by simpa using ha)
 ·rcases List.mem_append.1 hb with hb | hb
  ·have : v.ownBlock = some b := by simpa using hb
   exact ⟨own_ge ho b this, hv b this⟩
  ·obtain ⟨i, u, hui, hk⟩ := mem_blks.1 hb
   obtain ⟨p, hp⟩ := idx_some (l := ps) (i := i) (by rw [← hl]; exact idx_lt hui)
   obtain ⟨o1, o2⟩ := hu i p u hp hui
   exact ⟨own_ge o1 b hk, o2 b hk⟩
theorem OwC.cases {w : World} {e : TypeId} {sz : Nat} {ds : List (List Dat)} {v : Value} {bs : List Nat} (h : OwC w (.rows e sz ds) v bs) : (v = .slice none 0 0 ∧ ds = [] ∧ bs = []) ∨ ∃ g cap, v = .slice (some ⟨g, 0, none⟩) ds.length cap := by
 obtain ⟨xs, cs, ho, hr, hb⟩ := h
 rcases ho.2 with ⟨rfl, h0⟩ | ⟨g, cap, cur, rfl, _⟩
 ·have : ds = [] := List.eq_nil_of_length_eq_zero h0
  subst this
  obtain ⟨_, rfl⟩ := hr
  exact .inl ⟨rfl, rfl, by rw [hb]; rfl⟩
 ·exact .inr ⟨g, cap, rfl⟩
theorem OwC.head {w : World} {e : TypeId} {sz g n cap : Nat} {ds : List (List Dat)} {bs : List Nat} (h : OwC w (.rows e sz ds) (.slice (some ⟨g, 0, none⟩) n cap) bs) : g ∈ bs := by
 obtain ⟨rfl, xs, cs, ho, hor, rfl⟩ := h.open_
 simp
theorem OwC.put {w : World} {e : TypeId} {sz g n cap i : Nat} {ds : List (List Dat)} {bs : List Nat} {r : List Dat} (h : OwC w (.rows e sz (ds.set i r)) (.slice (some ⟨g, 0, none⟩) n cap) bs) (hnd : bs.Nodup) (hi : i < ds.length) (j : Nat) {d : Dat} (hd : r[j]? = some d) {x : Value} (hf : d.flat = some x)
  {d' : Dat} {x' : Value} (hf' : d'.flat = some x') : OwC (w.setCell ⟨g, i * sz + j, none⟩ x') (.rows e sz (ds.set i (r.set j d'))) (.slice (some ⟨g, 0, none⟩) n cap) bs := by
 obtain ⟨_, u, c, h1, h2, _, _, _, h3⟩ := h.cell (i := i) (r := r) (by rw [List.getElem?_set_self hi]) hd
 have := h3 hnd d' x' (by rw [hf, (h2.flat hf).1]) hf'
 rwa [List.set_set] at this
def encPss (l : List (List Pt)) : Dat := .rows 30 1 (l.map fun ps => [encPs ps])
def bulk (l : List (List Pt)) : Nat := (l.map fun ps => ps.length + signsIn ps).sum
theorem bulk_at {l : List (List Pt)} {k : Nat} {ps : List Pt} (h : l[k]? = some ps) : ps.length + signsIn ps ≤ bulk l := by
 have hm := List.mem_of_getElem? h
 clear h
 unfold bulk
 induction l with
 | nil => cases hm
 | cons q r ih =>
  rw [List.map_cons, List.sum_cons]
  rcases List.mem_cons.1 hm with rfl | hm
  ·omega
  ·have := ih hm; omega
structure OwB (lo hi : Nat) (w : World) (d : Dat) (v : Value) (b : List Nat) : Prop where
 ow : OwC w d v b
 nd : b.Nodup
 rng : ∀ x ∈ b, lo ≤ x ∧ x < hi
 top : hi ≤ w.heap.size
 le : lo ≤ hi
theorem Own.blocks {lo hi : Nat} {w : World} {d : Dat} {v : Value} (h : Own lo hi w d v) : ∃ b, OwB lo hi w d v b := by
 obtain ⟨b, h1, h2, h3, h4, h5⟩ := h
 exact ⟨b, h1, h2, h3, h4, h5⟩
theorem OwB.past {lo hi : Nat} {w w' : World} {d : Dat} {v : Value} {b : List Nat} (h : OwB lo hi w d v b) (hb : Below w.heap.size w w') : OwB lo hi w' d v b :=
 ⟨OwC.keep d v b h.ow (fun x hx => hb.block x (OwC.lt d v b h.ow x hx)), h.nd, h.rng, Nat.le_trans h.top hb.size, h.le⟩
theorem OwB.touch {lo hi : Nat} {w w' : World} {d : Dat} {v : Value} {b : List Nat} {T : Nat → Prop} (h : OwB lo hi w d v b) (ht : Touch T w w') (hn : ∀ x ∈ b, ¬ T x) : OwB lo hi w' d v b :=
 ⟨OwC.keep d v b h.ow (fun x hx => ht.block x (hn x hx)), h.nd, h.rng, by rw [ht.size]; exact h.top, h.le⟩
theorem OwB.apart {lo hi lo' hi' : Nat} {w w' : World} {d d' : Dat} {v v' : Value} {b b' : List Nat} {w0 : World} (h : OwB lo hi w d v b) (h' : OwB lo' hi' w0 d' v' b') (ht : Touch (fun x => x ∈ b') w w') (hd : hi ≤ lo' ∨ hi' ≤ lo) : OwB lo hi w' d v b :=
 h.touch ht (fun x hx hx' => by have := h.rng x hx; have := h'.rng x hx'; omega)
theorem OwB.read {lo hi : Nat} {w : World} {d : Dat} {v : Value} {b : List Nat} (h : OwB lo hi w d v b) : RdC w w.heap.size d v := OwC.read d v b h.ow (fun x hx => OwC.lt d v b h.ow x hx)
def SmI (zs : List Int) : Prop := zs.length ≤ 1048576
def SmP (ps : List Pt) : Prop := ps.length ≤ 1048576 ∧ signsIn ps ≤ 1048576
def SmPP (l : List (List Pt)) : Prop := l.length ≤ 1048576 ∧ bulk l ≤ 1048576
theorem SmP.all {ps : List Pt} (h : SmP ps) : ∀ p ∈ ps, p.signs.length ≤ 1048576 := fun p hp => by
 obtain ⟨i, hi⟩ := List.getElem?_of_mem hp
 exact Nat.le_trans (signsIn_at hi) h.2
theorem SmPP.all {l : List (List Pt)} (h : SmPP l) : ∀ ps ∈ l, SmP ps := fun ps hp => by
 obtain ⟨i, hi⟩ := List.getElem?_of_mem hp
 have := bulk_at hi
 have := h.2
 exact ⟨by omega, by omega⟩
def SmQ (l : List (List Pt)) : Prop := l.length ≤ 1048576 ∧ ∀ ps ∈ l, SmP ps
theorem SmQ.bulk : ∀ {l : List (List Pt)}, (∀ ps ∈ l, SmP ps) → low.bulk l ≤ 2097152 * l.length
 | [], _ => by simp [low.bulk]
 | ps :: l, h => by
  have i := SmQ.bulk (l := l) (fun q hq => h q (by simp [hq]))
  have b := h ps (by simp)
  have b1 := b.1
  have b2 := b.2
  have e : low.bulk (ps :: l) = (ps.length + signsIn ps) + low.bulk l := by simp [low.bulk]
  rw [e, List.length_cons]
  omega
def ResB (d : Dat) (ok : Bool) (w : World) (e : Ending) (w' : World) : Prop := ∃ v, e = .returned (.tuple #[v, .bool ok]) ∧ Own w.heap.size w'.heap.size w' d v ∧ Below w.heap.size w w'
theorem sliceI {w : World} {B : Nat} {zs : List Int} {v : Value} (h : RdC w B (encInts zs) v) : ∃ A c, v = .slice A zs.length c := by obtain ⟨A, c, e, _⟩ := ints_rd h; exact ⟨A, c, e⟩
theorem sliceP {w : World} {B : Nat} {ps : List Pt} {v : Value} (h : RdC w B (encPs ps) v) : ∃ A c, v = .slice A ps.length c := by obtain ⟨A, c, e, _⟩ := parts_rd h; exact ⟨A, c, e⟩
theorem free_grown {w w0 w1 : World} {g o : Nat} {cs : Array Value} {T : TypeId} {r : Option Nat} (hg : w.heap[g]? = some (.cells cs T (0, 0))) (h0 : Below w.heap.size w w0) (hgrow : w0.grownBy w1 r) (hne : ¬ r = some g) : w1.frozen? ⟨g, o, none⟩ = false := by
 have hlt := lt_of_some hg
 have : w1.heap[g]? = some (.cells cs T (0, 0)) := by rw [hgrow.block g (Nat.lt_of_lt_of_le hlt h0.size) (fun e => hne e.symm), h0.block g hlt]; exact hg
 simp [World.frozen?, this]
theorem below_made (w : World) (o : Obj) : Below w.heap.size w (w.alloc o).drew := ((Below.refl _ _).alloc (Nat.le_refl _) o).drew
theorem cell_grown {w w0 w1 : World} {g : Nat} {cs : Array Value} {T : TypeId} {r : Option Nat} (o : Nat) (hg : w.heap[g]? = some (.cells cs T (0, 0))) (h0 : Below w.heap.size w w0) (hgrow : w0.grownBy w1 r) (hne : ¬ r = some g) : w1.cell? ⟨g, o, none⟩ = cs[o]? := by
 have hlt := lt_of_some hg
 have : w1.heap[g]? = some (.cells cs T (0, 0)) := by rw [hgrow.block g (Nat.lt_of_lt_of_le hlt h0.size) (fun e => hne e.symm), h0.block g hlt]; exact hg
 exact cell_of_row _ _ o _ _ _ this
theorem Box.drew {lo g : Nat} {T : TypeId} {w : World} {v u : Value} {d : Int} {ps : List Pt} {us : List Value} (h : Box lo g T w v u d ps us) : Box lo g T w.drew v u d ps us := ⟨h.box, h.row.drew, h.len, h.low⟩
theorem Apart.drew {lo hi : Nat} {w : World} {ps : List Pt} {us : List Value} (h : Apart lo hi w ps us) : Apart lo hi w.drew ps us := h.keep (Nat.le_refl _) (fun _ _ _ _ _ _ => rfl)
theorem Apart.drewS {lo : Nat} {w : World} {ps : List Pt} {us : List Value} (h : Apart lo w.heap.size w ps us) : Apart lo w.drew.heap.size w.drew ps us := h.drew
def putL (put : List Int) : List Pt := if put.length = 0 then [] else [⟨2, 0, put⟩]
def dropL (d : Int) : List Pt := if 0 < d then [⟨3, d, []⟩] else []
def BAt (lo g : Nat) (T : TypeId) (w : World) (ps : List Pt) (put : List Int) (d : Int) : Prop :=
 ∃ v u us, Box lo g T w v u d ps us ∧ Apart lo w.heap.size w (ps ++ [⟨2, 0, put⟩]) (us ++ [u])
def Built (lo g : Nat) (T : TypeId) (w : World) (ps : List Pt) (put : List Int) (d : Int) (e : Ending) (w' : World) : Prop := e = .returned (.tuple #[]) ∧ BAt lo g T w' ps put d ∧ Below lo w w'
theorem Apart.init {lo hi : Nat} {w : World} {ps : List Pt} {us : List Value} {p : Pt} {u : Value} (h : Apart lo hi w (ps ++ [p]) (us ++ [u])) (hl : us.length = ps.length) : Apart lo hi w ps us := by
 obtain ⟨h1, h2, h3⟩ := h
 refine ⟨hl, fun i q x hq hx => h2 i q x ?_ ?_, fun i j k a b ha hb => h3 i j k a b ?_ ?_⟩
 ·rw [List.getElem?_append_left (idx_lt hq)]; exact hq
 ·rw [List.getElem?_append_left (idx_lt hx)]; exact hx
 ·rw [List.getElem?_append_left (idx_lt ha)]; exact ha
 ·rw [List.getElem?_append_left (idx_lt hb)]; exact hb
theorem Apart.last {lo hi : Nat} {w : World} {ps : List Pt} {us : List Value} {p : Pt} {u : Value} (h : Apart lo hi w (ps ++ [p]) (us ++ [u])) (hl : us.length = ps.length) : w.ownsRow lo 3 1 u p.signs.length (p.signs.map (Value.int .i64)) := by
 have := (h.2.1 ps.length p u (by simp) (by rw [← hl]; simp)).1
 exact this
theorem Apart.bare {lo hi : Nat} {w : World} {ps : List Pt} {us : List Value} (k n : Int) (h : Apart lo hi w ps us) : Apart lo hi w (ps ++ [⟨k, n, []⟩]) (us ++ [.slice none 0 0]) :=
 h.snoc (World.ownsRow_nil _ _ _ _) (fun k hk => by simp [Value.ownBlock] at hk) (fun i v k _ _ he => by simp [Value.ownBlock] at he)
def BNil (lo g : Nat) (T : TypeId) (w : World) (ps : List Pt) : Prop := ∃ v us, Box lo g T w v (.slice none 0 0) 0 ps us ∧ Apart lo w.heap.size w ps us
theorem BNil.at_ {lo g : Nat} {T : TypeId} {w : World} {ps : List Pt} (h : BNil lo g T w ps) : BAt lo g T w ps [] 0 := by
 obtain ⟨v, us, hx, ha⟩ := h
 exact ⟨v, _, us, hx, Apart.bare 2 0 ha⟩
def Flushed (lo g : Nat) (T : TypeId) (w : World) (ps : List Pt) (e : Ending) (w' : World) : Prop := e = .returned (.tuple #[]) ∧ BNil lo g T w' ps ∧ Below lo w w'
theorem Box.clear {lo g : Nat} {T : TypeId} {w : World} {v u : Value} {d : Int} {ps : List Pt} {us : List Value} (h : Box lo g T w v u d ps us) (hT1 : ¬ T = 3) (hT2 : ¬ T = 93) (ha : Apart lo w.heap.size w ps us) :
  BNil lo g T ((w.setCell ⟨g, 1, none⟩ (.slice none 0 0)).setCell ⟨g, 2, none⟩ (.int .i64 0)) ps ∧ Below lo w ((w.setCell ⟨g, 1, none⟩ (.slice none 0 0)).setCell ⟨g, 2, none⟩ (.int .i64 0)) := by
 refine ⟨⟨v, us, ⟨?_, ?_, h.len, h.low⟩, ?_⟩, ((Below.refl _ _).setCell h.low _).setCell h.low _⟩
 ·rw [heap_setCell_same _ _ _ _ _ _ (heap_setCell_same _ _ _ _ _ _ h.box)]; rfl
 ·exact ownsRow_setCell_other (ownsRow_setCell_other h.row (own_far h.row h.box hT2) _) (own_far h.row h.box hT2) _
 ·refine ha.keep (by simp) (fun i x k hx hk1 hk2 => ?_)
  obtain ⟨q, hq⟩ := idx_some (l := ps) (i := i) (by rw [← ha.1]; exact idx_lt hx)
  have hkg : ¬ k = g := fun e => own_far (ha.2.1 i q x hq hx).1 h.box hT1 (by rw [hk1, e])
  rw [Below.heap_setCell _ _ _ _ hkg, Below.heap_setCell _ _ _ _ hkg]
def OwnS (S : Nat → Prop) (g : Nat) (v : Value) (us : List Value) : Prop := S g ∧ (∀ k, v.ownBlock = some k → S k) ∧ ∀ (i k : Nat) (x : Value), us[i]? = some x → x.ownBlock = some k → S k
structure Fr (S : Nat → Prop) (w w' : World) : Prop where
 size : w.heap.size ≤ w'.heap.size
 block : ∀ b, b < w.heap.size → ¬ S b → w'.heap[b]? = w.heap[b]?
theorem Fr.refl (S : Nat → Prop) (w : World) : Fr S w w := ⟨Nat.le_refl _, fun _ _ _ => rfl⟩
theorem Fr.trans {S : Nat → Prop} {a b c : World} (h : Fr S a b) (k : Fr S b c) : Fr S a c := ⟨Nat.le_trans h.size k.size, fun i hi hs => (k.block i (Nat.lt_of_lt_of_le hi h.size) hs).trans (h.block i hi hs)⟩
theorem Fr.setCell {S : Nat → Prop} {a w : World} (h : Fr S a w) {p : Addr} (hp : S p.block) (u : Value) : Fr S a (w.setCell p u) :=
 h.trans ⟨by simp [World.setCell], fun b _ hb => Below.heap_setCell _ _ _ _ (fun e => hb (by rw [e]; exact hp))⟩
theorem Fr.drew {S : Nat → Prop} {a w : World} (h : Fr S a w) : Fr S a w.drew := h.trans ⟨Nat.le_refl _, fun _ _ _ => rfl⟩
theorem Fr.below {S : Nat → Prop} {w w' : World} (h : Below w.heap.size w w') : Fr S w w' := ⟨h.size, fun b hb _ => h.block b hb⟩
theorem Fr.grown {S : Nat → Prop} {a w w' : World} {r : Option Nat} (h : Fr S a w) (hg : w.grownBy w' r) (hr : ∀ k, r = some k → S k) : Fr S a w' :=
 h.trans ⟨hg.size, fun b hb hs => hg.block b hb (fun e => hs (hr b e.symm))⟩
theorem OwnS.push {S : Nat → Prop} {g gg cap n H : Nat} {v u' : Value} {us : List Value} (h : OwnS S g v us) (hu : ∀ k, u'.ownBlock = some k → S k) (hat : v.ownBlock = some gg ∨ gg = H) (hH : S H) : OwnS S g (.slice (some ⟨gg, 0, none⟩) n cap) (us ++ [u']) := by
 refine ⟨h.1, fun k hk => ?_, fun i k x hx hk => ?_⟩
 ·have e : gg = k := by simpa [Value.ownBlock] using hk
  subst e
  rcases hat with e | e
  ·exact h.2.1 _ e
  ·rw [e]; exact hH
 ·by_cases hi : i < us.length
  ·rw [List.getElem?_append_left hi] at hx
   exact h.2.2 i k x hx hk
  ·rw [List.getElem?_append_right (by omega)] at hx
   have hx' : i - us.length = 0 := by
    have := idx_lt hx
    simp at this
    omega
   rw [hx'] at hx
   simp at hx
   subst hx
   exact hu k hk
theorem OwnS.init {S : Nat → Prop} {g : Nat} {v u : Value} {us : List Value} (h : OwnS S g v (us ++ [u])) : OwnS S g v us := ⟨h.1, h.2.1, fun i k x hx hk => h.2.2 i k x (by rw [List.getElem?_append_left (idx_lt hx)]; exact hx) hk⟩
theorem OwnS.last {S : Nat → Prop} {g : Nat} {v u : Value} {us : List Value} (h : OwnS S g v (us ++ [u])) : ∀ k, u.ownBlock = some k → S k := fun k hk => h.2.2 us.length k u (by simp) hk
theorem nil_own {S : Nat → Prop} : ∀ k, (Value.slice none 0 0).ownBlock = some k → S k := fun k hk => by simp [Value.ownBlock] at hk
theorem push_fr {S : Nat → Prop} {g : Nat} {v : Value} {us : List Value} {w w0 w1 : World} (h : OwnS S g v us) (h0 : Below w.heap.size w w0) (hg : w0.grownBy w1 v.ownBlock) (x : Value) : Fr S w (w1.setCell ⟨g, 0, none⟩ x) :=
 ((Fr.below h0).grown hg (fun k hk => h.2.1 k hk)).setCell h.1 x
def BAtS (S : Nat → Prop) (lo g : Nat) (T : TypeId) (w : World) (ps : List Pt) (put : List Int) (d : Int) : Prop :=
 ∃ v u us, Box lo g T w v u d ps us ∧ Apart lo w.heap.size w (ps ++ [⟨2, 0, put⟩]) (us ++ [u]) ∧ OwnS S g v (us ++ [u])
def BNilS (S : Nat → Prop) (lo g : Nat) (T : TypeId) (w : World) (ps : List Pt) : Prop := ∃ v us, Box lo g T w v (.slice none 0 0) 0 ps us ∧ Apart lo w.heap.size w ps us ∧ OwnS S g v us
def FlushedS (S : Nat → Prop) (lo g : Nat) (T : TypeId) (w : World) (ps : List Pt) (e : Ending) (w' : World) : Prop := e = .returned (.tuple #[]) ∧ BNilS S lo g T w' ps ∧ Below lo w w' ∧ Fr S w w'
def BuiltS (S : Nat → Prop) (lo g : Nat) (T : TypeId) (w : World) (ps : List Pt) (put : List Int) (d : Int) (e : Ending) (w' : World) : Prop := e = .returned (.tuple #[]) ∧ BAtS S lo g T w' ps put d ∧ Below lo w w' ∧ Fr S w w'
theorem BAt.all {lo g : Nat} {T : TypeId} {w : World} {ps : List Pt} {put : List Int} {d : Int} (h : BAt lo g T w ps put d) : BAtS (fun _ => True) lo g T w ps put d := by
 obtain ⟨v, u, us, hx, ha⟩ := h
 exact ⟨v, u, us, hx, ha, trivial, fun _ _ => trivial, fun _ _ _ _ _ => trivial⟩
theorem BAtS.any {S : Nat → Prop} {lo g : Nat} {T : TypeId} {w : World} {ps : List Pt} {put : List Int} {d : Int} (h : BAtS S lo g T w ps put d) : BAt lo g T w ps put d := by
 obtain ⟨v, u, us, hx, ha, _⟩ := h
 exact ⟨v, u, us, hx, ha⟩
theorem FlushedS.any {S : Nat → Prop} {lo g : Nat} {T : TypeId} {w w' : World} {ps : List Pt} {e : Ending} (h : FlushedS S lo g T w ps e w') : Flushed lo g T w ps e w' := by
 obtain ⟨h1, ⟨v, us, hx, ha, _⟩, b, _⟩ := h
 exact ⟨h1, ⟨v, us, hx, ha⟩, b⟩
theorem BuiltS.any {S : Nat → Prop} {lo g : Nat} {T : TypeId} {w w' : World} {ps : List Pt} {put : List Int} {d : Int} {e : Ending} (h : BuiltS S lo g T w ps put d e w') : Built lo g T w ps put d e w' := ⟨h.1, h.2.1.any, h.2.2.1⟩
theorem BNilS.at_ {S : Nat → Prop} {lo g : Nat} {T : TypeId} {w : World} {ps : List Pt} (h : BNilS S lo g T w ps) : BAtS S lo g T w ps [] 0 := by
 obtain ⟨v, us, hx, ha, ho⟩ := h
 refine ⟨v, _, us, hx, Apart.bare 2 0 ha, ho.1, ho.2.1, fun i k x hxi hk => ?_⟩
 by_cases hi : i < us.length
 ·rw [List.getElem?_append_left hi] at hxi
  exact ho.2.2 i k x hxi hk
 ·rw [List.getElem?_append_right (by omega)] at hxi
  have hx' : i - us.length = 0 := by
   have := idx_lt hxi
   simp at this
   omega
  rw [hx'] at hxi
  simp at hxi
  subst hxi
  simp [Value.ownBlock] at hk
theorem Box.clearS {S : Nat → Prop} {lo g : Nat} {T : TypeId} {w : World} {v u : Value} {d : Int} {ps : List Pt} {us : List Value} (h : Box lo g T w v u d ps us) (hT1 : ¬ T = 3) (hT2 : ¬ T = 93) (ha : Apart lo w.heap.size w ps us) (ho : OwnS S g v us) :
  BNilS S lo g T ((w.setCell ⟨g, 1, none⟩ (.slice none 0 0)).setCell ⟨g, 2, none⟩ (.int .i64 0)) ps ∧ Below lo w ((w.setCell ⟨g, 1, none⟩ (.slice none 0 0)).setCell ⟨g, 2, none⟩ (.int .i64 0)) ∧ Fr S w ((w.setCell ⟨g, 1, none⟩ (.slice none 0 0)).setCell ⟨g, 2, none⟩ (.int .i64 0)) := by
 refine ⟨⟨v, us, ⟨?_, ?_, h.len, h.low⟩, ?_, ho⟩, ((Below.refl _ _).setCell h.low _).setCell h.low _, ((Fr.refl S w).setCell (p := ⟨g, 1, none⟩) ho.1 _).setCell (p := ⟨g, 2, none⟩) ho.1 _⟩
 ·rw [heap_setCell_same _ _ _ _ _ _ (heap_setCell_same _ _ _ _ _ _ h.box)]; rfl
 ·exact ownsRow_setCell_other (ownsRow_setCell_other h.row (own_far h.row h.box hT2) _) (own_far h.row h.box hT2) _
 ·refine ha.keep (by simp) (fun i x k hx hk1 hk2 => ?_)
  obtain ⟨q, hq⟩ := idx_some (l := ps) (i := i) (by rw [← ha.1]; exact idx_lt hx)
  have hkg : ¬ k = g := fun e => own_far (ha.2.1 i q x hq hx).1 h.box hT1 (by rw [hk1, e])
  rw [Below.heap_setCell _ _ _ _ hkg, Below.heap_setCell _ _ _ _ hkg]
theorem specFlush_f (S : Nat → Prop) (lo g : Nat) (ps : List Pt) (put : List Int) (d : Int) (w : World) (hb : BAtS S lo g 104 w ps put d) (hS : ∀ b, w.heap.size ≤ b → S b) (hl : ps.length ≤ 4294967296) (hp : put.length ≤ 4294967296) :
  Calls Try.prog 92 #[.pointer (some ⟨g, 0, none⟩)] w (FlushedS S lo g 104 w (ps ++ putL put ++ dropL d)) := by
 obtain ⟨i0, hi0, hz0, hz1, hz2⟩ := info_parts part_info
 obtain ⟨v, u, us, hx, ha, hos⟩ := hb
 have HS := Lib.hid hS
 have HOS := Lib.hid hos
 clear hS hos
 have ha0 := ha.init hx.len
 obtain ⟨A, c, rfl⟩ := own_form (ha.last hx.len)
 have c0 := hx.cell0
 have c1 := hx.cell1
 have c2 := hx.cell2
 have f0 := hx.free 0
 have f1 := hx.free 1
 have f2 := hx.free 2
 have HX := Lib.hid hx
 have HA := Lib.hid ha
 have HA0 := Lib.hid ha0
 clear hx ha ha0
 by_cases hput : put.length = 0
 ·have e1 : putL put = [] := by simp [putL, hput]
  rw [e1, List.append_nil]
  by_cases hd : 0 < d
  ·have e2 : dropL d = [⟨3, d, []⟩] := by simp [dropL, hd]
   rw [e2]
   go_enter Try.func92, Try.ntmps92
   go_wp2_with fail
   have lg := HX.out.lt
   have hlo : lo ≤ w.heap.size := Nat.le_trans HX.out.low (Nat.le_of_lt lg)
   have hne := own_far HX.out.row HX.out.box (by decide)
   go_region_law ((refine step_append_lies _ (by rfl) (.tmp 31) (.tmp 37) 30 (by rfl) lo 93 i0 _ 3 40 Try.underlying30 hi0 hz0 hz1 hz2 rfl (by omega) v ps.length (cellsOf ps us) (by rfl) ((HX.out.row.alloc _).drew) ⟨w.heap.size, 0, none⟩ 1 1 [.int .i64 3, .int .i64 d, .slice none 0 0] (by rfl) (by rfl) (World.news_of_block (cs := #[.int .i64 3, .int .i64 d, .slice none 0 0]) (t := 93) (fr := (0, 0)) (heap_alloc_new w _)) (by simp [Value.oneCell']) (by omega) (by unfold maxLen; omega) (by omega) (by simp; omega) (w.heap.size + 1) (by simp) ?_; intro gg cap w1 hown1 hgrow hat hlt; have hf := free_grown (o := 0) HX.out.box (below_made w _) hgrow hne; have hf1 := free_grown (o := 1) HX.out.box (below_made w _) hgrow hne; have hf2 := free_grown (o := 2) HX.out.box (below_made w _) hgrow hne; have hc : w1.cell? ⟨g, 0, none⟩ = some v := cell_grown 0 HX.out.box (below_made w _) hgrow hne; have hc1 : w1.cell? ⟨g, 1, none⟩ = some (.slice A put.length c) := cell_grown 1 HX.out.box (below_made w _) hgrow hne; have hc2 : w1.cell? ⟨g, 2, none⟩ = some (.int .i64 d) := cell_grown 2 HX.out.box (below_made w _) hgrow hne))
   all_goals
    obtain ⟨hx2, ha2, b2⟩ := Box.push (p := ⟨3, d, []⟩) HX.out (by decide) (by decide) (Apart.bare 3 d HA0.out) (below_made w _) hown1 hgrow
    have HO2 := Lib.hid (HOS.out.init.push (n := ps.length + 1) (cap := cap) nil_own hat (HS.out _ (by omega)))
    have HR2 := Lib.hid (push_fr HOS.out.init (below_made w _) hgrow (.slice (some ⟨gg, 0, none⟩) (ps.length + 1) cap))
    have HX2 := Lib.hid hx2
    have HA2 := Lib.hid ha2
    have HB2 := Lib.hid b2
    clear hx2 ha2 b2
    go_wp2
    go_end0
    obtain ⟨r1, r2, r3⟩ := HX2.out.clearS (by decide) (by decide) HA2.out HO2.out
    exact ⟨rfl, r1, HB2.out.trans r2, HR2.out.trans r3⟩
  ·have e2 : dropL d = [] := by simp [dropL]; omega
   rw [e2, List.append_nil]
   go_enter Try.func92, Try.ntmps92
   go_wp2_with fail
   go_end0
   obtain ⟨r1, r2, r3⟩ := HX.out.clearS (by decide) (by decide) HA0.out HOS.out.init
   exact ⟨rfl, r1, r2, r3⟩
 ·have hput' : (0 : Int) < (put.length : Int) := by omega
  have e1 : putL put = [⟨2, 0, put⟩] := by simp [putL, hput]
  rw [e1]
  by_cases hd : 0 < d
  ·have e2 : dropL d = [⟨3, d, []⟩] := by simp [dropL, hd]
   rw [e2]
   generalize hQ : ps ++ [⟨2, 0, put⟩] ++ [⟨3, d, []⟩] = Q
   have HQ := Lib.hid hQ
   clear hQ
   go_enter Try.func92, Try.ntmps92
   go_wp2_with fail
   have lg := HX.out.lt
   have hlo : lo ≤ w.heap.size := Nat.le_trans HX.out.low (Nat.le_of_lt lg)
   have hne := own_far HX.out.row HX.out.box (by decide)
   go_region_law ((refine step_append_lies _ (by rfl) (.tmp 12) (.tmp 18) 30 (by rfl) lo 93 i0 _ 3 40 Try.underlying30 hi0 hz0 hz1 hz2 rfl (by omega) v ps.length (cellsOf ps us) (by rfl) ((HX.out.row.alloc _).drew) ⟨w.heap.size, 0, none⟩ 1 1 [.int .i64 2, .int .i64 0, .slice A put.length c] (by rfl) (by rfl) (World.news_of_block (cs := #[.int .i64 2, .int .i64 0, .slice A put.length c]) (t := 93) (fr := (0, 0)) (heap_alloc_new w _)) (by simp [Value.oneCell']) (by omega) (by unfold maxLen; omega) (by omega) (by simp; omega) (w.heap.size + 1) (by simp) ?_; intro gg cap w1 hown1 hgrow hat hlt; have hf := free_grown (o := 0) HX.out.box (below_made w _) hgrow hne; have hf1 := free_grown (o := 1) HX.out.box (below_made w _) hgrow hne; have hf2 := free_grown (o := 2) HX.out.box (below_made w _) hgrow hne; have hc : w1.cell? ⟨g, 0, none⟩ = some v := cell_grown 0 HX.out.box (below_made w _) hgrow hne; have hc1 : w1.cell? ⟨g, 1, none⟩ = some (.slice A put.length c) := cell_grown 1 HX.out.box (below_made w _) hgrow hne; have hc2 : w1.cell? ⟨g, 2, none⟩ = some (.int .i64 d) := cell_grown 2 HX.out.box (below_made w _) hgrow hne))
   all_goals
    obtain ⟨hx1, ha1, b1⟩ := Box.push (p := ⟨2, 0, put⟩) HX.out (by decide) (by decide) HA.out (below_made w _) hown1 hgrow
    have HO1 := Lib.hid (HOS.out.init.push (n := ps.length + 1) (cap := cap) HOS.out.last hat (HS.out _ (by omega)))
    have HR1 := Lib.hid (push_fr HOS.out.init (below_made w _) hgrow (.slice (some ⟨gg, 0, none⟩) (ps.length + 1) cap))
    clear hown1 hgrow hat hlt hlo hne lg c0 c1 c2 f0 f1 f2
    have HX1 := Lib.hid hx1
    have HA1 := Lib.hid ha1
    have HB1 := Lib.hid b1
    clear hx1 ha1 b1
    go_wp2_with fail
    clear hf hf1 hf2 hc hc1 hc2
    generalize (Value.slice (some ⟨gg, 0, none⟩) (ps.length + 1) cap) = v1 at *
    generalize w1.setCell ⟨g, 0, none⟩ v1 = W1 at *
    have c0 := HX1.out.cell0
    have c1 := HX1.out.cell1
    have c2 := HX1.out.cell2
    have f0 := HX1.out.free 0
    have f1 := HX1.out.free 1
    have f2 := HX1.out.free 2
    generalize hps : ps ++ [⟨2, 0, put⟩] = ps1 at *
    have hl1 : ps1.length ≤ 4294967297 := by rw [← hps]; simp; omega
    clear hps
    generalize us ++ [Value.slice A put.length c] = us1 at *
    have lg := HX1.out.lt
    have hlo : lo ≤ W1.heap.size := Nat.le_trans HX1.out.low (Nat.le_of_lt lg)
    have hne := own_far HX1.out.row HX1.out.box (by decide)
    go_region_law ((refine step_append_lies _ (by rfl) (.tmp 31) (.tmp 37) 30 (by rfl) lo 93 i0 _ 3 40 Try.underlying30 hi0 hz0 hz1 hz2 rfl (by omega) v1 ps1.length (cellsOf ps1 us1) (by rfl) ((HX1.out.row.alloc _).drew) ⟨W1.heap.size, 0, none⟩ 1 1 [.int .i64 3, .int .i64 d, .slice none 0 0] (by rfl) (by rfl) (World.news_of_block (cs := #[.int .i64 3, .int .i64 d, .slice none 0 0]) (t := 93) (fr := (0, 0)) (heap_alloc_new W1 _)) (by simp [Value.oneCell']) (by omega) (by unfold maxLen; omega) (by omega) (by simp; omega) (W1.heap.size + 1) (by simp) ?_; intro gg cap w1 hown1 hgrow hat hlt; have hf := free_grown (o := 0) HX1.out.box (below_made W1 _) hgrow hne; have hf1 := free_grown (o := 1) HX1.out.box (below_made W1 _) hgrow hne; have hf2 := free_grown (o := 2) HX1.out.box (below_made W1 _) hgrow hne; have hc : w1.cell? ⟨g, 0, none⟩ = some v1 := cell_grown 0 HX1.out.box (below_made W1 _) hgrow hne; have hc1 : w1.cell? ⟨g, 1, none⟩ = some (.slice A put.length c) := cell_grown 1 HX1.out.box (below_made W1 _) hgrow hne; have hc2 : w1.cell? ⟨g, 2, none⟩ = some (.int .i64 d) := cell_grown 2 HX1.out.box (below_made W1 _) hgrow hne))
    all_goals
     obtain ⟨hx2, ha2, b2⟩ := Box.push (p := ⟨3, d, []⟩) HX1.out (by decide) (by decide) (Apart.bare 3 d HA1.out) (below_made W1 _) hown1 hgrow
     have HO2 := Lib.hid (HO1.out.push (n := ps1.length + 1) (cap := cap) nil_own hat (HS.out _ (by have := HR1.out.size; omega)))
     have HR2 := Lib.hid (push_fr HO1.out (below_made W1 _) hgrow (.slice (some ⟨gg, 0, none⟩) (ps1.length + 1) cap))
     have HX2 := Lib.hid hx2
     have HA2 := Lib.hid ha2
     have HB2 := Lib.hid b2
     clear hx2 ha2 b2
     go_wp2
     go_end0
     obtain ⟨r1, r2, r3⟩ := HX2.out.clearS (by decide) (by decide) HA2.out HO2.out
     exact ⟨rfl, by rw [← HQ.out]; exact r1, HB1.out.trans (HB2.out.trans r2), HR1.out.trans (HR2.out.trans r3)⟩
  ·have e2 : dropL d = [] := by simp [dropL]; omega
   rw [e2, List.append_nil]
   go_enter Try.func92, Try.ntmps92
   go_wp2_with fail
   have lg := HX.out.lt
   have hlo : lo ≤ w.heap.size := Nat.le_trans HX.out.low (Nat.le_of_lt lg)
   have hne := own_far HX.out.row HX.out.box (by decide)
   go_region_law ((refine step_append_lies _ (by rfl) (.tmp 12) (.tmp 18) 30 (by rfl) lo 93 i0 _ 3 40 Try.underlying30 hi0 hz0 hz1 hz2 rfl (by omega) v ps.length (cellsOf ps us) (by rfl) ((HX.out.row.alloc _).drew) ⟨w.heap.size, 0, none⟩ 1 1 [.int .i64 2, .int .i64 0, .slice A put.length c] (by rfl) (by rfl) (World.news_of_block (cs := #[.int .i64 2, .int .i64 0, .slice A put.length c]) (t := 93) (fr := (0, 0)) (heap_alloc_new w _)) (by simp [Value.oneCell']) (by omega) (by unfold maxLen; omega) (by omega) (by simp; omega) (w.heap.size + 1) (by simp) ?_; intro gg cap w1 hown1 hgrow hat hlt; have hf := free_grown (o := 0) HX.out.box (below_made w _) hgrow hne; have hf1 := free_grown (o := 1) HX.out.box (below_made w _) hgrow hne; have hf2 := free_grown (o := 2) HX.out.box (below_made w _) hgrow hne; have hc : w1.cell? ⟨g, 0, none⟩ = some v := cell_grown 0 HX.out.box (below_made w _) hgrow hne; have hc1 : w1.cell? ⟨g, 1, none⟩ = some (.slice A put.length c) := cell_grown 1 HX.out.box (below_made w _) hgrow hne; have hc2 : w1.cell? ⟨g, 2, none⟩ = some (.int .i64 d) := cell_grown 2 HX.out.box (below_made w _) hgrow hne))
   all_goals
    obtain ⟨hx1, ha1, b1⟩ := Box.push (p := ⟨2, 0, put⟩) HX.out (by decide) (by decide) HA.out (below_made w _) hown1 hgrow
    have HO2 := Lib.hid (HOS.out.init.push (n := ps.length + 1) (cap := cap) HOS.out.last hat (HS.out _ (by omega)))
    have HR2 := Lib.hid (push_fr HOS.out.init (below_made w _) hgrow (.slice (some ⟨gg, 0, none⟩) (ps.length + 1) cap))
    have HX2 := Lib.hid hx1
    have HA2 := Lib.hid ha1
    have HB2 := Lib.hid b1
    clear hx1 ha1 b1
    go_wp2
    go_end0
    obtain ⟨r1, r2, r3⟩ := HX2.out.clearS (by decide) (by decide) HA2.out HO2.out
    exact ⟨rfl, r1, HB2.out.trans r2, HR2.out.trans r3⟩
theorem run_append_zero {P : Program} {w : World} (base : Nat) (t ty e : TypeId) (i : TypeInfo) (size : Nat) (ht : P.underlying t = some (.slice e)) (hi : P.info? e = some i)
  (v : Value) (n : Nat) (xs : List Value) (hown : w.ownsRow base e size v n xs) (A : Option Addr) (c : Nat) :
  (Builtin.append_ #[t, t] ty #[v, .slice A 0 c]).run P w = .ok v w := by
 rcases hown.2 with ⟨rfl, rfl⟩ | ⟨g, cap, cur, rfl, _, _, hnc, _⟩
 ·cases A <;> simp [Builtin.append_, run_underlying ht, sizeOf, typeInfo, hi, Builtin.lenOf, Builtin.firstCells, loadCells, loadCellsFrom]
 ·cases A <;> simp [Builtin.append_, run_underlying ht, sizeOf, typeInfo, hi, Builtin.lenOf, Builtin.firstCells, loadCells, loadCellsFrom, hnc, storeCells]
theorem wpList_append_zero {P : Program} {w : World} {ops : Array Oper} {rest : List Oper} {o : Oper} {a : Act} {Q : Exit → Act → World → Prop} (hgd : o.guard = none) (s x : Operand) (t : TypeId)
  (ho : o.op = .call { callee := .builtin .append, args := #[s, x], argTypes := #[t, t] })
  (base : Nat) (e : TypeId) (i : TypeInfo) (size : Nat) (ht : P.underlying t = some (.slice e)) (hi : P.info? e = some i)
  (v : Value) (n : Nat) (xs : List Value) (hs : a.eval s = v) (hown : w.ownsRow base e size v n xs) (A : Option Addr) (c : Nat) (hx : a.eval x = .slice A 0 c)
  (h : wpList P ops Q rest (a.put o.dst v) w) : wpList P ops Q (o :: rest) a w := by
 refine wpList_plain hgd fun K hK => ?_
 have hrun := run_append_zero (P := P) (w := w) base t o.type e i size ht hi v n xs hown A c
 unfold Oper.wp
 simp [execOp, ho, resolve, invoke, builtin, hs, hx, hrun, Result.andThen]
 exact hK _ _ h
theorem Apart.far {lo hi : Nat} {w : World} {ps : List Pt} {us : List Value} {p : Pt} {u : Value} (h : Apart lo hi w (ps ++ [p]) (us ++ [u])) (hl : us.length = ps.length) {i k : Nat} {x : Value} (hx : us[i]? = some x) (hk : x.ownBlock = some k) : ¬ u.ownBlock = some k := fun hu => by
 have := h.2.2 i us.length k x u (by rw [List.getElem?_append_left (idx_lt hx)]; exact hx) (by simp) hk hu
 have := idx_lt hx
 omega
theorem Box.moreS {S : Nat → Prop} {lo g : Nat} {T : TypeId} {w w1 : World} {v u v' : Value} {d : Int} {ps : List Pt} {us : List Value} {put put' : List Int} (h : Box lo g T w v u d ps us) (hT1 : ¬ T = 3) (hT2 : ¬ T = 93)
  (ha : Apart lo w.heap.size w (ps ++ [⟨2, 0, put⟩]) (us ++ [u])) (hown : w1.ownsRow lo 3 1 v' put'.length (put'.map (Value.int .i64))) (hgrow : w.grownBy w1 u.ownBlock) (hat : v'.ownBlock = u.ownBlock ∨ v'.ownBlock = some w.heap.size) (hos : OwnS S g v (us ++ [u])) (hS : S w.heap.size) :
  BAtS S lo g T (w1.setCell ⟨g, 1, none⟩ v') ps put' d ∧ Below lo w (w1.setCell ⟨g, 1, none⟩ v') ∧ Fr S w (w1.setCell ⟨g, 1, none⟩ v') := by
 have hlt := h.lt
 have hu := ha.last h.len
 have ha0 := ha.init h.len
 have hold : ∀ k, k < w.heap.size → ¬ u.ownBlock = some k → w1.heap[k]? = w.heap[k]? := fun k hk hne => hgrow.block k hk (fun e => hne e.symm)
 have hg1 : w1.heap[g]? = some (.cells #[v, u, .int .i64 d] T (0, 0)) := by rw [hold g hlt (own_far hu h.box hT1)]; exact h.box
 have hvg := own_far hown hg1 hT1
 have hlow : lo ≤ w.heap.size := Nat.le_trans h.low (Nat.le_of_lt hlt)
 have hv' : ∀ k, v'.ownBlock = some k → S k := fun k hk => by
  rcases hat with e | e
  ·exact hos.last k (by rw [← e]; exact hk)
  ·rw [e] at hk
   injection hk with hk
   rw [← hk]; exact hS
 have hos' : OwnS S g v (us ++ [v']) := ⟨hos.1, hos.2.1, fun i k x hx hk => by
  by_cases hi : i < us.length
  ·rw [List.getElem?_append_left hi] at hx
   exact hos.init.2.2 i k x hx hk
  ·rw [List.getElem?_append_right (by omega)] at hx
   have hx' : i - us.length = 0 := by
    have := idx_lt hx
    simp at this
    omega
   rw [hx'] at hx
   simp at hx
   subst hx
   exact hv' k hk⟩
 have hfr : Fr S w (w1.setCell ⟨g, 1, none⟩ v') := ((Fr.refl S w).grown hgrow (fun k hk => hos.last k hk)).setCell (p := ⟨g, 1, none⟩) hos.1 _
 refine ⟨⟨v, v', us, ⟨?_, ?_, h.len, h.low⟩, ?_, hos'⟩, ?_, hfr⟩
 ·rw [heap_setCell_same _ _ _ _ _ _ hg1]; rfl
 ·refine own_keep h.row (fun k hk1 hk2 => ?_)
  have hkg : ¬ k = g := fun e => own_far h.row h.box hT2 (by rw [hk1, e])
  rw [Below.heap_setCell _ _ _ _ hkg]
  refine hold k hk2 (fun hk3 => ?_)
  obtain ⟨c1, e1⟩ := own_blk h.row hk1
  exact own_far hu e1 (by decide) hk3
 ·have hkeep : Apart lo (w1.setCell ⟨g, 1, none⟩ v').heap.size (w1.setCell ⟨g, 1, none⟩ v') ps us := by
   refine ha0.keep (by simp; exact hgrow.size) (fun i x k hx hk1 hk2 => ?_)
   obtain ⟨q, hq⟩ := idx_some (l := ps) (i := i) (by rw [← h.len]; exact idx_lt hx)
   have hkg : ¬ k = g := fun e => own_far (ha0.2.1 i q x hq hx).1 h.box hT1 (by rw [hk1, e])
   rw [Below.heap_setCell _ _ _ _ hkg]
   exact hold k hk2 (ha.far h.len hx hk1)
  refine hkeep.snoc (ownsRow_setCell_other hown hvg _) (fun k hk => ?_) (fun i x k hx hk1 hk2 => ?_)
  ·obtain ⟨c1, e1⟩ := own_blk hown hk
   have := lt_of_some e1
   simpa using this
  ·obtain ⟨q, hq⟩ := idx_some (l := ps) (i := i) (by rw [← h.len]; exact idx_lt hx)
   rcases hat with e | e
   ·exact ha.far h.len hx hk1 (by rw [← e]; exact hk2)
   ·obtain ⟨c1, e1⟩ := own_blk (ha0.2.1 i q x hq hx).1 hk1
    have := lt_of_some e1
    rw [hk2] at e
    injection e with e
    omega
 ·refine Below.setCell ?_ h.low _
  exact (Below.refl _ _).grown hgrow hlow (fun k hk => own_ge hu k hk)
theorem Box.dropS {S : Nat → Prop} {lo g : Nat} {T : TypeId} {w : World} {v u : Value} {d d' : Int} {ps : List Pt} {us : List Value} {put : List Int} (h : Box lo g T w v u d ps us) (hT1 : ¬ T = 3) (hT2 : ¬ T = 93)
  (ha : Apart lo w.heap.size w (ps ++ [⟨2, 0, put⟩]) (us ++ [u])) (hos : OwnS S g v (us ++ [u])) :
  BAtS S lo g T (w.setCell ⟨g, 2, none⟩ (.int .i64 d')) ps put d' ∧ Below lo w (w.setCell ⟨g, 2, none⟩ (.int .i64 d')) ∧ Fr S w (w.setCell ⟨g, 2, none⟩ (.int .i64 d')) := by
 refine ⟨⟨v, u, us, ⟨?_, ownsRow_setCell_other h.row (own_far h.row h.box hT2) _, h.len, h.low⟩, ha.keep (by simp) (fun i x k hx hk1 hk2 => ?_), hos⟩, (Below.refl _ _).setCell h.low _, (Fr.refl S w).setCell (p := ⟨g, 2, none⟩) hos.1 _⟩
 ·rw [heap_setCell_same _ _ _ _ _ _ h.box]; rfl
 ·obtain ⟨q, hq⟩ := idx_some (l := ps ++ [⟨2, 0, put⟩]) (i := i) (by rw [← ha.1]; exact idx_lt hx)
  have hkg : ¬ k = g := fun e => own_far (ha.2.1 i q x hq hx).1 h.box hT1 (by rw [hk1, e])
  rw [Below.heap_setCell _ _ _ _ hkg]
theorem ints_info : (Try.prog.info? 3).map (fun i => (i.zero, i.size, i.bytes)) = some (some (.int .i64 0), 1, 8) := by kernel_rfl
theorem specDrop_f (S : Nat → Prop) (lo g : Nat) (ps : List Pt) (put : List Int) (d n : Int) (w : World) (hb : BAtS S lo g 104 w ps put d) (hS : ∀ b, w.heap.size ≤ b → S b) (h0 : 0 ≤ d) (h1 : d ≤ 4611686018427387904) (h2 : 0 ≤ n) (h3 : n ≤ 1048576) :
  Calls Try.prog 72 #[.pointer (some ⟨g, 0, none⟩), .int .i64 n] w (BuiltS S lo g 104 w ps put (d + n)) := by
 obtain ⟨v, u, us, hx, ha, hos⟩ := hb
 have HS := Lib.hid hS
 have HOS := Lib.hid hos
 clear hS hos
 have c2 := hx.cell2
 have f2 := hx.free 2
 have HX := Lib.hid hx
 have HA := Lib.hid ha
 clear hx ha
 go_enter Try.func72, Try.ntmps72
 go_wp2
 go_end0
 obtain ⟨r1, r2, r3⟩ := HX.out.dropS (d' := d + n) (by decide) (by decide) HA.out HOS.out
 exact ⟨rfl, r1, r2, r3⟩
theorem specPut_f (S : Nat → Prop) (lo g : Nat) (ps : List Pt) (put : List Int) (d : Int) (A : Option Addr) (c : Nat) (zs : List Int) (w : World) (hb : BAtS S lo g 104 w ps put d) (hS : ∀ b, w.heap.size ≤ b → S b) (hr : Row (Value.int .i64) w w.heap.size A zs) (hp : put.length ≤ 4294967296) (hz : zs.length ≤ 4294967296) :
  Calls Try.prog 71 #[.pointer (some ⟨g, 0, none⟩), .slice A zs.length c] w (BuiltS S lo g 104 w ps (put ++ zs) d) := by
 obtain ⟨i0, hi0, hz0, hz1, hz2⟩ := info_parts ints_info
 obtain ⟨v, u, us, hx, ha, hos⟩ := hb
 have HS := Lib.hid hS
 have HOS := Lib.hid hos
 clear hS hos
 obtain ⟨Au, cu, rfl⟩ := own_form (ha.last hx.len)
 simp only at hx ha
 have c1 := hx.cell1
 have f1 := hx.free 1
 have ho := Lib.hid (ha.last hx.len)
 have hlo : lo ≤ w.heap.size := Nat.le_trans hx.low (Nat.le_of_lt hx.lt)
 have HX := Lib.hid hx
 have HA := Lib.hid ha
 clear hx ha
 by_cases hn : 0 < zs.length
 ·obtain ⟨ad, rfl, hbk, hcs⟩ := hr hn
  have hcs' : ∀ j x, (zs.map (Value.int .i64))[j]? = some x → w.cell? (ad.add j) = some x := fun j x hx => by
   rw [List.getElem?_map] at hx
   obtain ⟨z, hz, rfl⟩ := Option.map_eq_some_iff.1 hx
   exact hcs j z hz
  have HC := Lib.hid hcs'
  clear hcs hcs' hr
  have hug := own_far ho.out HX.out.box (by decide)
  go_enter Try.func71, Try.ntmps71
  go_wp2_with (at_builtin; refine wpList_append_lies _ rfl (.tmp 8) (.tmp 9) 91 rfl lo 3 i0 (.int .i64 0) 1 8 Try.underlying91 hi0 hz0 hz1 hz2 rfl (by decide) (.slice Au put.length cu) put.length (put.map (Value.int .i64)) rfl ho.out ad zs.length c (zs.map (Value.int .i64)) rfl (by simp) HC.out (by simp [Value.oneCell']) (by omega) (by unfold maxLen; omega) (by omega) hlo w.heap.size rfl ?_; intro gg cap w1 hown1 hgrow hat hlt; have hf := free_grown (o := 1) HX.out.box (Below.refl _ _) hgrow hug; have hc : w1.cell? ⟨g, 1, none⟩ = some (.slice Au put.length cu) := cell_grown 1 HX.out.box (Below.refl _ _) hgrow hug)
  go_end0
  obtain ⟨r1, r2, r3⟩ := Box.moreS (put' := put ++ zs) HX.out (by decide) (by decide) HA.out (by simpa using hown1) hgrow (hat.elim (fun e => .inl (by rw [e]; rfl)) (fun e => .inr (by rw [← e]; rfl))) HOS.out (HS.out _ (Nat.le_refl _))
  exact ⟨rfl, r1, r2, r3⟩
 ·have e0 : zs = [] := List.eq_nil_of_length_eq_zero (by omega)
  subst e0
  rw [List.append_nil]
  go_enter Try.func71, Try.ntmps71
  go_wp2_with (at_builtin; refine wpList_append_zero rfl (.tmp 8) (.tmp 9) 91 rfl lo 3 i0 1 Try.underlying91 hi0 (.slice Au put.length cu) put.length (put.map (Value.int .i64)) rfl ho.out A c rfl ?_)
  go_end0
  obtain ⟨r1, r2, r3⟩ := Box.moreS (put' := put) HX.out (by decide) (by decide) HA.out ho.out ⟨rfl, rfl, rfl, Nat.le_refl _, fun _ _ _ => rfl⟩ (.inl rfl) HOS.out (HS.out _ (Nat.le_refl _))
  exact ⟨rfl, r1, r2, r3⟩
theorem specDrop_any (lo g : Nat) (ps : List Pt) (put : List Int) (d n : Int) (w : World) (hb : BAt lo g 104 w ps put d) (h0 : 0 ≤ d) (h1 : d ≤ 4611686018427387904) (h2 : 0 ≤ n) (h3 : n ≤ 1048576) :
  Calls Try.prog 72 #[.pointer (some ⟨g, 0, none⟩), .int .i64 n] w (Built lo g 104 w ps put (d + n)) :=
 (specDrop_f (fun _ => True) lo g ps put d n w hb.all (fun _ _ => trivial) h0 h1 h2 h3).mono fun e w' h => h.any
theorem specPut_any (lo g : Nat) (ps : List Pt) (put : List Int) (d : Int) (A : Option Addr) (c : Nat) (zs : List Int) (w : World) (hb : BAt lo g 104 w ps put d) (hr : Row (Value.int .i64) w w.heap.size A zs) (hp : put.length ≤ 4294967296) (hz : zs.length ≤ 4294967296) :
  Calls Try.prog 71 #[.pointer (some ⟨g, 0, none⟩), .slice A zs.length c] w (Built lo g 104 w ps (put ++ zs) d) :=
 (specPut_f (fun _ => True) lo g ps put d A c zs w hb.all (fun _ _ => trivial) hr hp hz).mono fun e w' h => h.any
theorem below_new (w : World) (o : Obj) : Below w.heap.size w (w.alloc o) := (Below.refl _ _).alloc (Nat.le_refl _) o
def keepTo (q : List Pt) (n : Int) : List Pt :=
 match q.getLast? with
 | some p => if p.kind = 1 then q.set (q.length - 1) ⟨p.kind, p.n + n, p.signs⟩ else q ++ [⟨1, n, []⟩]
 | none => q ++ [⟨1, n, []⟩]
theorem keepTo_nil (n : Int) : keepTo [] n = [⟨1, n, []⟩] := rfl
theorem keepTo_t {r : List Pt} {p : Pt} (n : Int) (h : p.kind = 1) : keepTo (r ++ [p]) n = r ++ [⟨p.kind, p.n + n, p.signs⟩] := by
 simp [keepTo, h]
theorem keepTo_f {r : List Pt} {p : Pt} (n : Int) (h : ¬ p.kind = 1) : keepTo (r ++ [p]) n = r ++ [p] ++ [⟨1, n, []⟩] := by
 simp [keepTo, h]
theorem cellsOf_setN : ∀ (ps : List Pt) (us : List Value) (i : Nat) (p : Pt) (b : Int), us.length = ps.length → ps[i]? = some p →
  (cellsOf ps us).set (i * 3 + 1) (.int .i64 b) = cellsOf (ps.set i ⟨p.kind, b, p.signs⟩) us
 | [], us, i, p, b, _, h => by simp at h
 | _ :: _, [], i, p, b, hl, _ => by simp at hl
 | x :: ps, u :: us, 0, p, b, hl, h => by
  simp at h
  subst h
  rfl
 | x :: ps, u :: us, i + 1, p, b, hl, h => by
  have e0 : (i + 1) * 3 + 1 = i * 3 + 1 + 1 + 1 + 1 := by omega
  rw [e0]
  show .int .i64 x.kind :: .int .i64 x.n :: u :: (cellsOf ps us).set (i * 3 + 1) (.int .i64 b) = .int .i64 x.kind :: .int .i64 x.n :: u :: cellsOf (ps.set i ⟨p.kind, b, p.signs⟩) us
  rw [cellsOf_setN ps us i p b (by simpa using hl) (by simpa using h)]
theorem Apart.setN {lo hi : Nat} {w : World} {r : List Pt} {p q : Pt} {us : List Value} (h : Apart lo hi w (r ++ [p]) us) (hq : q.signs = p.signs) : Apart lo hi w (r ++ [q]) us := by
 refine ⟨by simpa using h.1, fun i x u hx hu => ?_, h.2.2⟩
 by_cases hi' : i < r.length
 ·rw [List.getElem?_append_left hi'] at hx
  exact h.2.1 i x u (by rw [List.getElem?_append_left hi']; exact hx) hu
 ·have e : i = r.length := by have := idx_lt hx; simp at this; omega
  subst e
  simp at hx
  subst hx
  have := h.2.1 r.length p u (by simp) hu
  rw [hq]
  exact this
theorem Box.setN {lo g gv cap : Nat} {T : TypeId} {w : World} {u : Value} {d b : Int} {r : List Pt} {p : Pt} {us : List Value} (h : Box lo g T w (.slice (some ⟨gv, 0, none⟩) (r.length + 1) cap) u d (r ++ [p]) us) (hT1 : ¬ T = 3) (hT2 : ¬ T = 93)
  (ha : Apart lo w.heap.size w (r ++ [p]) us) :
  Box lo g T (w.setCell ⟨gv, r.length * 3 + 1, none⟩ (.int .i64 b)) (.slice (some ⟨gv, 0, none⟩) (r.length + 1) cap) u d (r ++ [⟨p.kind, b, p.signs⟩]) us ∧
  Apart lo (w.setCell ⟨gv, r.length * 3 + 1, none⟩ (.int .i64 b)).heap.size (w.setCell ⟨gv, r.length * 3 + 1, none⟩ (.int .i64 b)) (r ++ [⟨p.kind, b, p.signs⟩]) us ∧
  Below lo w (w.setCell ⟨gv, r.length * 3 + 1, none⟩ (.int .i64 b)) := by
 have hgv := own_far h.row h.box hT2
 have hge := own_ge h.row gv rfl
 have hl : us.length = (r ++ [p]).length := h.len
 refine ⟨⟨?_, ?_, by simpa using hl, h.low⟩, ?_, (Below.refl _ _).setCell hge _⟩
 ·rw [Below.heap_setCell _ _ _ _ (fun e => hgv (by simp [Value.ownBlock]; exact e.symm))]; exact h.box
 ·have e1 := cellsOf_setN (r ++ [p]) us r.length p b hl (by simp)
  have e2 : (r ++ [p]).set r.length ⟨p.kind, b, p.signs⟩ = r ++ [⟨p.kind, b, p.signs⟩] := by simp
  rw [e2] at e1
  rw [← e1]
  have := (World.ownsRow.stored (n := r.length + 1) (by simpa using h.row) (r.length * 3 + 1) (.int .i64 b)).1
  simpa using this
 ·refine Apart.setN (p := p) (ha.keep (by simp) (fun i x k hx hk1 hk2 => ?_)) rfl
  obtain ⟨q, hq⟩ := idx_some (l := r ++ [p]) (i := i) (by rw [← hl]; exact idx_lt hx)
  obtain ⟨c1, e1⟩ := own_blk (ha.2.1 i q x hq hx).1 hk1
  have hne : ¬ k = gv := fun e => by
   subst e
   exact own_far h.row e1 (by decide) rfl
  rw [Below.heap_setCell _ _ _ _ hne]
theorem setN_fr {S : Nat → Prop} {g gv n cap o : Nat} {us : List Value} {w : World} (h : OwnS S g (.slice (some ⟨gv, 0, none⟩) n cap) us) (x : Value) : Fr S w (w.setCell ⟨gv, o, none⟩ x) := (Fr.refl S w).setCell (p := ⟨gv, o, none⟩) (h.2.1 gv rfl) x
def Gone (lo : Nat) (ps : List Pt) (w : World) (e : Ending) (w' : World) : Prop := ∃ v, e = .returned v ∧ PBuf lo w'.heap.size w' v ps ∧ Below lo w w'
def GoneS (S : Nat → Prop) (lo : Nat) (ps : List Pt) (w : World) (e : Ending) (w' : World) : Prop := ∃ v us, e = .returned v ∧ PBuf lo w'.heap.size w' v ps ∧ Below lo w w' ∧ Fr S w w' ∧ w'.ownsRow lo 93 3 v ps.length (cellsOf ps us) ∧ us.length = ps.length ∧ (∀ k, v.ownBlock = some k → S k) ∧ ∀ (i k : Nat) (x : Value), us[i]? = some x → x.ownBlock = some k → S k
theorem Box.parts {lo g : Nat} {T : TypeId} {w : World} {v u : Value} {d : Int} {ps : List Pt} {us : List Value} (h : Box lo g T w v u d ps us) (ha : Apart lo w.heap.size w ps us) : PBuf lo w.heap.size w v ps :=
 ⟨us, h.row, ha, fun k hk => by obtain ⟨c1, e1⟩ := own_blk h.row hk; exact lt_of_some e1, Nat.le_refl _, Nat.le_trans h.low (Nat.le_of_lt h.lt)⟩
theorem specDone_f (S : Nat → Prop) (lo g : Nat) (ps : List Pt) (put : List Int) (d : Int) (w : World) (hb : BAtS S lo g 104 w ps put d) (hS : ∀ b, w.heap.size ≤ b → S b) (hl : ps.length ≤ 4294967296) (hp : put.length ≤ 4294967296) :
  Calls Try.prog 73 #[.pointer (some ⟨g, 0, none⟩)] w (GoneS S lo (ps ++ putL put ++ dropL d) w) := by
 go_enter Try.func73, Try.ntmps73
 go_wp2_with fail
 refine (specFlush_f S lo g ps put d w hb hS hl hp).mono ?_
 rintro e w1 ⟨rfl, ⟨v, us, hx, ha, hos⟩, b1, fr1⟩
 have HS := Lib.hid hS
 have HOS := Lib.hid hos
 have HR := Lib.hid fr1
 clear hS hos fr1
 obtain ⟨Av, cv, rfl⟩ := own_form hx.row
 have c0 := hx.cell0
 have HX := Lib.hid hx
 have HA := Lib.hid ha
 clear hx ha
 generalize ps ++ putL put ++ dropL d = q at *
 go_wp2
 go_ret
 exact ⟨_, us, rfl, HX.out.parts HA.out, b1, HR.out, HX.out.row, HX.out.len, HOS.out.2.1, HOS.out.2.2⟩
theorem specKeep_f (S : Nat → Prop) (lo g : Nat) (ps : List Pt) (put : List Int) (d n : Int) (w : World) (hb : BAtS S lo g 104 w ps put d) (hS : ∀ b, w.heap.size ≤ b → S b) (hl : ps.length ≤ 4294967296) (hp : put.length ≤ 4294967296) (hn : ¬ n = 0) (hn0 : 0 ≤ n) (hn1 : n ≤ 1048576)
  (hq : ∀ p ∈ ps ++ putL put ++ dropL d, 0 ≤ p.n ∧ p.n ≤ 4611686018427387904) (hql : (ps ++ putL put ++ dropL d).length ≤ 4294967298) :
  Calls Try.prog 70 #[.pointer (some ⟨g, 0, none⟩), .int .i64 n] w (FlushedS S lo g 104 w (keepTo (ps ++ putL put ++ dropL d) n)) := by
 obtain ⟨i0, hi0, hz0, hz1, hz2⟩ := info_parts part_info
 go_enter Try.func70, Try.ntmps70
 go_wp2_with fail
 refine (specFlush_f S lo g ps put d w hb hS hl hp).mono ?_
 rintro e w1 ⟨rfl, ⟨v, us, hx, ha, hos⟩, b1, fr1⟩
 have HS := Lib.hid hS
 have HOS := Lib.hid hos
 have HR := Lib.hid fr1
 clear hS hos fr1
 generalize ps ++ putL put ++ dropL d = q at *
 have c0 := hx.cell0
 have f0 := hx.free 0
 have hne := own_far hx.row hx.box (by decide)
 have hlo : lo ≤ w1.heap.size := Nat.le_trans hx.low (Nat.le_of_lt hx.lt)
 rcases q.eq_nil_or_concat with rfl | ⟨r, p, rfl⟩
 ·obtain ⟨Av, cv, rfl⟩ := own_form hx.row
  have HX := Lib.hid hx
  have HA := Lib.hid ha
  clear hx ha
  go_wp2_with (at_builtin; refine wpList_append_lies _ rfl (.tmp 51) (.tmp 54) 30 rfl lo 93 i0 _ 3 40 Try.underlying30 hi0 hz0 hz1 hz2 rfl (by omega) (.slice Av 0 cv) 0 (cellsOf [] us) rfl (HX.out.row.alloc _) ⟨w1.heap.size, 0, none⟩ 1 1 [.int .i64 1, .int .i64 n, .slice none 0 0] rfl rfl (World.news_of_block (cs := #[.int .i64 1, .int .i64 n, .slice none 0 0]) (t := 93) (fr := (0, 0)) (heap_alloc_new w1 _)) (by simp [Value.oneCell']) (by omega) (by unfold maxLen; omega) (by omega) (by simp; omega) (w1.heap.size + 1) (by simp) ?_; intro gg cap w2 hown1 hgrow hat hlt; have hf := free_grown (o := 0) HX.out.box (below_new w1 _) hgrow hne; have hc : w2.cell? ⟨g, 0, none⟩ = some (.slice Av 0 cv) := cell_grown 0 HX.out.box (below_new w1 _) hgrow hne)
  go_end0
  obtain ⟨hx2, ha2, b2⟩ := Box.push (p := ⟨1, n, []⟩) HX.out (by decide) (by decide) (Apart.bare 1 n HA.out) (below_new w1 _) hown1 hgrow
  refine ⟨rfl, ?_, b1.trans b2, HR.out.trans (push_fr HOS.out (below_new w1 _) hgrow _)⟩
  rw [keepTo_nil]
  exact ⟨_, _, hx2, ha2, HOS.out.push nil_own hat (HS.out _ (by have := HR.out.size; omega))⟩
 ·rw [List.concat_eq_append] at *
  have hrl : (r ++ [p]).length = r.length + 1 := by simp
  rw [hrl] at hql
  have hp0 := hq p (by simp)
  clear hq
  rcases hx.row.2 with ⟨_, h0⟩ | ⟨gv, cap0, cur, rfl, hgv, hhv, hcap, hcap2, _, _⟩
  ·simp at h0
  rw [hrl] at c0 hne hcap hx
  have hrow : w1.ownsRow lo 93 3 (.slice (some ⟨gv, 0, none⟩) (r.length + 1) cap0) (r.length + 1) (cellsOf (r ++ [p]) us) := by have := hx.row; rwa [hrl] at this
  have k0 : w1.cell? ⟨gv, r.length * 3, none⟩ = some (.int .i64 p.kind) := by
   have := hrow.cellAt (r.length * 3) (by omega)
   obtain ⟨u, hu⟩ := idx_some (l := us) (i := r.length) (by rw [hx.len]; simp)
   rw [this, (cellsOf_at (r ++ [p]) us r.length p u (by simp) hu).1]
  have k1 : w1.cell? ⟨gv, r.length * 3 + 1, none⟩ = some (.int .i64 p.n) := by
   have := hrow.cellAt (r.length * 3 + 1) (by omega)
   obtain ⟨u, hu⟩ := idx_some (l := us) (i := r.length) (by rw [hx.len]; simp)
   rw [this, (cellsOf_at (r ++ [p]) us r.length p u (by simp) hu).2.1]
  have fv := hrow.frozenAt (r.length * 3 + 1)
  have HRW := Lib.hid hrow
  clear hrow
  have HX := Lib.hid hx
  have HA := Lib.hid ha
  clear hx ha hhv
  by_cases hk : p.kind = 1
  ·go_wp2_with fail
   have dx := Lib.hid HX.out.drew
   have da := Lib.hid HA.out.drewS
   have hw1 : IntKind.i64.wrap (r.length : Int) = (r.length : Int) := by rw [IntKind.wrap_i64]; omega
   have hw2 : IntKind.i64.wrap (p.n + n) = p.n + n := by rw [IntKind.wrap_i64]; omega
   have hi1 : (r.length : Int) < (r.length : Int) + 1 := by omega
   go_still_tail 19, (by kernel_rfl)
   clear hw1 hw2
   go_wp2
   go_end0
   obtain ⟨hx2, ha2, b2⟩ := Box.setN (b := p.n + n) dx.out (by decide) (by decide) da.out
   refine ⟨rfl, ?_, b1.trans ((Below.refl _ _).drew.trans b2), HR.out.drew.trans (setN_fr HOS.out _)⟩
   rw [keepTo_t n hk]
   exact ⟨_, _, hx2, ha2, HOS.out⟩
  ·go_wp2_with (at_builtin; refine wpList_append_lies _ rfl (.tmp 51) (.tmp 54) 30 rfl lo 93 i0 _ 3 40 Try.underlying30 hi0 hz0 hz1 hz2 rfl (by omega) (.slice (some ⟨gv, 0, none⟩) (r.length + 1) cap0) (r.length + 1) (cellsOf (r ++ [p]) us) rfl (HRW.out.alloc _) ⟨w1.heap.size, 0, none⟩ 1 1 [.int .i64 1, .int .i64 n, .slice none 0 0] rfl rfl (World.news_of_block (cs := #[.int .i64 1, .int .i64 n, .slice none 0 0]) (t := 93) (fr := (0, 0)) (heap_alloc_new w1 _)) (by simp [Value.oneCell']) (by omega) (by unfold maxLen; omega) (by omega) (by simp; omega) (w1.heap.size + 1) (by simp) ?_; intro gg cap w2 hown1 hgrow hat hlt; have hf := free_grown (o := 0) HX.out.box (below_new w1 _) hgrow hne; have hc : w2.cell? ⟨g, 0, none⟩ = some (.slice (some ⟨gv, 0, none⟩) (r.length + 1) cap0) := cell_grown 0 HX.out.box (below_new w1 _) hgrow hne)
   go_end0
   obtain ⟨hx2, ha2, b2⟩ := Box.push (p := ⟨1, n, []⟩) HX.out (by decide) (by decide) (Apart.bare 1 n HA.out) (below_new w1 _) (by rw [hrl]; exact hown1) hgrow
   rw [hrl] at hx2 ha2 b2
   refine ⟨rfl, ?_, b1.trans b2, HR.out.trans (push_fr HOS.out (below_new w1 _) hgrow _)⟩
   rw [keepTo_f n hk]
   exact ⟨_, _, hx2, ha2, HOS.out.push nil_own hat (HS.out _ (by have := HR.out.size; omega))⟩
theorem GoneS.any {S : Nat → Prop} {lo : Nat} {ps : List Pt} {w w' : World} {e : Ending} (h : GoneS S lo ps w e w') : Gone lo ps w e w' := by
 obtain ⟨v, us, h1, h2, h3, _⟩ := h
 exact ⟨v, h1, h2, h3⟩
theorem specDone_any (lo g : Nat) (ps : List Pt) (put : List Int) (d : Int) (w : World) (hb : BAt lo g 104 w ps put d) (hl : ps.length ≤ 4294967296) (hp : put.length ≤ 4294967296) :
  Calls Try.prog 73 #[.pointer (some ⟨g, 0, none⟩)] w (Gone lo (ps ++ putL put ++ dropL d) w) :=
 (specDone_f (fun _ => True) lo g ps put d w hb.all (fun _ _ => trivial) hl hp).mono fun e w' h => h.any
theorem specKeep_any (lo g : Nat) (ps : List Pt) (put : List Int) (d n : Int) (w : World) (hb : BAt lo g 104 w ps put d) (hl : ps.length ≤ 4294967296) (hp : put.length ≤ 4294967296) (hn : ¬ n = 0) (hn0 : 0 ≤ n) (hn1 : n ≤ 1048576)
  (hq : ∀ p ∈ ps ++ putL put ++ dropL d, 0 ≤ p.n ∧ p.n ≤ 4611686018427387904) (hql : (ps ++ putL put ++ dropL d).length ≤ 4294967298) :
  Calls Try.prog 70 #[.pointer (some ⟨g, 0, none⟩), .int .i64 n] w (Flushed lo g 104 w (keepTo (ps ++ putL put ++ dropL d) n)) :=
 (specKeep_f (fun _ => True) lo g ps put d n w hb.all (fun _ _ => trivial) hl hp hn hn0 hn1 hq hql).mono fun e w' h => h.any
def stepN (s : List Pt × List Int × Int) (p : Pt) : List Pt × List Int × Int :=
 if p.kind = 1 then (if p.n = 0 then s else (keepTo (s.1 ++ putL s.2.1 ++ dropL s.2.2) p.n, [], 0))
 else if p.kind = 2 then (s.1, s.2.1 ++ p.signs, s.2.2) else (s.1, s.2.1, s.2.2 + p.n)
def foldN (ps : List Pt) : List Pt × List Int × Int := ps.foldl stepN ([], [], 0)
def doneN (s : List Pt × List Int × Int) : List Pt := s.1 ++ putL s.2.1 ++ dropL s.2.2
def normL (ps : List Pt) : List Pt := if okOp ps = true then doneN (foldN ps) else []
theorem foldN_snoc {ps : List Pt} {k : Nat} {p : Pt} (h : ps[k]? = some p) : foldN (ps.take (k + 1)) = stepN (foldN (ps.take k)) p := by
 unfold foldN
 rw [List.take_add_one, h]
 simp
theorem signsIn_app (a b : List Pt) : signsIn (a ++ b) = signsIn a + signsIn b := by simp [signsIn]
theorem putL_len (z : List Int) : (putL z).length ≤ 1 ∧ signsIn (putL z) = z.length ∧ ∀ p ∈ putL z, p.n = 0 := by
 unfold putL
 split
 ·rename_i h; simp [signsIn, h]
 ·simp [signsIn]
theorem dropL_len (d : Int) : (dropL d).length ≤ 1 ∧ signsIn (dropL d) = 0 ∧ ∀ p ∈ dropL d, p.n = d ∧ 0 ≤ d := by
 unfold dropL
 split
 ·rename_i h; simp [signsIn]; omega
 ·simp [signsIn]
structure Fit (j m : Nat) (s : List Pt × List Int × Int) : Prop where
 len : s.1.length ≤ 3 * j
 signs : signsIn s.1 + s.2.1.length ≤ m
 d0 : 0 ≤ s.2.2
 d1 : s.2.2 ≤ 200 * (j : Int)
 ns : ∀ p ∈ s.1, 0 ≤ p.n ∧ p.n ≤ 200 * (j : Int)
theorem Fit.done {j m : Nat} {s : List Pt × List Int × Int} (h : Fit j m s) : (doneN s).length ≤ 3 * j + 2 ∧ signsIn (doneN s) ≤ m ∧ ∀ p ∈ doneN s, 0 ≤ p.n ∧ p.n ≤ 200 * (j : Int) := by
 obtain ⟨a1, a2, a3⟩ := putL_len s.2.1
 obtain ⟨b1, b2, b3⟩ := dropL_len s.2.2
 have h1 := h.len
 have h2 := h.signs
 have h3 := h.d0
 have h4 := h.d1
 refine ⟨by unfold doneN; simp; omega, by unfold doneN; rw [signsIn_app, signsIn_app]; omega, fun p hp => ?_⟩
 unfold doneN at hp
 rcases List.mem_append.1 hp with hp | hp
 ·rcases List.mem_append.1 hp with hp | hp
  ·exact h.ns p hp
  ·have := a3 p hp; omega
 ·have := b3 p hp; omega
theorem keepTo_fit {q : List Pt} {n M : Int} (hn : 0 ≤ n) (hM : 0 ≤ M) (hq : ∀ p ∈ q, 0 ≤ p.n ∧ p.n ≤ M) : (keepTo q n).length ≤ q.length + 1 ∧ signsIn (keepTo q n) = signsIn q ∧ ∀ p ∈ keepTo q n, 0 ≤ p.n ∧ p.n ≤ M + n := by
 rcases q.eq_nil_or_concat with rfl | ⟨r, p, rfl⟩
 ·rw [keepTo_nil]
  refine ⟨by simp, by simp [signsIn], fun x hx => ?_⟩
  simp at hx
  subst hx
  simp only
  omega
 ·rw [List.concat_eq_append] at *
  have hp := hq p (by simp)
  by_cases hk : p.kind = 1
  ·rw [keepTo_t n hk]
   refine ⟨by simp, by rw [signsIn_app, signsIn_app]; simp [signsIn], fun x hx => ?_⟩
   rcases List.mem_append.1 hx with hx | hx
   ·have := hq x (by simp [hx]); omega
   ·simp at hx
    subst hx
    simp only
    omega
  ·rw [keepTo_f n hk]
   refine ⟨by simp, by rw [signsIn_app, signsIn_app]; simp [signsIn], fun x hx => ?_⟩
   rcases List.mem_append.1 hx with hx | hx
   ·have := hq x hx; omega
   ·simp at hx
    subst hx
    simp only
    omega
theorem Fit.step {j m : Nat} {s : List Pt × List Int × Int} {p : Pt} (h : Fit j m s) (hp : okPt p = true) : Fit (j + 1) (m + p.signs.length) (stepN s p) := by
 have hok := of_okPt hp
 obtain ⟨d1, d2, d3⟩ := h.done
 have h1 := h.len
 have h2 := h.signs
 have h3 := h.d0
 have h4 := h.d1
 have hns := h.ns
 unfold stepN
 split
 ·rename_i hk
  have hn : 0 ≤ p.n ∧ p.n ≤ 200 := by omega
  split
  ·exact ⟨by omega, by omega, h3, by omega, fun x hx => by have := hns x hx; omega⟩
  ·have hM : p.n ≤ 200 * ((j : Int) + 1) := by omega
   obtain ⟨k1, k2, k3⟩ := keepTo_fit (q := doneN s) hn.1 (M := 200 * (j : Int)) (by omega) d3
   refine ⟨?_, ?_, by simp, by simp; omega, fun x hx => ?_⟩
   ·show (keepTo (doneN s) p.n).length ≤ _; omega
   ·show signsIn (keepTo (doneN s) p.n) + 0 ≤ _; omega
   ·have := k3 x hx; omega
 ·split
  ·rename_i hk
   refine ⟨by simp; omega, by simp; omega, h3, by simp; omega, fun x hx => by have := hns x hx; omega⟩
  ·have hn : 0 ≤ p.n ∧ p.n ≤ 200 := by omega
   refine ⟨by simp; omega, by simp; omega, by simp; omega, by simp; omega, fun x hx => by have := hns x hx; omega⟩
theorem Fit.start : Fit 0 0 ([], [], 0) := ⟨by simp, by simp [signsIn], by simp, by simp, fun p hp => by simp at hp⟩
theorem foldN_fit {ps : List Pt} (h : okPs ps = true) : ∀ k, k ≤ ps.length → Fit k (signsIn (ps.take k)) (foldN (ps.take k))
 | 0, _ => by simpa [foldN, signsIn] using Fit.start
 | k + 1, hk => by
  obtain ⟨p, hp⟩ := idx_some (l := ps) (i := k) (by omega)
  rw [foldN_snoc hp, signsIn_snoc hp]
  exact (foldN_fit h k (by omega)).step (okPs_at hp h)
theorem BAt.past {lo g : Nat} {T : TypeId} {w w' : World} {ps : List Pt} {put : List Int} {d : Int} (h : BAt lo g T w ps put d) (hb : Below w.heap.size w w') : BAt lo g T w' ps put d := by
 obtain ⟨v, u, us, hx, ha⟩ := h
 exact ⟨v, u, us, ⟨(hb.block g hx.lt).trans hx.box, own_keep hx.row (fun k _ hk2 => hb.block k hk2), hx.len, hx.low⟩, ha.keep hb.size (fun i x k _ _ hk2 => hb.block k hk2)⟩
theorem BAt.new (lo : Nat) (T : TypeId) (w : World) (h : lo ≤ w.heap.size) : BAt lo w.heap.size T (w.alloc (.cells #[.slice none 0 0, .slice none 0 0, .int .i64 0] T)) [] [] 0 :=
 ⟨.slice none 0 0, .slice none 0 0, [], ⟨heap_alloc_new w _, World.ownsRow_nil _ _ _ _, rfl, h⟩, Apart.bare 2 0 ⟨rfl, fun i p u hp _ => by simp at hp, fun i j k u v hu _ _ _ => by simp at hu⟩⟩
theorem specKeep_zero (g : Nat) (w : World) : Calls Try.prog 70 #[.pointer (some ⟨g, 0, none⟩), .int .i64 0] w fun e w' => e = .returned (.tuple #[]) ∧ w = w' := by
 go_enter Try.func70, Try.ntmps70
 go_wp2
 first | go_end0 | (refine bodyPost_ret (results_none rfl _ _ _) rfl ?_)
 exact ⟨rfl, rfl⟩
theorem specOpNorm_any (A : Option Addr) (c : Nat) (ps : List Pt) (w : World) (hr : PRow w w.heap.size A ps) (hl : ps.length ≤ 4294967296) (hls : ∀ p ∈ ps, p.signs.length ≤ 4294967296) (hss : signsIn ps ≤ 1048576) :
  Calls Try.prog 50 #[.slice A ps.length c] w (PsPost (normL ps) w) := by
 cases hok : okOp ps
 ·have e1 : normL ps = [] := by simp [normL, hok]
  rw [e1]
  go_enter Try.func50, Try.ntmps50
  go_wp2_with fail
  refine (specOpOk_any A c ps _ hr hl hls).mono ?_
  rintro e w1 ⟨rfl, b1⟩
  rw [hok] at *
  go_wp2
  go_ret
  refine ⟨_, rfl, ⟨[], World.ownsRow_nil _ _ _ _, ⟨rfl, fun i p u hp _ => by simp at hp, fun i j k u v hu _ _ _ => by simp at hu⟩, fun k hk => by simp [Value.ownBlock] at hk, Nat.le_refl _, b1.size⟩, b1⟩
 ·have e1 : normL ps = doneN (foldN ps) := by simp [normL, hok]
  rw [e1]
  have hpb : partsB ps = true := by
   unfold okOp at hok
   cases h : partsB ps
   ·rw [h] at hok; simp at hok
   ·rfl
  have HPB := Lib.hid (partsB_of hpb)
  clear hpb
  go_enter Try.func50, Try.ntmps50
  go_wp2_with fail
  refine (specOpOk_any A c ps _ hr hl hls).mono ?_
  rintro e w1 ⟨rfl, b1⟩
  rw [hok] at *
  clear hok
  go_wp2
  have hnew := BAt.new w.heap.size 104 w1 b1.size
  have hbn := b1.trans ((alloc_below w1 (.cells #[.slice none 0 0, .slice none 0 0, .int .i64 0] 104)).mono b1.size)
  have hgl : w.heap.size ≤ w1.heap.size := b1.size
  generalize w1.alloc (.cells #[.slice none 0 0, .slice none 0 0, .int .i64 0] 104) = w2 at *
  generalize w1.heap.size = g at *
  clear b1
  go_loopw [13] (fun i wr => ∃ k : Nat, k ≤ ps.length ∧ i = .int .i64 k ∧ BAt w.heap.size g 104 wr (foldN (ps.take k)).1 (foldN (ps.take k)).2.1 (foldN (ps.take k)).2.2 ∧ Below w.heap.size w wr) (fun i _ => ps.length - (intOf i).toNat)
  case atStart => exact ⟨0, Nat.zero_le _, rfl, hnew, hbn⟩
  case round =>
   obtain ⟨k, hk, rfl, hat, hbel⟩ := hrel
   clear hnew hbn
   have hfit := foldN_fit HPB.out.1 k hk
   have hpl := HPB.out.2
   by_cases hlt : k < ps.length
   ·obtain ⟨b, off, p, rfl, hb, hp, hc⟩ := hr.at_ hlt
    obtain ⟨x0, x1, A1, e1, x2, r1⟩ := hc.keep (w' := wr) hb (fun _ hq => hbel.cell hq)
    have hokp := okPs_at hp HPB.out.1
    have hok := of_okPt hokp
    have hsl := hls p (List.mem_of_getElem? hp)
    have K1 := Lib.hid (foldN_snoc hp)
    have hsg : signsIn (ps.take k) ≤ signsIn ps := signsIn_take ps k
    clear hp hc
    generalize foldN (ps.take k) = st at *
    obtain ⟨qs, put, d⟩ := st
    have hf1 := hfit.len
    have hf2 := hfit.signs
    have hf3 := hfit.d0
    have hf4 := hfit.d1
    have hdn := Lib.hid hfit.done
    simp only at hf1 hf2 hf3 hf4 hat
    obtain ⟨pk, pn, pz⟩ := p
    simp only at x0 x1 x2 hok r1 hsl
    rcases (show pk = 1 ∨ pk = 2 ∨ pk = 3 by omega) with rfl | rfl | rfl
    ·have hn1 : 0 ≤ pn := by omega
     have hn2 : pn ≤ 200 := by omega
     clear hok
     by_cases hz : pn = 0
     ·subst hz
      go_wp2_with fail
      refine (specKeep_zero g _).mono ?_
      rintro e w' ⟨rfl, rfl⟩
      go_wp2
      go_roundw
      case rel => exact ⟨k + 1, by omega, by go_num, by rw [K1.out]; exact hat.past (alloc_below wr _), hbel.trans ((alloc_below wr _).mono hbel.size)⟩
      case measure => simp [intOf]; omega
     ·go_wp2_with fail
      refine (specKeep_any w.heap.size g qs put d pn _ (hat.past (alloc_below wr _)) (by omega) (by omega) hz hn1 (by omega) (fun p hp => by have := hdn.out.2.2 p hp; omega) (by have := hdn.out.1; exact Nat.le_trans this (by omega))).mono ?_
      rintro e w3 ⟨rfl, hn3, b3⟩
      go_wp2
      go_roundw
      case rel => exact ⟨k + 1, by omega, by go_num, by rw [K1.out]; simp only [stepN, if_neg hz]; exact hn3.at_, hbel.trans (((alloc_below wr _).mono hbel.size).trans b3)⟩
      case measure => simp [intOf]; omega
    ·clear hok
     go_wp2_with fail
     refine (specPut_any w.heap.size g qs put d A1 e1 pz _ (hat.past (alloc_below wr _)) (Row.past_alloc (r1.more hbel.size) _) (by omega) (by omega)).mono ?_
     rintro e w3 ⟨rfl, hn3, b3⟩
     go_wp2
     go_roundw
     case rel => exact ⟨k + 1, by omega, by go_num, by rw [K1.out]; exact hn3, hbel.trans (((alloc_below wr _).mono hbel.size).trans b3)⟩
     case measure => simp [intOf]; omega
    ·have hn1 : 0 ≤ pn := by omega
     have hn2 : pn ≤ 200 := by omega
     clear hok
     go_wp2_with fail
     refine (specDrop_any w.heap.size g qs put d pn _ (hat.past (alloc_below wr _)) (by omega) (by omega) (by omega) (by omega)).mono ?_
     rintro e w3 ⟨rfl, hn3, b3⟩
     go_wp2
     go_roundw
     case rel => exact ⟨k + 1, by omega, by go_num, by rw [K1.out]; exact hn3, hbel.trans (((alloc_below wr _).mono hbel.size).trans b3)⟩
     case measure => simp [intOf]; omega
   ·have hke : ps.take k = ps := List.take_of_length_le (by omega)
    rw [hke] at hat hfit
    have hf1 := hfit.len
    have hf2 := hfit.signs
    go_wp2_with fail
    refine (specDone_any w.heap.size g _ _ _ _ hat (by omega) (by omega)).mono ?_
    rintro e w3 ⟨v, rfl, p3, b3⟩
    change PBuf _ _ _ _ (doneN (foldN ps)) at p3
    generalize doneN (foldN ps) = L at *
    obtain ⟨B3, d3, rfl, q3⟩ := p3.slice
    have HP3 := Lib.hid p3
    clear p3
    go_wp2
    go_ret
    exact ⟨_, rfl, HP3.out, hbel.trans b3⟩
theorem normL_fit {ps : List Pt} (hs : signsIn ps ≤ 1048576) : (normL ps).length ≤ 1802 ∧ signsIn (normL ps) ≤ 1048576 := by
 unfold normL
 split
 ·rename_i hok
  have hpb : partsB ps = true := by
   unfold okOp at hok
   cases h : partsB ps
   ·rw [h] at hok; simp at hok
   ·rfl
  obtain ⟨h1, h2⟩ := partsB_of hpb
  have hf := (foldN_fit h1 ps.length (Nat.le_refl _)).done
  rw [List.take_length] at hf
  exact ⟨by have := hf.1; omega, Nat.le_trans hf.2.1 hs⟩
 ·simp [signsIn]
def isNormL (ps : List Pt) : Bool := okOp ps && samePs (normL ps) ps
theorem okPs_mem' {ps : List Pt} (h : okPs ps = true) {p : Pt} (hp : p ∈ ps) : okPt p = true := by unfold okPs at h; exact List.all_eq_true.1 h p hp
theorem sumOf_take {f : Pt → Int} {ps : List Pt} (h : ∀ p ∈ ps, 0 ≤ f p) (k : Nat) : sumOf f (ps.take k) ≤ sumOf f ps := by
 have e : sumOf f ps = sumOf f (ps.take k) + sumOf f (ps.drop k) := by
  unfold sumOf
  rw [← List.sum_append, ← List.map_append, List.take_append_drop]
 have : 0 ≤ sumOf f (ps.drop k) := by
  unfold sumOf
  have hd : ∀ p ∈ ps.drop k, 0 ≤ f p := fun p hp => h p (List.mem_of_mem_drop hp)
  clear e
  generalize ps.drop k = qs at *
  induction qs with
  | nil => simp
  | cons q qs ih =>
   rw [List.map_cons, List.sum_cons]
   have h1 := hd q (by simp)
   have h2 := ih (fun p hp => hd p (by simp [hp]))
   omega
 omega
theorem SmP.all4 {ps : List Pt} (h : SmP ps) : ∀ p ∈ ps, p.signs.length ≤ 4294967296 := fun p hp => Nat.le_trans (h.all p hp) (by omega)
def szP_ (p : Pt) : Prop := (p.kind = 1 ∨ p.kind = 2 ∨ p.kind = 3) ∧ 0 ≤ p.n ∧ p.n ≤ 200 ∧ p.signs.length ≤ 200
theorem szP_of {p : Pt} (h : okPt p = true) : szP_ p := by
 have := of_okPt h
 unfold szP_
 omega
theorem Fit.stepZ {j m : Nat} {s : List Pt × List Int × Int} {p : Pt} (h : Fit j m s) (hp : szP_ p) : Fit (j + 1) (m + p.signs.length) (stepN s p) := by
 unfold szP_ at hp
 obtain ⟨d1, d2, d3⟩ := h.done
 have h1 := h.len
 have h2 := h.signs
 have h3 := h.d0
 have h4 := h.d1
 have hns := h.ns
 unfold stepN
 split
 ·rename_i hk
  have hn : 0 ≤ p.n ∧ p.n ≤ 200 := by omega
  split
  ·exact ⟨by omega, by omega, h3, by omega, fun x hx => by have := hns x hx; omega⟩
  ·obtain ⟨k1, k2, k3⟩ := keepTo_fit (q := doneN s) hn.1 (M := 200 * (j : Int)) (by omega) d3
   refine ⟨?_, ?_, by simp, by simp; omega, fun x hx => ?_⟩
   ·show (keepTo (doneN s) p.n).length ≤ _; omega
   ·show signsIn (keepTo (doneN s) p.n) + 0 ≤ _; omega
   ·have := k3 x hx; omega
 ·split
  ·refine ⟨by simp; omega, by simp; omega, h3, by simp; omega, fun x hx => by have := hns x hx; omega⟩
  ·refine ⟨by simp; omega, by simp; omega, by simp; omega, by simp; omega, fun x hx => by have := hns x hx; omega⟩
theorem foldN_app (L : List Pt) (p : Pt) : foldN (L ++ [p]) = stepN (foldN L) p := by unfold foldN; simp
theorem foldN_fitZ {L : List Pt} (h : ∀ p ∈ L, szP_ p) : Fit L.length (signsIn L) (foldN L) := by
 have key : ∀ k, k ≤ L.length → Fit k (signsIn (L.take k)) (foldN (L.take k)) := by
  intro k
  induction k with
  | zero => intro _; simpa [foldN, signsIn] using Fit.start
  | succ k ih =>
   intro hk
   obtain ⟨p, hp⟩ := idx_some (l := L) (i := k) (by omega)
   rw [foldN_snoc hp, signsIn_snoc hp]
   exact (ih (by omega)).stepZ (h p (List.mem_of_getElem? hp))
 have := key L.length (Nat.le_refl _)
 rwa [List.take_length] at this
theorem OwnS.mono {S S' : Nat → Prop} {g : Nat} {v : Value} {us : List Value} (h : OwnS S g v us) (hs : ∀ b, S b → S' b) : OwnS S' g v us := ⟨hs _ h.1, fun k hk => hs k (h.2.1 k hk), fun i k x hx hk => hs k (h.2.2 i k x hx hk)⟩
theorem BAtS.mono {S S' : Nat → Prop} {lo g : Nat} {T : TypeId} {w : World} {ps : List Pt} {put : List Int} {d : Int} (h : BAtS S lo g T w ps put d) (hs : ∀ b, S b → S' b) : BAtS S' lo g T w ps put d := by
 obtain ⟨v, u, us, hx, ha, ho⟩ := h
 exact ⟨v, u, us, hx, ha, ho.mono hs⟩
theorem BAtS.shrink {S : Nat → Prop} {lo g : Nat} {T : TypeId} {w : World} {ps : List Pt} {put : List Int} {d : Int} (h : BAtS S lo g T w ps put d) : BAtS (fun b => S b ∧ b < w.heap.size) lo g T w ps put d := by
 obtain ⟨v, u, us, hx, ha, ho⟩ := h
 refine ⟨v, u, us, hx, ha, ⟨ho.1, hx.lt⟩, fun k hk => ⟨ho.2.1 k hk, own_in hx.row hk⟩, fun i k x hxi hk => ⟨ho.2.2 i k x hxi hk, ?_⟩⟩
 obtain ⟨q, hq⟩ := idx_some (l := ps ++ [⟨2, 0, put⟩]) (i := i) (by rw [← ha.1]; exact idx_lt hxi)
 exact own_in (ha.2.1 i q x hq hxi).1 hk
theorem BAtS.keep {S : Nat → Prop} {lo g : Nat} {T : TypeId} {w w' : World} {ps : List Pt} {put : List Int} {d : Int} (h : BAtS S lo g T w ps put d) (hsz : w.heap.size ≤ w'.heap.size) (hk : ∀ b, b < w.heap.size → S b → w'.heap[b]? = w.heap[b]?) : BAtS S lo g T w' ps put d := by
 obtain ⟨v, u, us, hx, ha, ho⟩ := h
 exact ⟨v, u, us, ⟨(hk g hx.lt ho.1).trans hx.box, own_keep hx.row (fun k h1 h2 => hk k h2 (ho.2.1 k h1)), hx.len, hx.low⟩, ha.keep hsz (fun i x k hxi h1 h2 => hk k h2 (ho.2.2 i k x hxi h1)), ho⟩
structure Bld (O : Nat → Prop) (lo g : Nat) (T : TypeId) (w : World) (L : List Pt) : Prop where
 at_ : BAtS O lo g T w (foldN L).1 (foldN L).2.1 (foldN L).2.2
 sz : ∀ p ∈ L, szP_ p
 len : L.length ≤ 100000
 old : ∀ b, O b → b < w.heap.size
structure Grew (O O' : Nat → Prop) (w w' : World) : Prop where
 size : w.heap.size ≤ w'.heap.size
 block : ∀ b, b < w.heap.size → ¬ O b → w'.heap[b]? = w.heap[b]?
 more : ∀ b, O' b → O b ∨ w.heap.size ≤ b
theorem signsIn_le {L : List Pt} (h : ∀ p ∈ L, szP_ p) : signsIn L ≤ 200 * L.length := by
 induction L with
 | nil => simp [signsIn]
 | cons p L ih =>
  have h1 := (h p (by simp)).2.2.2
  have h2 := ih (fun q hq => h q (by simp [hq]))
  have e : signsIn (p :: L) = p.signs.length + signsIn L := by simp [signsIn]
  rw [e, List.length_cons]
  omega
theorem Bld.fit {O : Nat → Prop} {lo g : Nat} {T : TypeId} {w : World} {L : List Pt} (h : Bld O lo g T w L) : Fit L.length (signsIn L) (foldN L) := foldN_fitZ h.sz
theorem Bld.keep {O : Nat → Prop} {lo g : Nat} {T : TypeId} {w w' : World} {L : List Pt} (h : Bld O lo g T w L) (hsz : w.heap.size ≤ w'.heap.size) (hk : ∀ b, b < w.heap.size → O b → w'.heap[b]? = w.heap[b]?) : Bld O lo g T w' L := ⟨h.at_.keep hsz hk, h.sz, h.len, fun b hb => Nat.lt_of_lt_of_le (h.old b hb) hsz⟩
theorem Bld.past {O : Nat → Prop} {lo g : Nat} {T : TypeId} {w w' : World} {L : List Pt} (h : Bld O lo g T w L) (hb : Below w.heap.size w w') : Bld O lo g T w' L := h.keep hb.size (fun b hlt _ => hb.block b hlt)
theorem Bld.apart {O P P' : Nat → Prop} {lo g : Nat} {T : TypeId} {w w' : World} {L : List Pt} (h : Bld O lo g T w L) (hg : Grew P P' w w') (hd : ∀ b, O b → ¬ P b) : Bld O lo g T w' L ∧ ∀ b, O b → ¬ P' b :=
 ⟨h.keep hg.size (fun b hlt ho => hg.block b hlt (hd b ho)), fun b ho hp => by
  rcases hg.more b hp with h1 | h1
  ·exact hd b ho h1
  ·have := h.old b ho; omega⟩
theorem Bld.new (lo : Nat) (T : TypeId) (w : World) (h : lo ≤ w.heap.size) : Bld (fun b => b = w.heap.size) lo w.heap.size T (w.alloc (.cells #[.slice none 0 0, .slice none 0 0, .int .i64 0] T)) [] :=
 ⟨show BAtS (fun b => b = w.heap.size) lo w.heap.size T (w.alloc (.cells #[.slice none 0 0, .slice none 0 0, .int .i64 0] T)) [] [] 0 from ⟨.slice none 0 0, .slice none 0 0, [], ⟨heap_alloc_new w _, World.ownsRow_nil _ _ _ _, rfl, h⟩, Apart.bare 2 0 ⟨rfl, fun i p u hp _ => by simp at hp, fun i j k u v hu _ _ _ => by simp at hu⟩, rfl, fun k hk => by simp [Value.ownBlock] at hk, fun i k x hx hk => by
   cases i with
   | zero => simp at hx; subst hx; simp [Value.ownBlock] at hk
   | succ i => simp at hx⟩, fun p hp => by simp at hp, by simp, fun b hb => by
   have hb' : b = w.heap.size := hb
   rw [hb']
   exact lt_of_some (heap_alloc_new w _)⟩
theorem Bld.low {O : Nat → Prop} {lo g : Nat} {T : TypeId} {w : World} {L : List Pt} (h : Bld O lo g T w L) : lo ≤ w.heap.size := by
 obtain ⟨v, u, us, hx, _⟩ := h.at_
 exact Nat.le_trans hx.low (Nat.le_of_lt hx.lt)
theorem Bld.add {O : Nat → Prop} {lo g : Nat} {T : TypeId} {w w' : World} {L : List Pt} {p : Pt} (h : Bld O lo g T w L) (hl : L.length < 100000) (hp : szP_ p) (hb : Below lo w w') (hf : Fr (fun b => O b ∨ w.heap.size ≤ b) w w') (ha : BAtS (fun b => O b ∨ w.heap.size ≤ b) lo g T w' (stepN (foldN L) p).1 (stepN (foldN L) p).2.1 (stepN (foldN L) p).2.2) : ∃ O', Bld O' lo g T w' (L ++ [p]) ∧ Below lo w w' ∧ Grew O O' w w' :=
 ⟨fun b => (O b ∨ w.heap.size ≤ b) ∧ b < w'.heap.size, ⟨by rw [foldN_app]; exact ha.shrink, fun q hq => by rcases List.mem_append.1 hq with hq | hq; exact h.sz q hq; simp at hq; subst hq; exact hp, by simp; omega, fun b hb => hb.2⟩, hb, hf.size, fun b hlt ho => hf.block b hlt (fun hs => by rcases hs with hs | hs; exact ho hs; omega), fun b hb => hb.1⟩
theorem OwB.grew {O O' : Nat → Prop} {lo hi : Nat} {w w' : World} {d : Dat} {v : Value} {b : List Nat} (h : OwB lo hi w d v b) (hg : Grew O O' w w') (hO : ∀ x, O x → x < lo ∨ hi ≤ x) : OwB lo hi w' d v b :=
 ⟨OwC.keep d v b h.ow (fun x hx => hg.block x (OwC.lt d v b h.ow x hx) (fun ho => by have := h.rng x hx; have := hO x ho; omega)), h.nd, h.rng, Nat.le_trans h.top hg.size, h.le⟩
theorem Grew.out {O O' : Nat → Prop} {lo hi : Nat} {w w' : World} (hg : Grew O O' w w') (hO : ∀ x, O x → x < lo ∨ hi ≤ x) (hh : hi ≤ w.heap.size) : ∀ x, O' x → x < lo ∨ hi ≤ x := fun x hx => by
 rcases hg.more x hx with h | h
 ·exact hO x h
 ·exact .inr (Nat.le_trans hh h)
def DoneP (O : Nat → Prop) (lo : Nat) (L : List Pt) (w : World) (e : Ending) (w' : World) : Prop := ∃ v b, e = .returned v ∧ OwB lo w'.heap.size w' (encPs (doneN (foldN L))) v b ∧ (∀ x ∈ b, O x ∨ w.heap.size ≤ x) ∧ Below lo w w' ∧ Grew O (fun x => x ∈ b) w w'
theorem GoneS.done {O : Nat → Prop} {lo : Nat} {L : List Pt} {w w' : World} {e : Ending} (h : GoneS (fun b => O b ∨ w.heap.size ≤ b) lo (doneN (foldN L)) w e w') : DoneP O lo L w e w' := by
 obtain ⟨v, us, e1, p, b, fr, ho, hl, hv, hu⟩ := h
 have hp := p
 obtain ⟨us', ho', ha', _⟩ := p
 obtain ⟨bs, oc, nd, rng, top, le⟩ := own_parts hp
 have heq : ∀ x ∈ bs, O x ∨ w.heap.size ≤ x := fun x hx => by
  obtain ⟨xs, cs, hox, hor, hb⟩ := oc
  rw [hb] at hx
  rcases List.mem_append.1 hx with hx | hx
  ·exact hv x (by simpa using hx)
  ·obtain ⟨us2, k1, k2, k3, k4⟩ := owR_parts hor
   rw [k3] at hx
   obtain ⟨i, u, hui, hk⟩ := mem_blks.1 hx
   have e2 : cellsOf (doneN (foldN L)) us2 = cellsOf (doneN (foldN L)) us := by
    rw [← k2]
    rcases ho.2 with ⟨rfl, h0⟩ | ⟨g, cap, cur, rfl, _, hh, _, _, _, ht⟩
    ·have : doneN (foldN L) = [] := List.eq_nil_of_length_eq_zero h0
     have l1 := hox.1
     have l2 := ho.1
     rw [this] at l1 l2 ⊢
     simp at l1
     rw [l1]
     rfl
    ·rcases hox.2 with ⟨hn, _⟩ | ⟨g', cap', cur', hv', _, hh', _, _, _, ht'⟩
     ·cases hn
     ·injection hv' with q1 q2 q3
      injection q1 with q1
      injection q1 with q1
      subst q1
      rw [hh] at hh'
      injection hh' with hh'
      injection hh' with hc _ _
      subst hc
      rw [← ht', ← ht]
      simp
   have e3 : us2[i]? = us[i]? := by
    obtain ⟨q, hq⟩ := idx_some (l := doneN (foldN L)) (i := i) (by rw [← k1]; exact idx_lt hui)
    obtain ⟨u2, hu2⟩ := idx_some (l := us) (i := i) (by rw [hl, ← k1]; exact idx_lt hui)
    have a1 := (cellsOf_at _ us2 i q u hq hui).2.2
    have a2 := (cellsOf_at _ us i q u2 hq hu2).2.2
    rw [e2, a2] at a1
    rw [hui, hu2]
    exact a1.symm
   exact hu i x u (by rw [← e3]; exact hui) hk
 exact ⟨v, bs, e1, ⟨oc, nd, rng, top, le⟩, heq, b, fr.size, fun x hlt ho => fr.block x hlt (fun hs => by rcases hs with hs | hs; exact ho hs; omega), heq⟩
theorem sumOf_app {f : Pt → Int} (a b : List Pt) : sumOf f (a ++ b) = sumOf f a + sumOf f b := by unfold sumOf; simp
theorem sumOf_cons {f : Pt → Int} (p : Pt) (a : List Pt) : sumOf f (p :: a) = f p + sumOf f a := by unfold sumOf; simp
theorem sumOf_nil {f : Pt → Int} : sumOf f [] = 0 := rfl
theorem sum_done (s : List Pt × List Int × Int) (h : 0 ≤ s.2.2) : sumOf keepOf (doneN s) = sumOf keepOf s.1 ∧ sumOf putOf (doneN s) = sumOf putOf s.1 + (s.2.1.length : Int) ∧ sumOf dropOf (doneN s) = sumOf dropOf s.1 + s.2.2 := by
 unfold doneN putL dropL
 split <;> split <;> simp [sumOf_app, sumOf_cons, sumOf_nil, keepOf, putOf, dropOf] <;> omega
theorem sum_keepTo (q : List Pt) (n : Int) : sumOf keepOf (keepTo q n) = sumOf keepOf q + n ∧ sumOf putOf (keepTo q n) = sumOf putOf q ∧ sumOf dropOf (keepTo q n) = sumOf dropOf q := by
 rcases q.eq_nil_or_concat with rfl | ⟨r, p, rfl⟩
 ·rw [keepTo_nil]
  simp [sumOf_cons, sumOf_nil, keepOf, putOf, dropOf]
 ·rw [List.concat_eq_append]
  by_cases hk : p.kind = 1
  ·rw [keepTo_t n hk]
   simp [sumOf_app, sumOf_cons, sumOf_nil, keepOf, putOf, dropOf, hk]
   omega
  ·rw [keepTo_f n hk]
   simp [sumOf_app, sumOf_cons, sumOf_nil, keepOf, putOf, dropOf]
   omega
theorem sum_step {s : List Pt × List Int × Int} {p : Pt} (h : 0 ≤ s.2.2) (hp : szP_ p) : 0 ≤ (stepN s p).2.2 ∧ sumOf keepOf (doneN (stepN s p)) = sumOf keepOf (doneN s) + keepOf p ∧ sumOf putOf (doneN (stepN s p)) = sumOf putOf (doneN s) + putOf p ∧ sumOf dropOf (doneN (stepN s p)) = sumOf dropOf (doneN s) + dropOf p := by
 obtain ⟨hk, hn0, hn1, hz⟩ := hp
 rcases hk with e | e | e
 ·by_cases h0 : p.n = 0
  ·have : stepN s p = s := by unfold stepN; rw [if_pos e, if_pos h0]
   rw [this]
   simp [keepOf, putOf, dropOf, e, h0]
   exact h
  ·have : stepN s p = (keepTo (doneN s) p.n, [], 0) := by unfold stepN; rw [if_pos e, if_neg h0]; rfl
   rw [this]
   obtain ⟨a1, a2, a3⟩ := sum_keepTo (doneN s) p.n
   obtain ⟨b1, b2, b3⟩ := sum_done (keepTo (doneN s) p.n, [], 0) (by simp)
   rw [b1, b2, b3]
   simp only [a1, a2, a3]
   simp [keepOf, putOf, dropOf, e]
 ·have : stepN s p = (s.1, s.2.1 ++ p.signs, s.2.2) := by unfold stepN; rw [if_neg (by omega), if_pos e]
  rw [this]
  obtain ⟨b1, b2, b3⟩ := sum_done (s.1, s.2.1 ++ p.signs, s.2.2) h
  obtain ⟨c1, c2, c3⟩ := sum_done s h
  rw [b1, b2, b3, c1, c2, c3]
  simp [keepOf, putOf, dropOf, e]
  omega
 ·have : stepN s p = (s.1, s.2.1, s.2.2 + p.n) := by unfold stepN; rw [if_neg (by omega), if_neg (by omega)]
  rw [this]
  have h' : 0 ≤ s.2.2 + p.n := by omega
  obtain ⟨b1, b2, b3⟩ := sum_done (s.1, s.2.1, s.2.2 + p.n) h'
  obtain ⟨c1, c2, c3⟩ := sum_done s h
  rw [b1, b2, b3, c1, c2, c3]
  simp [keepOf, putOf, dropOf, e]
  omega
theorem sum_fold : ∀ (L : List Pt) (s : List Pt × List Int × Int), 0 ≤ s.2.2 → (∀ p ∈ L, szP_ p) → 0 ≤ (L.foldl stepN s).2.2 ∧ sumOf keepOf (doneN (L.foldl stepN s)) = sumOf keepOf (doneN s) + sumOf keepOf L ∧ sumOf putOf (doneN (L.foldl stepN s)) = sumOf putOf (doneN s) + sumOf putOf L ∧ sumOf dropOf (doneN (L.foldl stepN s)) = sumOf dropOf (doneN s) + sumOf dropOf L
 | [], s, h, _ => by simp [sumOf_nil]; exact h
 | p :: L, s, h, hp => by
  obtain ⟨a0, a1, a2, a3⟩ := sum_step h (hp p (by simp))
  obtain ⟨b0, b1, b2, b3⟩ := sum_fold L (stepN s p) a0 (fun q hq => hp q (by simp [hq]))
  rw [List.foldl_cons, b1, b2, b3, a1, a2, a3, sumOf_cons, sumOf_cons, sumOf_cons]
  exact ⟨b0, by omega, by omega, by omega⟩
theorem sum_norm {L : List Pt} (h : ∀ p ∈ L, szP_ p) : sumOf keepOf (doneN (foldN L)) = sumOf keepOf L ∧ sumOf putOf (doneN (foldN L)) = sumOf putOf L ∧ sumOf dropOf (doneN (foldN L)) = sumOf dropOf L := by
 obtain ⟨_, h1, h2, h3⟩ := sum_fold L ([], [], 0) (by simp) h
 have e : doneN ([], [], 0) = [] := by simp [doneN, putL, dropL]
 rw [e] at h1 h2 h3
 simp only [sumOf_nil, Int.zero_add] at h1 h2 h3
 exact ⟨h1, h2, h3⟩
def tidy (p : Pt) : Prop := (p.kind = 1 ∧ 0 < p.n ∧ p.signs = []) ∨ (p.kind = 2 ∧ p.n = 0 ∧ 0 < p.signs.length) ∨ (p.kind = 3 ∧ 0 < p.n ∧ p.signs = [])
def nextOk (p q : Pt) : Prop := (p.kind = 1 → q.kind = 2 ∨ q.kind = 3) ∧ (p.kind = 2 → q.kind = 1 ∨ q.kind = 3) ∧ (p.kind = 3 → q.kind = 1)
def inOrder : List Pt → Prop
 | [] => True
 | [_] => True
 | p :: q :: r => nextOk p q ∧ inOrder (q :: r)
def normal (L : List Pt) : Prop := (∀ p ∈ L, tidy p) ∧ inOrder L
theorem inOrder_app : ∀ (a : List Pt) (p q : Pt) (b : List Pt), inOrder (a ++ [p]) → nextOk p q → inOrder (q :: b) → inOrder (a ++ p :: q :: b)
 | [], p, q, b, _, h2, h3 => ⟨h2, h3⟩
 | [x], p, q, b, h1, h2, h3 => ⟨h1.1, h2, h3⟩
 | x :: y :: a, p, q, b, h1, h2, h3 => ⟨h1.1, inOrder_app (y :: a) p q b h1.2 h2 h3⟩
theorem inOrder_init : ∀ (a b : List Pt), inOrder (a ++ b) → inOrder a
 | [], _, _ => trivial
 | [_], _, _ => trivial
 | x :: y :: a, b, h => ⟨h.1, inOrder_init (y :: a) b h.2⟩
def lastK (L : List Pt) : Int := match L.getLast? with | some p => p.kind | none => 0
theorem lastK_app (a : List Pt) (p : Pt) : lastK (a ++ [p]) = p.kind := by simp [lastK]
theorem normal_snoc {L : List Pt} {q : Pt} (h : normal L) (hq : tidy q) (hl : ∀ p, L.getLast? = some p → nextOk p q) : normal (L ++ [q]) := by
 refine ⟨fun p hp => ?_, ?_⟩
 ·rcases List.mem_append.1 hp with hp | hp
  ·exact h.1 p hp
  ·simp at hp; subst hp; exact hq
 ·rcases L.eq_nil_or_concat with rfl | ⟨a, p, rfl⟩
  ·trivial
  ·rw [List.concat_eq_append] at *
   have := inOrder_app a p q [] h.2 (hl p (by simp)) trivial
   simpa using this
def okS_ (s : List Pt × List Int × Int) : Prop := normal s.1 ∧ (s.1 = [] ∨ lastK s.1 = 1) ∧ 0 ≤ s.2.2
theorem getLast_kind {L : List Pt} {p : Pt} (h : L = [] ∨ lastK L = 1) (hp : L.getLast? = some p) : p.kind = 1 := by
 rcases h with rfl | h
 ·simp at hp
 ·unfold lastK at h
  rw [hp] at h
  exact h
theorem normal_done {s : List Pt × List Int × Int} (h : okS_ s) : normal (doneN s) := by
 obtain ⟨h1, h2, h3⟩ := h
 unfold doneN putL dropL
 by_cases hp : s.2.1.length = 0
 ·rw [if_pos hp, List.append_nil]
  by_cases hd : 0 < s.2.2
  ·rw [if_pos hd]
   refine normal_snoc h1 (.inr (.inr ⟨rfl, hd, rfl⟩)) (fun p hp' => ?_)
   have := getLast_kind h2 hp'
   exact ⟨fun _ => .inr rfl, fun e => by omega, fun e => by omega⟩
  ·rw [if_neg hd, List.append_nil]
   exact h1
 ·rw [if_neg hp]
  have hn : normal (s.1 ++ [⟨2, 0, s.2.1⟩]) := normal_snoc h1 (.inr (.inl ⟨rfl, rfl, by simp; omega⟩)) (fun p hp' => by
   have := getLast_kind h2 hp'
   exact ⟨fun _ => .inl rfl, fun e => by omega, fun e => by omega⟩)
  by_cases hd : 0 < s.2.2
  ·rw [if_pos hd]
   refine normal_snoc hn (.inr (.inr ⟨rfl, hd, rfl⟩)) (fun p hp' => ?_)
   simp at hp'
   subst hp'
   exact ⟨fun e => by simp at e, fun _ => .inr rfl, fun e => by simp at e⟩
  ·rw [if_neg hd, List.append_nil]
   exact hn
theorem normal_keepTo {q : List Pt} {n : Int} (h : normal q) (hn : 0 < n) : normal (keepTo q n) ∧ lastK (keepTo q n) = 1 := by
 rcases q.eq_nil_or_concat with rfl | ⟨r, p, rfl⟩
 ·rw [keepTo_nil]
  exact ⟨⟨fun p hp => by simp at hp; subst hp; exact .inl ⟨rfl, hn, rfl⟩, trivial⟩, rfl⟩
 ·rw [List.concat_eq_append] at *
  by_cases hk : p.kind = 1
  ·rw [keepTo_t n hk]
   have hp := h.1 p (by simp)
   refine ⟨⟨fun x hx => ?_, ?_⟩, by rw [lastK_app]; exact hk⟩
   ·rcases List.mem_append.1 hx with hx | hx
    ·exact h.1 x (by simp [hx])
    ·simp at hx
     subst hx
     unfold tidy at *
     simp only
     rcases hp with ⟨a, b, c⟩ | ⟨a, b, c⟩ | ⟨a, b, c⟩
     ·exact .inl ⟨a, by omega, c⟩
     ·omega
     ·omega
   ·rcases r.eq_nil_or_concat with rfl | ⟨a, x, rfl⟩
    ·trivial
    ·rw [List.concat_eq_append] at *
     have h2 : inOrder (a ++ x :: p :: []) := by simpa using h.2
     have hx : nextOk x p := by
      clear hp hk h
      induction a with
      | nil => exact h2.1
      | cons y a ih =>
       cases a with
       | nil => exact h2.2.1
       | cons z a => exact ih h2.2
     have := inOrder_app a x ⟨p.kind, p.n + n, p.signs⟩ [] (inOrder_init (a ++ [x]) [p] (by simpa using h2)) hx trivial
     simpa using this
  ·rw [keepTo_f n hk]
   refine ⟨normal_snoc h (.inl ⟨rfl, hn, rfl⟩) (fun x hx => ?_), by rw [lastK_app]⟩
   simp at hx
   subst hx
   exact ⟨fun e => absurd e hk, fun _ => .inl rfl, fun _ => rfl⟩
theorem okS_step {s : List Pt × List Int × Int} {p : Pt} (h : okS_ s) (hp : szP_ p) : okS_ (stepN s p) := by
 obtain ⟨hk, hn0, hn1, hz⟩ := hp
 rcases hk with e | e | e
 ·by_cases h0 : p.n = 0
  ·have : stepN s p = s := by unfold stepN; rw [if_pos e, if_pos h0]
   rw [this]; exact h
  ·have : stepN s p = (keepTo (doneN s) p.n, [], 0) := by unfold stepN; rw [if_pos e, if_neg h0]; rfl
   rw [this]
   obtain ⟨a, b⟩ := normal_keepTo (normal_done h) (show 0 < p.n by omega)
   exact ⟨a, .inr b, by simp⟩
 ·have : stepN s p = (s.1, s.2.1 ++ p.signs, s.2.2) := by unfold stepN; rw [if_neg (by omega), if_pos e]
  rw [this]; exact h
 ·have : stepN s p = (s.1, s.2.1, s.2.2 + p.n) := by unfold stepN; rw [if_neg (by omega), if_neg (by omega)]
  rw [this]; exact ⟨h.1, h.2.1, by have := h.2.2; simp only; omega⟩
theorem okS_fold : ∀ (L : List Pt) (s : List Pt × List Int × Int), okS_ s → (∀ p ∈ L, szP_ p) → okS_ (L.foldl stepN s)
 | [], s, h, _ => h
 | p :: L, s, h, hp => okS_fold L (stepN s p) (okS_step h (hp p (by simp))) (fun q hq => hp q (by simp [hq]))
theorem normal_fold {L : List Pt} (h : ∀ p ∈ L, szP_ p) : normal (doneN (foldN L)) := normal_done (okS_fold L ([], [], 0) ⟨⟨fun p hp => by simp at hp, trivial⟩, .inl rfl, by simp⟩ h)
theorem inOrder_mid : ∀ (a : List Pt) (p q : Pt) (b : List Pt), inOrder (a ++ p :: q :: b) → nextOk p q
 | [], p, q, b, h => h.1
 | [x], p, q, b, h => h.2.1
 | x :: y :: a, p, q, b, h => inOrder_mid (y :: a) p q b h.2
theorem last_done {s : List Pt × List Int × Int} : (0 < s.2.2 → ∃ a p, doneN s = a ++ [p] ∧ p.kind = 3) ∧ (¬ 0 < s.2.2 → ¬ s.2.1.length = 0 → ∃ a p, doneN s = a ++ [p] ∧ p.kind = 2) := by
 refine ⟨fun h => ⟨s.1 ++ putL s.2.1, ⟨3, s.2.2, []⟩, by simp [doneN, dropL, h], rfl⟩, fun h h' => ⟨s.1, ⟨2, 0, s.2.1⟩, by simp [doneN, dropL, putL, h, h'], rfl⟩⟩
theorem fold_normal : ∀ (L : List Pt) (s : List Pt × List Int × Int), 0 ≤ s.2.2 → (∀ p ∈ L, tidy p) → inOrder (doneN s ++ L) → doneN (L.foldl stepN s) = doneN s ++ L
 | [], s, _, _, _ => by simp
 | p :: L, s, h0, ht, ho => by
  have hp := ht p (by simp)
  have key : doneN (stepN s p) = doneN s ++ [p] ∧ 0 ≤ (stepN s p).2.2 := by
   have hlast : ∀ a q, doneN s = a ++ [q] → nextOk q p := fun a q e => by
    rw [e] at ho
    exact inOrder_mid a q p L (by simpa using ho)
   rcases hp with ⟨e, hn, hz⟩ | ⟨e, hn, hz⟩ | ⟨e, hn, hz⟩
   ·have hs : stepN s p = (keepTo (doneN s) p.n, [], 0) := by unfold stepN; rw [if_pos e, if_neg (by omega)]; rfl
    rw [hs]
    refine ⟨?_, by simp⟩
    have hd : doneN (keepTo (doneN s) p.n, [], 0) = keepTo (doneN s) p.n := by simp [doneN, putL, dropL]
    have hpp : p = ⟨1, p.n, []⟩ := by obtain ⟨a, b, c⟩ := p; simp only at e hz; rw [e, hz]
    rw [hd]
    rcases (doneN s).eq_nil_or_concat with e0 | ⟨a, q, e0⟩
    ·rw [e0, keepTo_nil, List.nil_append, ← hpp]
    ·rw [List.concat_eq_append] at e0
     have := hlast a q e0
     have hq : ¬ q.kind = 1 := fun h1 => by have := this.1 h1; omega
     rw [e0, keepTo_f _ hq, ← hpp]
   ·have hs : stepN s p = (s.1, s.2.1 ++ p.signs, s.2.2) := by unfold stepN; rw [if_neg (by omega), if_pos e]
    rw [hs]
    have hd0 : ¬ 0 < s.2.2 := fun h1 => by
     obtain ⟨a, q, e1, e2⟩ := last_done.1 h1
     have := (hlast a q e1).2.2 e2
     omega
    have hp0 : s.2.1.length = 0 := by
     rcases Nat.eq_zero_or_pos s.2.1.length with h1 | h1
     ·exact h1
     ·obtain ⟨a, q, e1, e2⟩ := last_done.2 hd0 (by omega)
      have := (hlast a q e1).2.1 e2
      omega
    refine ⟨?_, h0⟩
    have he : s.2.1 = [] := List.eq_nil_of_length_eq_zero hp0
    have hpp : p = ⟨2, 0, p.signs⟩ := by obtain ⟨a, b, c⟩ := p; simp only at e hn; rw [e, hn]
    unfold doneN putL dropL
    simp only [he, List.nil_append, List.length_nil, if_true, if_neg hd0, if_neg (show ¬ p.signs.length = 0 by omega), List.append_nil]
    rw [← hpp]
   ·have hs : stepN s p = (s.1, s.2.1, s.2.2 + p.n) := by unfold stepN; rw [if_neg (by omega), if_neg (by omega)]
    rw [hs]
    have hd0 : ¬ 0 < s.2.2 := fun h1 => by
     obtain ⟨a, q, e1, e2⟩ := last_done.1 h1
     have := (hlast a q e1).2.2 e2
     omega
    refine ⟨?_, by simp only; omega⟩
    have hpp : p = ⟨3, p.n, []⟩ := by obtain ⟨a, b, c⟩ := p; simp only at e hz; rw [e, hz]
    have e0 : s.2.2 = 0 := by omega
    unfold doneN dropL
    simp only [e0, Int.zero_add, if_pos hn]
    simp only [show ¬ (0 : Int) < 0 by omega, if_false, List.append_nil]
    rw [← hpp]
  rw [List.foldl_cons, fold_normal L (stepN s p) key.2 (fun q hq => ht q (by simp [hq])) (by rw [key.1]; simpa using ho), key.1]
  simp
theorem norm_self {L : List Pt} (h : normal L) : doneN (foldN L) = L := by
 have e : doneN ([], [], 0) = [] := by simp [doneN, putL, dropL]
 have := fold_normal L ([], [], 0) (by simp) h.1 (by rw [e]; exact h.2)
 rw [e] at this
 exact this
theorem len_step (s : List Pt × List Int × Int) (p : Pt) (h0 : 0 ≤ s.2.2) : (doneN (stepN s p)).length ≤ (doneN s).length + 1 := by
 unfold stepN
 split
 ·split
  ·omega
  ·have e : doneN (keepTo (s.1 ++ putL s.2.1 ++ dropL s.2.2) p.n, [], 0) = keepTo (doneN s) p.n := by simp [doneN, putL, dropL]
   rw [e]
   rcases (doneN s).eq_nil_or_concat with e0 | ⟨a, q, e0⟩
   ·rw [e0, keepTo_nil]; simp
   ·rw [List.concat_eq_append] at e0
    rw [e0]
    by_cases hk : q.kind = 1
    ·rw [keepTo_t _ hk]; simp
    ·rw [keepTo_f _ hk]; simp
 ·split
  ·unfold doneN
   have a1 : (putL (s.2.1 ++ p.signs)).length ≤ (putL s.2.1).length + 1 := by have := (putL_len (s.2.1 ++ p.signs)).1; omega
   simp only [List.length_append]
   omega
  ·unfold doneN
   have a1 : (dropL (s.2.2 + p.n)).length ≤ (dropL s.2.2).length + 1 := by have := (dropL_len (s.2.2 + p.n)).1; omega
   simp only [List.length_append]
   omega
theorem len_fold : ∀ (L : List Pt) (s : List Pt × List Int × Int), 0 ≤ s.2.2 → (∀ p ∈ L, szP_ p) → (doneN (L.foldl stepN s)).length ≤ (doneN s).length + L.length
 | [], s, _, _ => by simp
 | p :: L, s, h, hp => by
  have a := len_step s p h
  have b := len_fold L (stepN s p) (sum_step h (hp p (by simp))).1 (fun q hq => hp q (by simp [hq]))
  rw [List.foldl_cons, List.length_cons]
  omega
theorem norm_length {L : List Pt} (h : ∀ p ∈ L, szP_ p) : (doneN (foldN L)).length ≤ L.length := by
 have e : doneN ([], [], 0) = [] := by simp [doneN, putL, dropL]
 have := len_fold L ([], [], 0) (by simp) h
 rw [e, List.length_nil, Nat.zero_add] at this
 exact this
theorem allB_app (a b : List Int) : allB (a ++ b) = (allB a && allB b) := by simp [allB]
def okA (s : List Pt × List Int × Int) : Prop := (∀ p ∈ s.1, allB p.signs = true) ∧ allB s.2.1 = true
theorem okA_done {s : List Pt × List Int × Int} (h : okA s) : ∀ p ∈ doneN s, allB p.signs = true := fun p hp => by
 unfold doneN putL dropL at hp
 rcases List.mem_append.1 hp with hp | hp
 ·rcases List.mem_append.1 hp with hp | hp
  ·exact h.1 p hp
  ·split at hp
   ·simp at hp
   ·simp at hp; subst hp; exact h.2
 ·split at hp
  ·simp at hp; subst hp; rfl
  ·simp at hp
theorem okA_step {s : List Pt × List Int × Int} {p : Pt} (h : okA s) (hp : allB p.signs = true) : okA (stepN s p) := by
 unfold stepN
 split
 ·split
  ·exact h
  ·have hd := okA_done h
   refine ⟨?_, rfl⟩
   change ∀ q ∈ keepTo (doneN s) p.n, _
   rcases (doneN s).eq_nil_or_concat with e0 | ⟨a, q, e0⟩
   ·rw [e0, keepTo_nil]; intro x hx; simp at hx; subst hx; rfl
   ·rw [List.concat_eq_append] at e0
    rw [e0] at hd ⊢
    intro x hx
    by_cases hk : q.kind = 1
    ·rw [keepTo_t _ hk] at hx
     rcases List.mem_append.1 hx with hx | hx
     ·exact hd x (by simp [hx])
     ·simp at hx; subst hx; exact hd q (by simp)
    ·rw [keepTo_f _ hk] at hx
     rcases List.mem_append.1 hx with hx | hx
     ·exact hd x hx
     ·simp at hx; subst hx; rfl
 ·split
  ·exact ⟨h.1, by simp only; rw [allB_app, h.2, hp]; rfl⟩
  ·exact h
theorem okA_fold : ∀ (L : List Pt) (s : List Pt × List Int × Int), okA s → (∀ p ∈ L, allB p.signs = true) → okA (L.foldl stepN s)
 | [], s, h, _ => h
 | p :: L, s, h, hp => okA_fold L (stepN s p) (okA_step h (hp p (by simp))) (fun q hq => hp q (by simp [hq]))
theorem norm_allB {L : List Pt} (h : ∀ p ∈ L, allB p.signs = true) : ∀ p ∈ doneN (foldN L), allB p.signs = true := okA_done (okA_fold L ([], [], 0) ⟨fun p hp => by simp at hp, rfl⟩ h)
theorem sumOf_mem {f : Pt → Int} : ∀ {L : List Pt} {p : Pt}, (∀ q ∈ L, 0 ≤ f q) → p ∈ L → f p ≤ sumOf f L
 | [], _, _, h => by simp at h
 | q :: L, p, h0, h => by
  rw [sumOf_cons]
  have hs : 0 ≤ sumOf f L := by
   have hL : ∀ q ∈ L, 0 ≤ f q := fun q hq => h0 q (by simp [hq])
   clear h h0
   induction L with
   | nil => simp [sumOf_nil]
   | cons x L ih => rw [sumOf_cons]; have := hL x (by simp); have := ih (fun q hq => hL q (by simp [hq])); omega
  rcases List.mem_cons.1 h with rfl | h
  ·omega
  ·have := sumOf_mem (f := f) (fun q hq => h0 q (by simp [hq])) h
   have := h0 q (by simp)
   omega
theorem tidy_nonneg {p : Pt} (h : tidy p) : 0 ≤ keepOf p ∧ 0 ≤ putOf p ∧ 0 ≤ dropOf p := by
 unfold keepOf putOf dropOf
 rcases h with ⟨a, b, c⟩ | ⟨a, b, c⟩ | ⟨a, b, c⟩ <;> simp [a] <;> omega
theorem tidy_ok {L : List Pt} (ht : ∀ p ∈ L, tidy p) (ha : ∀ p ∈ L, allB p.signs = true) (h1 : sumOf keepOf L ≤ 200) (h2 : sumOf putOf L ≤ 200) (h3 : sumOf dropOf L ≤ 200) : okPs L = true := by
 unfold okPs
 rw [List.all_eq_true]
 intro p hp
 have k1 := sumOf_mem (f := keepOf) (fun q hq => (tidy_nonneg (ht q hq)).1) hp
 have k2 := sumOf_mem (f := putOf) (fun q hq => (tidy_nonneg (ht q hq)).2.1) hp
 have k3 := sumOf_mem (f := dropOf) (fun q hq => (tidy_nonneg (ht q hq)).2.2) hp
 have k1 := Int.le_trans k1 h1
 have k2 := Int.le_trans k2 h2
 have k3 := Int.le_trans k3 h3
 unfold keepOf at k1
 unfold putOf at k2
 unfold dropOf at k3
 apply okPt_t
 rcases ht p hp with ⟨a, b, c⟩ | ⟨a, b, c⟩ | ⟨a, b, c⟩
 ·rw [if_pos a] at k1
  exact .inl ⟨.inl a, ⟨by omega, by omega⟩, by rw [c]; rfl⟩
 ·rw [if_pos a] at k2
  exact .inr ⟨a, b, ha p hp, by omega⟩
 ·rw [if_pos a] at k3
  exact .inl ⟨.inr a, ⟨by omega, by omega⟩, by rw [c]; rfl⟩
theorem okOp_of {ps : List Pt} (h : okOp ps = true) : okPs ps = true ∧ ps.length ≤ 600 ∧ sumOf keepOf ps + sumOf dropOf ps ≤ 200 ∧ sumOf keepOf ps + sumOf putOf ps ≤ 200 ∧ 0 ≤ sumOf keepOf ps ∧ 0 ≤ sumOf putOf ps ∧ 0 ≤ sumOf dropOf ps := by
 unfold okOp at h
 rw [Bool.and_eq_true, Bool.and_eq_true] at h
 obtain ⟨⟨h4, h5⟩, h6⟩ := h
 have h7 := partsB_of h4
 obtain ⟨t1, t2, t3⟩ := sum_t h4
 have h5 := of_decide_eq_true h5
 have h6 := of_decide_eq_true h6
 rw [t1, t3] at h5
 rw [t1, t2] at h6
 have := sums_bd h7.1 h7.2
 exact ⟨h7.1, h7.2, h5, h6, this.1.1, this.2.1.1, this.2.2.1⟩
theorem of_okOp {ps : List Pt} (h1 : okPs ps = true) (h2 : ps.length ≤ 600) (h3 : sumOf keepOf ps + sumOf dropOf ps ≤ 200) (h4 : sumOf keepOf ps + sumOf putOf ps ≤ 200) : okOp ps = true := by
 have hb : partsB ps = true := by unfold partsB; rw [h1, decide_eq_true h2]; rfl
 obtain ⟨t1, t2, t3⟩ := sum_t hb
 unfold okOp
 rw [hb, t1, t2, t3, decide_eq_true h3, decide_eq_true h4]
 rfl
theorem okPs_sz {ps : List Pt} (h : okPs ps = true) : ∀ p ∈ ps, szP_ p := fun p hp => szP_of (by unfold okPs at h; exact List.all_eq_true.1 h p hp)
theorem okPs_allB {ps : List Pt} (h : okPs ps = true) : ∀ p ∈ ps, allB p.signs = true := fun p hp => by
 have := of_okPt (show okPt p = true by unfold okPs at h; exact List.all_eq_true.1 h p hp)
 rcases this with ⟨_, _, hz⟩ | ⟨_, _, ha, _⟩
 ·rw [List.eq_nil_of_length_eq_zero hz]; rfl
 ·exact ha
theorem norm_ok {ps : List Pt} (h : okOp ps = true) : okOp (normL ps) = true ∧ normal (normL ps) ∧ sumOf keepOf (normL ps) = sumOf keepOf ps ∧ sumOf putOf (normL ps) = sumOf putOf ps ∧ sumOf dropOf (normL ps) = sumOf dropOf ps := by
 obtain ⟨h1, h2, h3, h4, h5, h6, h7⟩ := okOp_of h
 have e : normL ps = doneN (foldN ps) := by unfold normL; rw [if_pos h]
 obtain ⟨s1, s2, s3⟩ := sum_norm (okPs_sz h1)
 have hn := normal_fold (okPs_sz h1)
 have hl := norm_length (okPs_sz h1)
 have ha := norm_allB (okPs_allB h1)
 rw [e]
 refine ⟨of_okOp (tidy_ok hn.1 ha (by omega) (by omega) (by omega)) (by omega) (by omega) (by omega), hn, s1, s2, s3⟩
theorem norm_norm {ps : List Pt} : normL (normL ps) = normL ps := by
 by_cases h : okOp ps = true
 ·obtain ⟨h1, h2, _⟩ := norm_ok h
  have e : ∀ qs, okOp qs = true → normL qs = doneN (foldN qs) := fun qs hq => by unfold normL; rw [if_pos hq]
  rw [e (normL ps) h1, norm_self h2]
 ·have e : normL ps = [] := by unfold normL; rw [if_neg h]
  rw [e]
  unfold normL
  split
  ·simp [foldN, doneN, putL, dropL]
  ·rfl
theorem specOpNorm_d (v : Value) (ps : List Pt) (w : World) (h : RdC w w.heap.size (encPs ps) v) (hs : SmP ps) : Calls Try.prog 50 #[v] w (OwnPost (encPs (normL ps)) w) := by
 obtain ⟨A, c, rfl, hr, _⟩ := parts_rd h
 have hl := hs.1
 refine (specOpNorm_any A c ps w hr (by omega) hs.all4 hs.2).mono ?_
 rintro e w1 ⟨v1, rfl, p1, b1⟩
 exact ⟨v1, rfl, own_parts p1, b1⟩
theorem implFlush_f (S : Nat → Prop) (lo g : Nat) (ps : List Pt) (put : List Int) (d : Int) (w : World) (hb : BAtS S lo g 119 w ps put d) (hS : ∀ b, w.heap.size ≤ b → S b) (hl : ps.length ≤ 4294967296) (hp : put.length ≤ 4294967296) :
  Calls Try.prog 121 #[.pointer (some ⟨g, 0, none⟩)] w (FlushedS S lo g 119 w (ps ++ putL put ++ dropL d)) := by
 obtain ⟨i0, hi0, hz0, hz1, hz2⟩ := info_parts part_info
 obtain ⟨v, u, us, hx, ha, hos⟩ := hb
 have HS := Lib.hid hS
 have HOS := Lib.hid hos
 clear hS hos
 have ha0 := ha.init hx.len
 obtain ⟨A, c, rfl⟩ := own_form (ha.last hx.len)
 have c0 := hx.cell0
 have c1 := hx.cell1
 have c2 := hx.cell2
 have f0 := hx.free 0
 have f1 := hx.free 1
 have f2 := hx.free 2
 have HX := Lib.hid hx
 have HA := Lib.hid ha
 have HA0 := Lib.hid ha0
 clear hx ha ha0
 by_cases hput : put.length = 0
 ·have e1 : putL put = [] := by simp [putL, hput]
  rw [e1, List.append_nil]
  by_cases hd : 0 < d
  ·have e2 : dropL d = [⟨3, d, []⟩] := by simp [dropL, hd]
   rw [e2]
   go_enter Try.func121, Try.ntmps121
   go_wp2_with fail
   have lg := HX.out.lt
   have hlo : lo ≤ w.heap.size := Nat.le_trans HX.out.low (Nat.le_of_lt lg)
   have hne := own_far HX.out.row HX.out.box (by decide)
   go_region_law ((refine step_append_lies _ (by rfl) (.tmp 31) (.tmp 37) 30 (by rfl) lo 93 i0 _ 3 40 Try.underlying30 hi0 hz0 hz1 hz2 rfl (by omega) v ps.length (cellsOf ps us) (by rfl) ((HX.out.row.alloc _).drew) ⟨w.heap.size, 0, none⟩ 1 1 [.int .i64 3, .int .i64 d, .slice none 0 0] (by rfl) (by rfl) (World.news_of_block (cs := #[.int .i64 3, .int .i64 d, .slice none 0 0]) (t := 93) (fr := (0, 0)) (heap_alloc_new w _)) (by simp [Value.oneCell']) (by omega) (by unfold maxLen; omega) (by omega) (by simp; omega) (w.heap.size + 1) (by simp) ?_; intro gg cap w1 hown1 hgrow hat hlt; have hf := free_grown (o := 0) HX.out.box (below_made w _) hgrow hne; have hf1 := free_grown (o := 1) HX.out.box (below_made w _) hgrow hne; have hf2 := free_grown (o := 2) HX.out.box (below_made w _) hgrow hne; have hc : w1.cell? ⟨g, 0, none⟩ = some v := cell_grown 0 HX.out.box (below_made w _) hgrow hne; have hc1 : w1.cell? ⟨g, 1, none⟩ = some (.slice A put.length c) := cell_grown 1 HX.out.box (below_made w _) hgrow hne; have hc2 : w1.cell? ⟨g, 2, none⟩ = some (.int .i64 d) := cell_grown 2 HX.out.box (below_made w _) hgrow hne))
   all_goals
    obtain ⟨hx2, ha2, b2⟩ := Box.push (p := ⟨3, d, []⟩) HX.out (by decide) (by decide) (Apart.bare 3 d HA0.out) (below_made w _) hown1 hgrow
    have HO2 := Lib.hid (HOS.out.init.push (n := ps.length + 1) (cap := cap) nil_own hat (HS.out _ (by omega)))
    have HR2 := Lib.hid (push_fr HOS.out.init (below_made w _) hgrow (.slice (some ⟨gg, 0, none⟩) (ps.length + 1) cap))
    have HX2 := Lib.hid hx2
    have HA2 := Lib.hid ha2
    have HB2 := Lib.hid b2
    clear hx2 ha2 b2
    go_wp2
    go_end0
    obtain ⟨r1, r2, r3⟩ := HX2.out.clearS (by decide) (by decide) HA2.out HO2.out
    exact ⟨rfl, r1, HB2.out.trans r2, HR2.out.trans r3⟩
  ·have e2 : dropL d = [] := by simp [dropL]; omega
   rw [e2, List.append_nil]
   go_enter Try.func121, Try.ntmps121
   go_wp2_with fail
   go_end0
   obtain ⟨r1, r2, r3⟩ := HX.out.clearS (by decide) (by decide) HA0.out HOS.out.init
   exact ⟨rfl, r1, r2, r3⟩
 ·have hput' : (0 : Int) < (put.length : Int) := by omega
  have e1 : putL put = [⟨2, 0, put⟩] := by simp [putL, hput]
  rw [e1]
  by_cases hd : 0 < d
  ·have e2 : dropL d = [⟨3, d, []⟩] := by simp [dropL, hd]
   rw [e2]
   generalize hQ : ps ++ [⟨2, 0, put⟩] ++ [⟨3, d, []⟩] = Q
   have HQ := Lib.hid hQ
   clear hQ
   go_enter Try.func121, Try.ntmps121
   go_wp2_with fail
   have lg := HX.out.lt
   have hlo : lo ≤ w.heap.size := Nat.le_trans HX.out.low (Nat.le_of_lt lg)
   have hne := own_far HX.out.row HX.out.box (by decide)
   go_region_law ((refine step_append_lies _ (by rfl) (.tmp 12) (.tmp 18) 30 (by rfl) lo 93 i0 _ 3 40 Try.underlying30 hi0 hz0 hz1 hz2 rfl (by omega) v ps.length (cellsOf ps us) (by rfl) ((HX.out.row.alloc _).drew) ⟨w.heap.size, 0, none⟩ 1 1 [.int .i64 2, .int .i64 0, .slice A put.length c] (by rfl) (by rfl) (World.news_of_block (cs := #[.int .i64 2, .int .i64 0, .slice A put.length c]) (t := 93) (fr := (0, 0)) (heap_alloc_new w _)) (by simp [Value.oneCell']) (by omega) (by unfold maxLen; omega) (by omega) (by simp; omega) (w.heap.size + 1) (by simp) ?_; intro gg cap w1 hown1 hgrow hat hlt; have hf := free_grown (o := 0) HX.out.box (below_made w _) hgrow hne; have hf1 := free_grown (o := 1) HX.out.box (below_made w _) hgrow hne; have hf2 := free_grown (o := 2) HX.out.box (below_made w _) hgrow hne; have hc : w1.cell? ⟨g, 0, none⟩ = some v := cell_grown 0 HX.out.box (below_made w _) hgrow hne; have hc1 : w1.cell? ⟨g, 1, none⟩ = some (.slice A put.length c) := cell_grown 1 HX.out.box (below_made w _) hgrow hne; have hc2 : w1.cell? ⟨g, 2, none⟩ = some (.int .i64 d) := cell_grown 2 HX.out.box (below_made w _) hgrow hne))
   all_goals
    obtain ⟨hx1, ha1, b1⟩ := Box.push (p := ⟨2, 0, put⟩) HX.out (by decide) (by decide) HA.out (below_made w _) hown1 hgrow
    have HO1 := Lib.hid (HOS.out.init.push (n := ps.length + 1) (cap := cap) HOS.out.last hat (HS.out _ (by omega)))
    have HR1 := Lib.hid (push_fr HOS.out.init (below_made w _) hgrow (.slice (some ⟨gg, 0, none⟩) (ps.length + 1) cap))
    clear hown1 hgrow hat hlt hlo hne lg c0 c1 c2 f0 f1 f2
    have HX1 := Lib.hid hx1
    have HA1 := Lib.hid ha1
    have HB1 := Lib.hid b1
    clear hx1 ha1 b1
    go_wp2_with fail
    clear hf hf1 hf2 hc hc1 hc2
    generalize (Value.slice (some ⟨gg, 0, none⟩) (ps.length + 1) cap) = v1 at *
    generalize w1.setCell ⟨g, 0, none⟩ v1 = W1 at *
    have c0 := HX1.out.cell0
    have c1 := HX1.out.cell1
    have c2 := HX1.out.cell2
    have f0 := HX1.out.free 0
    have f1 := HX1.out.free 1
    have f2 := HX1.out.free 2
    generalize hps : ps ++ [⟨2, 0, put⟩] = ps1 at *
    have hl1 : ps1.length ≤ 4294967297 := by rw [← hps]; simp; omega
    clear hps
    generalize us ++ [Value.slice A put.length c] = us1 at *
    have lg := HX1.out.lt
    have hlo : lo ≤ W1.heap.size := Nat.le_trans HX1.out.low (Nat.le_of_lt lg)
    have hne := own_far HX1.out.row HX1.out.box (by decide)
    go_region_law ((refine step_append_lies _ (by rfl) (.tmp 31) (.tmp 37) 30 (by rfl) lo 93 i0 _ 3 40 Try.underlying30 hi0 hz0 hz1 hz2 rfl (by omega) v1 ps1.length (cellsOf ps1 us1) (by rfl) ((HX1.out.row.alloc _).drew) ⟨W1.heap.size, 0, none⟩ 1 1 [.int .i64 3, .int .i64 d, .slice none 0 0] (by rfl) (by rfl) (World.news_of_block (cs := #[.int .i64 3, .int .i64 d, .slice none 0 0]) (t := 93) (fr := (0, 0)) (heap_alloc_new W1 _)) (by simp [Value.oneCell']) (by omega) (by unfold maxLen; omega) (by omega) (by simp; omega) (W1.heap.size + 1) (by simp) ?_; intro gg cap w1 hown1 hgrow hat hlt; have hf := free_grown (o := 0) HX1.out.box (below_made W1 _) hgrow hne; have hf1 := free_grown (o := 1) HX1.out.box (below_made W1 _) hgrow hne; have hf2 := free_grown (o := 2) HX1.out.box (below_made W1 _) hgrow hne; have hc : w1.cell? ⟨g, 0, none⟩ = some v1 := cell_grown 0 HX1.out.box (below_made W1 _) hgrow hne; have hc1 : w1.cell? ⟨g, 1, none⟩ = some (.slice A put.length c) := cell_grown 1 HX1.out.box (below_made W1 _) hgrow hne; have hc2 : w1.cell? ⟨g, 2, none⟩ = some (.int .i64 d) := cell_grown 2 HX1.out.box (below_made W1 _) hgrow hne))
    all_goals
     obtain ⟨hx2, ha2, b2⟩ := Box.push (p := ⟨3, d, []⟩) HX1.out (by decide) (by decide) (Apart.bare 3 d HA1.out) (below_made W1 _) hown1 hgrow
     have HO2 := Lib.hid (HO1.out.push (n := ps1.length + 1) (cap := cap) nil_own hat (HS.out _ (by have := HR1.out.size; omega)))
     have HR2 := Lib.hid (push_fr HO1.out (below_made W1 _) hgrow (.slice (some ⟨gg, 0, none⟩) (ps1.length + 1) cap))
     have HX2 := Lib.hid hx2
     have HA2 := Lib.hid ha2
     have HB2 := Lib.hid b2
     clear hx2 ha2 b2
     go_wp2
     go_end0
     obtain ⟨r1, r2, r3⟩ := HX2.out.clearS (by decide) (by decide) HA2.out HO2.out
     exact ⟨rfl, by rw [← HQ.out]; exact r1, HB1.out.trans (HB2.out.trans r2), HR1.out.trans (HR2.out.trans r3)⟩
  ·have e2 : dropL d = [] := by simp [dropL]; omega
   rw [e2, List.append_nil]
   go_enter Try.func121, Try.ntmps121
   go_wp2_with fail
   have lg := HX.out.lt
   have hlo : lo ≤ w.heap.size := Nat.le_trans HX.out.low (Nat.le_of_lt lg)
   have hne := own_far HX.out.row HX.out.box (by decide)
   go_region_law ((refine step_append_lies _ (by rfl) (.tmp 12) (.tmp 18) 30 (by rfl) lo 93 i0 _ 3 40 Try.underlying30 hi0 hz0 hz1 hz2 rfl (by omega) v ps.length (cellsOf ps us) (by rfl) ((HX.out.row.alloc _).drew) ⟨w.heap.size, 0, none⟩ 1 1 [.int .i64 2, .int .i64 0, .slice A put.length c] (by rfl) (by rfl) (World.news_of_block (cs := #[.int .i64 2, .int .i64 0, .slice A put.length c]) (t := 93) (fr := (0, 0)) (heap_alloc_new w _)) (by simp [Value.oneCell']) (by omega) (by unfold maxLen; omega) (by omega) (by simp; omega) (w.heap.size + 1) (by simp) ?_; intro gg cap w1 hown1 hgrow hat hlt; have hf := free_grown (o := 0) HX.out.box (below_made w _) hgrow hne; have hf1 := free_grown (o := 1) HX.out.box (below_made w _) hgrow hne; have hf2 := free_grown (o := 2) HX.out.box (below_made w _) hgrow hne; have hc : w1.cell? ⟨g, 0, none⟩ = some v := cell_grown 0 HX.out.box (below_made w _) hgrow hne; have hc1 : w1.cell? ⟨g, 1, none⟩ = some (.slice A put.length c) := cell_grown 1 HX.out.box (below_made w _) hgrow hne; have hc2 : w1.cell? ⟨g, 2, none⟩ = some (.int .i64 d) := cell_grown 2 HX.out.box (below_made w _) hgrow hne))
   all_goals
    obtain ⟨hx1, ha1, b1⟩ := Box.push (p := ⟨2, 0, put⟩) HX.out (by decide) (by decide) HA.out (below_made w _) hown1 hgrow
    have HO2 := Lib.hid (HOS.out.init.push (n := ps.length + 1) (cap := cap) HOS.out.last hat (HS.out _ (by omega)))
    have HR2 := Lib.hid (push_fr HOS.out.init (below_made w _) hgrow (.slice (some ⟨gg, 0, none⟩) (ps.length + 1) cap))
    have HX2 := Lib.hid hx1
    have HA2 := Lib.hid ha1
    have HB2 := Lib.hid b1
    clear hx1 ha1 b1
    go_wp2
    go_end0
    obtain ⟨r1, r2, r3⟩ := HX2.out.clearS (by decide) (by decide) HA2.out HO2.out
    exact ⟨rfl, r1, HB2.out.trans r2, HR2.out.trans r3⟩
theorem implDrop_f (S : Nat → Prop) (lo g : Nat) (ps : List Pt) (put : List Int) (d n : Int) (w : World) (hb : BAtS S lo g 119 w ps put d) (hS : ∀ b, w.heap.size ≤ b → S b) (h0 : 0 ≤ d) (h1 : d ≤ 4611686018427387904) (h2 : 0 ≤ n) (h3 : n ≤ 1048576) :
  Calls Try.prog 120 #[.pointer (some ⟨g, 0, none⟩), .int .i64 n] w (BuiltS S lo g 119 w ps put (d + n)) := by
 obtain ⟨v, u, us, hx, ha, hos⟩ := hb
 have HS := Lib.hid hS
 have HOS := Lib.hid hos
 clear hS hos
 have c2 := hx.cell2
 have f2 := hx.free 2
 have HX := Lib.hid hx
 have HA := Lib.hid ha
 clear hx ha
 go_enter Try.func120, Try.ntmps120
 go_wp2
 go_end0
 obtain ⟨r1, r2, r3⟩ := HX.out.dropS (d' := d + n) (by decide) (by decide) HA.out HOS.out
 exact ⟨rfl, r1, r2, r3⟩
theorem implPut_f (S : Nat → Prop) (lo g : Nat) (ps : List Pt) (put : List Int) (d : Int) (A : Option Addr) (c : Nat) (zs : List Int) (w : World) (hb : BAtS S lo g 119 w ps put d) (hS : ∀ b, w.heap.size ≤ b → S b) (hr : Row (Value.int .i64) w w.heap.size A zs) (hp : put.length ≤ 4294967296) (hz : zs.length ≤ 4294967296) :
  Calls Try.prog 119 #[.pointer (some ⟨g, 0, none⟩), .slice A zs.length c] w (BuiltS S lo g 119 w ps (put ++ zs) d) := by
 obtain ⟨i0, hi0, hz0, hz1, hz2⟩ := info_parts ints_info
 obtain ⟨v, u, us, hx, ha, hos⟩ := hb
 have HS := Lib.hid hS
 have HOS := Lib.hid hos
 clear hS hos
 obtain ⟨Au, cu, rfl⟩ := own_form (ha.last hx.len)
 simp only at hx ha
 have c1 := hx.cell1
 have f1 := hx.free 1
 have ho := Lib.hid (ha.last hx.len)
 have hlo : lo ≤ w.heap.size := Nat.le_trans hx.low (Nat.le_of_lt hx.lt)
 have HX := Lib.hid hx
 have HA := Lib.hid ha
 clear hx ha
 by_cases hn : 0 < zs.length
 ·obtain ⟨ad, rfl, hbk, hcs⟩ := hr hn
  have hcs' : ∀ j x, (zs.map (Value.int .i64))[j]? = some x → w.cell? (ad.add j) = some x := fun j x hx => by
   rw [List.getElem?_map] at hx
   obtain ⟨z, hz, rfl⟩ := Option.map_eq_some_iff.1 hx
   exact hcs j z hz
  have HC := Lib.hid hcs'
  clear hcs hcs' hr
  have hug := own_far ho.out HX.out.box (by decide)
  go_enter Try.func119, Try.ntmps119
  go_wp2_with (at_builtin; refine wpList_append_lies _ rfl (.tmp 8) (.tmp 9) 91 rfl lo 3 i0 (.int .i64 0) 1 8 Try.underlying91 hi0 hz0 hz1 hz2 rfl (by decide) (.slice Au put.length cu) put.length (put.map (Value.int .i64)) rfl ho.out ad zs.length c (zs.map (Value.int .i64)) rfl (by simp) HC.out (by simp [Value.oneCell']) (by omega) (by unfold maxLen; omega) (by omega) hlo w.heap.size rfl ?_; intro gg cap w1 hown1 hgrow hat hlt; have hf := free_grown (o := 1) HX.out.box (Below.refl _ _) hgrow hug; have hc : w1.cell? ⟨g, 1, none⟩ = some (.slice Au put.length cu) := cell_grown 1 HX.out.box (Below.refl _ _) hgrow hug)
  go_end0
  obtain ⟨r1, r2, r3⟩ := Box.moreS (put' := put ++ zs) HX.out (by decide) (by decide) HA.out (by simpa using hown1) hgrow (hat.elim (fun e => .inl (by rw [e]; rfl)) (fun e => .inr (by rw [← e]; rfl))) HOS.out (HS.out _ (Nat.le_refl _))
  exact ⟨rfl, r1, r2, r3⟩
 ·have e0 : zs = [] := List.eq_nil_of_length_eq_zero (by omega)
  subst e0
  rw [List.append_nil]
  go_enter Try.func119, Try.ntmps119
  go_wp2_with (at_builtin; refine wpList_append_zero rfl (.tmp 8) (.tmp 9) 91 rfl lo 3 i0 1 Try.underlying91 hi0 (.slice Au put.length cu) put.length (put.map (Value.int .i64)) rfl ho.out A c rfl ?_)
  go_end0
  obtain ⟨r1, r2, r3⟩ := Box.moreS (put' := put) HX.out (by decide) (by decide) HA.out ho.out ⟨rfl, rfl, rfl, Nat.le_refl _, fun _ _ _ => rfl⟩ (.inl rfl) HOS.out (HS.out _ (Nat.le_refl _))
  exact ⟨rfl, r1, r2, r3⟩
theorem implDrop_any (lo g : Nat) (ps : List Pt) (put : List Int) (d n : Int) (w : World) (hb : BAt lo g 119 w ps put d) (h0 : 0 ≤ d) (h1 : d ≤ 4611686018427387904) (h2 : 0 ≤ n) (h3 : n ≤ 1048576) :
  Calls Try.prog 120 #[.pointer (some ⟨g, 0, none⟩), .int .i64 n] w (Built lo g 119 w ps put (d + n)) :=
 (implDrop_f (fun _ => True) lo g ps put d n w hb.all (fun _ _ => trivial) h0 h1 h2 h3).mono fun e w' h => h.any
theorem implPut_any (lo g : Nat) (ps : List Pt) (put : List Int) (d : Int) (A : Option Addr) (c : Nat) (zs : List Int) (w : World) (hb : BAt lo g 119 w ps put d) (hr : Row (Value.int .i64) w w.heap.size A zs) (hp : put.length ≤ 4294967296) (hz : zs.length ≤ 4294967296) :
  Calls Try.prog 119 #[.pointer (some ⟨g, 0, none⟩), .slice A zs.length c] w (Built lo g 119 w ps (put ++ zs) d) :=
 (implPut_f (fun _ => True) lo g ps put d A c zs w hb.all (fun _ _ => trivial) hr hp hz).mono fun e w' h => h.any
theorem implDone_f (S : Nat → Prop) (lo g : Nat) (ps : List Pt) (put : List Int) (d : Int) (w : World) (hb : BAtS S lo g 119 w ps put d) (hS : ∀ b, w.heap.size ≤ b → S b) (hl : ps.length ≤ 4294967296) (hp : put.length ≤ 4294967296) :
  Calls Try.prog 98 #[.pointer (some ⟨g, 0, none⟩)] w (GoneS S lo (ps ++ putL put ++ dropL d) w) := by
 go_enter Try.func98, Try.ntmps98
 go_wp2_with fail
 refine (implFlush_f S lo g ps put d w hb hS hl hp).mono ?_
 rintro e w1 ⟨rfl, ⟨v, us, hx, ha, hos⟩, b1, fr1⟩
 have HS := Lib.hid hS
 have HOS := Lib.hid hos
 have HR := Lib.hid fr1
 clear hS hos fr1
 obtain ⟨Av, cv, rfl⟩ := own_form hx.row
 have c0 := hx.cell0
 have HX := Lib.hid hx
 have HA := Lib.hid ha
 clear hx ha
 generalize ps ++ putL put ++ dropL d = q at *
 go_wp2
 go_ret
 exact ⟨_, us, rfl, HX.out.parts HA.out, b1, HR.out, HX.out.row, HX.out.len, HOS.out.2.1, HOS.out.2.2⟩
theorem implKeep_f (S : Nat → Prop) (lo g : Nat) (ps : List Pt) (put : List Int) (d n : Int) (w : World) (hb : BAtS S lo g 119 w ps put d) (hS : ∀ b, w.heap.size ≤ b → S b) (hl : ps.length ≤ 4294967296) (hp : put.length ≤ 4294967296) (hn : ¬ n = 0) (hn0 : 0 ≤ n) (hn1 : n ≤ 1048576)
  (hq : ∀ p ∈ ps ++ putL put ++ dropL d, 0 ≤ p.n ∧ p.n ≤ 4611686018427387904) (hql : (ps ++ putL put ++ dropL d).length ≤ 4294967298) :
  Calls Try.prog 118 #[.pointer (some ⟨g, 0, none⟩), .int .i64 n] w (FlushedS S lo g 119 w (keepTo (ps ++ putL put ++ dropL d) n)) := by
 obtain ⟨i0, hi0, hz0, hz1, hz2⟩ := info_parts part_info
 go_enter Try.func118, Try.ntmps118
 go_wp2_with fail
 refine (implFlush_f S lo g ps put d w hb hS hl hp).mono ?_
 rintro e w1 ⟨rfl, ⟨v, us, hx, ha, hos⟩, b1, fr1⟩
 have HS := Lib.hid hS
 have HOS := Lib.hid hos
 have HR := Lib.hid fr1
 clear hS hos fr1
 generalize ps ++ putL put ++ dropL d = q at *
 have c0 := hx.cell0
 have f0 := hx.free 0
 have hne := own_far hx.row hx.box (by decide)
 have hlo : lo ≤ w1.heap.size := Nat.le_trans hx.low (Nat.le_of_lt hx.lt)
 rcases q.eq_nil_or_concat with rfl | ⟨r, p, rfl⟩
 ·obtain ⟨Av, cv, rfl⟩ := own_form hx.row
  have HX := Lib.hid hx
  have HA := Lib.hid ha
  clear hx ha
  go_wp2_with (at_builtin; refine wpList_append_lies _ rfl (.tmp 44) (.tmp 47) 30 rfl lo 93 i0 _ 3 40 Try.underlying30 hi0 hz0 hz1 hz2 rfl (by omega) (.slice Av 0 cv) 0 (cellsOf [] us) rfl (HX.out.row.alloc _) ⟨w1.heap.size, 0, none⟩ 1 1 [.int .i64 1, .int .i64 n, .slice none 0 0] rfl rfl (World.news_of_block (cs := #[.int .i64 1, .int .i64 n, .slice none 0 0]) (t := 93) (fr := (0, 0)) (heap_alloc_new w1 _)) (by simp [Value.oneCell']) (by omega) (by unfold maxLen; omega) (by omega) (by simp; omega) (w1.heap.size + 1) (by simp) ?_; intro gg cap w2 hown1 hgrow hat hlt; have hf := free_grown (o := 0) HX.out.box (below_new w1 _) hgrow hne; have hc : w2.cell? ⟨g, 0, none⟩ = some (.slice Av 0 cv) := cell_grown 0 HX.out.box (below_new w1 _) hgrow hne)
  go_end0
  obtain ⟨hx2, ha2, b2⟩ := Box.push (p := ⟨1, n, []⟩) HX.out (by decide) (by decide) (Apart.bare 1 n HA.out) (below_new w1 _) hown1 hgrow
  refine ⟨rfl, ?_, b1.trans b2, HR.out.trans (push_fr HOS.out (below_new w1 _) hgrow _)⟩
  rw [keepTo_nil]
  exact ⟨_, _, hx2, ha2, HOS.out.push nil_own hat (HS.out _ (by have := HR.out.size; omega))⟩
 ·rw [List.concat_eq_append] at *
  have hrl : (r ++ [p]).length = r.length + 1 := by simp
  rw [hrl] at hql
  have hp0 := hq p (by simp)
  clear hq
  rcases hx.row.2 with ⟨_, h0⟩ | ⟨gv, cap0, cur, rfl, hgv, hhv, hcap, hcap2, _, _⟩
  ·simp at h0
  rw [hrl] at c0 hne hcap hx
  have hrow : w1.ownsRow lo 93 3 (.slice (some ⟨gv, 0, none⟩) (r.length + 1) cap0) (r.length + 1) (cellsOf (r ++ [p]) us) := by have := hx.row; rwa [hrl] at this
  have k0 : w1.cell? ⟨gv, r.length * 3, none⟩ = some (.int .i64 p.kind) := by
   have := hrow.cellAt (r.length * 3) (by omega)
   obtain ⟨u, hu⟩ := idx_some (l := us) (i := r.length) (by rw [hx.len]; simp)
   rw [this, (cellsOf_at (r ++ [p]) us r.length p u (by simp) hu).1]
  have k1 : w1.cell? ⟨gv, r.length * 3 + 1, none⟩ = some (.int .i64 p.n) := by
   have := hrow.cellAt (r.length * 3 + 1) (by omega)
   obtain ⟨u, hu⟩ := idx_some (l := us) (i := r.length) (by rw [hx.len]; simp)
   rw [this, (cellsOf_at (r ++ [p]) us r.length p u (by simp) hu).2.1]
  have fv := hrow.frozenAt (r.length * 3 + 1)
  have HRW := Lib.hid hrow
  clear hrow
  have HX := Lib.hid hx
  have HA := Lib.hid ha
  clear hx ha hhv
  by_cases hk : p.kind = 1
  ·go_wp2
   go_end0
   obtain ⟨hx2, ha2, b2⟩ := Box.setN (b := p.n + n) HX.out (by decide) (by decide) HA.out
   refine ⟨rfl, ?_, b1.trans b2, HR.out.trans (setN_fr HOS.out _)⟩
   rw [keepTo_t n hk]
   exact ⟨_, _, hx2, ha2, HOS.out⟩
  ·go_wp2_with (at_builtin; refine wpList_append_lies _ rfl (.tmp 44) (.tmp 47) 30 rfl lo 93 i0 _ 3 40 Try.underlying30 hi0 hz0 hz1 hz2 rfl (by omega) (.slice (some ⟨gv, 0, none⟩) (r.length + 1) cap0) (r.length + 1) (cellsOf (r ++ [p]) us) rfl (HRW.out.alloc _) ⟨w1.heap.size, 0, none⟩ 1 1 [.int .i64 1, .int .i64 n, .slice none 0 0] rfl rfl (World.news_of_block (cs := #[.int .i64 1, .int .i64 n, .slice none 0 0]) (t := 93) (fr := (0, 0)) (heap_alloc_new w1 _)) (by simp [Value.oneCell']) (by omega) (by unfold maxLen; omega) (by omega) (by simp; omega) (w1.heap.size + 1) (by simp) ?_; intro gg cap w2 hown1 hgrow hat hlt; have hf := free_grown (o := 0) HX.out.box (below_new w1 _) hgrow hne; have hc : w2.cell? ⟨g, 0, none⟩ = some (.slice (some ⟨gv, 0, none⟩) (r.length + 1) cap0) := cell_grown 0 HX.out.box (below_new w1 _) hgrow hne)
   go_end0
   obtain ⟨hx2, ha2, b2⟩ := Box.push (p := ⟨1, n, []⟩) HX.out (by decide) (by decide) (Apart.bare 1 n HA.out) (below_new w1 _) (by rw [hrl]; exact hown1) hgrow
   rw [hrl] at hx2 ha2 b2
   refine ⟨rfl, ?_, b1.trans b2, HR.out.trans (push_fr HOS.out (below_new w1 _) hgrow _)⟩
   rw [keepTo_f n hk]
   exact ⟨_, _, hx2, ha2, HOS.out.push nil_own hat (HS.out _ (by have := HR.out.size; omega))⟩
theorem implDone_any (lo g : Nat) (ps : List Pt) (put : List Int) (d : Int) (w : World) (hb : BAt lo g 119 w ps put d) (hl : ps.length ≤ 4294967296) (hp : put.length ≤ 4294967296) :
  Calls Try.prog 98 #[.pointer (some ⟨g, 0, none⟩)] w (Gone lo (ps ++ putL put ++ dropL d) w) :=
 (implDone_f (fun _ => True) lo g ps put d w hb.all (fun _ _ => trivial) hl hp).mono fun e w' h => h.any
theorem implKeep_any (lo g : Nat) (ps : List Pt) (put : List Int) (d n : Int) (w : World) (hb : BAt lo g 119 w ps put d) (hl : ps.length ≤ 4294967296) (hp : put.length ≤ 4294967296) (hn : ¬ n = 0) (hn0 : 0 ≤ n) (hn1 : n ≤ 1048576)
  (hq : ∀ p ∈ ps ++ putL put ++ dropL d, 0 ≤ p.n ∧ p.n ≤ 4611686018427387904) (hql : (ps ++ putL put ++ dropL d).length ≤ 4294967298) :
  Calls Try.prog 118 #[.pointer (some ⟨g, 0, none⟩), .int .i64 n] w (Flushed lo g 119 w (keepTo (ps ++ putL put ++ dropL d) n)) :=
 (implKeep_f (fun _ => True) lo g ps put d n w hb.all (fun _ _ => trivial) hl hp hn hn0 hn1 hq hql).mono fun e w' h => h.any
theorem implKeep_zero (g : Nat) (w : World) : Calls Try.prog 118 #[.pointer (some ⟨g, 0, none⟩), .int .i64 0] w fun e w' => e = .returned (.tuple #[]) ∧ w = w' := by
 go_enter Try.func118, Try.ntmps118
 go_wp2
 first | go_end0 | (refine bodyPost_ret (results_none rfl _ _ _) rfl ?_)
 exact ⟨rfl, rfl⟩
end Go.Proofs.Ytglklgnggkenhaa.low
