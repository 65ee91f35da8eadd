/-
  Plain facts, of no program: how the model decodes one character of a string, case by case; the encoding of what was decoded.
-/
import Derived.Test.YtkcediipkkpofaaPut
import Derived.Laws.RangeAny
import Derived.Laws.BytesArg
namespace Go.Proofs.Ytkcediipkkpofaa.low
open Go.RowKit
set_option linter.unusedVariables false

/-- the byte at place k, as a number -/
def bAt (s : ByteArray) (k : Nat) : Nat := (s.get! k).toNat
theorem bAt_lt (s : ByteArray) (k : Nat) : bAt s k < 256 := (s.get! k).toNat_lt
theorem bAt_eq (s : ByteArray) (k : Nat) (h : k < s.size) : (s[k]'h).toNat = bAt s k := by
  have := get_at s k h
  unfold bAt
  rw [← this]; rfl
def isCont (s : ByteArray) (k : Nat) : Prop := k < s.size ∧ 128 ≤ bAt s k ∧ bAt s k ≤ 191

def Dec2 (s : ByteArray) (p : Nat) : Prop := (192 ≤ bAt s p ∧ bAt s p ≤ 223) ∧ isCont s (p + 1) ∧ 128 ≤ (bAt s p - 192) * 64 + (bAt s (p + 1) - 128)
def Dec3 (s : ByteArray) (p : Nat) : Prop := (224 ≤ bAt s p ∧ bAt s p ≤ 239) ∧ isCont s (p + 1) ∧ isCont s (p + 2) ∧
  2048 ≤ (bAt s p - 224) * 4096 + (bAt s (p + 1) - 128) * 64 + (bAt s (p + 2) - 128) ∧
  ¬ (55296 ≤ (bAt s p - 224) * 4096 + (bAt s (p + 1) - 128) * 64 + (bAt s (p + 2) - 128) ∧ (bAt s p - 224) * 4096 + (bAt s (p + 1) - 128) * 64 + (bAt s (p + 2) - 128) ≤ 57343)
def Dec4 (s : ByteArray) (p : Nat) : Prop := (240 ≤ bAt s p ∧ bAt s p ≤ 247) ∧ isCont s (p + 1) ∧ isCont s (p + 2) ∧ isCont s (p + 3) ∧
  65536 ≤ (bAt s p - 240) * 262144 + (bAt s (p + 1) - 128) * 4096 + (bAt s (p + 2) - 128) * 64 + (bAt s (p + 3) - 128) ∧
  (bAt s p - 240) * 262144 + (bAt s (p + 1) - 128) * 4096 + (bAt s (p + 2) - 128) * 64 + (bAt s (p + 3) - 128) ≤ 1114111

theorem valid_nat (c : Nat) : Utf8.valid (c : Int) = true ↔ (c < 55296 ∨ (57344 ≤ c ∧ c ≤ 1114111)) := by
  unfold Utf8.valid
  simp only [Bool.or_eq_true, Bool.and_eq_true, decide_eq_true_eq]
  omega
theorem cons_eq {a b : Int} {l m : List Int} (h : a = b) (h' : l = m) : a :: l = b :: m := by rw [h, h']

theorem dec_cases (s : ByteArray) (p : Nat) :
    (bAt s p < 128 ∧ Utf8.decode s p = (bAt s p, 1)) ∨
    (Dec2 s p ∧ Utf8.decode s p = ((bAt s p - 192) * 64 + (bAt s (p + 1) - 128), 2)) ∨
    (Dec3 s p ∧ Utf8.decode s p = ((bAt s p - 224) * 4096 + (bAt s (p + 1) - 128) * 64 + (bAt s (p + 2) - 128), 3)) ∨
    (Dec4 s p ∧ Utf8.decode s p = ((bAt s p - 240) * 262144 + (bAt s (p + 1) - 128) * 4096 + (bAt s (p + 2) - 128) * 64 + (bAt s (p + 3) - 128), 4)) ∨
    (128 ≤ bAt s p ∧ ¬ Dec2 s p ∧ ¬ Dec3 s p ∧ ¬ Dec4 s p ∧ Utf8.decode s p = (65533, 1)) := by
  have e0 : (s.get! (p + 0)).toNat = bAt s p := rfl
  have e1 : (s.get! (p + 1)).toNat = bAt s (p + 1) := rfl
  have e2 : (s.get! (p + 2)).toNat = bAt s (p + 2) := rfl
  have e3 : (s.get! (p + 3)).toNat = bAt s (p + 3) := rfl
  have l0 := bAt_lt s p
  have l1 := bAt_lt s (p + 1)
  have l2 := bAt_lt s (p + 2)
  have l3 := bAt_lt s (p + 3)
  unfold Utf8.decode Dec2 Dec3 Dec4 isCont
  simp only [e0, e1, e2, e3, Utf8.runeError]
  generalize bAt s p = b0 at *
  generalize bAt s (p + 1) = b1 at *
  generalize bAt s (p + 2) = b2 at *
  generalize bAt s (p + 3) = b3 at *
  by_cases h0 : b0 < 128
  · left; exact ⟨h0, by rw [if_pos h0]⟩
  rw [if_neg h0]
  by_cases h2 : (b0 / 32 == 6 && (decide (p + 1 < s.size) && b1 / 64 == 2)) = true
  · rw [if_pos h2]
    simp only [Bool.and_eq_true, beq_iff_eq, decide_eq_true_eq] at h2
    have m0 : b0 % 32 = b0 - 192 := by omega
    have m1 : b1 % 64 = b1 - 128 := by omega
    rw [m0, m1]
    by_cases hc : (b0 - 192) * 64 + (b1 - 128) ≥ 128
    · rw [if_pos hc]; right; left; exact ⟨by omega, rfl⟩
    · rw [if_neg hc]; right; right; right; right; exact ⟨by omega, by omega, by omega, by omega, rfl⟩
  rw [if_neg h2]
  simp only [Bool.and_eq_true, beq_iff_eq, decide_eq_true_eq] at h2
  by_cases h3 : (b0 / 16 == 14 && (decide (p + 1 < s.size) && b1 / 64 == 2) && (decide (p + 2 < s.size) && b2 / 64 == 2)) = true
  · rw [if_pos h3]
    simp only [Bool.and_eq_true, beq_iff_eq, decide_eq_true_eq] at h3
    have m0 : b0 % 16 = b0 - 224 := by omega
    have m1 : b1 % 64 = b1 - 128 := by omega
    have m2 : b2 % 64 = b2 - 128 := by omega
    rw [m0, m1, m2]
    by_cases hc : (decide ((b0 - 224) * 4096 + (b1 - 128) * 64 + (b2 - 128) ≥ 2048) && Utf8.valid (((b0 - 224) * 4096 + (b1 - 128) * 64 + (b2 - 128) : Nat) : Int)) = true
    · rw [if_pos hc]
      simp only [Bool.and_eq_true, decide_eq_true_eq, valid_nat] at hc
      right; right; left; exact ⟨by omega, rfl⟩
    · rw [if_neg hc]
      simp only [Bool.and_eq_true, decide_eq_true_eq, valid_nat] at hc
      right; right; right; right; exact ⟨by omega, by omega, by omega, by omega, rfl⟩
  rw [if_neg h3]
  simp only [Bool.and_eq_true, beq_iff_eq, decide_eq_true_eq] at h3
  by_cases h4 : (b0 / 8 == 30 && (decide (p + 1 < s.size) && b1 / 64 == 2) && (decide (p + 2 < s.size) && b2 / 64 == 2) && (decide (p + 3 < s.size) && b3 / 64 == 2)) = true
  · rw [if_pos h4]
    simp only [Bool.and_eq_true, beq_iff_eq, decide_eq_true_eq] at h4
    have m0 : b0 % 8 = b0 - 240 := by omega
    have m1 : b1 % 64 = b1 - 128 := by omega
    have m2 : b2 % 64 = b2 - 128 := by omega
    have m3 : b3 % 64 = b3 - 128 := by omega
    rw [m0, m1, m2, m3]
    by_cases hc : (decide ((b0 - 240) * 262144 + (b1 - 128) * 4096 + (b2 - 128) * 64 + (b3 - 128) ≥ 65536) && Utf8.valid (((b0 - 240) * 262144 + (b1 - 128) * 4096 + (b2 - 128) * 64 + (b3 - 128) : Nat) : Int)) = true
    · rw [if_pos hc]
      simp only [Bool.and_eq_true, decide_eq_true_eq, valid_nat] at hc
      right; right; right; left; exact ⟨by omega, rfl⟩
    · rw [if_neg hc]
      simp only [Bool.and_eq_true, decide_eq_true_eq, valid_nat] at hc
      right; right; right; right; exact ⟨by omega, by omega, by omega, by omega, rfl⟩
  rw [if_neg h4]
  simp only [Bool.and_eq_true, beq_iff_eq, decide_eq_true_eq] at h4
  right; right; right; right; exact ⟨by omega, by omega, by omega, by omega, rfl⟩

/-- what was decoded is a character; its width; the bytes behind the first are no ASCII -/
theorem dec_sign (s : ByteArray) (p : Nat) : signB ((Utf8.decode s p).1 : Int) = true := by
  have l0 := bAt_lt s p
  rcases dec_cases s p with ⟨h, e⟩ | ⟨h, e⟩ | ⟨h, e⟩ | ⟨h, e⟩ | ⟨_, _, _, _, e⟩ <;> rw [e] <;> apply signB_t
  · simp only; omega
  · obtain ⟨h1, ⟨h2, h3⟩, h4⟩ := h; simp only; omega
  · obtain ⟨h1, h2, h3, h4, h5⟩ := h; simp only; unfold isCont at *; omega
  · obtain ⟨h1, h2, h3, h4, h5, h6⟩ := h; simp only; omega
  · simp only; omega
theorem dec_width (s : ByteArray) (p : Nat) (hp : p < s.size) : 1 ≤ (Utf8.decode s p).2 ∧ (Utf8.decode s p).2 ≤ 4 ∧ p + (Utf8.decode s p).2 ≤ s.size := by
  rcases dec_cases s p with ⟨h, e⟩ | ⟨h, e⟩ | ⟨h, e⟩ | ⟨h, e⟩ | ⟨_, _, _, _, e⟩ <;> rw [e] <;> simp only
  · omega
  · obtain ⟨h1, ⟨h2, h3⟩, h4⟩ := h; omega
  · obtain ⟨h1, ⟨h2, h3⟩, ⟨h4, h4'⟩, h5⟩ := h; omega
  · obtain ⟨h1, ⟨h2, h3⟩, ⟨h4, h4'⟩, ⟨h5, h5'⟩, h6⟩ := h; omega
  · omega
theorem dec_cont (s : ByteArray) (p t : Nat) (h1 : 1 ≤ t) (h2 : t < (Utf8.decode s p).2) : p + t < s.size ∧ 128 ≤ bAt s (p + t) := by
  rcases dec_cases s p with ⟨h, e⟩ | ⟨h, e⟩ | ⟨h, e⟩ | ⟨h, e⟩ | ⟨_, _, _, _, e⟩ <;> rw [e] at h2 <;> simp only at h2
  · omega
  · obtain ⟨_, ⟨h3, h4, _⟩, _⟩ := h
    obtain rfl : t = 1 := by omega
    exact ⟨h3, h4⟩
  · obtain ⟨_, ⟨h3, h4, _⟩, ⟨h5, h6, _⟩, _⟩ := h
    rcases (show t = 1 ∨ t = 2 by omega) with rfl | rfl
    · exact ⟨h3, h4⟩
    · exact ⟨h5, h6⟩
  · obtain ⟨_, ⟨h3, h4, _⟩, ⟨h5, h6, _⟩, ⟨h7, h8, _⟩, _⟩ := h
    rcases (show t = 1 ∨ t = 2 ∨ t = 3 by omega) with rfl | rfl | rfl
    · exact ⟨h3, h4⟩
    · exact ⟨h5, h6⟩
    · exact ⟨h7, h8⟩
  · omega
theorem dec_high (s : ByteArray) (p : Nat) (h : 128 ≤ bAt s p) : 128 ≤ (Utf8.decode s p).1 := by
  rcases dec_cases s p with ⟨h', e⟩ | ⟨h', e⟩ | ⟨h', e⟩ | ⟨h', e⟩ | ⟨_, _, _, _, e⟩ <;> rw [e] <;> simp only
  · omega
  · exact h'.2.2
  · have := h'.2.2.2.1; omega
  · have := h'.2.2.2.2.1; omega
  · omega

/-- a whole encoding stands at p -/
def okAt (s : ByteArray) (p : Nat) : Bool := decide (Utf8.decode s p ≠ (65533, 1))
theorem okAt_f {s : ByteArray} {p : Nat} (h : okAt s p = false) : Utf8.decode s p = (65533, 1) := by
  unfold okAt at h
  exact Classical.not_not.1 (of_decide_eq_false h)
/-- the numbers of the bytes of s -/
def numsOf (s : ByteArray) : List Int := s.data.toList.map fun c => (c.toNat : Int)
theorem numsOf_len (s : ByteArray) : (numsOf s).length = s.size := by unfold numsOf; rw [List.length_map]; rfl
theorem numsOf_at (s : ByteArray) (k : Nat) (h : k < s.size) : (numsOf s)[k]? = some (bAt s k : Int) := by
  rw [← bAt_eq s k h]
  have hk : k < s.data.size := h
  unfold numsOf
  simp [Array.getElem?_eq_getElem hk]
  rfl
theorem drop_num (s : ByteArray) (k : Nat) (h : k < s.size) : (numsOf s).drop k = (bAt s k : Int) :: (numsOf s).drop (k + 1) := by
  have hl : k < (numsOf s).length := by rw [numsOf_len]; exact h
  have e := numsOf_at s k h
  rw [List.getElem?_eq_getElem hl] at e
  rw [List.drop_eq_getElem_cons hl]
  congr 1
  exact Option.some.inj e
theorem strOfNums_numsOf (s : ByteArray) : strOfNums (numsOf s) = s := by
  cases s with
  | mk d =>
    have h : ((fun n : Int => UInt8.ofNat n.toNat) ∘ fun c : UInt8 => (c.toNat : Int)) = id := by funext c; simp
    unfold strOfNums numsOf
    rw [List.map_map, h, List.map_id]
/-- what was decoded at a whole encoding has these very bytes -/
theorem dec_enc (s : ByteArray) (p : Nat) (hp : p < s.size) (hok : okAt s p = true) :
    (numsOf s).drop p = encI ((Utf8.decode s p).1 : Int) ++ (numsOf s).drop (p + (Utf8.decode s p).2) := by
  rcases dec_cases s p with ⟨h, e⟩ | ⟨h, e⟩ | ⟨h, e⟩ | ⟨h, e⟩ | ⟨_, _, _, _, e⟩
  · rw [e]; simp only; rw [encI_1 (by omega), drop_num s p hp]; rfl
  · rw [e]
    obtain ⟨h1, ⟨h2, h3⟩, h4⟩ := h
    simp only
    rw [encI_2 (by omega) (by omega), drop_num s p hp, drop_num s (p + 1) h2]
    simp only [List.cons_append, List.nil_append]
    exact cons_eq (by omega) (cons_eq (by omega) rfl)
  · rw [e]
    obtain ⟨h1, ⟨h2, h3⟩, ⟨h5, h6⟩, h7, h8⟩ := h
    simp only
    rw [encI_3 (by omega) (by omega), drop_num s p hp, drop_num s (p + 1) h2, drop_num s (p + 1 + 1) h5]
    simp only [List.cons_append, List.nil_append]
    exact cons_eq (by omega) (cons_eq (by omega) (cons_eq (by show (bAt s (p + 2) : Int) = _; omega) rfl))
  · rw [e]
    obtain ⟨h1, ⟨h2, h3⟩, ⟨h5, h6⟩, ⟨h7, h8⟩, h9, h10⟩ := h
    simp only
    rw [encI_4 (by omega), drop_num s p hp, drop_num s (p + 1) h2, drop_num s (p + 1 + 1) h5, drop_num s (p + 1 + 1 + 1) h7]
    simp only [List.cons_append, List.nil_append]
    exact cons_eq (by omega) (cons_eq (by omega) (cons_eq (by show (bAt s (p + 2) : Int) = _; omega) (cons_eq (by show (bAt s (p + 3) : Int) = _; omega) rfl)))
  · exact absurd e (of_decide_eq_true hok)
end Go.Proofs.Ytkcediipkkpofaa.low
