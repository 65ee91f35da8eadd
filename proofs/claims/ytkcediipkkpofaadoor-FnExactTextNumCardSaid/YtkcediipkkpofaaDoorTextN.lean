/-
  Contracts of spec.TextNum and impl.TextNum (the number whose numeral a string is, and true; otherwise 0 and false), the latter where the library's listed variables lie as the program's text lays them.
-/
import Derived.Test.YtkcediipkkpofaaDoorNumT
import Derived.Shelf.Strconv.AtoiAll
import Derived.Lib.AtoiErrMem
namespace Go.Proofs.YtkcediipkkpofaaDoor.low
open Go.RowKit
set_option linter.unusedVariables false

def step10 (a : Nat) (c : UInt8) : Nat := a * 10 + (c.toNat - 48)
def parse (l : List UInt8) : Nat := l.foldl step10 0
def Digits (l : List UInt8) : Prop := ∀ c ∈ l, 48 ≤ c.toNat ∧ c.toNat ≤ 57
theorem parse_snoc (l : List UInt8) (c : UInt8) : parse (l ++ [c]) = parse l * 10 + (c.toNat - 48) := by unfold parse; rw [List.foldl_append, List.foldl_cons, List.foldl_nil]; rfl
theorem digit_of (d : Nat) (h : d < 10) : (UInt8.ofNat (48 + d)).toNat = 48 + d := by simp; omega
theorem dec_digits (u : Nat) : Digits (Lib.decDigits u) := by
  induction u using Nat.strongRecOn with
  | _ u ih =>
    by_cases h : u < 10
    · rw [Lib.decDigits_one h]; intro c hc; simp only [List.mem_singleton] at hc; subst hc; rw [digit_of u h]; omega
    · rw [Lib.decDigits, dif_neg h]
      intro c hc
      rcases List.mem_append.1 hc with hc | hc
      · exact ih (u / 10) (by omega) c hc
      · simp only [List.mem_singleton] at hc; subst hc; rw [digit_of _ (by omega)]; omega
theorem parse_dec (u : Nat) : parse (Lib.decDigits u) = u := by
  induction u using Nat.strongRecOn with
  | _ u ih =>
    by_cases h : u < 10
    · rw [Lib.decDigits_one h]; show 0 * 10 + _ = _; rw [digit_of u h]; omega
    · rw [Lib.decDigits, dif_neg h, parse_snoc, ih (u / 10) (by omega), digit_of _ (by omega)]; omega
theorem dec_len : ∀ (k u : Nat), u < 10 ^ (k + 1) → 1 ≤ (Lib.decDigits u).length ∧ (Lib.decDigits u).length ≤ k + 1 := by
  intro k
  induction k with
  | zero => intro u h; rw [Lib.decDigits_one (by simpa using h)]; simp
  | succ k ih =>
    intro u h
    by_cases h' : u < 10
    · rw [Lib.decDigits_one h']; simp
    · rw [Lib.decDigits, dif_neg h', List.length_append]
      have := ih (u / 10) (by rw [Nat.pow_succ] at h; omega)
      simp only [List.length_cons, List.length_nil]
      omega
theorem parse_lt : ∀ (l : List UInt8) (a : Nat), Digits l → l.foldl step10 a < (a + 1) * 10 ^ l.length := by
  intro l
  induction l with
  | nil => intro a _; simp
  | cons c r ih =>
    intro a h
    have hc := h c (List.mem_cons_self ..)
    have := ih (step10 a c) (fun x hx => h x (List.mem_cons_of_mem _ hx))
    rw [List.foldl_cons, List.length_cons, Nat.pow_succ]
    refine Nat.lt_of_lt_of_le this ?_
    have h1 : step10 a c + 1 ≤ (a + 1) * 10 := by unfold step10; omega
    calc (step10 a c + 1) * 10 ^ r.length ≤ ((a + 1) * 10) * 10 ^ r.length := Nat.mul_le_mul_right _ h1
      _ = (a + 1) * (10 ^ r.length * 10) := by rw [Nat.mul_assoc, Nat.mul_comm 10]
theorem parse_uint : ∀ (l : List UInt8) (a : Nat), Digits l → (a + 1) * 10 ^ l.length ≤ 100000000000 → Lib.parseUint10 a l = .ok (l.foldl step10 a) := by
  intro l
  induction l with
  | nil => intro a _ _; rfl
  | cons c r ih =>
    intro a h hb
    have hc := h c (List.mem_cons_self ..)
    rw [List.length_cons, Nat.pow_succ] at hb
    have h1 : step10 a c + 1 ≤ (a + 1) * 10 := by unfold step10; omega
    have h2 : (step10 a c + 1) * 10 ^ r.length ≤ 100000000000 := by
      refine Nat.le_trans (Nat.mul_le_mul_right _ h1) ?_
      rw [Nat.mul_assoc, Nat.mul_comm 10]; exact hb
    have hp : 1 ≤ 10 ^ r.length := Nat.pos_of_ne_zero (by simp)
    have h3 : step10 a c + 1 ≤ 100000000000 := Nat.le_trans (Nat.le_mul_of_pos_right _ hp) h2
    rw [List.foldl_cons, ← ih (step10 a c) (fun x hx => h x (List.mem_cons_of_mem _ hx)) h2]
    unfold step10 at h3 ⊢
    conv => lhs; unfold Lib.parseUint10
    rw [if_pos hc, if_neg (by omega), if_neg (by omega)]

/-- s is the numeral of a number from 0 to 1000000000 -/
def Num (s : ByteArray) : Prop := Lib.decDigits (parse s.data.toList) = s.data.toList ∧ parse s.data.toList ≤ 1000000000
theorem Num.len {s : ByteArray} (h : Num s) : 1 ≤ s.size ∧ s.size ≤ 10 := by
  have := dec_len 9 (parse s.data.toList) (by have := h.2; omega)
  rw [h.1] at this
  exact this
theorem Num.digits {s : ByteArray} (h : Num s) : Digits s.data.toList := by rw [← h.1]; exact dec_digits _
theorem num_of_eq {s : ByteArray} {n : Int} (hs : 1 ≤ s.size) (h : numT n = s) : Num s ∧ n = (parse s.data.toList : Nat) := by
  by_cases hn : 0 ≤ n ∧ n ≤ 1000000000
  · rw [numT_t hn] at h
    subst h
    have e : (strD n.toNat).data.toList = Lib.decDigits n.toNat := by unfold strD; simp
    unfold Num
    rw [e, parse_dec]
    exact ⟨⟨rfl, by omega⟩, by omega⟩
  · rw [numT_f hn] at h
    subst h
    exact absurd hs (by simp)
theorem numT_num {s : ByteArray} (h : Num s) : numT (parse s.data.toList : Nat) = s := by
  rw [numT_t (by have := h.2; omega), Int.toNat_natCast]
  unfold strD
  rw [h.1]
theorem atoi_num {s : ByteArray} (h : Num s) : Lib.atoiAll s.data.toList = .ok (parse s.data.toList : Nat) := by
  have hl := h.len
  have hd := h.digits
  have hp := h.2
  have hl' : s.data.toList.length = s.size := rfl
  unfold parse at hp ⊢
  generalize s.data.toList = l at *
  cases l with
  | nil => simp at hl'; omega
  | cons c r =>
    have hc := hd c (List.mem_cons_self ..)
    have hpm : Lib.parseMag (c :: r) = .ok ((c :: r).foldl step10 0) := by
      unfold Lib.parseMag
      rw [if_neg (by simp)]
      refine parse_uint (c :: r) 0 hd ?_
      rw [hl']
      calc (0 + 1) * 10 ^ s.size ≤ 1 * 10 ^ 10 := Nat.mul_le_mul_left _ (Nat.pow_le_pow_right (by omega) hl.2)
        _ ≤ 100000000000 := by omega
    unfold Lib.atoiAll
    simp only
    rw [if_neg (by omega), hpm]
    simp only
    rw [if_neg (by omega), if_neg (by omega), if_neg (by omega)]
theorem atoi_bd {l : List UInt8} {v : Int} (h : Lib.atoiAll l = .ok v) : -9223372036854775808 ≤ v ∧ v ≤ 9223372036854775807 := by
  unfold Lib.atoiAll at h
  cases l with
  | nil => cases h
  | cons c r =>
    simp only at h
    split at h
    · cases h
    · cases h
    · split at h
      · cases h
      · split at h
        · cases h
        · injection h with h
          subst h
          split <;> omega
theorem atoi_empty {s : ByteArray} (h : s.size = 0) {v : Int} (hv : Lib.atoiAll s.data.toList = .ok v) : False := by
  have : s.data.toList = [] := List.eq_nil_of_length_eq_zero h
  rw [this] at hv
  cases hv

/-- what TextNum answers -/
def textR (s : ByteArray) (e : Ending) : Prop := (Num s → e = .returned (.tuple #[.int .i64 (parse s.data.toList : Nat), .bool true])) ∧ (¬ Num s → e = .returned (.tuple #[.int .i64 0, .bool false]))
def TextPost (s : ByteArray) (w : World) (e : Ending) (w' : World) : Prop := textR s e ∧ Below w.heap.size w w'
theorem text_t {s : ByteArray} {w w' : World} (h : Num s) (hb : Below w.heap.size w w') : TextPost s w (.returned (.tuple #[.int .i64 (parse s.data.toList : Nat), .bool true])) w' := ⟨⟨fun _ => rfl, fun h' => absurd h h'⟩, hb⟩
theorem text_f {s : ByteArray} {w w' : World} (h : ¬ Num s) (hb : Below w.heap.size w w') : TextPost s w (.returned (.tuple #[.int .i64 0, .bool false])) w' := ⟨⟨fun h' => absurd h' h, fun _ => rfl⟩, hb⟩
theorem take_snoc (s : ByteArray) (k : Nat) (h : k < s.size) : s.data.toList.take (k + 1) = s.data.toList.take k ++ [s[k]] := by
  rw [List.take_succ_eq_append_getElem (by simpa using h)]; rfl
theorem str_ne {a s : ByteArray} (h : ¬ a = s) : (a.toList == s.toList) = false := by
  rw [beq_eq_false_iff_ne]
  intro e
  rw [ByteArray.toList_eq, ByteArray.toList_eq] at e
  refine h ?_
  cases a; cases s
  simp at e
  rw [e]
theorem mem_byte (s : ByteArray) (k : Nat) (h : k < s.size) : s[k] ∈ s.data.toList := by
  have : s[k] = s.data[k] := rfl
  rw [this]
  exact Array.mem_toList_iff.2 (Array.getElem_mem _)

set_option maxRecDepth 100000 in
set_option maxHeartbeats 1600000 in
theorem specTextNum_any (s : ByteArray) (w : World) (hs : s.size ≤ 1048576) : Calls Tryd.prog 7 #[.string s] w (TextPost s w) := by
  rcases (show s.size = 0 ∨ 10 < s.size ∨ (1 ≤ s.size ∧ s.size ≤ 10) by omega) with h | h | ⟨h1, h2⟩
  · have HF : Hid (¬ Num s) := fun hn => by have := hn.len; omega
    have hz : ((s.size : Int) == 0) = true := by simp [h]
    clear h
    go_enter Tryd.func7, Tryd.ntmps7
    go_wp2
    go_ret2
    exact text_f HF.out (Below.refl _ _)
  · have HF : Hid (¬ Num s) := fun hn => by have := hn.len; omega
    have hz : ((s.size : Int) == 0) = false := by rw [beq_eq_false_iff_ne]; omega
    have hb : (10 : Int) < (s.size : Int) := by omega
    go_enter Tryd.func7, Tryd.ntmps7
    go_wp2
    go_ret2
    exact text_f HF.out (Below.refl _ _)
  · have hz : ((s.size : Int) == 0) = false := by rw [beq_eq_false_iff_ne]; omega
    have hb : (s.size : Int) ≤ 10 := by omega
    go_enter Tryd.func7, Tryd.ntmps7
    go_wp2
    go_loop [4, 5] (fun n i => ∃ k : Nat, k ≤ s.size ∧ i = .int .i64 k ∧ n = .int .i64 (parse (s.data.toList.take k) : Nat) ∧ Digits (s.data.toList.take k)) (fun _ i => s.size - (intOf i).toNat)
    case atStart => exact ⟨0, Nat.zero_le _, rfl, rfl, fun c hc => by simp at hc⟩
    case round =>
      obtain ⟨k, hk, rfl, rfl, hd⟩ := hrel
      have hlt := parse_lt (s.data.toList.take k) 0 hd
      have hpb : parse (s.data.toList.take k) < 10000000000 := by
        refine Nat.lt_of_lt_of_le hlt ?_
        have hl : (s.data.toList.take k).length ≤ 10 := by have := List.length_take_le k s.data.toList; omega
        calc (0 + 1) * 10 ^ (s.data.toList.take k).length ≤ 1 * 10 ^ 10 := Nat.mul_le_mul_left _ (Nat.pow_le_pow_right (by omega) hl)
          _ ≤ 10000000000 := by omega
      clear hlt
      have HD := Lib.hid hd
      clear hd
      by_cases hks : k < s.size
      · have HS : Hid (parse (s.data.toList.take (k + 1)) = parse (s.data.toList.take k) * 10 + (s[k].toNat - 48)) := by rw [take_snoc s k hks]; exact parse_snoc _ _
        have HT := Lib.hid (take_snoc s k hks)
        have hb8 : (s[k].toNat : Int) < 256 := by have := s[k].toNat_lt; omega
        generalize parse (s.data.toList.take k) = m at *
        rcases (show (s[k].toNat : Int) < 48 ∨ 57 < (s[k].toNat : Int) ∨ (48 ≤ (s[k].toNat : Int) ∧ (s[k].toNat : Int) ≤ 57) by omega) with hc | hc | ⟨hc, hc'⟩
        · have HF : Hid (¬ Num s) := fun hn => by have := hn.digits s[k] (mem_byte s k hks); omega
          go_wp2
          go_ret2
          exact text_f HF.out (Below.refl _ _)
        · have HF : Hid (¬ Num s) := fun hn => by have := hn.digits s[k] (mem_byte s k hks); omega
          have hc2 : 48 ≤ (s[k].toNat : Int) := by omega
          go_wp2
          go_ret2
          exact text_f HF.out (Below.refl _ _)
        · go_wp2
          go_round
          case rel =>
            refine ⟨k + 1, by omega, by go_num, ?_, ?_⟩
            · rw [HS.out]
              have e : ((m * 10 + (s[k].toNat - 48) : Nat) : Int) = (m : Int) * 10 + ((s[k].toNat : Int) - 48) := by omega
              rw [e]
            · rw [HT.out]
              intro c hcm
              rcases List.mem_append.1 hcm with hcm | hcm
              · exact HD.out c hcm
              · simp only [List.mem_singleton] at hcm; subst hcm; omega
          case measure => simp [intOf]; omega
      · have hke : s.data.toList.take k = s.data.toList := List.take_of_length_le (by show s.size ≤ k; omega)
        rw [hke] at hpb ⊢
        clear hke
        by_cases hn : Num s
        · have HN := Lib.hid hn
          have HE := Lib.hid (numT_num hn)
          clear hn
          generalize hm : parse s.data.toList = m at *
          have HM := Lib.hid hm
          clear hm
          go_wp2_with fail
          refine (specNumText_any (m : Int) _).mono ?_
          rintro e u1 ⟨rfl, b1⟩
          rw [HE.out]
          go_wp2
          go_ret2
          rw [← HM.out]
          exact text_t HN.out b1
        · have hne : ¬ numT (parse s.data.toList : Nat) = s := fun e => hn (num_of_eq h1 e).1
          have hne' := str_ne hne
          have HN := Lib.hid hn
          clear hn hne
          generalize parse s.data.toList = m at *
          go_wp2_with fail
          refine (specNumText_any (m : Int) _).mono ?_
          rintro e u1 ⟨rfl, b1⟩
          go_wp2
          go_ret2
          exact text_f HN.out b1

theorem below_bytes (w : World) (e : TypeId) (t : ByteArray) : Below w.heap.size w (Lib.bytesWorld w e t) := Lib.bytesWorld_below w e t
/-- the library's two error variables hold an interface value each -/
def Errs (w : World) : Prop := (∃ te pe, w.cell? ⟨0, 0, none⟩ = some (.iface te pe)) ∧ ∃ te pe, w.cell? ⟨1, 0, none⟩ = some (.iface te pe)
theorem cell_lt {w : World} {p : Addr} {v : Value} (h : w.cell? p = some v) : p.block < w.heap.size := by
  rcases Nat.lt_or_ge p.block w.heap.size with hlt | hge
  · exact hlt
  · unfold World.cell? at h; rw [Array.getElem?_eq_none hge] at h; simp at h
theorem Errs.past {w w' : World} (h : Errs w) (hb : Below w.heap.size w w') : Errs w' := by
  obtain ⟨⟨a, b, h1⟩, c, d, h2⟩ := h
  exact ⟨⟨a, b, (hb.cell (cell_lt h1)).trans h1⟩, c, d, (hb.cell (cell_lt h2)).trans h2⟩

set_option maxRecDepth 100000 in
set_option maxHeartbeats 1600000 in
theorem implTextNum_any (s : ByteArray) (w : World) (hs : s.size ≤ 1048576) (ht : Tab w) (he : Errs w) : Calls Tryd.prog 8 #[.string s] w (TextPost s w) := by
  have HT := Lib.hid ht
  have HE := Lib.hid he
  clear ht he
  rcases hA : Lib.atoiAll s.data.toList with v | _ | _
  · have HA := Lib.hid hA
    clear hA
    by_cases h0 : s.size = 0
    · exact absurd HA.out (fun h => atoi_empty h0 h)
    · have hbd := atoi_bd HA.out
      have hb1 := hbd.1
      have hb2 := hbd.2
      clear hbd
      by_cases hn : Num s
      · have hv : v = (parse s.data.toList : Nat) := by have := atoi_num hn; rw [HA.out] at this; injection this
        have HV := Lib.hid hv
        have HN := Lib.hid hn
        have HQ : Hid (numT v = s) := by rw [hv]; exact numT_num hn
        clear hv hn
        go_enter Tryd.func8, Tryd.ntmps8
        go_wp2_with fail
        refine (Tryd.strconv_Atoi_ok s (by omega) v HA.out _).mono ?_
        rintro e u1 ⟨rfl, hu⟩
        have b1 : Below w.heap.size w u1 := by
          rcases hu with rfl | ⟨t, rfl⟩
          · exact Below.refl _ _
          · exact below_bytes _ _ _
        clear hu
        go_wp2_with fail
        refine (implNumText_any v _ (HT.out.past b1) ⟨hb1, hb2⟩).mono ?_
        rintro e u2 ⟨rfl, b2⟩
        rw [HQ.out]
        go_wp2
        go_ret2
        rw [HV.out]
        exact text_t HN.out (b1.trans (b2.mono b1.size))
      · have hne : ¬ numT v = s := fun e => hn (num_of_eq (by omega) e).1
        have hne' := str_ne hne
        have HN := Lib.hid hn
        clear hn hne
        go_enter Tryd.func8, Tryd.ntmps8
        go_wp2_with fail
        refine (Tryd.strconv_Atoi_ok s (by omega) v HA.out _).mono ?_
        rintro e u1 ⟨rfl, hu⟩
        have b1 : Below w.heap.size w u1 := by
          rcases hu with rfl | ⟨t, rfl⟩
          · exact Below.refl _ _
          · exact below_bytes _ _ _
        clear hu
        go_wp2_with fail
        refine (implNumText_any v _ (HT.out.past b1) ⟨hb1, hb2⟩).mono ?_
        rintro e u2 ⟨rfl, b2⟩
        go_wp2
        go_ret2
        exact text_f HN.out (b1.trans (b2.mono b1.size))
  · have HN : Hid (¬ Num s) := fun hn => by have := atoi_num hn; rw [hA] at this; cases this
    have HA := Lib.hid hA
    clear hA
    obtain ⟨⟨te, pe, h1⟩, _⟩ := HE.out
    have H1 := Lib.hid h1
    clear h1
    go_enter Tryd.func8, Tryd.ntmps8
    go_wp2_with fail
    refine (Any.strconv_Atoi_syntax Tryd.laysC172 s (by omega) HA.out (.iface te pe) _ H1.out (Or.inr ⟨te, pe, rfl⟩)).mono ?_
    rintro e u1 ⟨N, rfl, _, _, b1⟩
    go_wp2
    go_ret2
    exact text_f HN.out b1
  · have HN : Hid (¬ Num s) := fun hn => by have := atoi_num hn; rw [hA] at this; cases this
    have HA := Lib.hid hA
    clear hA
    obtain ⟨_, te, pe, h1⟩ := HE.out
    have H1 := Lib.hid h1
    clear h1
    go_enter Tryd.func8, Tryd.ntmps8
    go_wp2_with fail
    refine (Any.strconv_Atoi_range Tryd.laysC172 s (by omega) HA.out (.iface te pe) _ H1.out (Or.inr ⟨te, pe, rfl⟩)).mono ?_
    rintro e u1 ⟨N, rfl, _, _, b1⟩
    go_wp2
    go_ret2
    exact text_f HN.out b1
end Go.Proofs.YtkcediipkkpofaaDoor.low
