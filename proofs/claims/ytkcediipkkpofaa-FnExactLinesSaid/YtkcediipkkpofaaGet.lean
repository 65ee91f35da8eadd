/-
  The contract of spec.l01Get: the character at a place of a string and its width, or zeros where no whole encoding stands.
-/
import Derived.Test.YtkcediipkkpofaaUtf
import Derived.Test.YtkcediipkkpofaaBytes
namespace Go.Proofs.Ytkcediipkkpofaa.low
open Go.RowKit
set_option linter.unusedVariables false

/-- what l01Get answers -/
def getR (s : ByteArray) (p : Nat) : Int × Int := if okAt s p = true then (((Utf8.decode s p).1 : Int), ((Utf8.decode s p).2 : Int)) else (0, 0)
theorem getR_f {s : ByteArray} {p : Nat} (h : Utf8.decode s p = (65533, 1)) : getR s p = (0, 0) := by
  unfold getR
  have : okAt s p = false := decide_eq_false (fun hn => hn h)
  rw [this]; rfl
theorem getR_t {s : ByteArray} {p c k : Nat} (h : Utf8.decode s p = (c, k)) (hk : c ≠ 65533 ∨ k ≠ 1) : getR s p = ((c : Int), (k : Int)) := by
  unfold getR
  have : okAt s p = true := decide_eq_true (fun hn => by rw [h] at hn; injection hn with h1 h2; omega)
  rw [this, h]; rfl
theorem getR_1 {s : ByteArray} {p : Nat} (h : bAt s p < 128) : getR s p = ((bAt s p : Int), 1) := by
  rcases dec_cases s p with ⟨h', e⟩ | ⟨h', e⟩ | ⟨h', e⟩ | ⟨h', e⟩ | ⟨h', _, _, _, e⟩
  · exact getR_t e (by omega)
  · have := h'.1; omega
  · have := h'.1; omega
  · have := h'.1; omega
  · omega
theorem getR_bad {s : ByteArray} {p : Nat} (h : 128 ≤ bAt s p) (h2 : ¬ Dec2 s p) (h3 : ¬ Dec3 s p) (h4 : ¬ Dec4 s p) : getR s p = (0, 0) := by
  rcases dec_cases s p with ⟨h', e⟩ | ⟨h', e⟩ | ⟨h', e⟩ | ⟨h', e⟩ | ⟨h', _, _, _, e⟩
  · omega
  · exact absurd h' h2
  · exact absurd h' h3
  · exact absurd h' h4
  · exact getR_f e
/-- the number that the loop has gathered -/
def accI (s : ByteArray) (p : Nat) (a : Int) : Nat → Int
  | 0 => a
  | 1 => a
  | j + 2 => accI s p a (j + 1) * 64 + (bAt s (p + (j + 1)) : Int) - 128
theorem accI_1 (s : ByteArray) (p : Nat) (a : Int) : accI s p a 1 = a := rfl
theorem accI_step (s : ByteArray) (p : Nat) (a : Int) (j : Nat) (h : 1 ≤ j) : accI s p a (j + 1) = accI s p a j * 64 + (bAt s (p + j) : Int) - 128 := by
  match j, h with
  | j + 1, _ => rfl
theorem accI_2 (s : ByteArray) (p : Nat) (a : Int) : accI s p a 2 = a * 64 + (bAt s (p + 1) : Int) - 128 := accI_step s p a 1 (by omega)
theorem accI_3 (s : ByteArray) (p : Nat) (a : Int) : accI s p a 3 = (a * 64 + (bAt s (p + 1) : Int) - 128) * 64 + (bAt s (p + 2) : Int) - 128 := by
  rw [accI_step s p a 2 (by omega), accI_2]
theorem accI_4 (s : ByteArray) (p : Nat) (a : Int) : accI s p a 4 = ((a * 64 + (bAt s (p + 1) : Int) - 128) * 64 + (bAt s (p + 2) : Int) - 128) * 64 + (bAt s (p + 3) : Int) - 128 := by
  rw [accI_step s p a 3 (by omega), accI_3]
theorem accI_bd (s : ByteArray) (p : Nat) (a : Int) (j : Nat) (ha : 0 ≤ a ∧ a ≤ 31) (h1 : 1 ≤ j) (h4 : j ≤ 4) (hc : ∀ t, 1 ≤ t → t < j → isCont s (p + t)) : 0 ≤ accI s p a j ∧ accI s p a j ≤ 8388607 := by
  rcases (show j = 1 ∨ j = 2 ∨ j = 3 ∨ j = 4 by omega) with rfl | rfl | rfl | rfl
  · rw [accI_1]; omega
  · rw [accI_2]; have c1 := hc 1 (by omega) (by omega); unfold isCont at c1; omega
  · rw [accI_3]; have c1 := hc 1 (by omega) (by omega); have c2 := hc 2 (by omega) (by omega); unfold isCont at c1 c2; omega
  · rw [accI_4]; have c1 := hc 1 (by omega) (by omega); have c2 := hc 2 (by omega) (by omega); have c3 := hc 3 (by omega) (by omega); unfold isCont at c1 c2 c3; omega

theorem encI_len1 {n : Int} (h : n < 128) : (encI n).length = 1 := by rw [encI_1 h]; rfl
theorem encI_len2 {n : Int} (h : 128 ≤ n) (h' : n < 2048) : (encI n).length = 2 := by rw [encI_2 h h']; rfl
theorem encI_len3 {n : Int} (h : 2048 ≤ n) (h' : n < 65536) : (encI n).length = 3 := by rw [encI_3 h h']; rfl
theorem encI_len4 {n : Int} (h : 65536 ≤ n) : (encI n).length = 4 := by rw [encI_4 h]; rfl
/-- in which of the four ranges a number lies -/
theorem encI_cases (n : Int) : (n < 128 ∧ (encI n).length = 1) ∨ ((128 ≤ n ∧ n < 2048) ∧ (encI n).length = 2) ∨ ((2048 ≤ n ∧ n < 65536) ∧ (encI n).length = 3) ∨ (65536 ≤ n ∧ (encI n).length = 4) := by
  rcases (show n < 128 ∨ (128 ≤ n ∧ n < 2048) ∨ (2048 ≤ n ∧ n < 65536) ∨ 65536 ≤ n by omega) with h | ⟨h, h'⟩ | ⟨h, h'⟩ | h
  · exact .inl ⟨h, encI_len1 h⟩
  · exact .inr (.inl ⟨⟨h, h'⟩, encI_len2 h h'⟩)
  · exact .inr (.inr (.inl ⟨⟨h, h'⟩, encI_len3 h h'⟩))
  · exact .inr (.inr (.inr ⟨h, encI_len4 h⟩))

/-- the three widths: what stands behind the loop -/
theorem fin2_t {s : ByteArray} {p : Nat} (hx : 192 ≤ bAt s p ∧ bAt s p ≤ 223) (hc : ∀ t, 1 ≤ t → t < 2 → isCont s (p + t)) (hs : signB (accI s p ((bAt s p : Int) - 192) 2) = true)
    (hl : (encI (accI s p ((bAt s p : Int) - 192) 2)).length = 2) : getR s p = (accI s p ((bAt s p : Int) - 192) 2, 2) := by
  have c1 := hc 1 (by omega) (by omega)
  have hr := encI_cases (accI s p ((bAt s p : Int) - 192) 2)
  rw [accI_2] at *
  unfold isCont at c1
  rcases dec_cases s p with ⟨h', e⟩ | ⟨h', e⟩ | ⟨h', e⟩ | ⟨h', e⟩ | ⟨h', n2, _, _, e⟩
  · omega
  · rw [getR_t e (by omega)]; refine Prod.ext ?_ rfl; simp only; omega
  · have := h'.1; omega
  · have := h'.1; omega
  · exact absurd ⟨hx, c1, by omega⟩ n2
theorem fin2_f {s : ByteArray} {p : Nat} (hx : 192 ≤ bAt s p ∧ bAt s p ≤ 223) (h : isCont s (p + 1) → signB (accI s p ((bAt s p : Int) - 192) 2) = true → ¬ (encI (accI s p ((bAt s p : Int) - 192) 2)).length = 2) : getR s p = (0, 0) := by
  refine getR_bad (by omega) (fun d => ?_) (fun d => by have := d.1; omega) (fun d => by have := d.1; omega)
  obtain ⟨_, c1, d3⟩ := d
  have h1 := h c1
  rw [accI_2] at h1
  unfold isCont at c1
  exact h1 (signB_t (by omega)) (encI_len2 (by omega) (by omega))
theorem fin3_t {s : ByteArray} {p : Nat} (hx : 224 ≤ bAt s p ∧ bAt s p ≤ 239) (hc : ∀ t, 1 ≤ t → t < 3 → isCont s (p + t)) (hs : signB (accI s p ((bAt s p : Int) - 224) 3) = true)
    (hl : (encI (accI s p ((bAt s p : Int) - 224) 3)).length = 3) : getR s p = (accI s p ((bAt s p : Int) - 224) 3, 3) := by
  have c1 := hc 1 (by omega) (by omega)
  have c2 := hc 2 (by omega) (by omega)
  have hr := encI_cases (accI s p ((bAt s p : Int) - 224) 3)
  have hs' := of_signB hs
  rw [accI_3] at *
  unfold isCont at c1 c2
  rcases dec_cases s p with ⟨h', e⟩ | ⟨h', e⟩ | ⟨h', e⟩ | ⟨h', e⟩ | ⟨h', _, n3, _, e⟩
  · omega
  · have := h'.1; omega
  · rw [getR_t e (by omega)]; refine Prod.ext ?_ rfl; simp only; omega
  · have := h'.1; omega
  · exact absurd ⟨hx, c1, c2, by omega, by omega⟩ n3
theorem fin3_f {s : ByteArray} {p : Nat} (hx : 224 ≤ bAt s p ∧ bAt s p ≤ 239) (h : isCont s (p + 1) → isCont s (p + 2) → signB (accI s p ((bAt s p : Int) - 224) 3) = true → ¬ (encI (accI s p ((bAt s p : Int) - 224) 3)).length = 3) : getR s p = (0, 0) := by
  refine getR_bad (by omega) (fun d => by have := d.1; omega) (fun d => ?_) (fun d => by have := d.1; omega)
  obtain ⟨_, c1, c2, d3, d4⟩ := d
  have h1 := h c1 c2
  rw [accI_3] at h1
  unfold isCont at c1 c2
  exact h1 (signB_t (by omega)) (encI_len3 (by omega) (by omega))
theorem fin4_t {s : ByteArray} {p : Nat} (hx : 240 ≤ bAt s p ∧ bAt s p ≤ 247) (hc : ∀ t, 1 ≤ t → t < 4 → isCont s (p + t)) (hs : signB (accI s p ((bAt s p : Int) - 240) 4) = true)
    (hl : (encI (accI s p ((bAt s p : Int) - 240) 4)).length = 4) : getR s p = (accI s p ((bAt s p : Int) - 240) 4, 4) := by
  have c1 := hc 1 (by omega) (by omega)
  have c2 := hc 2 (by omega) (by omega)
  have c3 := hc 3 (by omega) (by omega)
  have hr := encI_cases (accI s p ((bAt s p : Int) - 240) 4)
  have hs' := of_signB hs
  rw [accI_4] at *
  unfold isCont at c1 c2 c3
  rcases dec_cases s p with ⟨h', e⟩ | ⟨h', e⟩ | ⟨h', e⟩ | ⟨h', e⟩ | ⟨h', _, _, n4, e⟩
  · omega
  · have := h'.1; omega
  · have := h'.1; omega
  · rw [getR_t e (by omega)]; refine Prod.ext ?_ rfl; simp only; omega
  · exact absurd ⟨hx, c1, c2, c3, by omega, by omega⟩ n4
theorem fin4_f {s : ByteArray} {p : Nat} (hx : 240 ≤ bAt s p ∧ bAt s p ≤ 247) (h : isCont s (p + 1) → isCont s (p + 2) → isCont s (p + 3) → signB (accI s p ((bAt s p : Int) - 240) 4) = true → ¬ (encI (accI s p ((bAt s p : Int) - 240) 4)).length = 4) : getR s p = (0, 0) := by
  refine getR_bad (by omega) (fun d => by have := d.1; omega) (fun d => by have := d.1; omega) (fun d => ?_)
  obtain ⟨_, c1, c2, c3, d3, d4⟩ := d
  have h1 := h c1 c2 c3
  rw [accI_4] at h1
  unfold isCont at c1 c2 c3
  exact h1 (signB_t (by omega)) (encI_len4 (by omega))

/-- it answers this pair and has made memory alone -/
def Pairs (r : Int × Int) (w : World) (e : Ending) (w' : World) : Prop := e = .returned (.tuple #[.int .i64 r.1, .int .i64 r.2]) ∧ Below w.heap.size w w'
theorem pairs_of {r : Int × Int} {a b : Int} {w w' : World} (h : r = (a, b)) (hb : Below w.heap.size w w') : Pairs r w (.returned (.tuple #[.int .i64 a, .int .i64 b])) w' := by rw [h]; exact ⟨rfl, hb⟩
theorem buf_form {base : Nat} {w : World} {v : Value} {bs : List Int} (h : Buf base w v bs) (hn : 1 ≤ bs.length) : ∃ g cap, v = .slice (some ⟨g, 0, none⟩) bs.length cap := by
  obtain ⟨g, cap, hv, _⟩ := h.1.form (by omega)
  exact ⟨g, cap, hv⟩

set_option maxRecDepth 100000 in
set_option maxHeartbeats 1600000 in
theorem get2_any (s : ByteArray) (p : Nat) (w : World) (hs : s.size ≤ 4294967296) (hp : p < s.size) (hx : 192 ≤ bAt s p ∧ bAt s p ≤ 223) :
    Calls Try.prog 38 #[.string s, .int .i64 p] w (Pairs (getR s p) w) := by
  have HX := Lib.hid hx
  have hx1 : (192 : Int) ≤ (s[p].toNat : Int) := by rw [bAt_eq s p hp]; omega
  have hx2 : (s[p].toNat : Int) ≤ 223 := by rw [bAt_eq s p hp]; omega
  have HB := Lib.hid (bAt_eq s p hp)
  have k1 : inB (s[p].toNat : Int) 192 223 = true := inB_t ⟨hx1, hx2⟩
  clear hx
  by_cases hsz : p + 2 ≤ s.size
  · go_enter Try.func38, Try.ntmps38
    go_wp2_with (go_at_call 35; refine (in_any _ _ _ _).mono ?_; rintro e w' ⟨rfl, rfl⟩)
    go_loop [8, 9] (fun n i => ∃ j : Nat, 1 ≤ j ∧ j ≤ 2 ∧ i = .int .i64 j ∧ n = .int .i64 (accI s p ((bAt s p : Int) - 192) j) ∧ ∀ t, 1 ≤ t → t < j → isCont s (p + t)) (fun _ i => 2 - (intOf i).toNat)
    case atStart => exact ⟨1, by omega, by omega, rfl, by rw [accI_1, HB.out], fun t h1 h2 => absurd h2 (by omega)⟩
    case round =>
      obtain ⟨j, hj1, hj2, rfl, rfl, hc⟩ := hrel
      have hbd := accI_bd s p ((bAt s p : Int) - 192) j (by have := HX.out; omega) hj1 (by omega) hc
      have HC := Lib.hid hc
      have HS := Lib.hid (accI_step s p ((bAt s p : Int) - 192) j hj1)
      clear hc
      by_cases hlt : j < 2
      · have hpj : p + j < s.size := by omega
        have HBJ := Lib.hid (bAt_eq s (p + j) hpj)
        have hbl : (s[p + j].toNat : Int) < 256 := by rw [bAt_eq s (p + j) hpj]; have := bAt_lt s (p + j); omega
        generalize accI s p ((bAt s p : Int) - 192) j = m at *
        have hbd0 := hbd.1
        have hbd1 := hbd.2
        clear hbd
        by_cases hcont : 128 ≤ bAt s (p + j) ∧ bAt s (p + j) ≤ 191
        · have kk : inB (s[p + j].toNat : Int) 128 191 = true := by rw [bAt_eq s (p + j) hpj]; exact inB_t (by omega)
          have HCC := Lib.hid hcont
          clear hcont
          go_wp2_with (go_at_call 35; refine (in_any _ _ _ _).mono ?_; rintro e w' ⟨rfl, rfl⟩)
          go_round
          case rel =>
            refine ⟨j + 1, by omega, by omega, by go_num, ?_, fun t h1 h2 => ?_⟩
            · rw [HS.out, HBJ.out]
            · rcases (show t < j ∨ t = j by omega) with h | rfl
              · exact HC.out t h1 h
              · exact ⟨hpj, HCC.out⟩
          case measure => simp [intOf]; omega
        · have kk : inB (s[p + j].toNat : Int) 128 191 = false := by rw [bAt_eq s (p + j) hpj]; exact inB_f (by omega)
          have HCC := Lib.hid hcont
          clear hcont
          go_wp2_with (go_at_call 35; refine (in_any _ _ _ _).mono ?_; rintro e w' ⟨rfl, rfl⟩)
          go_ret2
          refine pairs_of (fin2_f HX.out ?_) (Below.refl _ _)
          intro c1
          exfalso
          refine HCC.out ?_
          rcases (show j = 1 by omega) with rfl
          · exact c1.2
      · obtain rfl : j = 2 := by omega
        clear HS
        cases hsn : signB (accI s p ((bAt s p : Int) - 192) 2)
        · have HF := Lib.hid (fin2_f HX.out (fun _ h => by rw [hsn] at h; cases h))
          generalize accI s p ((bAt s p : Int) - 192) 2 = m at *
          go_wp2_with (go_at_call 12; refine (specSignOk_any _ _).mono ?_; rintro e w' ⟨rfl, rfl⟩)
          go_ret2
          exact pairs_of HF.out (Below.refl _ _)
        · by_cases hl : (encI (accI s p ((bAt s p : Int) - 192) 2)).length = 2
          · have HF := Lib.hid (fin2_t HX.out HC.out hsn hl)
            generalize accI s p ((bAt s p : Int) - 192) 2 = m at *
            have HL := Lib.hid hl
            clear hl
            go_wp2_with (first | (go_at_call 12; refine (specSignOk_any _ _).mono ?_; rintro e w' ⟨rfl, rfl⟩) | (go_at_call 36; refine (put_any w.heap.size (.slice none 0 0) [] m w ⟨World.ownsRow_nil _ _ _ _, Nat.le_refl _⟩ hsn (by simp)).mono ?_; rintro e w' ⟨v', rfl, h2, h3⟩; obtain ⟨g, cap, rfl⟩ := buf_form h2 (by rw [List.nil_append, HL.out]; omega); rw [List.nil_append, HL.out]))
            go_ret2
            exact pairs_of HF.out h3
          · have HF := Lib.hid (fin2_f HX.out (fun _ _ => hl))
            generalize accI s p ((bAt s p : Int) - 192) 2 = m at *
            have hl' : ((((encI m).length : Nat) : Int) != 2) = true := by simp; omega
            have hl1 := (encI_len m).1
            clear hl
            go_wp2_with (first | (go_at_call 12; refine (specSignOk_any _ _).mono ?_; rintro e w' ⟨rfl, rfl⟩) | (go_at_call 36; refine (put_any w.heap.size (.slice none 0 0) [] m w ⟨World.ownsRow_nil _ _ _ _, Nat.le_refl _⟩ hsn (by simp)).mono ?_; rintro e w' ⟨v', rfl, h2, h3⟩; obtain ⟨g, cap, rfl⟩ := buf_form h2 (by rw [List.nil_append]; omega); rw [List.nil_append]))
            go_ret2
            exact pairs_of HF.out h3
  · have HF := Lib.hid (fin2_f HX.out (fun c1 _ => absurd c1.1 (by omega)))
    have hsz' : (s.size : Int) < (p : Int) + 2 := by omega
    go_enter Try.func38, Try.ntmps38
    go_wp2_with (go_at_call 35; refine (in_any _ _ _ _).mono ?_; rintro e w' ⟨rfl, rfl⟩)
    go_ret2
    exact pairs_of HF.out (Below.refl _ _)

set_option maxRecDepth 100000 in
set_option maxHeartbeats 1600000 in
theorem get3_any (s : ByteArray) (p : Nat) (w : World) (hs : s.size ≤ 4294967296) (hp : p < s.size) (hx : 224 ≤ bAt s p ∧ bAt s p ≤ 239) :
    Calls Try.prog 38 #[.string s, .int .i64 p] w (Pairs (getR s p) w) := by
  have HX := Lib.hid hx
  have hx1 : (224 : Int) ≤ (s[p].toNat : Int) := by rw [bAt_eq s p hp]; omega
  have hx2 : (s[p].toNat : Int) ≤ 239 := by rw [bAt_eq s p hp]; omega
  have HB := Lib.hid (bAt_eq s p hp)
  have k1 : inB (s[p].toNat : Int) 224 239 = true := inB_t ⟨hx1, hx2⟩
  have k192 : inB (s[p].toNat : Int) 192 223 = false := inB_f (by omega)
  clear hx
  by_cases hsz : p + 3 ≤ s.size
  · go_enter Try.func38, Try.ntmps38
    go_wp2_with (go_at_call 35; refine (in_any _ _ _ _).mono ?_; rintro e w' ⟨rfl, rfl⟩)
    go_loop [8, 9] (fun n i => ∃ j : Nat, 1 ≤ j ∧ j ≤ 3 ∧ i = .int .i64 j ∧ n = .int .i64 (accI s p ((bAt s p : Int) - 224) j) ∧ ∀ t, 1 ≤ t → t < j → isCont s (p + t)) (fun _ i => 3 - (intOf i).toNat)
    case atStart => exact ⟨1, by omega, by omega, rfl, by rw [accI_1, HB.out], fun t h1 h2 => absurd h2 (by omega)⟩
    case round =>
      obtain ⟨j, hj1, hj2, rfl, rfl, hc⟩ := hrel
      have hbd := accI_bd s p ((bAt s p : Int) - 224) j (by have := HX.out; omega) hj1 (by omega) hc
      have HC := Lib.hid hc
      have HS := Lib.hid (accI_step s p ((bAt s p : Int) - 224) j hj1)
      clear hc
      by_cases hlt : j < 3
      · have hpj : p + j < s.size := by omega
        have HBJ := Lib.hid (bAt_eq s (p + j) hpj)
        have hbl : (s[p + j].toNat : Int) < 256 := by rw [bAt_eq s (p + j) hpj]; have := bAt_lt s (p + j); omega
        generalize accI s p ((bAt s p : Int) - 224) j = m at *
        have hbd0 := hbd.1
        have hbd1 := hbd.2
        clear hbd
        by_cases hcont : 128 ≤ bAt s (p + j) ∧ bAt s (p + j) ≤ 191
        · have kk : inB (s[p + j].toNat : Int) 128 191 = true := by rw [bAt_eq s (p + j) hpj]; exact inB_t (by omega)
          have HCC := Lib.hid hcont
          clear hcont
          go_wp2_with (go_at_call 35; refine (in_any _ _ _ _).mono ?_; rintro e w' ⟨rfl, rfl⟩)
          go_round
          case rel =>
            refine ⟨j + 1, by omega, by omega, by go_num, ?_, fun t h1 h2 => ?_⟩
            · rw [HS.out, HBJ.out]
            · rcases (show t < j ∨ t = j by omega) with h | rfl
              · exact HC.out t h1 h
              · exact ⟨hpj, HCC.out⟩
          case measure => simp [intOf]; omega
        · have kk : inB (s[p + j].toNat : Int) 128 191 = false := by rw [bAt_eq s (p + j) hpj]; exact inB_f (by omega)
          have HCC := Lib.hid hcont
          clear hcont
          go_wp2_with (go_at_call 35; refine (in_any _ _ _ _).mono ?_; rintro e w' ⟨rfl, rfl⟩)
          go_ret2
          refine pairs_of (fin3_f HX.out ?_) (Below.refl _ _)
          intro c1 c2
          exfalso
          refine HCC.out ?_
          rcases (show j = 1 ∨ j = 2 by omega) with rfl | rfl
          · exact c1.2
          · exact c2.2
      · obtain rfl : j = 3 := by omega
        clear HS
        cases hsn : signB (accI s p ((bAt s p : Int) - 224) 3)
        · have HF := Lib.hid (fin3_f HX.out (fun _ _ h => by rw [hsn] at h; cases h))
          generalize accI s p ((bAt s p : Int) - 224) 3 = m at *
          go_wp2_with (go_at_call 12; refine (specSignOk_any _ _).mono ?_; rintro e w' ⟨rfl, rfl⟩)
          go_ret2
          exact pairs_of HF.out (Below.refl _ _)
        · by_cases hl : (encI (accI s p ((bAt s p : Int) - 224) 3)).length = 3
          · have HF := Lib.hid (fin3_t HX.out HC.out hsn hl)
            generalize accI s p ((bAt s p : Int) - 224) 3 = m at *
            have HL := Lib.hid hl
            clear hl
            go_wp2_with (first | (go_at_call 12; refine (specSignOk_any _ _).mono ?_; rintro e w' ⟨rfl, rfl⟩) | (go_at_call 36; refine (put_any w.heap.size (.slice none 0 0) [] m w ⟨World.ownsRow_nil _ _ _ _, Nat.le_refl _⟩ hsn (by simp)).mono ?_; rintro e w' ⟨v', rfl, h2, h3⟩; obtain ⟨g, cap, rfl⟩ := buf_form h2 (by rw [List.nil_append, HL.out]; omega); rw [List.nil_append, HL.out]))
            go_ret2
            exact pairs_of HF.out h3
          · have HF := Lib.hid (fin3_f HX.out (fun _ _ _ => hl))
            generalize accI s p ((bAt s p : Int) - 224) 3 = m at *
            have hl' : ((((encI m).length : Nat) : Int) != 3) = true := by simp; omega
            have hl1 := (encI_len m).1
            clear hl
            go_wp2_with (first | (go_at_call 12; refine (specSignOk_any _ _).mono ?_; rintro e w' ⟨rfl, rfl⟩) | (go_at_call 36; refine (put_any w.heap.size (.slice none 0 0) [] m w ⟨World.ownsRow_nil _ _ _ _, Nat.le_refl _⟩ hsn (by simp)).mono ?_; rintro e w' ⟨v', rfl, h2, h3⟩; obtain ⟨g, cap, rfl⟩ := buf_form h2 (by rw [List.nil_append]; omega); rw [List.nil_append]))
            go_ret2
            exact pairs_of HF.out h3
  · have HF := Lib.hid (fin3_f HX.out (fun c1 c2 _ => absurd c2.1 (by omega)))
    have hsz' : (s.size : Int) < (p : Int) + 3 := by omega
    go_enter Try.func38, Try.ntmps38
    go_wp2_with (go_at_call 35; refine (in_any _ _ _ _).mono ?_; rintro e w' ⟨rfl, rfl⟩)
    go_ret2
    exact pairs_of HF.out (Below.refl _ _)

set_option maxRecDepth 100000 in
set_option maxHeartbeats 1600000 in
theorem get4_any (s : ByteArray) (p : Nat) (w : World) (hs : s.size ≤ 4294967296) (hp : p < s.size) (hx : 240 ≤ bAt s p ∧ bAt s p ≤ 247) :
    Calls Try.prog 38 #[.string s, .int .i64 p] w (Pairs (getR s p) w) := by
  have HX := Lib.hid hx
  have hx1 : (240 : Int) ≤ (s[p].toNat : Int) := by rw [bAt_eq s p hp]; omega
  have hx2 : (s[p].toNat : Int) ≤ 247 := by rw [bAt_eq s p hp]; omega
  have HB := Lib.hid (bAt_eq s p hp)
  have k1 : inB (s[p].toNat : Int) 240 247 = true := inB_t ⟨hx1, hx2⟩
  have k192 : inB (s[p].toNat : Int) 192 223 = false := inB_f (by omega)
  have k224 : inB (s[p].toNat : Int) 224 239 = false := inB_f (by omega)
  clear hx
  by_cases hsz : p + 4 ≤ s.size
  · go_enter Try.func38, Try.ntmps38
    go_wp2_with (go_at_call 35; refine (in_any _ _ _ _).mono ?_; rintro e w' ⟨rfl, rfl⟩)
    go_loop [8, 9] (fun n i => ∃ j : Nat, 1 ≤ j ∧ j ≤ 4 ∧ i = .int .i64 j ∧ n = .int .i64 (accI s p ((bAt s p : Int) - 240) j) ∧ ∀ t, 1 ≤ t → t < j → isCont s (p + t)) (fun _ i => 4 - (intOf i).toNat)
    case atStart => exact ⟨1, by omega, by omega, rfl, by rw [accI_1, HB.out], fun t h1 h2 => absurd h2 (by omega)⟩
    case round =>
      obtain ⟨j, hj1, hj2, rfl, rfl, hc⟩ := hrel
      have hbd := accI_bd s p ((bAt s p : Int) - 240) j (by have := HX.out; omega) hj1 (by omega) hc
      have HC := Lib.hid hc
      have HS := Lib.hid (accI_step s p ((bAt s p : Int) - 240) j hj1)
      clear hc
      by_cases hlt : j < 4
      · have hpj : p + j < s.size := by omega
        have HBJ := Lib.hid (bAt_eq s (p + j) hpj)
        have hbl : (s[p + j].toNat : Int) < 256 := by rw [bAt_eq s (p + j) hpj]; have := bAt_lt s (p + j); omega
        generalize accI s p ((bAt s p : Int) - 240) j = m at *
        have hbd0 := hbd.1
        have hbd1 := hbd.2
        clear hbd
        by_cases hcont : 128 ≤ bAt s (p + j) ∧ bAt s (p + j) ≤ 191
        · have kk : inB (s[p + j].toNat : Int) 128 191 = true := by rw [bAt_eq s (p + j) hpj]; exact inB_t (by omega)
          have HCC := Lib.hid hcont
          clear hcont
          go_wp2_with (go_at_call 35; refine (in_any _ _ _ _).mono ?_; rintro e w' ⟨rfl, rfl⟩)
          go_round
          case rel =>
            refine ⟨j + 1, by omega, by omega, by go_num, ?_, fun t h1 h2 => ?_⟩
            · rw [HS.out, HBJ.out]
            · rcases (show t < j ∨ t = j by omega) with h | rfl
              · exact HC.out t h1 h
              · exact ⟨hpj, HCC.out⟩
          case measure => simp [intOf]; omega
        · have kk : inB (s[p + j].toNat : Int) 128 191 = false := by rw [bAt_eq s (p + j) hpj]; exact inB_f (by omega)
          have HCC := Lib.hid hcont
          clear hcont
          go_wp2_with (go_at_call 35; refine (in_any _ _ _ _).mono ?_; rintro e w' ⟨rfl, rfl⟩)
          go_ret2
          refine pairs_of (fin4_f HX.out ?_) (Below.refl _ _)
          intro c1 c2 c3
          exfalso
          refine HCC.out ?_
          rcases (show j = 1 ∨ j = 2 ∨ j = 3 by omega) with rfl | rfl | rfl
          · exact c1.2
          · exact c2.2
          · exact c3.2
      · obtain rfl : j = 4 := by omega
        clear HS
        cases hsn : signB (accI s p ((bAt s p : Int) - 240) 4)
        · have HF := Lib.hid (fin4_f HX.out (fun _ _ _ h => by rw [hsn] at h; cases h))
          generalize accI s p ((bAt s p : Int) - 240) 4 = m at *
          go_wp2_with (go_at_call 12; refine (specSignOk_any _ _).mono ?_; rintro e w' ⟨rfl, rfl⟩)
          go_ret2
          exact pairs_of HF.out (Below.refl _ _)
        · by_cases hl : (encI (accI s p ((bAt s p : Int) - 240) 4)).length = 4
          · have HF := Lib.hid (fin4_t HX.out HC.out hsn hl)
            generalize accI s p ((bAt s p : Int) - 240) 4 = m at *
            have HL := Lib.hid hl
            clear hl
            go_wp2_with (first | (go_at_call 12; refine (specSignOk_any _ _).mono ?_; rintro e w' ⟨rfl, rfl⟩) | (go_at_call 36; refine (put_any w.heap.size (.slice none 0 0) [] m w ⟨World.ownsRow_nil _ _ _ _, Nat.le_refl _⟩ hsn (by simp)).mono ?_; rintro e w' ⟨v', rfl, h2, h3⟩; obtain ⟨g, cap, rfl⟩ := buf_form h2 (by rw [List.nil_append, HL.out]; omega); rw [List.nil_append, HL.out]))
            go_ret2
            exact pairs_of HF.out h3
          · have HF := Lib.hid (fin4_f HX.out (fun _ _ _ _ => hl))
            generalize accI s p ((bAt s p : Int) - 240) 4 = m at *
            have hl' : ((((encI m).length : Nat) : Int) != 4) = true := by simp; omega
            have hl1 := (encI_len m).1
            clear hl
            go_wp2_with (first | (go_at_call 12; refine (specSignOk_any _ _).mono ?_; rintro e w' ⟨rfl, rfl⟩) | (go_at_call 36; refine (put_any w.heap.size (.slice none 0 0) [] m w ⟨World.ownsRow_nil _ _ _ _, Nat.le_refl _⟩ hsn (by simp)).mono ?_; rintro e w' ⟨v', rfl, h2, h3⟩; obtain ⟨g, cap, rfl⟩ := buf_form h2 (by rw [List.nil_append]; omega); rw [List.nil_append]))
            go_ret2
            exact pairs_of HF.out h3
  · have HF := Lib.hid (fin4_f HX.out (fun c1 c2 c3 _ => absurd c3.1 (by omega)))
    have hsz' : (s.size : Int) < (p : Int) + 4 := by omega
    go_enter Try.func38, Try.ntmps38
    go_wp2_with (go_at_call 35; refine (in_any _ _ _ _).mono ?_; rintro e w' ⟨rfl, rfl⟩)
    go_ret2
    exact pairs_of HF.out (Below.refl _ _)

set_option maxRecDepth 100000 in
set_option maxHeartbeats 1600000 in
theorem get_any (s : ByteArray) (p : Nat) (w : World) (hs : s.size ≤ 4294967296) (hp : p < s.size) :
    Calls Try.prog 38 #[.string s, .int .i64 p] w (Pairs (getR s p) w) := by
  have hb8 := bAt_lt s p
  rcases (show bAt s p < 128 ∨ (192 ≤ bAt s p ∧ bAt s p ≤ 223) ∨ (224 ≤ bAt s p ∧ bAt s p ≤ 239) ∨ (240 ≤ bAt s p ∧ bAt s p ≤ 247) ∨ (128 ≤ bAt s p ∧ bAt s p ≤ 191) ∨ 248 ≤ bAt s p by omega) with h | h | h | h | h | h
  · have HF := Lib.hid (getR_1 h)
    have hx1 : (s[p].toNat : Int) < 128 := by rw [bAt_eq s p hp]; omega
    have HB := Lib.hid (bAt_eq s p hp)
    clear h hb8
    go_enter Try.func38, Try.ntmps38
    go_wp2
    go_ret2
    rw [HB.out]
    exact pairs_of HF.out (Below.refl _ _)
  · exact get2_any s p w hs hp h
  · exact get3_any s p w hs hp h
  · exact get4_any s p w hs hp h
  · have HF := Lib.hid (getR_bad (s := s) (p := p) (by omega) (fun d => by have := d.1; omega) (fun d => by have := d.1; omega) (fun d => by have := d.1; omega))
    have hx0 : 128 ≤ (s[p].toNat : Int) := by rw [bAt_eq s p hp]; omega
    have hx1 : (s[p].toNat : Int) ≤ 191 := by rw [bAt_eq s p hp]; omega
    have k1 : inB (s[p].toNat : Int) 192 223 = false := inB_f (by omega)
    have k2 : inB (s[p].toNat : Int) 224 239 = false := inB_f (by omega)
    have k3 : inB (s[p].toNat : Int) 240 247 = false := inB_f (by omega)
    clear h hb8
    go_enter Try.func38, Try.ntmps38
    go_wp2_with (go_at_call 35; refine (in_any _ _ _ _).mono ?_; rintro e w' ⟨rfl, rfl⟩)
    go_ret2
    exact pairs_of HF.out (Below.refl _ _)
  · have HF := Lib.hid (getR_bad (s := s) (p := p) (by omega) (fun d => by have := d.1; omega) (fun d => by have := d.1; omega) (fun d => by have := d.1; omega))
    have hx0 : 248 ≤ (s[p].toNat : Int) := by rw [bAt_eq s p hp]; omega
    have hx1 : (s[p].toNat : Int) ≤ 255 := by rw [bAt_eq s p hp]; omega
    have k1 : inB (s[p].toNat : Int) 192 223 = false := inB_f (by omega)
    have k2 : inB (s[p].toNat : Int) 224 239 = false := inB_f (by omega)
    have k3 : inB (s[p].toNat : Int) 240 247 = false := inB_f (by omega)
    clear h hb8
    go_enter Try.func38, Try.ntmps38
    go_wp2_with (go_at_call 35; refine (in_any _ _ _ _).mono ?_; rintro e w' ⟨rfl, rfl⟩)
    go_ret2
    exact pairs_of HF.out (Below.refl _ _)
end Go.Proofs.Ytkcediipkkpofaa.low
