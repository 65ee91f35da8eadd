
/-
  The operation between two texts: the functions on lists, and the contract of spec.Between.
-/
import Derived.Test.YtemhhjagdfkmfaaSpecInvert
import Derived.Test.YtemhhjagdfkmfaaOpSame
namespace Go.Proofs.Ytemhhjagdfkmfaa.low
open Go.RowKit
set_option linter.unusedVariables false

/-- how long the longest common prefix is -/
def cpl : List Int → List Int → Nat
  | x :: a, y :: b => if x = y then cpl a b + 1 else 0
  | _, _ => 0
theorem cpl_le : ∀ a b : List Int, cpl a b ≤ a.length ∧ cpl a b ≤ b.length
  | [], b => by simp [cpl]
  | _ :: _, [] => by simp [cpl]
  | x :: a, y :: b => by
    have := cpl_le a b
    unfold cpl
    split <;> simp <;> omega
/-- a common prefix of k that can't be made longer -/
theorem cpl_of : ∀ (k : Nat) (a b : List Int), (∀ i, i < k → ∃ x, a[i]? = some x ∧ b[i]? = some x) → (∀ x y, a[k]? = some x → b[k]? = some y → ¬ x = y) → cpl a b = k
  | 0, a, b, _, h => by
    cases a with
    | nil => simp [cpl]
    | cons x a =>
      cases b with
      | nil => simp [cpl]
      | cons y b =>
        have := h x y rfl rfl
        simp [cpl, this]
  | k + 1, a, b, h1, h2 => by
    obtain ⟨x, hx, hy⟩ := h1 0 (by omega)
    cases a with
    | nil => simp at hx
    | cons x' a =>
      cases b with
      | nil => simp at hy
      | cons y' b =>
        simp at hx hy
        subst hx; subst hy
        have := cpl_of k a b (fun i hi => by have := h1 (i + 1) (by omega); simpa using this) (fun x y hx hy => h2 x y (by simpa using hx) (by simpa using hy))
        simp [cpl, this]
/-- the common prefix, and the common suffix of what is behind it -/
def preN (a b : List Int) : Nat := cpl a b
def sufN (a b : List Int) : Nat := cpl (a.drop (preN a b)).reverse (b.drop (preN a b)).reverse
theorem suf_le (a b : List Int) : preN a b + sufN a b ≤ a.length ∧ preN a b + sufN a b ≤ b.length := by
  have h1 := cpl_le a b
  have h2 := cpl_le (a.drop (preN a b)).reverse (b.drop (preN a b)).reverse
  simp only [List.length_reverse, List.length_drop] at h2
  unfold sufN preN at *
  omega
/-- the parts that the builder is given -/
def betweenL (a b : List Int) : List Pt := [⟨1, (preN a b : Int), []⟩, ⟨2, 0, (b.drop (preN a b)).take (b.length - sufN a b - preN a b)⟩, ⟨3, ((a.length - sufN a b - preN a b : Nat) : Int), []⟩, ⟨1, (sufN a b : Int), []⟩]
def betweenT (a b : List Int) : List Pt := if (okText a && okText b) = true then doneN (foldN (betweenL a b)) else []
theorem okText_len {t : List Int} (h : okText t = true) : t.length ≤ 200 := by
  unfold okText at h
  rw [Bool.and_eq_true] at h
  exact of_decide_eq_true h.2
theorem between_sz {a b : List Int} (ha : a.length ≤ 200) (hb : b.length ≤ 200) : ∀ p ∈ betweenL a b, szP_ p := fun p hp => by
  have h1 := suf_le a b
  unfold betweenL at hp
  simp at hp
  rcases hp with rfl | rfl | rfl | rfl
  · exact ⟨.inl rfl, by simp, by simp; omega, by simp⟩
  · exact ⟨.inr (.inl rfl), by simp, by simp, by simp only [List.length_take, List.length_drop]; omega⟩
  · exact ⟨.inr (.inr rfl), by simp, by simp; omega, by simp⟩
  · exact ⟨.inl rfl, by simp, by simp; omega, by simp⟩
theorem between_small {a b : List Int} (h0 : SmI a) (h1 : SmI b) : SmP (betweenT a b) := by
  unfold betweenT
  split
  · rename_i h
    rw [Bool.and_eq_true] at h
    exact built_small (between_sz (okText_len h.1) (okText_len h.2)) (by simp [betweenL])
  · exact ⟨by simp, by simp [signsIn]⟩
/-- the element k from the end -/
theorem rev_at {l : List Int} {i k : Nat} (h : i + k < l.length) : (l.drop i).reverse[k]? = l[l.length - 1 - k]? := by
  rw [List.getElem?_reverse (by rw [List.length_drop]; omega), List.length_drop, List.getElem?_drop]
  congr 1
  omega
theorem pre_of {a b : List Int} {k : Nat} (h1 : ∀ i, i < k → ∃ x, a[i]? = some x ∧ b[i]? = some x) (h2 : ∀ x y, a[k]? = some x → b[k]? = some y → ¬ x = y) : preN a b = k := cpl_of k a b h1 h2
theorem suf_of {a b : List Int} {k : Nat} (hp : preN a b + k ≤ a.length) (hq : preN a b + k ≤ b.length) (h1 : ∀ i, i < k → ∃ x, a[a.length - 1 - i]? = some x ∧ b[b.length - 1 - i]? = some x)
    (h2 : preN a b + k < a.length → preN a b + k < b.length → ∀ x y, a[a.length - 1 - k]? = some x → b[b.length - 1 - k]? = some y → ¬ x = y) : sufN a b = k := by
  refine cpl_of k _ _ (fun i hi => ?_) (fun x y hx hy => ?_)
  · obtain ⟨x, hx, hy⟩ := h1 i hi
    exact ⟨x, by rw [rev_at (by omega)]; exact hx, by rw [rev_at (by omega)]; exact hy⟩
  · have l1 := idx_lt hx
    have l2 := idx_lt hy
    simp only [List.length_reverse, List.length_drop] at l1 l2
    rw [rev_at (by omega)] at hx hy
    exact h2 (by omega) (by omega) x y hx hy

theorem own_of_list {lo hi : Nat} {w : World} {v : Value} {b : List Nat} {L L' : List Pt} (h : OwB lo hi w (encPs (doneN (foldN L))) v b) (e : L = L') : Own lo hi w (encPs (doneN (foldN L'))) v := by
  subst e
  exact ⟨b, h.ow, h.nd, h.rng, h.top, h.le⟩

set_option maxRecDepth 100000 in
set_option maxHeartbeats 6400000 in
theorem specBetween_d (v v' : Value) (a b : List Int) (w : World) (h : RdC w w.heap.size (encInts a) v) (h' : RdC w w.heap.size (encInts b) v') (hs : SmI a) (hs' : SmI b) : Calls Try.prog 24 #[v, v'] w (ResB (encPs (betweenT a b)) (okText a && okText b) w) := by
  obtain ⟨A, c, rfl, hr, _⟩ := ints_rd h
  obtain ⟨B, d, rfl, hq, hcap⟩ := ints_rd h'
  cases ha : okText a
  · have e1 : betweenT a b = [] := by simp [betweenT, ha]
    rw [e1]
    go_enter Try.func24, Try.ntmps24
    go_wp2_with fail
    refine (specTextOk_d _ a _ h hs).mono ?_
    rintro e w1 ⟨rfl, b1⟩
    rw [ha]
    go_wp2
    go_ret2
    exact ⟨_, rfl, nilOwn _ _ rfl b1.size, b1⟩
  cases hb : okText b
  · have e1 : betweenT a b = [] := by simp [betweenT, hb]
    rw [e1]
    go_enter Try.func24, Try.ntmps24
    go_wp2_with fail
    refine (specTextOk_d _ a _ h hs).mono ?_
    rintro e w1 ⟨rfl, b1⟩
    rw [ha]
    go_wp2_with fail
    refine (specTextOk_d _ b _ (h'.past b1) hs').mono ?_
    rintro e w2 ⟨rfl, b2⟩
    rw [hb]
    have d2 := b1.trans (b2.mono b1.size)
    go_wp2
    go_ret2
    exact ⟨_, rfl, nilOwn _ _ rfl d2.size, d2⟩
  have e1 : betweenT a b = doneN (foldN (betweenL a b)) := by simp [betweenT, ha, hb]
  rw [e1]
  have la := okText_len ha
  have lb := okText_len hb
  go_enter Try.func24, Try.ntmps24
  go_wp2_with fail
  refine (specTextOk_d _ a _ h hs).mono ?_
  rintro e w1 ⟨rfl, b1⟩
  rw [ha]
  go_wp2_with fail
  refine (specTextOk_d _ b _ (h'.past b1) hs').mono ?_
  rintro e w2 ⟨rfl, b2⟩
  rw [hb]
  clear ha hb e1
  have d2 := b1.trans (b2.mono b1.size)
  have ra := hr.past d2
  have rb := hq.past d2
  go_wp2
  go_loopw [6] (fun i wr => ∃ k n : Nat, k ≤ a.length ∧ k ≤ b.length ∧ i = .int .i64 k ∧ (∀ i, i < k → ∃ x, a[i]? = some x ∧ b[i]? = some x) ∧ wr = w2.drewN n) (fun i _ => a.length - (intOf i).toNat)
  case atStart => exact ⟨0, 0, Nat.zero_le _, Nat.zero_le _, rfl, fun i hi => absurd hi (by omega), rfl⟩
  case round =>
    obtain ⟨k, n, hka, hkb, rfl, hpre, rfl⟩ := hrel
    have HP := Lib.hid hpre
    clear hpre
    have hsplit : (k < a.length ∧ k < b.length ∧ ∃ ad bd x, A = some ad ∧ B = some bd ∧ w2.cell? (ad.add k) = some (.int .i64 x) ∧ w2.cell? (bd.add k) = some (.int .i64 x) ∧ a[k]? = some x ∧ b[k]? = some x) ∨
        (preN a b = k ∧ (¬ k < a.length ∨ (k < a.length ∧ ¬ k < b.length) ∨ (k < a.length ∧ k < b.length ∧ ∃ ad bd x y, A = some ad ∧ B = some bd ∧ w2.cell? (ad.add k) = some (.int .i64 x) ∧ w2.cell? (bd.add k) = some (.int .i64 y) ∧ (x == y) = false))) := by
      by_cases hlta : k < a.length
      · by_cases hltb : k < b.length
        · obtain ⟨ad, x, e1, _, hzx, hcx⟩ := ra.at_ hlta
          obtain ⟨bd, y, e2, _, hzy, hcy⟩ := rb.at_ hltb
          by_cases he : x = y
          · subst he
            exact .inl ⟨hlta, hltb, ad, bd, x, e1, e2, hcx, hcy, hzx, hzy⟩
          · exact .inr ⟨pre_of HP.out (fun x' y' hx hy => by rw [hzx] at hx; rw [hzy] at hy; injection hx with hx; injection hy with hy; rw [← hx, ← hy]; exact he), .inr (.inr ⟨hlta, hltb, ad, bd, x, y, e1, e2, hcx, hcy, by simp [he]⟩)⟩
        · exact .inr ⟨pre_of HP.out (fun x y _ hy => absurd (idx_lt hy) hltb), .inr (.inl ⟨hlta, hltb⟩)⟩
      · exact .inr ⟨pre_of HP.out (fun x y hx _ => absurd (idx_lt hx) hlta), .inl hlta⟩
    rcases hsplit with ⟨hlta, hltb, ad, bd, x, rfl, rfl, hcx, hcy, hzx, hzy⟩ | ⟨hpn, hex⟩
    · have HZX := Lib.hid hzx
      have HZY := Lib.hid hzy
      clear hzx hzy
      have heq : (x == x) = true := by simp
      go_wp2
      go_quiet (fail)
      go_wp2
      go_roundw
      case rel => exact ⟨k + 1, _, by omega, by omega, by go_num, fun i hi => by
        by_cases e : i = k
        · subst e; exact ⟨x, HZX.out, HZY.out⟩
        · exact HP.out i (by omega), rfl⟩
      case measure => simp [intOf]; omega
    · have HN := Lib.hid hpn
      clear hpn HP
      rcases hex with hlta | ⟨hlta, hltb⟩ | ⟨hlta, hltb, ad, bd, x, y, rfl, rfl, hcx, hcy, hxy⟩
      all_goals
        go_wp2
        go_quiet (fail)
        go_wp2
        try clear hcx hcy hxy
        try clear hltb
        clear hlta
        first | generalize (some ad : Option Addr) = A_ at * | generalize A = A_ at *
        first | generalize (some bd : Option Addr) = B_ at * | generalize B = B_ at *
        go_loopw [7] (fun i wr => ∃ m n2 : Nat, k + m ≤ a.length ∧ k + m ≤ b.length ∧ i = .int .i64 m ∧ (∀ i, i < m → ∃ x, a[a.length - 1 - i]? = some x ∧ b[b.length - 1 - i]? = some x) ∧ wr = w2.drewN n2) (fun i _ => a.length - (intOf i).toNat)
        case atStart => exact ⟨0, _, by omega, by omega, rfl, fun i hi => absurd hi (by omega), World.drewN_drewN _ _ _⟩
        case round =>
          obtain ⟨m, n2, hma, hmb, rfl, hsuf, rfl⟩ := hrel
          have HQ := Lib.hid hsuf
          clear hsuf
          have hsplit : (k + m < a.length ∧ k + m < b.length ∧ ∃ ad bd x, A_ = some ad ∧ B_ = some bd ∧ w2.cell? (ad.add (a.length - 1 - m)) = some (.int .i64 x) ∧ w2.cell? (bd.add (b.length - 1 - m)) = some (.int .i64 x) ∧ a[a.length - 1 - m]? = some x ∧ b[b.length - 1 - m]? = some x) ∨
              (sufN a b = m ∧ (¬ k + m < a.length ∨ (k + m < a.length ∧ ¬ k + m < b.length) ∨ (k + m < a.length ∧ k + m < b.length ∧ ∃ ad bd x y, A_ = some ad ∧ B_ = some bd ∧ w2.cell? (ad.add (a.length - 1 - m)) = some (.int .i64 x) ∧ w2.cell? (bd.add (b.length - 1 - m)) = some (.int .i64 y) ∧ (x == y) = false))) := by
            by_cases hlta : k + m < a.length
            · by_cases hltb : k + m < b.length
              · obtain ⟨ad, x, e1, _, hzx, hcx⟩ := ra.at_ (k := a.length - 1 - m) (by omega)
                obtain ⟨bd, y, e2, _, hzy, hcy⟩ := rb.at_ (k := b.length - 1 - m) (by omega)
                by_cases he : x = y
                · subst he
                  exact .inl ⟨hlta, hltb, ad, bd, x, e1, e2, hcx, hcy, hzx, hzy⟩
                · exact .inr ⟨suf_of (by rw [HN.out]; exact hma) (by rw [HN.out]; exact hmb) HQ.out (fun _ _ x' y' hx hy => by rw [hzx] at hx; rw [hzy] at hy; injection hx with hx; injection hy with hy; rw [← hx, ← hy]; exact he), .inr (.inr ⟨hlta, hltb, ad, bd, x, y, e1, e2, hcx, hcy, by simp [he]⟩)⟩
              · exact .inr ⟨suf_of (by rw [HN.out]; exact hma) (by rw [HN.out]; exact hmb) HQ.out (fun _ h2 => absurd (by rw [HN.out] at h2; exact h2) hltb), .inr (.inl ⟨hlta, hltb⟩)⟩
            · exact .inr ⟨suf_of (by rw [HN.out]; exact hma) (by rw [HN.out]; exact hmb) HQ.out (fun h1 _ => absurd (by rw [HN.out] at h1; exact h1) hlta), .inl hlta⟩
          have hw1 : IntKind.i64.wrap ((k : Int) + (m : Int)) = (k : Int) + (m : Int) := by rw [IntKind.wrap_i64]; omega
          have hw2 : IntKind.i64.wrap ((a.length : Int) - 1) = (a.length : Int) - 1 := by rw [IntKind.wrap_i64]; omega
          have hw3 : IntKind.i64.wrap ((a.length : Int) - 1 - (m : Int)) = (a.length : Int) - 1 - (m : Int) := by rw [IntKind.wrap_i64]; omega
          have hw4 : IntKind.i64.wrap ((b.length : Int) - 1) = (b.length : Int) - 1 := by rw [IntKind.wrap_i64]; omega
          have hw5 : IntKind.i64.wrap ((b.length : Int) - 1 - (m : Int)) = (b.length : Int) - 1 - (m : Int) := by rw [IntKind.wrap_i64]; omega
          have hia : ((a.length : Int) - 1 - (m : Int)).toNat = a.length - 1 - m := by omega
          have hib : ((b.length : Int) - 1 - (m : Int)).toNat = b.length - 1 - m := by omega
          rcases hsplit with ⟨hlta, hltb, ad2, bd2, x2, hA2, hB2, hcx, hcy, hzx, hzy⟩ | ⟨hsn, hex⟩
          · subst hA2; subst hB2
            have HZX := Lib.hid hzx
            have HZY := Lib.hid hzy
            clear hzx hzy
            have heq : (x2 == x2) = true := by simp
            have g1 : (k : Int) + (m : Int) < (a.length : Int) := by omega
            have g2 : (k : Int) + (m : Int) < (b.length : Int) := by omega
            have g3 : 0 ≤ (a.length : Int) - 1 - (m : Int) ∧ (a.length : Int) - 1 - (m : Int) < (a.length : Int) := by omega
            have g4 : 0 ≤ (b.length : Int) - 1 - (m : Int) ∧ (b.length : Int) - 1 - (m : Int) < (b.length : Int) := by omega
            go_wp2
            go_quiet (fail)
            go_wp2
            go_roundw
            case rel => exact ⟨m + 1, _, by omega, by omega, by go_num, fun i hi => by
              by_cases e : i = m
              · subst e; exact ⟨x2, HZX.out, HZY.out⟩
              · exact HQ.out i (by omega), rfl⟩
            case measure => simp [intOf]; omega
          · have HM := Lib.hid hsn
            clear hsn HQ
            have hkey : (decide ((k : Int) + (m : Int) < (a.length : Int)) = false) ∨ ((k : Int) + (m : Int) < (a.length : Int) ∧ decide ((k : Int) + (m : Int) < (b.length : Int)) = false) ∨ ((k : Int) + (m : Int) < (a.length : Int) ∧ (k : Int) + (m : Int) < (b.length : Int) ∧ ∃ ad bd x y, A_ = some ad ∧ B_ = some bd ∧ w2.cell? (ad.add (a.length - 1 - m)) = some (.int .i64 x) ∧ w2.cell? (bd.add (b.length - 1 - m)) = some (.int .i64 y) ∧ (x == y) = false) := by
              rcases hex with h1 | ⟨h1, h2⟩ | ⟨h1, h2, h3⟩
              · exact .inl (decide_eq_false (by omega))
              · exact .inr (.inl ⟨by omega, decide_eq_false (by omega)⟩)
              · exact .inr (.inr ⟨by omega, by omega, h3⟩)
            clear hex
            rcases hkey with g0 | ⟨g1, g0⟩ | ⟨g1, g2, ad2, bd2, x2, y2, hA2, hB2, hcx, hcy, hxy⟩
            all_goals
              try (have g3 : 0 ≤ (a.length : Int) - 1 - (m : Int) ∧ (a.length : Int) - 1 - (m : Int) < (a.length : Int) := by omega)
              try (have g4 : 0 ≤ (b.length : Int) - 1 - (m : Int) ∧ (b.length : Int) - 1 - (m : Int) < (b.length : Int) := by omega)
              try subst hA2
              try subst hB2
              go_wp2
              go_quiet (fail)
              go_wp2_with fail
              try clear hcx hcy hxy
              try clear g0
              try clear g1
              try clear g2
              try clear g3
              try clear g4
              have hnew := Bld.new w.heap.size 63 (w2.drewN (n2 + nq)) d2.size
              have bW := (d2.trans ((drewN_below w2 (n2 + nq)).mono d2.size)).trans ((alloc_below (w2.drewN (n2 + nq)) (.cells #[.slice none 0 0, .slice none 0 0, .int .i64 0] 63)).mono d2.size)
              refine (specKeepB _ w.heap.size w2.heap.size [] (k : Int) _ hnew (by omega) (by omega) (by simp)).mono ?_
              rintro e w4 ⟨rfl, O4, B4, b4, g4⟩
              have d4 := bW.trans b4
              have B4 := Lib.hid B4
              clear g4 hnew bW hw1 hw2 hw3 hw4 hw5 hia hib
              have rb4 := hq.past d4
              first | (generalize hBB : (some bd2 : Option Addr) = B_ at *) | skip
              cases hB : B_ with
              | none =>
                have hb0 : b.length = 0 := by
                  rcases Nat.eq_zero_or_pos b.length with h | h
                  · exact h
                  · obtain ⟨_, hn, _⟩ := rb4 h
                    rw [hB] at hn
                    cases hn
                obtain rfl : k = 0 := by omega
                obtain rfl : m = 0 := by omega
                have HZ0 : (b.drop 0).take (b.length - 0 - 0) = [] := by rw [hb0]; rfl
                have HZ0 := Lib.hid HZ0
                subst hB
                go_wp2_with fail
                refine (specPutB O4 w.heap.size w2.heap.size _ none _ _ [] _ B4.out Row.nil (by simp <;> omega) (by first | (rw [piece_len (by omega)]; omega) | simp) (by simp)).mono ?_
                rintro e w5 ⟨rfl, O5, B5, b5, g5⟩
                have d5 := d4.trans b5
                have B5 := Lib.hid B5
                clear g5
                go_wp2_with fail
                refine (specDropB O5 w.heap.size w2.heap.size _ _ _ B5.out (by omega) (by omega) (by simp)).mono ?_
                rintro e w6 ⟨rfl, O6, B6, b6, g6⟩
                have d6 := d5.trans b6
                have B6 := Lib.hid B6
                clear g6
                go_wp2_with fail
                refine (specKeepB O6 w.heap.size w2.heap.size _ _ _ B6.out (by omega) (by omega) (by simp)).mono ?_
                rintro e w7 ⟨rfl, O7, B7, b7, g7⟩
                have d7 := d6.trans b7
                have B7 := Lib.hid B7
                clear g7
                go_wp2_with fail
                refine (specDoneB O7 w.heap.size w2.heap.size _ _ B7.out).mono ?_
                rintro e w8 ⟨v8, b8, rfl, o8, _, bl8, _⟩
                obtain ⟨A8, c8, rfl⟩ := sliceP o8.read
                have H8 := Lib.hid o8
                clear o8
                go_wp2
                go_ret2
                exact ⟨_, rfl, own_of_list H8.out (by
                  unfold betweenL
                  rw [HN.out, HM.out, HZ0.out]
                  simp
                  try omega), d7.trans bl8⟩
              | some bd3 =>
                subst hB
                by_cases hkd : k = d
                · have hmz : b.length - m - k = 0 := by omega
                  have HZ0 : (b.drop k).take (b.length - m - k) = [] := by rw [hmz]; rfl
                  have HZ0 := Lib.hid HZ0
                  subst hkd
                  go_wp2_with fail
                  refine (specPutB O4 w.heap.size w2.heap.size _ (some bd3) _ _ [] _ B4.out Row.nil (by simp <;> omega) (by first | (rw [piece_len (by omega)]; omega) | simp) (by simp)).mono ?_
                  rintro e w5 ⟨rfl, O5, B5, b5, g5⟩
                  have d5 := d4.trans b5
                  have B5 := Lib.hid B5
                  clear g5
                  go_wp2_with fail
                  refine (specDropB O5 w.heap.size w2.heap.size _ _ _ B5.out (by omega) (by omega) (by simp)).mono ?_
                  rintro e w6 ⟨rfl, O6, B6, b6, g6⟩
                  have d6 := d5.trans b6
                  have B6 := Lib.hid B6
                  clear g6
                  go_wp2_with fail
                  refine (specKeepB O6 w.heap.size w2.heap.size _ _ _ B6.out (by omega) (by omega) (by simp)).mono ?_
                  rintro e w7 ⟨rfl, O7, B7, b7, g7⟩
                  have d7 := d6.trans b7
                  have B7 := Lib.hid B7
                  clear g7
                  go_wp2_with fail
                  refine (specDoneB O7 w.heap.size w2.heap.size _ _ B7.out).mono ?_
                  rintro e w8 ⟨v8, b8, rfl, o8, _, bl8, _⟩
                  obtain ⟨A8, c8, rfl⟩ := sliceP o8.read
                  have H8 := Lib.hid o8
                  clear o8
                  go_wp2
                  go_ret2
                  exact ⟨_, rfl, own_of_list H8.out (by
                    unfold betweenL
                    rw [HN.out, HM.out, HZ0.out]
                    simp
                    try omega), d7.trans bl8⟩
                · have hpc := Lib.hid (rb4.piece k (b.length - m - k) (by omega))
                  go_wp2_with fail
                  refine (specPutB O4 w.heap.size w2.heap.size _ (some (bd3.add k)) _ _ ((b.drop k).take (b.length - m - k)) _ B4.out hpc.out (by rw [piece_len (by omega)] <;> omega) (by first | (rw [piece_len (by omega)]; omega) | simp) (by simp)).mono ?_
                  rintro e w5 ⟨rfl, O5, B5, b5, g5⟩
                  have d5 := d4.trans b5
                  have B5 := Lib.hid B5
                  clear g5
                  go_wp2_with fail
                  refine (specDropB O5 w.heap.size w2.heap.size _ _ _ B5.out (by omega) (by omega) (by simp)).mono ?_
                  rintro e w6 ⟨rfl, O6, B6, b6, g6⟩
                  have d6 := d5.trans b6
                  have B6 := Lib.hid B6
                  clear g6
                  go_wp2_with fail
                  refine (specKeepB O6 w.heap.size w2.heap.size _ _ _ B6.out (by omega) (by omega) (by simp)).mono ?_
                  rintro e w7 ⟨rfl, O7, B7, b7, g7⟩
                  have d7 := d6.trans b7
                  have B7 := Lib.hid B7
                  clear g7
                  go_wp2_with fail
                  refine (specDoneB O7 w.heap.size w2.heap.size _ _ B7.out).mono ?_
                  rintro e w8 ⟨v8, b8, rfl, o8, _, bl8, _⟩
                  obtain ⟨A8, c8, rfl⟩ := sliceP o8.read
                  have H8 := Lib.hid o8
                  clear o8
                  go_wp2
                  go_ret2
                  exact ⟨_, rfl, own_of_list H8.out (by
                    unfold betweenL
                    rw [HN.out, HM.out]
                    simp
                    try omega), d7.trans bl8⟩
end Go.Proofs.Ytemhhjagdfkmfaa.low
