
/-
  The program's side: contracts of impl.commonPrefix, impl.commonSuffix and impl.Between.
-/
import Derived.Test.YtemhhjagdfkmfaaSpecBetween
import Derived.Test.YtemhhjagdfkmfaaImplInvert
namespace Go.Proofs.Ytemhhjagdfkmfaa.low
open Go.RowKit
set_option linter.unusedVariables false

/-- it tells a number, and only reads -/
def NumD (k : Int) (w : World) (e : Ending) (w' : World) : Prop := e = .returned (.int .i64 k) ∧ ∃ n, w' = w.drewN n

set_option maxHeartbeats 3200000 in
theorem implPre (A B : Option Addr) (c d na nb : Nat) (a b : List Int) (w : World) (ra : Row (Value.int .i64) w w.heap.size A a) (rb : Row (Value.int .i64) w w.heap.size B b) (ha : a.length = na) (hb : b.length = nb) (la : a.length ≤ 1048576) (lb : b.length ≤ 1048576) :
    Calls Try.prog 53 #[.slice A na c, .slice B nb d] w (NumD (cpl a b : Int) w) := by
  subst ha
  subst hb
  go_enter Try.func53, Try.ntmps53
  go_wp2
  go_loopw [5] (fun i wr => ∃ k n : Nat, k ≤ a.length ∧ k ≤ b.length ∧ i = .int .i64 k ∧ (∀ i, i < k → ∃ x, a[i]? = some x ∧ b[i]? = some x) ∧ wr = w.drewN n) (fun i _ => a.length - (intOf i).toNat)
  case atStart => exact ⟨0, 0, Nat.zero_le _, Nat.zero_le _, rfl, fun i hi => absurd hi (by omega), rfl⟩
  case round =>
    obtain ⟨k, n, hka, hkb, rfl, hpre, rfl⟩ := hrel
    have HP := Lib.hid hpre
    clear hpre
    have hsplit : (k < a.length ∧ k < b.length ∧ ∃ ad bd x, A = some ad ∧ B = some bd ∧ w.cell? (ad.add k) = some (.int .i64 x) ∧ w.cell? (bd.add k) = some (.int .i64 x) ∧ a[k]? = some x ∧ b[k]? = some x) ∨
        (cpl a b = k ∧ (¬ k < a.length ∨ (k < a.length ∧ ¬ k < b.length) ∨ (k < a.length ∧ k < b.length ∧ ∃ ad bd x y, A = some ad ∧ B = some bd ∧ w.cell? (ad.add k) = some (.int .i64 x) ∧ w.cell? (bd.add k) = some (.int .i64 y) ∧ (x == y) = false))) := by
      by_cases hlta : k < a.length
      · by_cases hltb : k < b.length
        · obtain ⟨ad, x, e1, _, hzx, hcx⟩ := ra.at_ hlta
          obtain ⟨bd, y, e2, _, hzy, hcy⟩ := rb.at_ hltb
          by_cases he : x = y
          · subst he
            exact .inl ⟨hlta, hltb, ad, bd, x, e1, e2, hcx, hcy, hzx, hzy⟩
          · exact .inr ⟨cpl_of k a b HP.out (fun x' y' hx hy => by rw [hzx] at hx; rw [hzy] at hy; injection hx with hx; injection hy with hy; rw [← hx, ← hy]; exact he), .inr (.inr ⟨hlta, hltb, ad, bd, x, y, e1, e2, hcx, hcy, by simp [he]⟩)⟩
        · exact .inr ⟨cpl_of k a b HP.out (fun x y _ hy => absurd (idx_lt hy) hltb), .inr (.inl ⟨hlta, hltb⟩)⟩
      · exact .inr ⟨cpl_of k a b HP.out (fun x y hx _ => absurd (idx_lt hx) hlta), .inl hlta⟩
    rcases hsplit with ⟨hlta, hltb, ad, bd, x, rfl, rfl, hcx, hcy, hzx, hzy⟩ | ⟨hpn, hex⟩
    · have HZX := Lib.hid hzx
      have HZY := Lib.hid hzy
      clear hzx hzy
      have heq : (x == x) = true := by simp
      go_wp2
      go_quiet (fail)
      go_wp2
      go_roundw
      case rel => exact ⟨k + 1, _, by omega, by omega, by go_num, fun i hi => by
        by_cases e : i = k
        · subst e; exact ⟨x, HZX.out, HZY.out⟩
        · exact HP.out i (by omega), rfl⟩
      case measure => simp [intOf]; omega
    · have HN := Lib.hid hpn
      clear hpn HP
      rcases hex with hlta | ⟨hlta, hltb⟩ | ⟨hlta, hltb, ad, bd, x, y, rfl, rfl, hcx, hcy, hxy⟩
      all_goals
        go_wp2
        go_quiet (fail)
        go_wp2
        go_ret
        exact ⟨by rw [HN.out]; rfl, _, World.drewN_drewN _ _ _⟩

theorem rev_k {l : List Int} {k : Nat} (h : k < l.length) : l.reverse[k]? = l[l.length - 1 - k]? := List.getElem?_reverse h

set_option maxHeartbeats 3200000 in
theorem implSuf (A B : Option Addr) (c d na nb : Nat) (a b : List Int) (w : World) (ra : Row (Value.int .i64) w w.heap.size A a) (rb : Row (Value.int .i64) w w.heap.size B b) (ha : a.length = na) (hb : b.length = nb) (la : a.length ≤ 1048576) (lb : b.length ≤ 1048576) :
    Calls Try.prog 54 #[.slice A na c, .slice B nb d] w (NumD (cpl a.reverse b.reverse : Int) w) := by
  subst ha
  subst hb
  go_enter Try.func54, Try.ntmps54
  go_wp2
  go_loopw [5] (fun i wr => ∃ k n : Nat, k ≤ a.length ∧ k ≤ b.length ∧ i = .int .i64 k ∧ (∀ i, i < k → ∃ x, a.reverse[i]? = some x ∧ b.reverse[i]? = some x) ∧ wr = w.drewN n) (fun i _ => a.length - (intOf i).toNat)
  case atStart => exact ⟨0, 0, Nat.zero_le _, Nat.zero_le _, rfl, fun i hi => absurd hi (by omega), rfl⟩
  case round =>
    obtain ⟨k, n, hka, hkb, rfl, hpre, rfl⟩ := hrel
    have HP := Lib.hid hpre
    clear hpre
    have hsplit : (k < a.length ∧ k < b.length ∧ ∃ ad bd x, A = some ad ∧ B = some bd ∧ w.cell? (ad.add (a.length - 1 - k)) = some (.int .i64 x) ∧ w.cell? (bd.add (b.length - 1 - k)) = some (.int .i64 x) ∧ a.reverse[k]? = some x ∧ b.reverse[k]? = some x) ∨
        (cpl a.reverse b.reverse = k ∧ (¬ k < a.length ∨ (k < a.length ∧ ¬ k < b.length) ∨ (k < a.length ∧ k < b.length ∧ ∃ ad bd x y, A = some ad ∧ B = some bd ∧ w.cell? (ad.add (a.length - 1 - k)) = some (.int .i64 x) ∧ w.cell? (bd.add (b.length - 1 - k)) = some (.int .i64 y) ∧ (x == y) = false))) := by
      by_cases hlta : k < a.length
      · by_cases hltb : k < b.length
        · obtain ⟨ad, x, e1, _, hzx, hcx⟩ := ra.at_ (k := a.length - 1 - k) (by omega)
          obtain ⟨bd, y, e2, _, hzy, hcy⟩ := rb.at_ (k := b.length - 1 - k) (by omega)
          rw [← rev_k hlta] at hzx
          rw [← rev_k hltb] at hzy
          by_cases he : x = y
          · subst he
            exact .inl ⟨hlta, hltb, ad, bd, x, e1, e2, hcx, hcy, hzx, hzy⟩
          · exact .inr ⟨cpl_of k _ _ HP.out (fun x' y' hx hy => by rw [hzx] at hx; rw [hzy] at hy; injection hx with hx; injection hy with hy; rw [← hx, ← hy]; exact he), .inr (.inr ⟨hlta, hltb, ad, bd, x, y, e1, e2, hcx, hcy, by simp [he]⟩)⟩
        · exact .inr ⟨cpl_of k _ _ HP.out (fun x y _ hy => absurd (idx_lt hy) (by rw [List.length_reverse]; exact hltb)), .inr (.inl ⟨hlta, hltb⟩)⟩
      · exact .inr ⟨cpl_of k _ _ HP.out (fun x y hx _ => absurd (idx_lt hx) (by rw [List.length_reverse]; exact hlta)), .inl hlta⟩
    have hw2 : IntKind.i64.wrap ((a.length : Int) - 1) = (a.length : Int) - 1 := by rw [IntKind.wrap_i64]; omega
    have hw3 : IntKind.i64.wrap ((a.length : Int) - 1 - (k : Int)) = (a.length : Int) - 1 - (k : Int) := by rw [IntKind.wrap_i64]; omega
    have hw4 : IntKind.i64.wrap ((b.length : Int) - 1) = (b.length : Int) - 1 := by rw [IntKind.wrap_i64]; omega
    have hw5 : IntKind.i64.wrap ((b.length : Int) - 1 - (k : Int)) = (b.length : Int) - 1 - (k : Int) := by rw [IntKind.wrap_i64]; omega
    have hia : ((a.length : Int) - 1 - (k : Int)).toNat = a.length - 1 - k := by omega
    have hib : ((b.length : Int) - 1 - (k : Int)).toNat = b.length - 1 - k := by omega
    rcases hsplit with ⟨hlta, hltb, ad, bd, x, rfl, rfl, hcx, hcy, hzx, hzy⟩ | ⟨hpn, hex⟩
    · have HZX := Lib.hid hzx
      have HZY := Lib.hid hzy
      clear hzx hzy
      have heq : (x == x) = true := by simp
      have g3 : 0 ≤ (a.length : Int) - 1 - (k : Int) ∧ (a.length : Int) - 1 - (k : Int) < (a.length : Int) := by omega
      have g4 : 0 ≤ (b.length : Int) - 1 - (k : Int) ∧ (b.length : Int) - 1 - (k : Int) < (b.length : Int) := by omega
      go_wp2
      go_quiet (fail)
      go_wp2
      go_roundw
      case rel => exact ⟨k + 1, _, by omega, by omega, by go_num, fun i hi => by
        by_cases e : i = k
        · subst e; exact ⟨x, HZX.out, HZY.out⟩
        · exact HP.out i (by omega), rfl⟩
      case measure => simp [intOf]; omega
    · have HN := Lib.hid hpn
      clear hpn HP
      rcases hex with hlta | ⟨hlta, hltb⟩ | ⟨hlta, hltb, ad, bd, x, y, rfl, rfl, hcx, hcy, hxy⟩
      all_goals
        try (have g3 : 0 ≤ (a.length : Int) - 1 - (k : Int) ∧ (a.length : Int) - 1 - (k : Int) < (a.length : Int) := by omega)
        try (have g4 : 0 ≤ (b.length : Int) - 1 - (k : Int) ∧ (b.length : Int) - 1 - (k : Int) < (b.length : Int) := by omega)
        go_wp2
        go_quiet (fail)
        go_wp2
        go_ret
        exact ⟨by rw [HN.out]; rfl, _, World.drewN_drewN _ _ _⟩
/-- what is left of a slice behind its first k -/
theorem Row.rest {w : World} {B c k : Nat} {ad : Addr} {zs : List Int} (h : Row (Value.int .i64) w B (some ad) zs) (hc : zs.length ≤ c) : Row (Value.int .i64) w B (if c = k then some ad else some (ad.add k)) (zs.drop k) := by
  by_cases e : c = k
  · rw [List.drop_eq_nil_of_le (by omega)]
    exact Row.nil
  · rw [if_neg e]
    exact h.tail k
theorem Row.rest_nil {w : World} {B k : Nat} {A : Option Addr} {zs : List Int} (h : zs.length ≤ k) : Row (Value.int .i64) w B A (zs.drop k) := by
  rw [List.drop_eq_nil_of_le h]
  exact Row.nil
theorem Row.none_nil {w : World} {B : Nat} {zs : List Int} (h : Row (Value.int .i64) w B none zs) : zs = [] := by
  rcases Nat.eq_zero_or_pos zs.length with h1 | h1
  · exact List.eq_nil_of_length_eq_zero h1
  · obtain ⟨_, hn, _⟩ := h h1
    cases hn

set_option maxRecDepth 100000 in
set_option maxHeartbeats 6400000 in
theorem implBetween_d (v v' : Value) (a b : List Int) (w : World) (h : RdC w w.heap.size (encInts a) v) (h' : RdC w w.heap.size (encInts b) v') (hs : SmI a) (hs' : SmI b) : Calls Try.prog 25 #[v, v'] w (ResB (encPs (betweenT a b)) (okText a && okText b) w) := by
  obtain ⟨A, c, rfl, hr, hac⟩ := ints_rd h
  obtain ⟨B, d, rfl, hq, hbd⟩ := ints_rd h'
  cases ha : okText a
  · have e1 : betweenT a b = [] := by simp [betweenT, ha]
    rw [e1]
    go_enter Try.func25, Try.ntmps25
    go_wp2_with fail
    refine (implTextOk_d _ a _ h hs).mono ?_
    rintro e w1 ⟨rfl, b1⟩
    rw [ha]
    go_wp2
    go_ret2
    exact ⟨_, rfl, nilOwn _ _ rfl b1.size, b1⟩
  cases hb : okText b
  · have e1 : betweenT a b = [] := by simp [betweenT, hb]
    rw [e1]
    go_enter Try.func25, Try.ntmps25
    go_wp2_with fail
    refine (implTextOk_d _ a _ h hs).mono ?_
    rintro e w1 ⟨rfl, b1⟩
    rw [ha]
    go_wp2_with fail
    refine (implTextOk_d _ b _ (h'.past b1) hs').mono ?_
    rintro e w2 ⟨rfl, b2⟩
    rw [hb]
    have d2 := b1.trans (b2.mono b1.size)
    go_wp2
    go_ret2
    exact ⟨_, rfl, nilOwn _ _ rfl d2.size, d2⟩
  have e1 : betweenT a b = doneN (foldN (betweenL a b)) := by simp [betweenT, ha, hb]
  rw [e1]
  have la := okText_len ha
  have lb := okText_len hb
  have hsuf := suf_le a b
  have hprel := cpl_le a b
  have HK := Lib.hid (show cpl a b = preN a b from rfl)
  have HM := Lib.hid (show cpl (a.drop (preN a b)).reverse (b.drop (preN a b)).reverse = sufN a b from rfl)
  have HB := Lib.hid (show betweenL a b = [⟨1, (preN a b : Int), []⟩, ⟨2, 0, (b.drop (preN a b)).take (b.length - sufN a b - preN a b)⟩, ⟨3, ((a.length - sufN a b - preN a b : Nat) : Int), []⟩, ⟨1, (sufN a b : Int), []⟩] from rfl)
  rw [HK.out] at hprel
  go_enter Try.func25, Try.ntmps25
  go_wp2_with fail
  refine (implTextOk_d _ a _ h hs).mono ?_
  rintro e w1 ⟨rfl, b1⟩
  rw [ha]
  go_wp2_with fail
  refine (implTextOk_d _ b _ (h'.past b1) hs').mono ?_
  rintro e w2 ⟨rfl, b2⟩
  rw [hb]
  clear ha hb e1
  have d2 := b1.trans (b2.mono b1.size)
  have ra := hr.past d2
  have rb := hq.past d2
  go_wp2_with fail
  refine (implPre A B c d _ _ a b w2 ra rb rfl rfl (by omega) (by omega)).mono ?_
  rintro e w3 ⟨rfl, n3, rfl⟩
  rw [HK.out]
  generalize preN a b = k at *
  generalize sufN a b = m at *
  obtain ⟨hs1, hs2⟩ := hsuf
  obtain ⟨hp1, hp2⟩ := hprel
  have d3 := d2.trans ((drewN_below w2 n3).mono d2.size)
  have hkm : m ≤ a.length - k ∧ m ≤ b.length - k := by omega
  obtain ⟨hkm1, hkm2⟩ := hkm
  clear b1 b2 ra rb
  have hL : ∀ L : List Pt, L = [⟨1, (k : Int), []⟩, ⟨2, 0, (b.drop k).take (b.length - k - m)⟩, ⟨3, ((a.length - k : Nat) : Int) - (m : Int), []⟩, ⟨1, (m : Int), []⟩] → L = betweenL a b := fun L e => by
    rw [e, HB.out]
    rw [show b.length - m - k = b.length - k - m by omega, show ((a.length - m - k : Nat) : Int) = ((a.length - k : Nat) : Int) - (m : Int) by omega]
  have HLL := Lib.hid hL
  clear hL
  rcases A with _ | ad
  · obtain rfl := hr.none_nil
    obtain rfl : k = 0 := by simpa using hp1
    obtain rfl : m = 0 := by simpa using hkm1
    rcases B with _ | bd
    · obtain rfl := hq.none_nil
      go_wp2
      go_quiet (fail)
      go_wp2_with fail
      all_goals
        refine (implSuf _ _ _ _ _ _ (List.drop 0 ([] : List Int)) (List.drop 0 ([] : List Int)) _ (by first | exact ((hr.past d2).tail _).drewN _ | exact Row.rest_nil (by first | omega | simp)) (by first | exact ((hq.past d2).tail _).drewN _ | exact Row.rest_nil (by first | omega | simp)) (by simp) (by simp) (by simp <;> omega) (by simp <;> omega)).mono ?_
        rintro e w5 ⟨rfl, n4, hw5⟩
        rw [HM.out]
        have d5 : Below w.heap.size w w5 := by
          rw [hw5]
          exact (d2.trans ((drewN_below w2 _).mono d2.size)).trans ((drewN_below _ n4).mono d2.size)
        clear hw5
        go_wp2_with fail
        have hnew := Bld.new w.heap.size 70 w5 d5.size
        have bW := d5.trans ((alloc_below w5 (.cells #[.slice none 0 0, .slice none 0 0, .int .i64 0] 70)).mono d5.size)
        refine (implKeepB _ w.heap.size w5.heap.size [] _ _ hnew (by omega) (by omega) (by simp)).mono ?_
        rintro e w6 ⟨rfl, O6, B6, b6, g6⟩
        have d6 := bW.trans b6
        replace B6 := Lib.hid B6
        clear g6 hnew bW
        go_wp2_with fail
        refine (implPutB O6 w.heap.size w5.heap.size _ _ _ _ ((List.drop 0 ([] : List Int)).take (List.length ([] : List Int) - 0 - 0)) _ B6.out (by first | exact Row.init ((hq.past d6).tail _) _ | exact Row.init (Row.rest_nil (by first | omega | simp)) _) (by simp <;> omega) (by simp <;> omega) (by simp)).mono ?_
        rintro e w7 ⟨rfl, O7, B7, b7, g7⟩
        have d7 := d6.trans b7
        replace B7 := Lib.hid B7
        clear g7
        go_wp2_with fail
        refine (implDropB O7 w.heap.size w5.heap.size _ _ _ B7.out (by omega) (by omega) (by simp)).mono ?_
        rintro e w8 ⟨rfl, O8, B8, b8, g8⟩
        have d8 := d7.trans b8
        replace B8 := Lib.hid B8
        clear g8
        go_wp2_with fail
        refine (implKeepB O8 w.heap.size w5.heap.size _ _ _ B8.out (by omega) (by omega) (by simp)).mono ?_
        rintro e w9 ⟨rfl, O9, B9, b9, g9⟩
        have d9 := d8.trans b9
        replace B9 := Lib.hid B9
        clear g9
        go_wp2_with fail
        refine (implDoneB O9 w.heap.size w5.heap.size _ _ B9.out).mono ?_
        rintro e w10 ⟨v10, b10, rfl, o10, _, bl10, _⟩
        replace o10 := own_of_list o10 (HLL.out _ (by simp <;> omega))
        generalize doneN (foldN (betweenL _ _)) = R at *
        obtain ⟨A10, c10, rfl⟩ := sliceP o10.read
        have H10 := Lib.hid o10
        clear o10
        go_wp2
        go_ret2
        exact ⟨_, rfl, H10.out, d9.trans bl10⟩
    · skip
      go_wp2
      go_quiet (fail)
      go_wp2_with fail
      all_goals
        refine (implSuf _ _ _ _ _ _ (List.drop 0 ([] : List Int)) (List.drop 0 b) _ (by first | exact ((hr.past d2).tail _).drewN _ | exact Row.rest_nil (by first | omega | simp)) (by first | exact ((hq.past d2).tail _).drewN _ | exact Row.rest_nil (by first | omega | simp)) (by simp) (by simp) (by simp <;> omega) (by simp <;> omega)).mono ?_
        rintro e w5 ⟨rfl, n4, hw5⟩
        rw [HM.out]
        have d5 : Below w.heap.size w w5 := by
          rw [hw5]
          exact (d2.trans ((drewN_below w2 _).mono d2.size)).trans ((drewN_below _ n4).mono d2.size)
        clear hw5
        go_wp2_with fail
        have hnew := Bld.new w.heap.size 70 w5 d5.size
        have bW := d5.trans ((alloc_below w5 (.cells #[.slice none 0 0, .slice none 0 0, .int .i64 0] 70)).mono d5.size)
        refine (implKeepB _ w.heap.size w5.heap.size [] _ _ hnew (by omega) (by omega) (by simp)).mono ?_
        rintro e w6 ⟨rfl, O6, B6, b6, g6⟩
        have d6 := bW.trans b6
        replace B6 := Lib.hid B6
        clear g6 hnew bW
        go_wp2_with fail
        refine (implPutB O6 w.heap.size w5.heap.size _ _ _ _ ((List.drop 0 b).take (List.length b - 0 - 0)) _ B6.out (by first | exact Row.init ((hq.past d6).tail _) _ | exact Row.init (Row.rest_nil (by first | omega | simp)) _) (by simp <;> omega) (by simp <;> omega) (by simp)).mono ?_
        rintro e w7 ⟨rfl, O7, B7, b7, g7⟩
        have d7 := d6.trans b7
        replace B7 := Lib.hid B7
        clear g7
        go_wp2_with fail
        refine (implDropB O7 w.heap.size w5.heap.size _ _ _ B7.out (by omega) (by omega) (by simp)).mono ?_
        rintro e w8 ⟨rfl, O8, B8, b8, g8⟩
        have d8 := d7.trans b8
        replace B8 := Lib.hid B8
        clear g8
        go_wp2_with fail
        refine (implKeepB O8 w.heap.size w5.heap.size _ _ _ B8.out (by omega) (by omega) (by simp)).mono ?_
        rintro e w9 ⟨rfl, O9, B9, b9, g9⟩
        have d9 := d8.trans b9
        replace B9 := Lib.hid B9
        clear g9
        go_wp2_with fail
        refine (implDoneB O9 w.heap.size w5.heap.size _ _ B9.out).mono ?_
        rintro e w10 ⟨v10, b10, rfl, o10, _, bl10, _⟩
        replace o10 := own_of_list o10 (HLL.out _ (by simp <;> omega))
        generalize doneN (foldN (betweenL _ _)) = R at *
        obtain ⟨A10, c10, rfl⟩ := sliceP o10.read
        have H10 := Lib.hid o10
        clear o10
        go_wp2
        go_ret2
        exact ⟨_, rfl, H10.out, d9.trans bl10⟩
  · rcases B with _ | bd
    · obtain rfl := hq.none_nil
      obtain rfl : k = 0 := by simpa using hp2
      obtain rfl : m = 0 := by simpa using hkm2
      go_wp2
      go_quiet (fail)
      go_wp2_with fail
      all_goals
        refine (implSuf _ _ _ _ _ _ (List.drop 0 a) (List.drop 0 ([] : List Int)) _ (by first | exact ((hr.past d2).tail _).drewN _ | exact Row.rest_nil (by first | omega | simp)) (by first | exact ((hq.past d2).tail _).drewN _ | exact Row.rest_nil (by first | omega | simp)) (by simp) (by simp) (by simp <;> omega) (by simp <;> omega)).mono ?_
        rintro e w5 ⟨rfl, n4, hw5⟩
        rw [HM.out]
        have d5 : Below w.heap.size w w5 := by
          rw [hw5]
          exact (d2.trans ((drewN_below w2 _).mono d2.size)).trans ((drewN_below _ n4).mono d2.size)
        clear hw5
        go_wp2_with fail
        have hnew := Bld.new w.heap.size 70 w5 d5.size
        have bW := d5.trans ((alloc_below w5 (.cells #[.slice none 0 0, .slice none 0 0, .int .i64 0] 70)).mono d5.size)
        refine (implKeepB _ w.heap.size w5.heap.size [] _ _ hnew (by omega) (by omega) (by simp)).mono ?_
        rintro e w6 ⟨rfl, O6, B6, b6, g6⟩
        have d6 := bW.trans b6
        replace B6 := Lib.hid B6
        clear g6 hnew bW
        go_wp2_with fail
        refine (implPutB O6 w.heap.size w5.heap.size _ _ _ _ ((List.drop 0 ([] : List Int)).take (List.length ([] : List Int) - 0 - 0)) _ B6.out (by first | exact Row.init ((hq.past d6).tail _) _ | exact Row.init (Row.rest_nil (by first | omega | simp)) _) (by simp <;> omega) (by simp <;> omega) (by simp)).mono ?_
        rintro e w7 ⟨rfl, O7, B7, b7, g7⟩
        have d7 := d6.trans b7
        replace B7 := Lib.hid B7
        clear g7
        go_wp2_with fail
        refine (implDropB O7 w.heap.size w5.heap.size _ _ _ B7.out (by omega) (by omega) (by simp)).mono ?_
        rintro e w8 ⟨rfl, O8, B8, b8, g8⟩
        have d8 := d7.trans b8
        replace B8 := Lib.hid B8
        clear g8
        go_wp2_with fail
        refine (implKeepB O8 w.heap.size w5.heap.size _ _ _ B8.out (by omega) (by omega) (by simp)).mono ?_
        rintro e w9 ⟨rfl, O9, B9, b9, g9⟩
        have d9 := d8.trans b9
        replace B9 := Lib.hid B9
        clear g9
        go_wp2_with fail
        refine (implDoneB O9 w.heap.size w5.heap.size _ _ B9.out).mono ?_
        rintro e w10 ⟨v10, b10, rfl, o10, _, bl10, _⟩
        replace o10 := own_of_list o10 (HLL.out _ (by simp <;> omega))
        generalize doneN (foldN (betweenL _ _)) = R at *
        obtain ⟨A10, c10, rfl⟩ := sliceP o10.read
        have H10 := Lib.hid o10
        clear o10
        go_wp2
        go_ret2
        exact ⟨_, rfl, H10.out, d9.trans bl10⟩
    · skip
      go_wp2
      go_quiet (fail)
      go_wp2_with fail
      all_goals
        refine (implSuf _ _ _ _ _ _ (List.drop k a) (List.drop k b) _ (by first | exact ((hr.past d2).tail _).drewN _ | exact Row.rest_nil (by first | omega | simp)) (by first | exact ((hq.past d2).tail _).drewN _ | exact Row.rest_nil (by first | omega | simp)) (by simp) (by simp) (by simp <;> omega) (by simp <;> omega)).mono ?_
        rintro e w5 ⟨rfl, n4, hw5⟩
        rw [HM.out]
        have d5 : Below w.heap.size w w5 := by
          rw [hw5]
          exact (d2.trans ((drewN_below w2 _).mono d2.size)).trans ((drewN_below _ n4).mono d2.size)
        clear hw5
        go_wp2_with fail
        have hnew := Bld.new w.heap.size 70 w5 d5.size
        have bW := d5.trans ((alloc_below w5 (.cells #[.slice none 0 0, .slice none 0 0, .int .i64 0] 70)).mono d5.size)
        refine (implKeepB _ w.heap.size w5.heap.size [] _ _ hnew (by omega) (by omega) (by simp)).mono ?_
        rintro e w6 ⟨rfl, O6, B6, b6, g6⟩
        have d6 := bW.trans b6
        replace B6 := Lib.hid B6
        clear g6 hnew bW
        go_wp2_with fail
        refine (implPutB O6 w.heap.size w5.heap.size _ _ _ _ ((List.drop k b).take (List.length b - k - m)) _ B6.out (by first | exact Row.init ((hq.past d6).tail _) _ | exact Row.init (Row.rest_nil (by first | omega | simp)) _) (by simp <;> omega) (by simp <;> omega) (by simp)).mono ?_
        rintro e w7 ⟨rfl, O7, B7, b7, g7⟩
        have d7 := d6.trans b7
        replace B7 := Lib.hid B7
        clear g7
        go_wp2_with fail
        refine (implDropB O7 w.heap.size w5.heap.size _ _ _ B7.out (by omega) (by omega) (by simp)).mono ?_
        rintro e w8 ⟨rfl, O8, B8, b8, g8⟩
        have d8 := d7.trans b8
        replace B8 := Lib.hid B8
        clear g8
        go_wp2_with fail
        refine (implKeepB O8 w.heap.size w5.heap.size _ _ _ B8.out (by omega) (by omega) (by simp)).mono ?_
        rintro e w9 ⟨rfl, O9, B9, b9, g9⟩
        have d9 := d8.trans b9
        replace B9 := Lib.hid B9
        clear g9
        go_wp2_with fail
        refine (implDoneB O9 w.heap.size w5.heap.size _ _ B9.out).mono ?_
        rintro e w10 ⟨v10, b10, rfl, o10, _, bl10, _⟩
        replace o10 := own_of_list o10 (HLL.out _ (by simp <;> omega))
        generalize doneN (foldN (betweenL _ _)) = R at *
        obtain ⟨A10, c10, rfl⟩ := sliceP o10.read
        have H10 := Lib.hid o10
        clear o10
        go_wp2
        go_ret2
        exact ⟨_, rfl, H10.out, d9.trans bl10⟩
end Go.Proofs.Ytemhhjagdfkmfaa.low
