
/-
  The program's side: contracts of impl.TextOk, impl.applies and of the reader's next.
-/
import Derived.Test.YtemhhjagdfkmfaaSpecApply
import Derived.Test.YtemhhjagdfkmfaaImplNorm
namespace Go.Proofs.Ytemhhjagdfkmfaa.low
open Go.RowKit
set_option linter.unusedVariables false

set_option maxHeartbeats 800000 in
theorem implTextOk_d (v : Value) (t : List Int) (w : World) (h : RdC w w.heap.size (encInts t) v) (hs : SmI t) : Calls Try.prog 11 #[v] w (Tells (okText t) w) := by
  obtain ⟨A, c, rfl, hr, _⟩ := ints_rd h
  have hl : t.length ≤ 1048576 := hs
  by_cases h2 : t.length ≤ 200
  · have HS := Lib.hid (show okText t = allB t by unfold okText; rw [decide_eq_true h2, Bool.and_true])
    go_enter Try.func11, Try.ntmps11
    go_wp2_with fail
    refine (implSignsOk_any A c t _ hr (by omega)).mono ?_
    rintro e w1 ⟨rfl, rfl⟩
    generalize allB t = q at *
    go_wp2
    go_ret
    exact ⟨ret_bool (by rw [HS.out]), Below.refl _ _⟩
  · have HS := Lib.hid (show okText t = false by unfold okText; rw [decide_eq_false h2, Bool.and_false])
    go_enter Try.func11, Try.ntmps11
    go_wp2
    go_ret
    exact ⟨ret_bool (by rw [HS.out]), Below.refl _ _⟩

set_option maxHeartbeats 1600000 in
theorem implFits_d (v v' : Value) (ps : List Pt) (t : List Int) (w : World) (h : RdC w w.heap.size (encPs ps) v) (h' : RdC w w.heap.size (encInts t) v') (hs : SmP ps) (hs' : SmI t) : Calls Try.prog 39 #[v, v'] w (Tells (fitsB ps t) w) := by
  obtain ⟨A, c, rfl, hr, _⟩ := parts_rd h
  obtain ⟨A', c', rfl, hr', _⟩ := ints_rd h'
  have hl := hs.1
  cases ho : okOp ps
  · have HS := Lib.hid (show fitsB ps t = false by unfold fitsB; rw [ho]; rfl)
    go_enter Try.func39, Try.ntmps39
    go_wp2_with fail
    refine (implOpOk_any A c ps _ hr (by omega) hs.all4).mono ?_
    rintro e w1 ⟨rfl, b1⟩
    rw [ho]
    go_wp2
    go_ret
    exact ⟨ret_bool (by rw [HS.out]), b1⟩
  · cases ht : okText t
    · have HS := Lib.hid (show fitsB ps t = false by unfold fitsB; rw [ho, ht]; rfl)
      go_enter Try.func39, Try.ntmps39
      go_wp2_with fail
      refine (implOpOk_any A c ps _ hr (by omega) hs.all4).mono ?_
      rintro e w1 ⟨rfl, b1⟩
      rw [ho]
      go_wp2_with fail
      refine (implTextOk_d _ t _ (h'.past b1) hs').mono ?_
      rintro e w2 ⟨rfl, b2⟩
      rw [ht]
      go_wp2
      go_ret
      exact ⟨ret_bool (by rw [HS.out]), b1.trans (b2.mono b1.size)⟩
    · have HS := Lib.hid (show fitsB ps t = (sumK ps + sumD ps == (t.length : Int)) by unfold fitsB; rw [ho, ht, Bool.true_and]; cases hq : (sumK ps + sumD ps == (t.length : Int)) <;> simp_all)
      go_enter Try.func39, Try.ntmps39
      go_wp2_with fail
      refine (implOpOk_any A c ps _ hr (by omega) hs.all4).mono ?_
      rintro e w1 ⟨rfl, b1⟩
      rw [ho]
      go_wp2_with fail
      refine (implTextOk_d _ t _ (h'.past b1) hs').mono ?_
      rintro e w2 ⟨rfl, b2⟩
      rw [ht]
      have d2 := b1.trans (b2.mono b1.size)
      go_wp2_with fail
      refine (implOpFrom_any A c ps _ (hr.past d2) (by omega) hs.all4).mono ?_
      rintro e w3 ⟨rfl, b3⟩
      generalize sumK ps + sumD ps = q at *
      go_wp2
      go_ret
      exact ⟨ret_bool (by rw [HS.out]), d2.trans (b3.mono d2.size)⟩

/-- the reader at block g: zs is left of the text, which lies in blocks below B -/
def Rdr (B g : Nat) (w : World) (zs : List Int) : Prop := ∃ A c, w.heap[g]? = some (.cells #[.slice A zs.length c] 57 (0, 0)) ∧ zs.length ≤ c ∧ Row (Value.int .i64) w B A zs ∧ B ≤ g
theorem Rdr.keep {B g : Nat} {w w' : World} {zs : List Int} (h : Rdr B g w zs) (hg : w'.heap[g]? = w.heap[g]?) (hk : ∀ p : Addr, p.block < B → w'.cell? p = w.cell? p) : Rdr B g w' zs := by
  obtain ⟨A, c, h1, h2, h3, h4⟩ := h
  exact ⟨A, c, hg.trans h1, h2, h3.keep hk, h4⟩
theorem Rdr.lt {B g : Nat} {w : World} {zs : List Int} (h : Rdr B g w zs) : g < w.heap.size := by
  obtain ⟨A, c, h1, _⟩ := h
  exact lt_of_some h1
theorem Rdr.past {B g : Nat} {w w' : World} {zs : List Int} (h : Rdr B g w zs) (hb : Below w.heap.size w w') : Rdr B g w' zs := by
  have hlt := h.lt
  have hB : B ≤ g := by obtain ⟨_, _, _, _, _, h4⟩ := h; exact h4
  exact h.keep (hb.block g hlt) (fun p hp => hb.cell (by omega))
theorem Rdr.touch {B g : Nat} {w w' : World} {zs : List Int} {T : Nat → Prop} (h : Rdr B g w zs) (ht : Touch T w w') (hT : ∀ b, T b → B ≤ b ∧ ¬ b = g) : Rdr B g w' zs :=
  h.keep (ht.block g (fun e => (hT g e).2 rfl)) (fun p hp => ht.cell (fun e => by have := (hT _ e).1; omega))
/-- next gives the first n numbers, and the reader goes on behind them -/
def NextP (B g : Nat) (zs : List Int) (n : Nat) (w : World) (e : Ending) (w' : World) : Prop := ∃ A, e = .returned (.slice A n n) ∧ Row (Value.int .i64) w' B A (zs.take n) ∧ Rdr B g w' (zs.drop n) ∧ Touch (fun b => b = g) w w'

theorem addr_add_add (p : Addr) (i j : Nat) : (p.add i).add j = p.add (i + j) := by
  unfold Addr.add
  by_cases hi : i = 0
  · subst hi; simp
  · by_cases hj : j = 0
    · subst hj; simp [hi]
    · simp [hi, hj, Nat.add_assoc]
theorem Row.init {w : World} {B : Nat} {A : Option Addr} {zs : List Int} (h : Row (Value.int .i64) w B A zs) (n : Nat) : Row (Value.int .i64) w B A (zs.take n) := fun hn => by
  have h0 : 0 < zs.length := by rw [List.length_take] at hn; omega
  obtain ⟨ad, e, hb, hc⟩ := h h0
  refine ⟨ad, e, hb, fun k z hz => ?_⟩
  rw [List.getElem?_take] at hz
  split at hz
  · exact hc k z hz
  · cases hz
theorem Row.tail {w : World} {B : Nat} {ad : Addr} {zs : List Int} (h : Row (Value.int .i64) w B (some ad) zs) (n : Nat) : Row (Value.int .i64) w B (some (ad.add n)) (zs.drop n) := fun hn => by
  have h0 : 0 < zs.length := by rw [List.length_drop] at hn; omega
  obtain ⟨ad', e, hb, hc⟩ := h h0
  injection e with e
  subst e
  refine ⟨_, rfl, by rw [block_of_add]; exact hb, fun k z hz => ?_⟩
  rw [List.getElem?_drop] at hz
  rw [addr_add_add]
  exact hc (n + k) z hz
theorem heap_set0 {w : World} {g : Nat} {T : TypeId} {u v : Value} (h : w.heap[g]? = some (.cells #[u] T (0, 0))) : (w.setCell ⟨g, 0, none⟩ v).heap[g]? = some (.cells #[v] T (0, 0)) := by
  rw [heap_setCell_same _ _ _ _ _ _ h]
  rfl

set_option maxHeartbeats 1600000 in
theorem implNext (B g n : Nat) (zs : List Int) (w : World) (h : Rdr B g w zs) (hn : n ≤ zs.length) (hz : zs.length ≤ 1000000) : Calls Try.prog 41 #[.pointer (some ⟨g, 0, none⟩), .int .i64 n] w (NextP B g zs n w) := by
  obtain ⟨A, c, h1, h2, h3, h4⟩ := h
  have hcell : w.cell? ⟨g, 0, none⟩ = some (.slice A zs.length c) := cell_of_row _ _ 0 _ _ _ h1
  have hfree : w.frozen? ⟨g, 0, none⟩ = false := by simp [World.frozen?, h1]
  have H1 := Lib.hid h1
  clear h1
  cases A with
  | none =>
    have h0 : zs = [] := by
      rcases Nat.eq_zero_or_pos zs.length with h | h
      · exact List.eq_nil_of_length_eq_zero h
      · obtain ⟨_, hn, _⟩ := h3 h
        cases hn
    subst h0
    obtain rfl : n = 0 := by simpa using hn
    go_enter Try.func41, Try.ntmps41
    go_wp2
    all_goals
      go_ret
      refine ⟨none, rfl, Row.nil, ⟨none, _, heap_set0 H1.out, ?_, Row.nil, h4⟩, (Touch.refl (fun b => b = g) _).setCell (p := ⟨g, 0, none⟩) rfl _⟩
      simp
  | some ad =>
    by_cases hc : n = c
    · obtain rfl : n = c := hc
      obtain rfl : n = zs.length := by omega
      go_enter Try.func41, Try.ntmps41
      have hd : zs.drop zs.length = [] := List.drop_length
      have HD := Lib.hid hd
      clear hd
      go_wp2
      go_ret
      refine ⟨some ad, rfl, (h3.init _).keep (fun p hp => ?_), ?_, (Touch.refl (fun b => b = g) _).setCell (p := ⟨g, 0, none⟩) rfl _⟩
      · exact ((Touch.refl (fun b => b = g) _).setCell (p := ⟨g, 0, none⟩) rfl _).cell (fun e => by omega)
      · rw [HD.out]
        exact ⟨some ad, 0, heap_set0 H1.out, Nat.le_refl _, Row.nil, h4⟩
    · go_enter Try.func41, Try.ntmps41
      go_wp2
      go_ret
      have hk : ∀ p : Addr, p.block < B → (w.setCell ⟨g, 0, none⟩ (.slice (some (ad.add n)) (zs.length - n) (c - n))).cell? p = w.cell? p := fun p hp => ((Touch.refl (fun b => b = g) w).setCell (p := ⟨g, 0, none⟩) rfl _).cell (fun e => by omega)
      refine ⟨some ad, rfl, (h3.init _).keep hk, ⟨some (ad.add n), c - n, ?_, by rw [List.length_drop]; omega, (h3.tail n).keep hk, h4⟩, (Touch.refl (fun b => b = g) _).setCell (p := ⟨g, 0, none⟩) rfl _⟩
      rw [List.length_drop]
      exact heap_set0 H1.out
end Go.Proofs.Ytemhhjagdfkmfaa.low
