
/-
  The normal form as a function on lists: its sums are those of the operation, its parts are tidy and stand in order, it is no longer than the operation, and it is its own normal form.
-/
import Derived.Test.YtemhhjagdfkmfaaBld
namespace Go.Proofs.Ytemhhjagdfkmfaa.low
open Go.RowKit
set_option linter.unusedVariables false

theorem sumOf_app {f : Pt → Int} (a b : List Pt) : sumOf f (a ++ b) = sumOf f a + sumOf f b := by unfold sumOf; simp
theorem sumOf_cons {f : Pt → Int} (p : Pt) (a : List Pt) : sumOf f (p :: a) = f p + sumOf f a := by unfold sumOf; simp
theorem sumOf_nil {f : Pt → Int} : sumOf f [] = 0 := rfl
theorem sum_done (s : List Pt × List Int × Int) (h : 0 ≤ s.2.2) : sumOf keepOf (doneN s) = sumOf keepOf s.1 ∧ sumOf putOf (doneN s) = sumOf putOf s.1 + (s.2.1.length : Int) ∧ sumOf dropOf (doneN s) = sumOf dropOf s.1 + s.2.2 := by
  unfold doneN putL dropL
  split <;> split <;> simp [sumOf_app, sumOf_cons, sumOf_nil, keepOf, putOf, dropOf] <;> omega
theorem sum_keepTo (q : List Pt) (n : Int) : sumOf keepOf (keepTo q n) = sumOf keepOf q + n ∧ sumOf putOf (keepTo q n) = sumOf putOf q ∧ sumOf dropOf (keepTo q n) = sumOf dropOf q := by
  rcases q.eq_nil_or_concat with rfl | ⟨r, p, rfl⟩
  · rw [keepTo_nil]
    simp [sumOf_cons, sumOf_nil, keepOf, putOf, dropOf]
  · rw [List.concat_eq_append]
    by_cases hk : p.kind = 1
    · rw [keepTo_t n hk]
      simp [sumOf_app, sumOf_cons, sumOf_nil, keepOf, putOf, dropOf, hk]
      omega
    · rw [keepTo_f n hk]
      simp [sumOf_app, sumOf_cons, sumOf_nil, keepOf, putOf, dropOf]
      omega
theorem sum_step {s : List Pt × List Int × Int} {p : Pt} (h : 0 ≤ s.2.2) (hp : szP_ p) : 0 ≤ (stepN s p).2.2 ∧ sumOf keepOf (doneN (stepN s p)) = sumOf keepOf (doneN s) + keepOf p ∧ sumOf putOf (doneN (stepN s p)) = sumOf putOf (doneN s) + putOf p ∧ sumOf dropOf (doneN (stepN s p)) = sumOf dropOf (doneN s) + dropOf p := by
  obtain ⟨hk, hn0, hn1, hz⟩ := hp
  rcases hk with e | e | e
  · by_cases h0 : p.n = 0
    · have : stepN s p = s := by unfold stepN; rw [if_pos e, if_pos h0]
      rw [this]
      simp [keepOf, putOf, dropOf, e, h0]
      exact h
    · have : stepN s p = (keepTo (doneN s) p.n, [], 0) := by unfold stepN; rw [if_pos e, if_neg h0]; rfl
      rw [this]
      obtain ⟨a1, a2, a3⟩ := sum_keepTo (doneN s) p.n
      obtain ⟨b1, b2, b3⟩ := sum_done (keepTo (doneN s) p.n, [], 0) (by simp)
      rw [b1, b2, b3]
      simp only [a1, a2, a3]
      simp [keepOf, putOf, dropOf, e]
  · have : stepN s p = (s.1, s.2.1 ++ p.signs, s.2.2) := by unfold stepN; rw [if_neg (by omega), if_pos e]
    rw [this]
    obtain ⟨b1, b2, b3⟩ := sum_done (s.1, s.2.1 ++ p.signs, s.2.2) h
    obtain ⟨c1, c2, c3⟩ := sum_done s h
    rw [b1, b2, b3, c1, c2, c3]
    simp [keepOf, putOf, dropOf, e]
    omega
  · have : stepN s p = (s.1, s.2.1, s.2.2 + p.n) := by unfold stepN; rw [if_neg (by omega), if_neg (by omega)]
    rw [this]
    have h' : 0 ≤ s.2.2 + p.n := by omega
    obtain ⟨b1, b2, b3⟩ := sum_done (s.1, s.2.1, s.2.2 + p.n) h'
    obtain ⟨c1, c2, c3⟩ := sum_done s h
    rw [b1, b2, b3, c1, c2, c3]
    simp [keepOf, putOf, dropOf, e]
    omega
theorem sum_fold : ∀ (L : List Pt) (s : List Pt × List Int × Int), 0 ≤ s.2.2 → (∀ p ∈ L, szP_ p) → 0 ≤ (L.foldl stepN s).2.2 ∧ sumOf keepOf (doneN (L.foldl stepN s)) = sumOf keepOf (doneN s) + sumOf keepOf L ∧ sumOf putOf (doneN (L.foldl stepN s)) = sumOf putOf (doneN s) + sumOf putOf L ∧ sumOf dropOf (doneN (L.foldl stepN s)) = sumOf dropOf (doneN s) + sumOf dropOf L
  | [], s, h, _ => by simp [sumOf_nil]; exact h
  | p :: L, s, h, hp => by
    obtain ⟨a0, a1, a2, a3⟩ := sum_step h (hp p (by simp))
    obtain ⟨b0, b1, b2, b3⟩ := sum_fold L (stepN s p) a0 (fun q hq => hp q (by simp [hq]))
    rw [List.foldl_cons, b1, b2, b3, a1, a2, a3, sumOf_cons, sumOf_cons, sumOf_cons]
    exact ⟨b0, by omega, by omega, by omega⟩
/-- the sums of the normal form -/
theorem sum_norm {L : List Pt} (h : ∀ p ∈ L, szP_ p) : sumOf keepOf (doneN (foldN L)) = sumOf keepOf L ∧ sumOf putOf (doneN (foldN L)) = sumOf putOf L ∧ sumOf dropOf (doneN (foldN L)) = sumOf dropOf L := by
  obtain ⟨_, h1, h2, h3⟩ := sum_fold L ([], [], 0) (by simp) h
  have e : doneN ([], [], 0) = [] := by simp [doneN, putL, dropL]
  rw [e] at h1 h2 h3
  simp only [sumOf_nil, Int.zero_add] at h1 h2 h3
  exact ⟨h1, h2, h3⟩

/-- a part with an effect, in its proper form -/
def tidy (p : Pt) : Prop := (p.kind = 1 ∧ 0 < p.n ∧ p.signs = []) ∨ (p.kind = 2 ∧ p.n = 0 ∧ 0 < p.signs.length) ∨ (p.kind = 3 ∧ 0 < p.n ∧ p.signs = [])
/-- which part may follow which -/
def nextOk (p q : Pt) : Prop := (p.kind = 1 → q.kind = 2 ∨ q.kind = 3) ∧ (p.kind = 2 → q.kind = 1 ∨ q.kind = 3) ∧ (p.kind = 3 → q.kind = 1)
/-- the parts stand in order -/
def inOrder : List Pt → Prop
  | [] => True
  | [_] => True
  | p :: q :: r => nextOk p q ∧ inOrder (q :: r)
/-- a normal operation -/
def normal (L : List Pt) : Prop := (∀ p ∈ L, tidy p) ∧ inOrder L
theorem inOrder_app : ∀ (a : List Pt) (p q : Pt) (b : List Pt), inOrder (a ++ [p]) → nextOk p q → inOrder (q :: b) → inOrder (a ++ p :: q :: b)
  | [], p, q, b, _, h2, h3 => ⟨h2, h3⟩
  | [x], p, q, b, h1, h2, h3 => ⟨h1.1, h2, h3⟩
  | x :: y :: a, p, q, b, h1, h2, h3 => ⟨h1.1, inOrder_app (y :: a) p q b h1.2 h2 h3⟩
theorem inOrder_init : ∀ (a b : List Pt), inOrder (a ++ b) → inOrder a
  | [], _, _ => trivial
  | [_], _, _ => trivial
  | x :: y :: a, b, h => ⟨h.1, inOrder_init (y :: a) b h.2⟩
/-- the last part's kind, 0 if there is none -/
def lastK (L : List Pt) : Int := match L.getLast? with | some p => p.kind | none => 0
theorem lastK_app (a : List Pt) (p : Pt) : lastK (a ++ [p]) = p.kind := by simp [lastK]
theorem normal_snoc {L : List Pt} {q : Pt} (h : normal L) (hq : tidy q) (hl : ∀ p, L.getLast? = some p → nextOk p q) : normal (L ++ [q]) := by
  refine ⟨fun p hp => ?_, ?_⟩
  · rcases List.mem_append.1 hp with hp | hp
    · exact h.1 p hp
    · simp at hp; subst hp; exact hq
  · rcases L.eq_nil_or_concat with rfl | ⟨a, p, rfl⟩
    · trivial
    · rw [List.concat_eq_append] at *
      have := inOrder_app a p q [] h.2 (hl p (by simp)) trivial
      simpa using this
/-- a builder's state: what is flushed ends with a retaining part -/
def okS_ (s : List Pt × List Int × Int) : Prop := normal s.1 ∧ (s.1 = [] ∨ lastK s.1 = 1) ∧ 0 ≤ s.2.2
theorem getLast_kind {L : List Pt} {p : Pt} (h : L = [] ∨ lastK L = 1) (hp : L.getLast? = some p) : p.kind = 1 := by
  rcases h with rfl | h
  · simp at hp
  · unfold lastK at h
    rw [hp] at h
    exact h
theorem normal_done {s : List Pt × List Int × Int} (h : okS_ s) : normal (doneN s) := by
  obtain ⟨h1, h2, h3⟩ := h
  unfold doneN putL dropL
  by_cases hp : s.2.1.length = 0
  · rw [if_pos hp, List.append_nil]
    by_cases hd : 0 < s.2.2
    · rw [if_pos hd]
      refine normal_snoc h1 (.inr (.inr ⟨rfl, hd, rfl⟩)) (fun p hp' => ?_)
      have := getLast_kind h2 hp'
      exact ⟨fun _ => .inr rfl, fun e => by omega, fun e => by omega⟩
    · rw [if_neg hd, List.append_nil]
      exact h1
  · rw [if_neg hp]
    have hn : normal (s.1 ++ [⟨2, 0, s.2.1⟩]) := normal_snoc h1 (.inr (.inl ⟨rfl, rfl, by simp; omega⟩)) (fun p hp' => by
      have := getLast_kind h2 hp'
      exact ⟨fun _ => .inl rfl, fun e => by omega, fun e => by omega⟩)
    by_cases hd : 0 < s.2.2
    · rw [if_pos hd]
      refine normal_snoc hn (.inr (.inr ⟨rfl, hd, rfl⟩)) (fun p hp' => ?_)
      simp at hp'
      subst hp'
      exact ⟨fun e => by simp at e, fun _ => .inr rfl, fun e => by simp at e⟩
    · rw [if_neg hd, List.append_nil]
      exact hn
theorem normal_keepTo {q : List Pt} {n : Int} (h : normal q) (hn : 0 < n) : normal (keepTo q n) ∧ lastK (keepTo q n) = 1 := by
  rcases q.eq_nil_or_concat with rfl | ⟨r, p, rfl⟩
  · rw [keepTo_nil]
    exact ⟨⟨fun p hp => by simp at hp; subst hp; exact .inl ⟨rfl, hn, rfl⟩, trivial⟩, rfl⟩
  · rw [List.concat_eq_append] at *
    by_cases hk : p.kind = 1
    · rw [keepTo_t n hk]
      have hp := h.1 p (by simp)
      refine ⟨⟨fun x hx => ?_, ?_⟩, by rw [lastK_app]; exact hk⟩
      · rcases List.mem_append.1 hx with hx | hx
        · exact h.1 x (by simp [hx])
        · simp at hx
          subst hx
          unfold tidy at *
          simp only
          rcases hp with ⟨a, b, c⟩ | ⟨a, b, c⟩ | ⟨a, b, c⟩
          · exact .inl ⟨a, by omega, c⟩
          · omega
          · omega
      · rcases r.eq_nil_or_concat with rfl | ⟨a, x, rfl⟩
        · trivial
        · rw [List.concat_eq_append] at *
          have h2 : inOrder (a ++ x :: p :: []) := by simpa using h.2
          have hx : nextOk x p := by
            clear hp hk h
            induction a with
            | nil => exact h2.1
            | cons y a ih =>
              cases a with
              | nil => exact h2.2.1
              | cons z a => exact ih h2.2
          have := inOrder_app a x ⟨p.kind, p.n + n, p.signs⟩ [] (inOrder_init (a ++ [x]) [p] (by simpa using h2)) hx trivial
          simpa using this
    · rw [keepTo_f n hk]
      refine ⟨normal_snoc h (.inl ⟨rfl, hn, rfl⟩) (fun x hx => ?_), by rw [lastK_app]⟩
      simp at hx
      subst hx
      exact ⟨fun e => absurd e hk, fun _ => .inl rfl, fun _ => rfl⟩
theorem okS_step {s : List Pt × List Int × Int} {p : Pt} (h : okS_ s) (hp : szP_ p) : okS_ (stepN s p) := by
  obtain ⟨hk, hn0, hn1, hz⟩ := hp
  rcases hk with e | e | e
  · by_cases h0 : p.n = 0
    · have : stepN s p = s := by unfold stepN; rw [if_pos e, if_pos h0]
      rw [this]; exact h
    · have : stepN s p = (keepTo (doneN s) p.n, [], 0) := by unfold stepN; rw [if_pos e, if_neg h0]; rfl
      rw [this]
      obtain ⟨a, b⟩ := normal_keepTo (normal_done h) (show 0 < p.n by omega)
      exact ⟨a, .inr b, by simp⟩
  · have : stepN s p = (s.1, s.2.1 ++ p.signs, s.2.2) := by unfold stepN; rw [if_neg (by omega), if_pos e]
    rw [this]; exact h
  · have : stepN s p = (s.1, s.2.1, s.2.2 + p.n) := by unfold stepN; rw [if_neg (by omega), if_neg (by omega)]
    rw [this]; exact ⟨h.1, h.2.1, by have := h.2.2; simp only; omega⟩
theorem okS_fold : ∀ (L : List Pt) (s : List Pt × List Int × Int), okS_ s → (∀ p ∈ L, szP_ p) → okS_ (L.foldl stepN s)
  | [], s, h, _ => h
  | p :: L, s, h, hp => okS_fold L (stepN s p) (okS_step h (hp p (by simp))) (fun q hq => hp q (by simp [hq]))
/-- the normal form is normal -/
theorem normal_fold {L : List Pt} (h : ∀ p ∈ L, szP_ p) : normal (doneN (foldN L)) := normal_done (okS_fold L ([], [], 0) ⟨⟨fun p hp => by simp at hp, trivial⟩, .inl rfl, by simp⟩ h)

theorem inOrder_mid : ∀ (a : List Pt) (p q : Pt) (b : List Pt), inOrder (a ++ p :: q :: b) → nextOk p q
  | [], p, q, b, h => h.1
  | [x], p, q, b, h => h.2.1
  | x :: y :: a, p, q, b, h => inOrder_mid (y :: a) p q b h.2
theorem last_done {s : List Pt × List Int × Int} : (0 < s.2.2 → ∃ a p, doneN s = a ++ [p] ∧ p.kind = 3) ∧ (¬ 0 < s.2.2 → ¬ s.2.1.length = 0 → ∃ a p, doneN s = a ++ [p] ∧ p.kind = 2) := by
  refine ⟨fun h => ⟨s.1 ++ putL s.2.1, ⟨3, s.2.2, []⟩, by simp [doneN, dropL, h], rfl⟩, fun h h' => ⟨s.1, ⟨2, 0, s.2.1⟩, by simp [doneN, dropL, putL, h, h'], rfl⟩⟩
/-- a normal list is built as it stands -/
theorem fold_normal : ∀ (L : List Pt) (s : List Pt × List Int × Int), 0 ≤ s.2.2 → (∀ p ∈ L, tidy p) → inOrder (doneN s ++ L) → doneN (L.foldl stepN s) = doneN s ++ L
  | [], s, _, _, _ => by simp
  | p :: L, s, h0, ht, ho => by
    have hp := ht p (by simp)
    have key : doneN (stepN s p) = doneN s ++ [p] ∧ 0 ≤ (stepN s p).2.2 := by
      have hlast : ∀ a q, doneN s = a ++ [q] → nextOk q p := fun a q e => by
        rw [e] at ho
        exact inOrder_mid a q p L (by simpa using ho)
      rcases hp with ⟨e, hn, hz⟩ | ⟨e, hn, hz⟩ | ⟨e, hn, hz⟩
      · have hs : stepN s p = (keepTo (doneN s) p.n, [], 0) := by unfold stepN; rw [if_pos e, if_neg (by omega)]; rfl
        rw [hs]
        refine ⟨?_, by simp⟩
        have hd : doneN (keepTo (doneN s) p.n, [], 0) = keepTo (doneN s) p.n := by simp [doneN, putL, dropL]
        have hpp : p = ⟨1, p.n, []⟩ := by obtain ⟨a, b, c⟩ := p; simp only at e hz; rw [e, hz]
        rw [hd]
        rcases (doneN s).eq_nil_or_concat with e0 | ⟨a, q, e0⟩
        · rw [e0, keepTo_nil, List.nil_append, ← hpp]
        · rw [List.concat_eq_append] at e0
          have := hlast a q e0
          have hq : ¬ q.kind = 1 := fun h1 => by have := this.1 h1; omega
          rw [e0, keepTo_f _ hq, ← hpp]
      · have hs : stepN s p = (s.1, s.2.1 ++ p.signs, s.2.2) := by unfold stepN; rw [if_neg (by omega), if_pos e]
        rw [hs]
        have hd0 : ¬ 0 < s.2.2 := fun h1 => by
          obtain ⟨a, q, e1, e2⟩ := last_done.1 h1
          have := (hlast a q e1).2.2 e2
          omega
        have hp0 : s.2.1.length = 0 := by
          rcases Nat.eq_zero_or_pos s.2.1.length with h1 | h1
          · exact h1
          · obtain ⟨a, q, e1, e2⟩ := last_done.2 hd0 (by omega)
            have := (hlast a q e1).2.1 e2
            omega
        refine ⟨?_, h0⟩
        have he : s.2.1 = [] := List.eq_nil_of_length_eq_zero hp0
        have hpp : p = ⟨2, 0, p.signs⟩ := by obtain ⟨a, b, c⟩ := p; simp only at e hn; rw [e, hn]
        unfold doneN putL dropL
        simp only [he, List.nil_append, List.length_nil, if_true, if_neg hd0, if_neg (show ¬ p.signs.length = 0 by omega), List.append_nil]
        rw [← hpp]
      · have hs : stepN s p = (s.1, s.2.1, s.2.2 + p.n) := by unfold stepN; rw [if_neg (by omega), if_neg (by omega)]
        rw [hs]
        have hd0 : ¬ 0 < s.2.2 := fun h1 => by
          obtain ⟨a, q, e1, e2⟩ := last_done.1 h1
          have := (hlast a q e1).2.2 e2
          omega
        refine ⟨?_, by simp only; omega⟩
        have hpp : p = ⟨3, p.n, []⟩ := by obtain ⟨a, b, c⟩ := p; simp only at e hz; rw [e, hz]
        have e0 : s.2.2 = 0 := by omega
        unfold doneN dropL
        simp only [e0, Int.zero_add, if_pos hn]
        simp only [show ¬ (0 : Int) < 0 by omega, if_false, List.append_nil]
        rw [← hpp]
    rw [List.foldl_cons, fold_normal L (stepN s p) key.2 (fun q hq => ht q (by simp [hq])) (by rw [key.1]; simpa using ho), key.1]
    simp
theorem norm_self {L : List Pt} (h : normal L) : doneN (foldN L) = L := by
  have e : doneN ([], [], 0) = [] := by simp [doneN, putL, dropL]
  have := fold_normal L ([], [], 0) (by simp) h.1 (by rw [e]; exact h.2)
  rw [e] at this
  exact this
theorem len_step (s : List Pt × List Int × Int) (p : Pt) (h0 : 0 ≤ s.2.2) : (doneN (stepN s p)).length ≤ (doneN s).length + 1 := by
  unfold stepN
  split
  · split
    · omega
    · have e : doneN (keepTo (s.1 ++ putL s.2.1 ++ dropL s.2.2) p.n, [], 0) = keepTo (doneN s) p.n := by simp [doneN, putL, dropL]
      rw [e]
      rcases (doneN s).eq_nil_or_concat with e0 | ⟨a, q, e0⟩
      · rw [e0, keepTo_nil]; simp
      · rw [List.concat_eq_append] at e0
        rw [e0]
        by_cases hk : q.kind = 1
        · rw [keepTo_t _ hk]; simp
        · rw [keepTo_f _ hk]; simp
  · split
    · unfold doneN
      have a1 : (putL (s.2.1 ++ p.signs)).length ≤ (putL s.2.1).length + 1 := by have := (putL_len (s.2.1 ++ p.signs)).1; omega
      simp only [List.length_append]
      omega
    · unfold doneN
      have a1 : (dropL (s.2.2 + p.n)).length ≤ (dropL s.2.2).length + 1 := by have := (dropL_len (s.2.2 + p.n)).1; omega
      simp only [List.length_append]
      omega
theorem len_fold : ∀ (L : List Pt) (s : List Pt × List Int × Int), 0 ≤ s.2.2 → (∀ p ∈ L, szP_ p) → (doneN (L.foldl stepN s)).length ≤ (doneN s).length + L.length
  | [], s, _, _ => by simp
  | p :: L, s, h, hp => by
    have a := len_step s p h
    have b := len_fold L (stepN s p) (sum_step h (hp p (by simp))).1 (fun q hq => hp q (by simp [hq]))
    rw [List.foldl_cons, List.length_cons]
    omega
theorem norm_length {L : List Pt} (h : ∀ p ∈ L, szP_ p) : (doneN (foldN L)).length ≤ L.length := by
  have e : doneN ([], [], 0) = [] := by simp [doneN, putL, dropL]
  have := len_fold L ([], [], 0) (by simp) h
  rw [e, List.length_nil, Nat.zero_add] at this
  exact this
theorem allB_app (a b : List Int) : allB (a ++ b) = (allB a && allB b) := by simp [allB]
def okA (s : List Pt × List Int × Int) : Prop := (∀ p ∈ s.1, allB p.signs = true) ∧ allB s.2.1 = true
theorem okA_done {s : List Pt × List Int × Int} (h : okA s) : ∀ p ∈ doneN s, allB p.signs = true := fun p hp => by
  unfold doneN putL dropL at hp
  rcases List.mem_append.1 hp with hp | hp
  · rcases List.mem_append.1 hp with hp | hp
    · exact h.1 p hp
    · split at hp
      · simp at hp
      · simp at hp; subst hp; exact h.2
  · split at hp
    · simp at hp; subst hp; rfl
    · simp at hp
theorem okA_step {s : List Pt × List Int × Int} {p : Pt} (h : okA s) (hp : allB p.signs = true) : okA (stepN s p) := by
  unfold stepN
  split
  · split
    · exact h
    · have hd := okA_done h
      refine ⟨?_, rfl⟩
      change ∀ q ∈ keepTo (doneN s) p.n, _
      rcases (doneN s).eq_nil_or_concat with e0 | ⟨a, q, e0⟩
      · rw [e0, keepTo_nil]; intro x hx; simp at hx; subst hx; rfl
      · rw [List.concat_eq_append] at e0
        rw [e0] at hd ⊢
        intro x hx
        by_cases hk : q.kind = 1
        · rw [keepTo_t _ hk] at hx
          rcases List.mem_append.1 hx with hx | hx
          · exact hd x (by simp [hx])
          · simp at hx; subst hx; exact hd q (by simp)
        · rw [keepTo_f _ hk] at hx
          rcases List.mem_append.1 hx with hx | hx
          · exact hd x hx
          · simp at hx; subst hx; rfl
  · split
    · exact ⟨h.1, by simp only; rw [allB_app, h.2, hp]; rfl⟩
    · exact h
theorem okA_fold : ∀ (L : List Pt) (s : List Pt × List Int × Int), okA s → (∀ p ∈ L, allB p.signs = true) → okA (L.foldl stepN s)
  | [], s, h, _ => h
  | p :: L, s, h, hp => okA_fold L (stepN s p) (okA_step h (hp p (by simp))) (fun q hq => hp q (by simp [hq]))
theorem norm_allB {L : List Pt} (h : ∀ p ∈ L, allB p.signs = true) : ∀ p ∈ doneN (foldN L), allB p.signs = true := okA_done (okA_fold L ([], [], 0) ⟨fun p hp => by simp at hp, rfl⟩ h)

theorem sumOf_mem {f : Pt → Int} : ∀ {L : List Pt} {p : Pt}, (∀ q ∈ L, 0 ≤ f q) → p ∈ L → f p ≤ sumOf f L
  | [], _, _, h => by simp at h
  | q :: L, p, h0, h => by
    rw [sumOf_cons]
    have hs : 0 ≤ sumOf f L := by
      have hL : ∀ q ∈ L, 0 ≤ f q := fun q hq => h0 q (by simp [hq])
      clear h h0
      induction L with
      | nil => simp [sumOf_nil]
      | cons x L ih => rw [sumOf_cons]; have := hL x (by simp); have := ih (fun q hq => hL q (by simp [hq])); omega
    rcases List.mem_cons.1 h with rfl | h
    · omega
    · have := sumOf_mem (f := f) (fun q hq => h0 q (by simp [hq])) h
      have := h0 q (by simp)
      omega
theorem tidy_nonneg {p : Pt} (h : tidy p) : 0 ≤ keepOf p ∧ 0 ≤ putOf p ∧ 0 ≤ dropOf p := by
  unfold keepOf putOf dropOf
  rcases h with ⟨a, b, c⟩ | ⟨a, b, c⟩ | ⟨a, b, c⟩ <;> simp [a] <;> omega
/-- tidy parts whose sums are bounded are valid -/
theorem tidy_ok {L : List Pt} (ht : ∀ p ∈ L, tidy p) (ha : ∀ p ∈ L, allB p.signs = true) (h1 : sumOf keepOf L ≤ 200) (h2 : sumOf putOf L ≤ 200) (h3 : sumOf dropOf L ≤ 200) : okPs L = true := by
  unfold okPs
  rw [List.all_eq_true]
  intro p hp
  have k1 := sumOf_mem (f := keepOf) (fun q hq => (tidy_nonneg (ht q hq)).1) hp
  have k2 := sumOf_mem (f := putOf) (fun q hq => (tidy_nonneg (ht q hq)).2.1) hp
  have k3 := sumOf_mem (f := dropOf) (fun q hq => (tidy_nonneg (ht q hq)).2.2) hp
  have k1 := Int.le_trans k1 h1
  have k2 := Int.le_trans k2 h2
  have k3 := Int.le_trans k3 h3
  unfold keepOf at k1
  unfold putOf at k2
  unfold dropOf at k3
  apply okPt_t
  rcases ht p hp with ⟨a, b, c⟩ | ⟨a, b, c⟩ | ⟨a, b, c⟩
  · rw [if_pos a] at k1
    exact .inl ⟨.inl a, ⟨by omega, by omega⟩, by rw [c]; rfl⟩
  · rw [if_pos a] at k2
    exact .inr ⟨a, b, ha p hp, by omega⟩
  · rw [if_pos a] at k3
    exact .inl ⟨.inr a, ⟨by omega, by omega⟩, by rw [c]; rfl⟩
/-- a valid operation: its parts and sums -/
theorem okOp_of {ps : List Pt} (h : okOp ps = true) : okPs ps = true ∧ ps.length ≤ 600 ∧ sumOf keepOf ps + sumOf dropOf ps ≤ 200 ∧ sumOf keepOf ps + sumOf putOf ps ≤ 200 ∧ 0 ≤ sumOf keepOf ps ∧ 0 ≤ sumOf putOf ps ∧ 0 ≤ sumOf dropOf ps := by
  unfold okOp at h
  rw [Bool.and_eq_true, Bool.and_eq_true] at h
  obtain ⟨⟨h4, h5⟩, h6⟩ := h
  have h7 := partsB_of h4
  obtain ⟨t1, t2, t3⟩ := sum_t h4
  have h5 := of_decide_eq_true h5
  have h6 := of_decide_eq_true h6
  rw [t1, t3] at h5
  rw [t1, t2] at h6
  have := sums_bd h7.1 h7.2
  exact ⟨h7.1, h7.2, h5, h6, this.1.1, this.2.1.1, this.2.2.1⟩
theorem of_okOp {ps : List Pt} (h1 : okPs ps = true) (h2 : ps.length ≤ 600) (h3 : sumOf keepOf ps + sumOf dropOf ps ≤ 200) (h4 : sumOf keepOf ps + sumOf putOf ps ≤ 200) : okOp ps = true := by
  have hb : partsB ps = true := by unfold partsB; rw [h1, decide_eq_true h2]; rfl
  obtain ⟨t1, t2, t3⟩ := sum_t hb
  unfold okOp
  rw [hb, t1, t2, t3, decide_eq_true h3, decide_eq_true h4]
  rfl
theorem okPs_sz {ps : List Pt} (h : okPs ps = true) : ∀ p ∈ ps, szP_ p := fun p hp => szP_of (by unfold okPs at h; exact List.all_eq_true.1 h p hp)
theorem okPs_allB {ps : List Pt} (h : okPs ps = true) : ∀ p ∈ ps, allB p.signs = true := fun p hp => by
  have := of_okPt (show okPt p = true by unfold okPs at h; exact List.all_eq_true.1 h p hp)
  rcases this with ⟨_, _, hz⟩ | ⟨_, _, ha, _⟩
  · rw [List.eq_nil_of_length_eq_zero hz]; rfl
  · exact ha
/-- the normal form of a valid operation: valid, normal, of the same sums, its own normal form -/
theorem norm_ok {ps : List Pt} (h : okOp ps = true) : okOp (normL ps) = true ∧ normal (normL ps) ∧ sumOf keepOf (normL ps) = sumOf keepOf ps ∧ sumOf putOf (normL ps) = sumOf putOf ps ∧ sumOf dropOf (normL ps) = sumOf dropOf ps := by
  obtain ⟨h1, h2, h3, h4, h5, h6, h7⟩ := okOp_of h
  have e : normL ps = doneN (foldN ps) := by unfold normL; rw [if_pos h]
  obtain ⟨s1, s2, s3⟩ := sum_norm (okPs_sz h1)
  have hn := normal_fold (okPs_sz h1)
  have hl := norm_length (okPs_sz h1)
  have ha := norm_allB (okPs_allB h1)
  rw [e]
  refine ⟨of_okOp (tidy_ok hn.1 ha (by omega) (by omega) (by omega)) (by omega) (by omega) (by omega), hn, s1, s2, s3⟩
theorem norm_norm {ps : List Pt} : normL (normL ps) = normL ps := by
  by_cases h : okOp ps = true
  · obtain ⟨h1, h2, _⟩ := norm_ok h
    have e : ∀ qs, okOp qs = true → normL qs = doneN (foldN qs) := fun qs hq => by unfold normL; rw [if_pos hq]
    rw [e (normL ps) h1, norm_self h2]
  · have e : normL ps = [] := by unfold normL; rw [if_neg h]
    rw [e]
    unfold normL
    split
    · simp [foldN, doneN, putL, dropL]
    · rfl
theorem norm_normal {L : List Pt} (h : normal L) (ho : okOp L = true) : normL L = L := by unfold normL; rw [if_pos ho, norm_self h]
end Go.Proofs.Ytemhhjagdfkmfaa.low
