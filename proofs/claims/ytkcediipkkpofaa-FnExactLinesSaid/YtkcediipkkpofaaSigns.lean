/-
  Contracts of spec.Signs and impl.Signs: the characters of a string and true, or nothing and false where a byte belongs to no whole encoding.
-/
import Derived.Test.YtkcediipkkpofaaGet
import Derived.Lib.OthersKept
import Derived.WalkSmall
namespace Go.Proofs.Ytkcediipkkpofaa.low
open Go.RowKit
set_option linter.unusedVariables false

def runesAt (s : ByteArray) : Nat → Nat → List Int
  | 0, _ => []
  | f + 1, p => if p < s.size then ((Utf8.decode s p).1 : Int) :: runesAt s f (p + (Utf8.decode s p).2) else []
def okFrom (s : ByteArray) : Nat → Nat → Bool
  | 0, _ => true
  | f + 1, p => if p < s.size then okAt s p && okFrom s f (p + (Utf8.decode s p).2) else true
/-- all characters of s; whether all are whole -/
def runesOf (s : ByteArray) : List Int := runesAt s s.size 0
def okS (s : ByteArray) : Bool := okFrom s s.size 0
def signsOf (s : ByteArray) : List Int := if okS s = true then runesOf s else []

theorem runesAt_end (s : ByteArray) (b p : Nat) (h : ¬ p < s.size) : runesAt s b p = [] := by
  cases b with
  | zero => rfl
  | succ b => show (if _ then _ else _) = _; rw [if_neg h]
theorem okFrom_end (s : ByteArray) (b p : Nat) (h : ¬ p < s.size) : okFrom s b p = true := by
  cases b with
  | zero => rfl
  | succ b => show (if _ then _ else _) = _; rw [if_neg h]
theorem runesAt_step (s : ByteArray) (b p : Nat) (h : p < s.size) : runesAt s (b + 1) p = ((Utf8.decode s p).1 : Int) :: runesAt s b (p + (Utf8.decode s p).2) := by
  show (if _ then _ else _) = _; rw [if_pos h]
theorem okFrom_step (s : ByteArray) (b p : Nat) (h : p < s.size) : okFrom s (b + 1) p = (okAt s p && okFrom s b (p + (Utf8.decode s p).2)) := by
  show (if _ then _ else _) = _; rw [if_pos h]

theorem all_runes (s : ByteArray) : ∀ b p, allB (runesAt s b p) = true := by
  intro b
  induction b with
  | zero => intro p; rfl
  | succ b ih =>
    intro p
    by_cases h : p < s.size
    · rw [runesAt_step s b p h]; unfold allB; rw [List.all_cons, dec_sign]; exact ih _
    · rw [runesAt_end s _ p h]; rfl
theorem enc_runes (s : ByteArray) : ∀ b p, s.size ≤ p + b → okFrom s b p = true → encL (runesAt s b p) = (numsOf s).drop p := by
  intro b
  induction b with
  | zero => intro p h _; rw [List.drop_of_length_le (by rw [numsOf_len]; omega)]; rfl
  | succ b ih =>
    intro p h hok
    by_cases hp : p < s.size
    · rw [okFrom_step s b p hp, Bool.and_eq_true] at hok
      have hw := dec_width s p hp
      rw [runesAt_step s b p hp, dec_enc s p hp hok.1, ← ih _ (by omega) hok.2]
      rfl
    · rw [runesAt_end s _ p hp, List.drop_of_length_le (by rw [numsOf_len]; omega)]; rfl
theorem encL_cons (z : Int) (zs : List Int) : encL (z :: zs) = encI z ++ encL zs := rfl
theorem len_runes (s : ByteArray) : ∀ b p, s.size ≤ p + b → s.size ≤ p + (encL (runesAt s b p)).length ∧ (okFrom s b p = false → s.size < p + (encL (runesAt s b p)).length) := by
  intro b
  induction b with
  | zero => intro p h; exact ⟨by omega, fun h => by cases h⟩
  | succ b ih =>
    intro p h
    by_cases hp : p < s.size
    · have hw := dec_width s p hp
      have hi := ih (p + (Utf8.decode s p).2) (by omega)
      rw [runesAt_step s b p hp, okFrom_step s b p hp, encL_cons, List.length_append]
      cases hok : okAt s p
      · have e := okAt_f hok
        have e1 : (Utf8.decode s p).1 = 65533 := by rw [e]
        have e2 : (Utf8.decode s p).2 = 1 := by rw [e]
        rw [e1, e2, encI_len3 (by omega) (by omega)]
        rw [e2] at hi
        exact ⟨by omega, fun _ => by omega⟩
      · have he := congrArg List.length (dec_enc s p hp hok)
        rw [List.length_append, List.length_drop, List.length_drop, numsOf_len] at he
        refine ⟨by omega, fun hf => ?_⟩
        have := hi.2 (by simpa using hf)
        omega
    · rw [okFrom_end s _ p hp]
      exact ⟨by omega, fun h => by cases h⟩
theorem bytes_runes_t {s : ByteArray} (h : okS s = true) : bytesOf (runesOf s) = s := by
  unfold runesOf okS at *
  rw [bytesOf_t (all_runes s _ _), enc_runes s _ _ (by omega) h, List.drop_zero, strOfNums_numsOf]
theorem bytes_runes_f {s : ByteArray} (h : okS s = false) : s.size < (bytesOf (runesOf s)).size := by
  unfold runesOf okS at *
  rw [bytesOf_t (all_runes s _ _), strOfNums_size]
  have := (len_runes s s.size 0 (by omega)).2 h
  omega
theorem signsOf_t {s : ByteArray} (h : okS s = true) : signsOf s = runesOf s := by unfold signsOf; rw [if_pos h]
theorem signsOf_f {s : ByteArray} (h : okS s = false) : signsOf s = [] := by unfold signsOf; rw [h]; rfl

/-- v is a row of numbers of the caller's own -/
def IBuf (base : Nat) (w : World) (v : Value) (zs : List Int) : Prop := w.ownsRow base 3 1 v zs.length (zs.map (Value.int .i64)) ∧ base ≤ w.heap.size
theorem IBuf.alloc {base : Nat} {w : World} {v : Value} {bs : List Int} (h : IBuf base w v bs) (o : Obj) : IBuf base (w.alloc o) v bs := ⟨h.1.alloc o, by have := h.2; simp; omega⟩
theorem IBuf.nil (base : Nat) (w : World) (h : base ≤ w.heap.size) : IBuf base w (.slice none 0 0) [] := ⟨World.ownsRow_nil _ _ _ _, h⟩
theorem IBuf.slice {base : Nat} {w : World} {v : Value} {zs : List Int} (h : IBuf base w v zs) : ∃ A c, v = .slice A zs.length c ∧ Row (Value.int .i64) w w.heap.size A zs := by
  rcases h.1.2 with ⟨rfl, h0⟩ | ⟨g, cap, cur, rfl, _⟩
  · have : zs = [] := List.eq_nil_of_length_eq_zero h0
    subst this
    exact ⟨none, 0, rfl, Row.nil⟩
  · exact ⟨_, cap, rfl, Row.of_own h.1⟩
theorem IBuf.own {base : Nat} {w : World} {v : Value} {zs : List Int} (h : IBuf base w v zs) : ∀ k, v.ownBlock = some k → base ≤ k := by
  intro k hk
  rcases h.1.2 with ⟨rfl, _⟩ | ⟨g, cap, cur, rfl, hge, _⟩
  · simp [Value.ownBlock] at hk
  · simp [Value.ownBlock] at hk; omega
theorem IBuf.lower {base base' : Nat} {w : World} {v : Value} {zs : List Int} (h : IBuf base w v zs) (hb : base' ≤ base) : IBuf base' w v zs := by
  refine ⟨⟨h.1.1, ?_⟩, Nat.le_trans hb h.2⟩
  rcases h.1.2 with hn | ⟨g, cap, cur, hv, hge, hr⟩
  · exact .inl hn
  · exact .inr ⟨g, cap, cur, hv, Nat.le_trans hb hge, hr⟩
/-- behind a call that left all old blocks alone -/
theorem IBuf.past {base : Nat} {w w' : World} {v : Value} {zs : List Int} (h : IBuf base w v zs) (hb : Below w.heap.size w w') : IBuf base w' v zs := by
  refine ⟨⟨h.1.1, ?_⟩, Nat.le_trans h.2 hb.size⟩
  rcases h.1.2 with hn | ⟨g, cap, cur, hv, hge, hh, hr⟩
  · exact .inl hn
  · have hlt : g < w.heap.size := by
      rcases Nat.lt_or_ge g w.heap.size with hlt | hge
      · exact hlt
      · rw [Array.getElem?_eq_none hge] at hh; cases hh
    exact .inr ⟨g, cap, cur, hv, hge, (hb.block g hlt).trans hh, hr⟩
/-- the row behind an append of one number -/
theorem ibuf_of {base : Nat} {w w' : World} {v v' : Value} {bs : List Int} {z : Int} {xs : List Value} (hx : xs = [z].map (Value.int .i64))
    (ho : w'.ownsRow base 3 1 v' (bs.length + 1) (bs.map (Value.int .i64) ++ xs)) (hg : w.grownBy w' v.ownBlock) (hb : IBuf base w v bs) : IBuf base w' v' (bs ++ [z]) := by
  subst hx
  exact ⟨by simpa using ho, Nat.le_trans hb.2 hg.size⟩

def SignsPost (s : ByteArray) (w : World) (e : Ending) (w' : World) : Prop :=
  ∃ v, e = .returned (.tuple #[v, .bool (okS s)]) ∧ IBuf w.heap.size w' v (signsOf s) ∧ Below w.heap.size w w'
theorem signs_t {s : ByteArray} {v : Value} {w w' : World} (h : okS s = true) (hb : IBuf w.heap.size w' v (runesOf s)) (hbel : Below w.heap.size w w') : SignsPost s w (.returned (.tuple #[v, .bool true])) w' :=
  ⟨v, by rw [h], by rw [signsOf_t h]; exact hb, hbel⟩
theorem signs_f {s : ByteArray} {w w' : World} (h : okS s = false) (hbel : Below w.heap.size w w') : SignsPost s w (.returned (.tuple #[.slice none 0 0, .bool false])) w' :=
  ⟨_, by rw [h], by rw [signsOf_f h]; exact IBuf.nil _ _ hbel.size, hbel⟩
theorem getR_ok {s : ByteArray} {p : Nat} (h : okAt s p = true) : getR s p = (((Utf8.decode s p).1 : Int), ((Utf8.decode s p).2 : Int)) := by unfold getR; rw [if_pos h]

/-- how far a loop has come -/
def Come (s : ByteArray) (p : Nat) (acc : List Int) : Prop := ∃ b, acc ++ runesAt s b p = runesOf s ∧ okFrom s b p = okS s ∧ s.size ≤ p + b ∧ acc.length ≤ p ∧ p ≤ s.size
theorem come_0 (s : ByteArray) : Come s 0 [] := ⟨s.size, rfl, rfl, by omega, Nat.le_refl _, by omega⟩
theorem come_bd {s : ByteArray} {p : Nat} {acc : List Int} (h : Come s p acc) : acc.length ≤ p ∧ p ≤ s.size := by obtain ⟨b, _, _, _, h4, h5⟩ := h; exact ⟨h4, h5⟩
theorem come_bad {s : ByteArray} {p : Nat} {acc : List Int} (h : Come s p acc) (hp : p < s.size) (ho : okAt s p = false) : okS s = false := by
  obtain ⟨b, _, h2, h3, _⟩ := h
  cases b with
  | zero => omega
  | succ b => rw [← h2, okFrom_step s b p hp, ho]; rfl
theorem come_end {s : ByteArray} {p : Nat} {acc : List Int} (h : Come s p acc) (hp : ¬ p < s.size) : acc = runesOf s ∧ okS s = true := by
  obtain ⟨b, h1, h2, h3, _⟩ := h
  rw [runesAt_end s b p hp, List.append_nil] at h1
  rw [okFrom_end s b p hp] at h2
  exact ⟨h1, h2.symm⟩
theorem come_step {s : ByteArray} {p : Nat} {acc : List Int} (h : Come s p acc) (hp : p < s.size) (ho : okAt s p = true) : Come s (p + (Utf8.decode s p).2) (acc ++ [((Utf8.decode s p).1 : Int)]) := by
  obtain ⟨b, h1, h2, h3, h4, h5⟩ := h
  have hw := dec_width s p hp
  cases b with
  | zero => omega
  | succ b =>
    rw [runesAt_step s b p hp] at h1
    rw [okFrom_step s b p hp, ho, Bool.true_and] at h2
    refine ⟨b, by rw [List.append_assoc]; exact h1, h2, by omega, by simp; omega, by omega⟩

set_option maxRecDepth 100000 in
set_option maxHeartbeats 1600000 in
theorem specSigns_any (s : ByteArray) (w : World) (hs : s.size ≤ 1048576) :
    Calls Try.prog 20 #[.string s] w (SignsPost s w) := by
  obtain ⟨i0, hi0, hz0, hz1, hz2⟩ := info_parts int_info
  go_enter Try.func20, Try.ntmps20
  go_wp2
  go_loopw [4, 5] (fun v i wr => ∃ (p : Nat) (acc : List Int), i = .int .i64 p ∧ IBuf w.heap.size wr v acc ∧ Below w.heap.size w wr ∧ Come s p acc) (fun _ i _ => s.size - (intOf i).toNat)
  case atStart =>
    refine ⟨0, [], rfl, ⟨?_, by simp⟩, (Below.refl _ _).alloc (Nat.le_refl _) _, come_0 s⟩
    exact World.ownsRow_lit w #[] 0 (Nat.le_refl _) (Nat.zero_le _) (by simp)
  case round =>
    obtain ⟨p, acc, rfl, hb, hbel, hcome⟩ := hrel
    have hbd := come_bd hcome
    have hbd1 := hbd.1
    have hbd2 := hbd.2
    clear hbd
    by_cases hp : p < s.size
    · cases hok : okAt s p
      · have HG : Hid (getR s p = (0, 0)) := getR_f (okAt_f hok)
        have HF := Lib.hid (come_bad hcome hp hok)
        clear hok
        go_wp2_with (go_at_call 38; refine (get_any s p _ (by omega) hp).mono ?_; rintro e w2 ⟨rfl, b2⟩; rw [HG.out])
        go_ret2
        exact signs_f HF.out (hbel.trans (b2.mono hbel.size))
      · have HG := Lib.hid (getR_ok hok)
        have hst := come_step hcome hp hok
        have hw := dec_width s p hp
        clear hok hcome
        generalize (Utf8.decode s p).1 = z at *
        generalize (Utf8.decode s p).2 = k at *
        have hk1 := hw.1
        have hk2 := hw.2.1
        have hk3 := hw.2.2
        clear hw
        go_wp2_with fail
        refine (get_any s p _ (by omega) hp).mono ?_
        rintro e w2 ⟨rfl, b2⟩
        rw [HG.out]
        have hb2 := hb.past b2
        go_wp2_with (at_builtin; refine wpList_append_own _ rfl (.tmp 21) (.tmp 23) 24 rfl w.heap.size 3 i0 (.int .i64 0) 1 8 Try.underlying24 hi0 hz0 hz1 hz2 rfl (by decide) _ acc.length (acc.map (Value.int .i64)) rfl (hb2.alloc _).1 ⟨w2.heap.size, 0, none⟩ 1 1 ([(z : Int)].map (Value.int .i64)) rfl rfl (new_cells _ _ _) (ints_oneCell _ _) (by unfold maxLen; omega) (by omega) (hb2.alloc _).2 ?_; intro v' w3 ho hg _)
        go_roundw
        case rel =>
          have hbel2 := (hbel.trans (b2.mono hbel.size)).alloc hb2.2 (.cells #[.int .i64 (z : Int)] 3)
          exact ⟨p + k, acc ++ [(z : Int)], by go_num, ibuf_of rfl ho hg (hb2.alloc _), hbel2.grown hg (hb2.alloc _).2 hb2.own, hst⟩
        case measure => simp [intOf]; omega
    · have he := come_end hcome hp
      obtain ⟨rfl, hok⟩ := he
      have HO := Lib.hid hok
      clear hok
      go_wp2
      go_ret2
      exact signs_t HO.out hb hbel

/-- how far the range has come: every character counts, whole or not -/
def Ran (s : ByteArray) (p : Nat) (acc : List Int) : Prop := ∃ b, acc ++ runesAt s b p = runesOf s ∧ s.size ≤ p + b ∧ acc.length ≤ p ∧ p ≤ s.size
theorem ran_0 (s : ByteArray) : Ran s 0 [] := ⟨s.size, rfl, by omega, Nat.le_refl _, by omega⟩
theorem ran_bd {s : ByteArray} {p : Nat} {acc : List Int} (h : Ran s p acc) : acc.length ≤ p ∧ p ≤ s.size := by obtain ⟨b, _, _, h4, h5⟩ := h; exact ⟨h4, h5⟩
theorem ran_end {s : ByteArray} {p : Nat} {acc : List Int} (h : Ran s p acc) (hp : ¬ p < s.size) : acc = runesOf s := by
  obtain ⟨b, h1, _⟩ := h
  rwa [runesAt_end s b p hp, List.append_nil] at h1
theorem ran_step {s : ByteArray} {p : Nat} {acc : List Int} (h : Ran s p acc) (hp : p < s.size) : Ran s (p + (Utf8.decode s p).2) (acc ++ [((Utf8.decode s p).1 : Int)]) := by
  obtain ⟨b, h1, h3, h4, h5⟩ := h
  have hw := dec_width s p hp
  cases b with
  | zero => omega
  | succ b =>
    rw [runesAt_step s b p hp] at h1
    exact ⟨b, by rw [List.append_assoc]; exact h1, by omega, by simp; omega, by omega⟩
theorem IBuf.iterAt {base k : Nat} {w : World} {v : Value} {zs : List Int} {s : ByteArray} (h : IBuf base w v zs) (hk : k < base) (pos : Nat) : IBuf base (w.iterAt k s pos) v zs := by
  refine ⟨⟨h.1.1, ?_⟩, by rw [Lib.iterAt_size]; exact h.2⟩
  rcases h.1.2 with hn | ⟨g, cap, cur, hv, hge, hh, hr⟩
  · exact .inl hn
  · exact .inr ⟨g, cap, cur, hv, hge, (Lib.iterAt_other w k g s pos (by omega)).trans hh, hr⟩
theorem dec_bd (s : ByteArray) (p : Nat) : (Utf8.decode s p).1 ≤ 1114111 := by
  have := of_signB (dec_sign s p)
  omega
theorem str_ne {a s : ByteArray} (h : s.size < a.size) : (a.toList == s.toList) = false := by
  rw [beq_eq_false_iff_ne]
  intro e
  rw [ByteArray.toList_eq, ByteArray.toList_eq] at e
  have h1 := congrArg List.length e
  have h2 : a.size = s.size := h1
  omega
theorem iter_keep {w w3 : World} {o ob : Obj} {row : Option Nat} {k : Nat} (h : w.heap[k]? = some ob) (hg : (w.alloc o).grownBy w3 row) (hr : ¬ some k = row) : w3.heap[k]? = some ob := by
  have hlt : k < w.heap.size := by
    rcases Nat.lt_or_ge k w.heap.size with hlt | hge
    · exact hlt
    · rw [Array.getElem?_eq_none hge] at h; cases h
  rw [hg.block k (by simp; omega) hr]
  exact (Below.heap_alloc _ _ _ hlt).trans h
theorem lt_of_some {w : World} {g : Nat} {o : Obj} (h : w.heap[g]? = some o) : g < w.heap.size := by
  rcases Nat.lt_or_ge g w.heap.size with hlt | hge
  · exact hlt
  · rw [Array.getElem?_eq_none hge] at h; cases h

set_option maxRecDepth 100000 in
set_option maxHeartbeats 1600000 in
theorem implSigns_any (s : ByteArray) (w : World) (hs : s.size ≤ 1048576) :
    Calls Try.prog 21 #[.string s] w (SignsPost s w) := by
  obtain ⟨i0, hi0, hz0, hz1, hz2⟩ := info_parts int_info
  go_enter Try.func21, Try.ntmps21
  go_wp2
  go_loopw [4] (fun v wr => ∃ (p : Nat) (acc : List Int), wr.heap[w.heap.size]? = some (.stringIter s p) ∧ IBuf (w.heap.size + 1) wr v acc ∧ Below w.heap.size w wr ∧ Ran s p acc) (fun _ wr => s.size - wr.iterPos w.heap.size)
  case atStart => exact ⟨0, [], heap_alloc_new w _, IBuf.nil _ _ (by show _ ≤ (w.heap.push _).size; rw [Array.size_push]; exact Nat.le_refl _), (Below.refl _ _).alloc (Nat.le_refl _) _, ran_0 s⟩
  case round =>
    obtain ⟨p, acc, hit, hb, hbel, hran⟩ := hrel
    have hbd := ran_bd hran
    have hbd1 := hbd.1
    have hbd2 := hbd.2
    clear hbd
    by_cases hp : p < s.size
    · have hnx : ∀ ty, (Instr.next (.pointer (some ⟨w.heap.size, 0, none⟩)) true ty).run Try.prog wr = _ := fun ty => Lib.run_next_any_at wr w.heap.size s p ty hit hp
      have hst := ran_step hran hp
      have hw := dec_width s p hp
      have hzb := dec_bd s p
      have hb2 := hb.iterAt (s := s) (Nat.lt_succ_self _) (p + (Utf8.decode s p).2)
      have hit2 := Lib.iterAt_heap wr w.heap.size s p (p + (Utf8.decode s p).2) hit
      have hbel2 := Lib.below_iterAt hbel (Nat.le_refl _) s (p + (Utf8.decode s p).2)
      have HP := Lib.hid (iterPos_of hit)
      clear hran
      generalize (Utf8.decode s p).1 = z at *
      generalize (Utf8.decode s p).2 = k at *
      have hk1 := hw.1
      clear hw
      have HIT := Lib.hid hit2
      clear hit hit2
      go_wp2_with (at_builtin; refine wpList_append_own _ rfl (.tmp 12) (.tmp 15) 24 rfl (w.heap.size + 1) 3 i0 (.int .i64 0) 1 8 Try.underlying24 hi0 hz0 hz1 hz2 rfl (by decide) _ acc.length (acc.map (Value.int .i64)) rfl (hb2.alloc _).1 ⟨(wr.iterAt w.heap.size s (p + k)).heap.size, 0, none⟩ 1 1 ([(z : Int)].map (Value.int .i64)) rfl rfl (new_cells _ _ _) (ints_oneCell _ _) (by unfold maxLen; omega) (by omega) (hb2.alloc _).2 ?_; intro v' w3 ho hg _)
      go_roundw
      case rel =>
        have hit3 : w3.heap[w.heap.size]? = some (.stringIter s (p + k)) := iter_keep HIT.out hg (fun e => absurd (hb2.own _ e.symm) (by omega))
        exact ⟨p + k, acc ++ [(z : Int)], hit3, ibuf_of rfl ho hg (hb2.alloc _), (hbel2.alloc (Nat.le_trans (Nat.le_succ _) hb2.2) _).grown hg (Nat.le_trans (Nat.le_succ _) (hb2.alloc _).2) (fun k e => Nat.le_trans (Nat.le_succ _) (hb2.own k e)), hst⟩
      case measure =>
        have hit3 : w3.heap[w.heap.size]? = some (.stringIter s (p + k)) := iter_keep HIT.out hg (fun e => absurd (hb2.own _ e.symm) (by omega))
        rw [HP.out, iterPos_of hit3]
        omega
    · have hnx : ∀ ty, (Instr.next (.pointer (some ⟨w.heap.size, 0, none⟩)) true ty).run Try.prog wr = _ := fun ty => Lib.run_next_end_at wr w.heap.size s p ty hit hp
      have he := ran_end hran hp
      clear hran hit
      subst he
      obtain ⟨A, c, rfl, hrow⟩ := hb.slice
      cases hok : okS s
      · have HF := Lib.hid hok
        have hlt := str_ne (bytes_runes_f hok)
        clear hok
        go_wp2_with fail
        refine (implBytes_any A c (runesOf s) _ hrow (by omega)).mono ?_
        rintro e w2 ⟨rfl, b2⟩
        go_wp2
        go_ret2
        exact signs_f HF.out (hbel.trans (b2.mono hbel.size))
      · have HO := Lib.hid hok
        have HB := Lib.hid (bytes_runes_t hok)
        clear hok
        go_wp2_with fail
        refine (implBytes_any A c (runesOf s) _ hrow (by omega)).mono ?_
        rintro e w2 ⟨rfl, b2⟩
        rw [HB.out]
        have hb2 := hb.past b2
        go_wp2
        go_ret2
        exact signs_t HO.out (hb2.lower (Nat.le_succ _)) (hbel.trans (b2.mono hbel.size))
theorem runes_len (s : ByteArray) : ∀ b p, p ≤ s.size → (runesAt s b p).length ≤ s.size - p := by
  intro b
  induction b with
  | zero => intro p _; exact Nat.zero_le _
  | succ b ih =>
    intro p h
    by_cases hp : p < s.size
    · have hw := dec_width s p hp
      have := ih (p + (Utf8.decode s p).2) (by omega)
      rw [runesAt_step s b p hp, List.length_cons]
      omega
    · rw [runesAt_end s _ p hp]; exact Nat.zero_le _
theorem signs_len (s : ByteArray) : (signsOf s).length ≤ s.size := by
  cases h : okS s
  · rw [signsOf_f h]; exact Nat.zero_le _
  · rw [signsOf_t h]; exact runes_len s s.size 0 (by omega)
end Go.Proofs.Ytkcediipkkpofaa.low
