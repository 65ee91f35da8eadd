/-
  Contracts of spec.l01Split and impl.splitAt: a string cut at every byte of a given value below 128.
-/
import Derived.Test.YtkcediipkkpofaaSigns
import Derived.Test.YtkcediipkkpofaaShelf
namespace Go.Proofs.Ytkcediipkkpofaa.low
open Go.RowKit
set_option linter.unusedVariables false

/-- the pieces from place i on, the current one begun at f -/
def cutsFrom (s : ByteArray) (m : Nat) : Nat → Nat → Nat → List ByteArray
  | 0, i, f => [s.extract f i]
  | n + 1, i, f => if bAt s i = m then s.extract f i :: cutsFrom s m n (i + 1) (i + 1) else cutsFrom s m n (i + 1) f
def cuts (s : ByteArray) (m : Nat) : List ByteArray := cutsFrom s m s.size 0 0
theorem cuts_hit {s : ByteArray} {m i f : Nat} (hi : i < s.size) (h : bAt s i = m) : cutsFrom s m (s.size - i) i f = s.extract f i :: cutsFrom s m (s.size - (i + 1)) (i + 1) (i + 1) := by
  obtain ⟨n, hn⟩ : ∃ n, s.size - i = n + 1 := ⟨s.size - i - 1, by omega⟩
  rw [hn, show s.size - (i + 1) = n by omega]
  show (if _ then _ else _) = _
  rw [if_pos h]
theorem cuts_miss {s : ByteArray} {m i f : Nat} (hi : i < s.size) (h : ¬ bAt s i = m) : cutsFrom s m (s.size - i) i f = cutsFrom s m (s.size - (i + 1)) (i + 1) f := by
  obtain ⟨n, hn⟩ : ∃ n, s.size - i = n + 1 := ⟨s.size - i - 1, by omega⟩
  rw [hn, show s.size - (i + 1) = n by omega]
  show (if _ then _ else _) = _
  rw [if_neg h]
theorem cuts_end {s : ByteArray} {m f : Nat} : cutsFrom s m (s.size - s.size) s.size f = [s.extract f s.size] := by rw [Nat.sub_self]; rfl
theorem cuts_skip {s : ByteArray} {m i f : Nat} : ∀ k, i + k ≤ s.size → (∀ t, t < k → ¬ bAt s (i + t) = m) → cutsFrom s m (s.size - i) i f = cutsFrom s m (s.size - (i + k)) (i + k) f := by
  intro k
  induction k with
  | zero => intro _ _; rfl
  | succ k ih =>
    intro h1 h2
    rw [ih (by omega) (fun t ht => h2 t (by omega)), cuts_miss (by omega) (h2 k (by omega))]
    rfl
theorem cuts_pos (s : ByteArray) (m : Nat) : ∀ n i f, 1 ≤ (cutsFrom s m n i f).length ∧ (cutsFrom s m n i f).length ≤ n + 1 := by
  intro n
  induction n with
  | zero => intro i f; exact ⟨Nat.le_refl _, Nat.le_refl _⟩
  | succ n ih =>
    intro i f
    show 1 ≤ (if _ then _ else _ : List ByteArray).length ∧ (if _ then _ else _ : List ByteArray).length ≤ _
    split
    · rw [List.length_cons]; have := ih (i + 1) (i + 1); omega
    · have := ih (i + 1) f; omega

theorem str_info : (Try.prog.info? 9).map (fun i => (i.zero, i.size, i.bytes)) = some (some (.string ByteArray.empty), 1, 16) := by kernel_rfl
theorem strs_oneCell (zs : List ByteArray) : ∀ u ∈ zs.map Value.string, u.oneCell' = true := by
  intro u hu
  obtain ⟨_, _, rfl⟩ := List.mem_map.1 hu
  rfl

/-- v is a row of strings of the caller's own -/
def SBuf (base : Nat) (w : World) (v : Value) (zs : List ByteArray) : Prop := w.ownsRow base 9 1 v zs.length (zs.map Value.string) ∧ base ≤ w.heap.size
theorem SBuf.alloc {base : Nat} {w : World} {v : Value} {bs : List ByteArray} (h : SBuf base w v bs) (o : Obj) : SBuf base (w.alloc o) v bs := ⟨h.1.alloc o, by have := h.2; simp; omega⟩
theorem SBuf.nil (base : Nat) (w : World) (h : base ≤ w.heap.size) : SBuf base w (.slice none 0 0) [] := ⟨World.ownsRow_nil _ _ _ _, h⟩
theorem SBuf.slice {base : Nat} {w : World} {v : Value} {zs : List ByteArray} (h : SBuf base w v zs) : ∃ A c, v = .slice A zs.length c ∧ Row Value.string w w.heap.size A zs := by
  rcases h.1.2 with ⟨rfl, h0⟩ | ⟨g, cap, cur, rfl, _⟩
  · have : zs = [] := List.eq_nil_of_length_eq_zero h0
    subst this
    exact ⟨none, 0, rfl, Row.nil⟩
  · exact ⟨_, cap, rfl, Row.of_own h.1⟩
theorem SBuf.own {base : Nat} {w : World} {v : Value} {zs : List ByteArray} (h : SBuf base w v zs) : ∀ k, v.ownBlock = some k → base ≤ k := by
  intro k hk
  rcases h.1.2 with ⟨rfl, _⟩ | ⟨g, cap, cur, rfl, hge, _⟩
  · simp [Value.ownBlock] at hk
  · simp [Value.ownBlock] at hk; omega
theorem SBuf.lower {base base' : Nat} {w : World} {v : Value} {zs : List ByteArray} (h : SBuf base w v zs) (hb : base' ≤ base) : SBuf base' w v zs := by
  refine ⟨⟨h.1.1, ?_⟩, Nat.le_trans hb h.2⟩
  rcases h.1.2 with hn | ⟨g, cap, cur, hv, hge, hr⟩
  · exact .inl hn
  · exact .inr ⟨g, cap, cur, hv, Nat.le_trans hb hge, hr⟩
theorem SBuf.past {base : Nat} {w w' : World} {v : Value} {zs : List ByteArray} (h : SBuf base w v zs) (hb : Below w.heap.size w w') : SBuf base w' v zs := by
  refine ⟨⟨h.1.1, ?_⟩, Nat.le_trans h.2 hb.size⟩
  rcases h.1.2 with hn | ⟨g, cap, cur, hv, hge, hh, hr⟩
  · exact .inl hn
  · exact .inr ⟨g, cap, cur, hv, hge, (hb.block g (lt_of_some hh)).trans hh, hr⟩
theorem SBuf.iterAt {base k : Nat} {w : World} {v : Value} {zs : List ByteArray} {s : ByteArray} (h : SBuf base w v zs) (hk : k < base) (pos : Nat) : SBuf base (w.iterAt k s pos) v zs := by
  refine ⟨⟨h.1.1, ?_⟩, by rw [Lib.iterAt_size]; exact h.2⟩
  rcases h.1.2 with hn | ⟨g, cap, cur, hv, hge, hh, hr⟩
  · exact .inl hn
  · exact .inr ⟨g, cap, cur, hv, hge, (Lib.iterAt_other w k g s pos (by omega)).trans hh, hr⟩
theorem sbuf_of {base : Nat} {w w' : World} {v v' : Value} {bs : List ByteArray} {z : ByteArray} {xs : List Value} (hx : xs = [z].map Value.string)
    (ho : w'.ownsRow base 9 1 v' (bs.length + 1) (bs.map Value.string ++ xs)) (hg : w.grownBy w' v.ownBlock) (hb : SBuf base w v bs) : SBuf base w' v' (bs ++ [z]) := by
  subst hx
  exact ⟨by simpa using ho, Nat.le_trans hb.2 hg.size⟩
/-- it returns a row of its own that holds these strings -/
def StrsPost (ss : List ByteArray) (w : World) (e : Ending) (w' : World) : Prop := ∃ v, e = .returned v ∧ SBuf w.heap.size w' v ss ∧ Below w.heap.size w w'

def CutTo (s : ByteArray) (m i f : Nat) (acc : List ByteArray) : Prop := f ≤ i ∧ i ≤ s.size ∧ acc.length ≤ i ∧ acc ++ cutsFrom s m (s.size - i) i f = cuts s m

set_option maxRecDepth 100000 in
set_option maxHeartbeats 1600000 in
theorem specSplit_any (s : ByteArray) (m : Nat) (w : World) (hs : s.size ≤ 1048576) :
    Calls Try.prog 40 #[.string s, .int .u8 m] w (StrsPost (cuts s m) w) := by
  obtain ⟨i0, hi0, hz0, hz1, hz2⟩ := info_parts str_info
  go_enter Try.func40, Try.ntmps40
  go_wp2
  go_loopw [5, 6, 7] (fun v f i wr => ∃ (p fr : Nat) (acc : List ByteArray), i = .int .i64 p ∧ f = .int .i64 fr ∧ SBuf w.heap.size wr v acc ∧ Below w.heap.size w wr ∧ (CutTo s m p fr acc ∨ (p = s.size + 1 ∧ acc = cuts s m))) (fun _ _ i _ => s.size + 1 - (intOf i).toNat)
  case atStart =>
    refine ⟨0, 0, [], rfl, rfl, ⟨?_, by simp⟩, (Below.refl _ _).alloc (Nat.le_refl _) _, .inl ⟨Nat.le_refl _, Nat.zero_le _, Nat.le_refl _, rfl⟩⟩
    exact World.ownsRow_lit w #[] 0 (Nat.le_refl _) (Nat.zero_le _) (by simp)
  case round =>
    obtain ⟨p, fr, acc, rfl, rfl, hb, hbel, hst⟩ := hrel
    rcases hst with ⟨h1, h2, h3, h4⟩ | ⟨rfl, rfl⟩
    · have H4 := Lib.hid h4
      clear h4
      by_cases hlt : p < s.size
      · have hpe : ((p : Int) == (s.size : Int)) = false := by simp; omega
        have HB := Lib.hid (bAt_eq s p hlt)
        by_cases hm : bAt s p = m
        · have hmb : ((s[p].toNat : Int) == (m : Int)) = true := by rw [bAt_eq s p hlt, hm]; simp
          have HM := Lib.hid hm
          clear hm
          go_wp2_with (at_builtin; refine wpList_append_own _ rfl (.tmp 26) (.tmp 31) 33 rfl w.heap.size 9 i0 (.string ByteArray.empty) 1 16 Try.underlying33 hi0 hz0 hz1 hz2 rfl (by decide) _ acc.length (acc.map Value.string) rfl (hb.alloc _).1 ⟨wr.heap.size, 0, none⟩ 1 1 ([s.extract fr p].map Value.string) rfl rfl (new_cells _ _ _) (strs_oneCell _) (by unfold maxLen; omega) (by omega) (hb.alloc _).2 ?_; intro v' w3 ho hg _)
          go_roundw
          case rel =>
            refine ⟨p + 1, p + 1, acc ++ [s.extract fr p], by go_num, by go_num, sbuf_of rfl ho hg (hb.alloc _), (hbel.alloc hb.2 _).grown hg (hb.alloc _).2 hb.own, .inl ⟨Nat.le_refl _, by omega, by simp; omega, ?_⟩⟩
            rw [← H4.out, cuts_hit hlt HM.out, List.append_assoc]; rfl
          case measure => simp [intOf]; omega
        · have hmb : ((s[p].toNat : Int) == (m : Int)) = false := by rw [bAt_eq s p hlt]; simp; omega
          have HM := Lib.hid hm
          clear hm
          go_wp2
          go_roundw
          case rel => exact ⟨p + 1, fr, acc, by go_num, rfl, hb, hbel, .inl ⟨by omega, by omega, by omega, by rw [← H4.out, cuts_miss hlt HM.out]⟩⟩
          case measure => simp [intOf]; omega
      · obtain rfl : p = s.size := by omega
        have hpe : ((s.size : Int) == (s.size : Int)) = true := by simp
        go_wp2_with (at_builtin; refine wpList_append_own _ rfl (.tmp 26) (.tmp 31) 33 rfl w.heap.size 9 i0 (.string ByteArray.empty) 1 16 Try.underlying33 hi0 hz0 hz1 hz2 rfl (by decide) _ acc.length (acc.map Value.string) rfl (hb.alloc _).1 ⟨wr.heap.size, 0, none⟩ 1 1 ([s.extract fr s.size].map Value.string) rfl rfl (new_cells _ _ _) (strs_oneCell _) (by unfold maxLen; omega) (by omega) (hb.alloc _).2 ?_; intro v' w3 ho hg _)
        go_roundw
        case rel =>
          refine ⟨s.size + 1, s.size + 1, acc ++ [s.extract fr s.size], by go_num, by go_num, sbuf_of rfl ho hg (hb.alloc _), (hbel.alloc hb.2 _).grown hg (hb.alloc _).2 hb.own, .inr ⟨rfl, ?_⟩⟩
          rw [← H4.out, cuts_end]
        case measure => simp [intOf]
    · go_wp2
      go_ret
      exact ⟨_, rfl, hb, hbel⟩

theorem clone_any (s : ByteArray) (w : World) (hs : s.size ≤ 4294967296) :
    Calls Try.prog 45 #[.string s] w fun e w' => e = .returned (.string s) ∧ Below w.heap.size w w' := by
  go_enter Try.func45, Try.ntmps45
  go_wp2_with fail
  refine (Try.stringslite_Clone s _ (by omega)).mono ?_
  rintro e w' ⟨rfl, hb⟩
  go_wp2
  go_ret
  exact ⟨rfl, hb⟩
theorem extract_le (s : ByteArray) (a b : Nat) : (s.extract a b).size ≤ s.size := by simp; omega
theorem dec_ascii {s : ByteArray} {p : Nat} (h : bAt s p < 128) : Utf8.decode s p = (bAt s p, 1) := by
  rcases dec_cases s p with ⟨h', e⟩ | ⟨h', e⟩ | ⟨h', e⟩ | ⟨h', e⟩ | ⟨h', _, _, _, e⟩
  · exact e
  · have := h'.1; omega
  · have := h'.1; omega
  · have := h'.1; omega
  · omega
theorem below_append {B : Nat} {w wr w2 w3 : World} {o : Obj} {row : Option Nat} (hbel : Below B w wr) (b2 : Below wr.heap.size wr w2) (hg : (w2.alloc o).grownBy w3 row) (hB : B ≤ wr.heap.size) (hr : ∀ k, row = some k → B ≤ k) : Below B w w3 := by
  have h2 : Below B w w2 := hbel.trans (b2.mono hB)
  exact (h2.alloc (Nat.le_trans hB b2.size) o).grown hg (by have := b2.size; simp; omega) hr

set_option maxRecDepth 100000 in
set_option maxHeartbeats 1600000 in
theorem implSplit_any (s : ByteArray) (m : Nat) (w : World) (hs : s.size ≤ 1048576) (hm8 : m < 128) :
    Calls Try.prog 41 #[.string s, .int .i32 m] w (StrsPost (cuts s m) w) := by
  obtain ⟨i0, hi0, hz0, hz1, hz2⟩ := info_parts str_info
  go_enter Try.func41, Try.ntmps41
  go_wp2
  go_loopw [5, 6] (fun v f wr => ∃ (p fr : Nat) (acc : List ByteArray), f = .int .i64 fr ∧ wr.heap[w.heap.size]? = some (.stringIter s p) ∧ SBuf (w.heap.size + 1) wr v acc ∧ Below w.heap.size w wr ∧ CutTo s m p fr acc) (fun _ _ wr => s.size - wr.iterPos w.heap.size)
  case atStart => exact ⟨0, 0, [], rfl, heap_alloc_new w _, SBuf.nil _ _ (by show _ ≤ (w.heap.push _).size; rw [Array.size_push]; exact Nat.le_refl _), (Below.refl _ _).alloc (Nat.le_refl _) _, ⟨Nat.le_refl _, Nat.zero_le _, Nat.le_refl _, rfl⟩⟩
  case round =>
    obtain ⟨p, fr, acc, rfl, hit, hb, hbel, h1, h2, h3, h4⟩ := hrel
    have H4 := Lib.hid h4
    clear h4
    have hB : w.heap.size ≤ wr.heap.size := Nat.le_trans (Nat.le_succ _) hb.2
    by_cases hp : p < s.size
    · have hnx : ∀ ty, (Instr.next (.pointer (some ⟨w.heap.size, 0, none⟩)) true ty).run Try.prog wr = _ := fun ty => Lib.run_next_any_at wr w.heap.size s p ty hit hp
      have hw := dec_width s p hp
      have hb2 := hb.iterAt (s := s) (Nat.lt_succ_self _) (p + (Utf8.decode s p).2)
      have hit2 := Lib.iterAt_heap wr w.heap.size s p (p + (Utf8.decode s p).2) hit
      have hbel2 := Lib.below_iterAt hbel (Nat.le_refl _) s (p + (Utf8.decode s p).2)
      have HP := Lib.hid (iterPos_of hit)
      have HIT := Lib.hid hit2
      clear hit hit2
      have hszr : (wr.iterAt w.heap.size s (p + (Utf8.decode s p).2)).heap.size = wr.heap.size := Lib.iterAt_size _ _ _ _
      have HSZR := Lib.hid hszr
      clear hszr
      by_cases hm : bAt s p = m
      · have hd := dec_ascii (s := s) (p := p) (by omega)
        rw [hd] at hnx hb2 hbel2 HIT HSZR
        simp only at hnx hb2 hbel2 HIT HSZR
        have hmb : (((bAt s p : Nat) : Int) == (m : Int)) = true := by rw [hm]; simp
        have HM := Lib.hid hm
        clear hm hd hw
        go_wp2_with fail
        refine (clone_any (s.extract fr p) _ (Nat.le_trans (extract_le _ _ _) (by omega))).mono ?_
        rintro e w2 ⟨rfl, b2⟩
        have hb3 := hb2.past b2
        have hit3 : w2.heap[w.heap.size]? = some (.stringIter s (p + 1)) := (b2.block _ (lt_of_some HIT.out)).trans HIT.out
        have HIT3 := Lib.hid hit3
        clear hit3
        go_wp2_with (at_builtin; refine wpList_append_own _ rfl (.tmp 18) (.tmp 24) 33 rfl (w.heap.size + 1) 9 i0 (.string ByteArray.empty) 1 16 Try.underlying33 hi0 hz0 hz1 hz2 rfl (by decide) _ acc.length (acc.map Value.string) rfl (hb3.alloc _).1 ⟨w2.heap.size, 0, none⟩ 1 1 ([s.extract fr p].map Value.string) rfl rfl (new_cells _ _ _) (strs_oneCell _) (by unfold maxLen; omega) (by omega) (hb3.alloc _).2 ?_; intro v' w3 ho hg _)
        have hit4 : w3.heap[w.heap.size]? = some (.stringIter s (p + 1)) := iter_keep HIT3.out hg (fun e => absurd (hb3.own _ e.symm) (by omega))
        have HIT4 := Lib.hid hit4
        clear hit4
        go_wp2
        go_roundw
        case rel =>
          refine ⟨p + 1, p + 1, acc ++ [s.extract fr p], by go_num, HIT4.out, sbuf_of rfl ho hg (hb3.alloc _), below_append hbel2 b2 hg (by rw [HSZR.out]; exact hB) (fun k e => Nat.le_trans (Nat.le_succ _) (hb3.own k e)), Nat.le_refl _, by omega, by simp; omega, ?_⟩
          rw [← H4.out, cuts_hit hp HM.out, List.append_assoc]; rfl
        case measure => rw [HP.out, iterPos_of HIT4.out]; omega
      · have hmb : ((((Utf8.decode s p).1 : Nat) : Int) == (m : Int)) = false := by
          by_cases h8 : bAt s p < 128
          · rw [dec_ascii h8]; simp; omega
          · have := dec_high s p (by omega); simp; omega
        have hsk := cuts_skip (s := s) (m := m) (i := p) (f := fr) (Utf8.decode s p).2 (by omega) (fun t ht => by
          rcases Nat.eq_zero_or_pos t with rfl | h
          · exact hm
          · have := (dec_cont s p t h ht).2; omega)
        have HSK := Lib.hid hsk
        clear hsk hm
        go_wp2
        go_roundw
        case rel => exact ⟨p + (Utf8.decode s p).2, fr, acc, rfl, HIT.out, hb2, hbel2, by omega, by omega, by omega, by rw [← H4.out, HSK.out]⟩
        case measure => rw [HP.out, iterPos_of HIT.out]; omega
    · have hnx : ∀ ty, (Instr.next (.pointer (some ⟨w.heap.size, 0, none⟩)) true ty).run Try.prog wr = _ := fun ty => Lib.run_next_end_at wr w.heap.size s p ty hit hp
      obtain rfl : p = s.size := by omega
      clear hit
      go_wp2_with fail
      refine (clone_any (s.extract fr s.size) _ (Nat.le_trans (extract_le _ _ _) (by omega))).mono ?_
      rintro e w2 ⟨rfl, b2⟩
      have hb3 := hb.past b2
      go_wp2_with (at_builtin; refine wpList_append_own _ rfl (.tmp 28) (.tmp 33) 33 rfl (w.heap.size + 1) 9 i0 (.string ByteArray.empty) 1 16 Try.underlying33 hi0 hz0 hz1 hz2 rfl (by decide) _ acc.length (acc.map Value.string) rfl (hb3.alloc _).1 ⟨w2.heap.size, 0, none⟩ 1 1 ([s.extract fr s.size].map Value.string) rfl rfl (new_cells _ _ _) (strs_oneCell _) (by unfold maxLen; omega) (by omega) (hb3.alloc _).2 ?_; intro v' w3 ho hg _)
      go_ret
      refine ⟨v', rfl, ?_, below_append hbel b2 hg hB (fun k e => Nat.le_trans (Nat.le_succ _) (hb3.own k e))⟩
      have := sbuf_of rfl ho hg (hb3.alloc _)
      rw [← H4.out, cuts_end]
      exact this.lower (Nat.le_succ _)
end Go.Proofs.Ytkcediipkkpofaa.low
