
/-
  Words for memory: a part (three cells, the last a slice of numbers) and a slice of parts; contracts of the laws' own szIntS, szPart, szPartS, eqPart, eqPartS, toPart, toPartS.
-/
import Derived.Test.YtemhhjagdfkmfaaSignsSame
import Derived.Test.YtemhhjagdfkmfaaIBuf
import Derived.Deep.RegionWith
namespace Go.Proofs.Ytemhhjagdfkmfaa.low
open Go.RowKit
set_option linter.unusedVariables false

structure Pt where
  kind : Int
  n : Int
  signs : List Int

/-- the three cells at place o of block b hold the part p; its characters lie below B -/
def PtAt (w : World) (B : Nat) (b o : Nat) (p : Pt) : Prop :=
  w.cell? ⟨b, o, none⟩ = some (.int .i64 p.kind) ∧ w.cell? ⟨b, o + 1, none⟩ = some (.int .i64 p.n) ∧
  ∃ A c, w.cell? ⟨b, o + 2, none⟩ = some (.slice A p.signs.length c) ∧ Row (Value.int .i64) w B A p.signs
/-- the slice at A holds the parts ps -/
def PRow (w : World) (B : Nat) (A : Option Addr) (ps : List Pt) : Prop :=
  0 < ps.length → ∃ b off, A = some ⟨b, off, none⟩ ∧ b < B ∧ ∀ (i : Nat) (p : Pt), ps[i]? = some p → PtAt w B b (off + i * 3) p

theorem PtAt.keep {w w' : World} {B b o : Nat} {p : Pt} (h : PtAt w B b o p) (hb : b < B) (hk : ∀ q : Addr, q.block < B → w'.cell? q = w.cell? q) : PtAt w' B b o p := by
  obtain ⟨h1, h2, A, c, h3, h4⟩ := h
  exact ⟨(hk _ hb).trans h1, (hk _ hb).trans h2, A, c, (hk _ hb).trans h3, h4.keep hk⟩
theorem PtAt.more {w : World} {B B' b o : Nat} {p : Pt} (h : PtAt w B b o p) (hB : B ≤ B') : PtAt w B' b o p := by
  obtain ⟨h1, h2, A, c, h3, h4⟩ := h
  exact ⟨h1, h2, A, c, h3, h4.more hB⟩
theorem PRow.nil {w : World} {B : Nat} {A : Option Addr} : PRow w B A [] := fun h => absurd h (by simp)
theorem PRow.keep {w w' : World} {B : Nat} {A : Option Addr} {ps : List Pt} (h : PRow w B A ps) (hk : ∀ q : Addr, q.block < B → w'.cell? q = w.cell? q) : PRow w' B A ps := fun hn => by
  obtain ⟨b, off, e, hb, hc⟩ := h hn
  exact ⟨b, off, e, hb, fun i p hp => (hc i p hp).keep hb hk⟩
theorem PRow.more {w : World} {B B' : Nat} {A : Option Addr} {ps : List Pt} (h : PRow w B A ps) (hB : B ≤ B') : PRow w B' A ps := fun hn => by
  obtain ⟨b, off, e, hb, hc⟩ := h hn
  exact ⟨b, off, e, by omega, fun i p hp => (hc i p hp).more hB⟩
theorem PRow.below {w w' : World} {B : Nat} {A : Option Addr} {ps : List Pt} (h : PRow w B A ps) (hb : Below B w w') : PRow w' B A ps := h.keep fun _ hp => hb.cell hp
theorem PRow.past {w w' : World} {A : Option Addr} {ps : List Pt} (h : PRow w w.heap.size A ps) (hb : Below w.heap.size w w') : PRow w' w'.heap.size A ps := (h.below hb).more hb.size
theorem PRow.at_ {w : World} {B : Nat} {A : Option Addr} {ps : List Pt} {k : Nat} (h : PRow w B A ps) (hk : k < ps.length) :
    ∃ b off p, A = some ⟨b, off, none⟩ ∧ b < B ∧ ps[k]? = some p ∧ PtAt w B b (off + k * 3) p := by
  obtain ⟨b, off, e, hb, hc⟩ := h (by omega)
  exact ⟨b, off, ps[k], e, hb, List.getElem?_eq_getElem hk, hc k _ (List.getElem?_eq_getElem hk)⟩
theorem Row.past_alloc {α : Type} {f : α → Value} {w : World} {A : Option Addr} {zs : List α} (h : Row f w w.heap.size A zs) (o : Obj) : Row f (w.alloc o) (w.alloc o).heap.size A zs := h.past ((Below.refl _ _).alloc (Nat.le_refl _) o)

/-- how many characters the parts hold -/
def signsIn (ps : List Pt) : Nat := (ps.map fun p => p.signs.length).sum
theorem signsIn_snoc {ps : List Pt} {k : Nat} {p : Pt} (h : ps[k]? = some p) : signsIn (ps.take (k + 1)) = signsIn (ps.take k) + p.signs.length := by
  unfold signsIn
  rw [List.take_add_one, h]
  simp
theorem signsIn_at {ps : List Pt} {k : Nat} {p : Pt} (h : ps[k]? = some p) : p.signs.length ≤ signsIn ps := by
  have hm := List.mem_of_getElem? h
  clear h
  unfold signsIn
  induction ps with
  | nil => cases hm
  | cons q r ih =>
    rw [List.map_cons, List.sum_cons]
    rcases List.mem_cons.1 hm with rfl | hm
    · omega
    · have := ih hm; omega

/-- it returns a number; if that is not negative, so much has room -/
def Sized (m : Nat) (left : Int) (w : World) (e : Ending) (w' : World) : Prop := ∃ r : Int, e = .returned (.int .i64 r) ∧ (r = -1 ∨ (0 ≤ r ∧ r = left - (m : Int))) ∧ Below w.heap.size w w'

set_option maxHeartbeats 400000 in
theorem szIntS_any (A : Option Addr) (len c : Nat) (left : Int) (w : World) (h0 : 0 ≤ left) (h1 : left ≤ 1048576) (hl : len ≤ 9223372036854775807) :
    Calls Try.prog 63 #[.slice A len c, .int .i64 left] w (Sized len left w) := by
  by_cases h : (len : Int) ≤ left
  · go_enter Try.func63, Try.ntmps63
    go_wp2
    go_ret
    exact ⟨_, rfl, .inr ⟨by omega, rfl⟩, Below.refl _ _⟩
  · have h' : left - (len : Int) < 0 := by omega
    go_enter Try.func63, Try.ntmps63
    go_wp2
    go_ret
    exact ⟨_, rfl, .inl rfl, Below.refl _ _⟩

set_option maxHeartbeats 400000 in
theorem szPart_any (k n : Int) (A : Option Addr) (len c : Nat) (left : Int) (w : World) (h0 : 0 ≤ left) (h1 : left ≤ 1048576) (hl : len ≤ 9223372036854775807) :
    Calls Try.prog 36 #[.agg #[.int .i64 k, .int .i64 n, .slice A len c], .int .i64 left] w (Sized len left w) := by
  go_enter Try.func36, Try.ntmps36
  go_wp2_with fail
  refine (szIntS_any A len c left _ h0 h1 hl).mono ?_
  rintro e w1 ⟨r, rfl, hr, b1⟩
  have hb : Below w.heap.size w w1 := ((Below.refl _ _).alloc (Nat.le_refl _) _).trans (b1.mono (by simp))
  rcases hr with rfl | ⟨hr0, hr1⟩
  · go_wp2
    go_ret
    exact ⟨_, rfl, .inl rfl, hb⟩
  · have HR := Lib.hid hr1
    clear hr1
    go_wp2
    go_ret
    exact ⟨_, rfl, .inr ⟨hr0, HR.out⟩, hb⟩

set_option maxHeartbeats 1600000 in
theorem szPartS_any (A : Option Addr) (c : Nat) (ps : List Pt) (left : Int) (w : World) (hr : PRow w w.heap.size A ps) (h0 : 0 ≤ left) (h1 : left ≤ 1048576) (hl : ps.length ≤ 9223372036854775807)
    (hls : ∀ p ∈ ps, p.signs.length ≤ 9223372036854775807) :
    Calls Try.prog 13 #[.slice A ps.length c, .int .i64 left] w (Sized (ps.length + signsIn ps) left w) := by
  by_cases h : (ps.length : Int) ≤ left
  · go_enter Try.func13, Try.ntmps13
    go_wp2
    go_loopw [1, 5] (fun l i wr => ∃ j : Nat, j ≤ ps.length ∧ i = .int .i64 j ∧ l = .int .i64 (left - (ps.length : Int) - (signsIn (ps.take j) : Int)) ∧ 0 ≤ left - (ps.length : Int) - (signsIn (ps.take j) : Int) ∧ Below w.heap.size w wr) (fun _ i _ => ps.length - (intOf i).toNat)
    case atStart => exact ⟨0, Nat.zero_le _, rfl, by simp [signsIn], by simp [signsIn]; omega, Below.refl _ _⟩
    case round =>
      obtain ⟨j, hj, rfl, rfl, hs, hbel⟩ := hrel
      by_cases hlt : j < ps.length
      · obtain ⟨b, off, p, rfl, hb, hp, hc⟩ := hr.at_ hlt
        have hc' := hc.keep (w' := wr) hb (fun _ hq => hbel.cell hq)
        obtain ⟨c0, c1, A', c', c2, _⟩ := hc'
        have HS := Lib.hid (signsIn_snoc hp)
        have hlp := hls p (List.mem_of_getElem? hp)
        have hb1 : left - (ps.length : Int) - (signsIn (ps.take j) : Int) ≤ 1048576 := by omega
        clear hp hc
        generalize hq : left - (ps.length : Int) - (signsIn (ps.take j) : Int) = q at *
        have HQ := Lib.hid hq
        clear hq
        go_wp2_with fail
        refine (szPart_any p.kind p.n A' p.signs.length c' q _ hs hb1 hlp).mono ?_
        rintro e w1 ⟨r, rfl, hr', b1⟩
        rcases hr' with rfl | ⟨hr0, hr1⟩
        · go_wp2
          go_ret
          exact ⟨_, rfl, .inl rfl, hbel.trans (b1.mono hbel.size)⟩
        · have HR := Lib.hid hr1
          clear hr1
          go_wp2
          go_roundw
          case rel =>
            have e1 : r = left - (ps.length : Int) - (signsIn (ps.take (j + 1)) : Int) := by rw [HR.out, HS.out, ← HQ.out]; omega
            exact ⟨j + 1, by omega, by go_num, by rw [e1], by rw [← e1]; exact hr0, hbel.trans (b1.mono hbel.size)⟩
          case measure => simp [intOf]; omega
      · have hke : ps.take j = ps := List.take_of_length_le (by omega)
        rw [hke] at hs ⊢
        go_wp2
        go_ret
        exact ⟨_, rfl, .inr ⟨hs, by omega⟩, hbel⟩
  · have h' : left - (ps.length : Int) < 0 := by omega
    go_enter Try.func13, Try.ntmps13
    go_wp2
    go_ret
    exact ⟨_, rfl, .inl rfl, Below.refl _ _⟩

/-- it answers b, and has made memory alone -/
def Tells (b : Bool) (w : World) (e : Ending) (w' : World) : Prop := e = .returned (.bool b) ∧ Below w.heap.size w w'
theorem says_tells {b : Bool} {w w' : World} {e : Ending} (h : Says b w e w') : Tells b w e w' := by
  obtain ⟨h1, n, rfl⟩ := h
  exact ⟨h1, ⟨rfl, rfl, rfl, Nat.le_refl _, fun _ _ => rfl⟩⟩
/-- equal parts -/
def samePt (p q : Pt) : Bool := p.kind == q.kind && p.n == q.n && sameB p.signs q.signs
theorem samePt_self (p : Pt) : samePt p p = true := by simp [samePt, sameB_self]

set_option maxHeartbeats 800000 in
theorem eqPart_any (p q : Pt) (A A' : Option Addr) (c c' : Nat) (w : World) (hp : Row (Value.int .i64) w w.heap.size A p.signs) (hq : Row (Value.int .i64) w w.heap.size A' q.signs) (h1 : p.signs.length ≤ 4294967296) (h2 : q.signs.length ≤ 4294967296) :
    Calls Try.prog 42 #[.agg #[.int .i64 p.kind, .int .i64 p.n, .slice A p.signs.length c], .agg #[.int .i64 q.kind, .int .i64 q.n, .slice A' q.signs.length c']] w (Tells (samePt p q) w) := by
  obtain ⟨k, n, zs⟩ := p
  obtain ⟨k', n', zs'⟩ := q
  have hbb : ∀ o o' : Obj, Below w.heap.size w ((w.alloc o).alloc o') := fun o o' => ((Below.refl _ _).alloc (Nat.le_refl _) _).alloc (by simp) _
  by_cases hk : k = k'
  · by_cases hn : n = n'
    · cases hs : sameB zs zs'
      all_goals
        have HS := Lib.hid (show samePt ⟨k, n, zs⟩ ⟨k', n', zs'⟩ = sameB zs zs' by unfold samePt; simp [hk, hn])
        have hk1 : (k != k') = false := by simp [hk]
        have hn1 : (n != n') = false := by simp [hn]
        clear hk hn
        go_enter Try.func42, Try.ntmps42
        go_wp2_with fail
        refine (eqIntS_any A A' c c' zs zs' _ ((hp.past_alloc _).past_alloc _) ((hq.past_alloc _).past_alloc _) h1 h2).mono ?_
        intro e w1 hsay
        obtain ⟨rfl, b1⟩ := says_tells hsay
        go_wp2
        go_ret
        refine ⟨ret_bool (by rw [HS.out, hs]), (hbb _ _).trans (b1.mono (by simp; omega))⟩
    · have HS := Lib.hid (show samePt ⟨k, n, zs⟩ ⟨k', n', zs'⟩ = false by unfold samePt; simp [hn])
      have hk1 : (k != k') = false := by simp [hk]
      have hn1 : (n != n') = true := by simp [hn]
      clear hk hn
      go_enter Try.func42, Try.ntmps42
      go_wp2
      go_ret
      exact ⟨ret_bool (by rw [HS.out]), hbb _ _⟩
  · have HS := Lib.hid (show samePt ⟨k, n, zs⟩ ⟨k', n', zs'⟩ = false by unfold samePt; simp [hk])
    have hk1 : (k != k') = true := by simp [hk]
    clear hk
    go_enter Try.func42, Try.ntmps42
    go_wp2
    go_ret
    exact ⟨ret_bool (by rw [HS.out]), hbb _ _⟩

/-- equal lists of parts -/
def samePs : List Pt → List Pt → Bool
  | [], [] => true
  | p :: ps, q :: qs => samePt p q && samePs ps qs
  | _, _ => false
theorem samePs_self : ∀ ps : List Pt, samePs ps ps = true
  | [] => rfl
  | p :: ps => by show (samePt p p && samePs ps ps) = true; rw [samePt_self, samePs_self ps]; rfl
theorem samePs_len : ∀ ps qs : List Pt, samePs ps qs = true → ps.length = qs.length
  | [], [], _ => rfl
  | p :: ps, q :: qs, h => by
    have h' : (samePt p q && samePs ps qs) = true := h
    rw [Bool.and_eq_true] at h'
    rw [List.length_cons, List.length_cons, samePs_len ps qs h'.2]
theorem samePs_at : ∀ (ps qs : List Pt) (k : Nat) (p q : Pt), ps[k]? = some p → qs[k]? = some q → samePt p q = false → samePs ps qs = false
  | [], _, k, p, q, hp, _, _ => by simp at hp
  | _ :: _, [], k, p, q, _, hq, _ => by simp at hq
  | a :: ps, b :: qs, k, p, q, hp, hq, h => by
    show (samePt a b && samePs ps qs) = false
    cases k with
    | zero =>
      simp at hp hq
      subst hp; subst hq
      rw [h]; rfl
    | succ k =>
      rw [samePs_at ps qs k p q (by simpa using hp) (by simpa using hq) h]
      simp
theorem samePs_snoc : ∀ (ps qs : List Pt) (k : Nat) (p q : Pt), ps[k]? = some p → qs[k]? = some q → samePt p q = true → samePs (ps.take k) (qs.take k) = true → samePs (ps.take (k + 1)) (qs.take (k + 1)) = true
  | [], _, k, p, q, hp, _, _, _ => by simp at hp
  | _ :: _, [], k, p, q, _, hq, _, _ => by simp at hq
  | a :: ps, b :: qs, k, p, q, hp, hq, h, ht => by
    cases k with
    | zero =>
      simp at hp hq
      subst hp; subst hq
      show (samePt a b && samePs (ps.take 0) (qs.take 0)) = true
      rw [h]; rfl
    | succ k =>
      have ht' : (samePt a b && samePs (ps.take k) (qs.take k)) = true := ht
      rw [Bool.and_eq_true] at ht'
      show (samePt a b && samePs (ps.take (k + 1)) (qs.take (k + 1))) = true
      rw [ht'.1, samePs_snoc ps qs k p q (by simpa using hp) (by simpa using hq) h ht'.2]
      rfl

set_option maxHeartbeats 1600000 in
theorem eqPartS_any (A B : Option Addr) (c d : Nat) (ps qs : List Pt) (w : World) (hx : PRow w w.heap.size A ps) (hy : PRow w w.heap.size B qs)
    (hl : ps.length ≤ 4294967296) (hl2 : qs.length ≤ 4294967296) (hs : ∀ p ∈ ps, p.signs.length ≤ 4294967296) (hs2 : ∀ p ∈ qs, p.signs.length ≤ 4294967296) :
    Calls Try.prog 17 #[.slice A ps.length c, .slice B qs.length d] w (Tells (samePs ps qs) w) := by
  by_cases hlen : ps.length = qs.length
  · have HL := Lib.hid hlen
    have hb : ((ps.length : Int) != (qs.length : Int)) = false := by simp [hlen]
    clear hlen
    go_enter Try.func17, Try.ntmps17
    go_wp2
    go_loopw [5] (fun i wr => ∃ k : Nat, k ≤ ps.length ∧ i = .int .i64 k ∧ samePs (ps.take k) (qs.take k) = true ∧ Below w.heap.size w wr) (fun i _ => ps.length - (intOf i).toNat)
    case atStart => exact ⟨0, Nat.zero_le _, rfl, rfl, Below.refl _ _⟩
    case round =>
      obtain ⟨k, hk, rfl, ht, hbel⟩ := hrel
      have HT := Lib.hid ht
      clear ht
      by_cases hlt : k < ps.length
      · have hlt2 : k < qs.length := by have := HL.out; omega
        obtain ⟨b1, o1, p, rfl, hb1, hp, hc1⟩ := hx.at_ hlt
        obtain ⟨b2, o2, q, rfl, hb2, hq, hc2⟩ := hy.at_ (k := k) hlt2
        obtain ⟨x0, x1, A1, e1, x2, r1⟩ := hc1.keep (w' := wr) hb1 (fun _ hq => hbel.cell hq)
        obtain ⟨y0, y1, A2, e2, y2, r2⟩ := hc2.keep (w' := wr) hb2 (fun _ hq => hbel.cell hq)
        have hsp := hs p (List.mem_of_getElem? hp)
        have hsq := hs2 q (List.mem_of_getElem? hq)
        have HP := Lib.hid hp
        have HQ := Lib.hid hq
        clear hp hq hc1 hc2
        cases hsame : samePt p q
        · go_wp2
          go_region_with (go_at_call 42; refine (eqPart_any p q A1 A2 e1 e2 _ (by exact r1.more hbel.size) (by exact r2.more hbel.size) hsp hsq).mono ?_; rintro e w2 ⟨rfl, b2⟩)
          all_goals
            go_wp2
            go_ret
            exact ⟨ret_bool (by rw [samePs_at ps qs k p q HP.out HQ.out hsame]), hbel.drew.trans (b2.mono hbel.size)⟩
        · go_wp2
          go_region_with (go_at_call 42; refine (eqPart_any p q A1 A2 e1 e2 _ (by exact r1.more hbel.size) (by exact r2.more hbel.size) hsp hsq).mono ?_; rintro e w2 ⟨rfl, b2⟩)
          all_goals
            go_wp2
            go_roundw
            case rel => exact ⟨k + 1, by omega, by go_num, samePs_snoc ps qs k p q HP.out HQ.out hsame HT.out, hbel.drew.trans (b2.mono hbel.size)⟩
            case measure => simp [intOf]; omega
      · have H := Lib.hid (show samePs ps qs = true by have := HT.out; rwa [List.take_of_length_le (by omega), List.take_of_length_le (by have := HL.out; omega)] at this)
        go_wp2
        go_ret
        exact ⟨ret_bool (by rw [H.out]), hbel⟩
  · have hb : ((ps.length : Int) != (qs.length : Int)) = true := by simp; omega
    have H := Lib.hid (show samePs ps qs = false by cases h : samePs ps qs; rfl; exact absurd (samePs_len ps qs h) hlen)
    clear hlen
    go_enter Try.func17, Try.ntmps17
    go_wp2
    go_ret
    exact ⟨ret_bool (by rw [H.out]), Below.refl _ _⟩
end Go.Proofs.Ytemhhjagdfkmfaa.low
