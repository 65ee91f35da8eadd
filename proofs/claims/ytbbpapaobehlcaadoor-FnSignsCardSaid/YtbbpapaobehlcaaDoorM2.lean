/-
  Texts that the proofs over this seat rest on, one behind the other (2 of 5).
-/
import Derived.Test.YtbbpapaobehlcaaDoorM1
import Derived.Lib.OthersKept
import Derived.WalkSmall
import Derived.Shelf.Strings.Builder1
import Derived.Shelf.Strings.Builder2
import Derived.Shelf.Strings.OnBuilder
import Derived.Shelf.Strconv.Atoi
import Derived.Shelf.Strconv.Itoa0
import Derived.Shelf.Strconv.Itoa1
import Derived.Shelf.LaysM
import Derived.Shelf.Strconv.Itoa2
import Derived.Shelf.Strconv.Itoa3
import Derived.Shelf.Strconv.AtoiErrFast
import Derived.Shelf.Strconv.ParseIntEmpty
import Derived.Shelf.Strconv.AtoiFail
import Derived.Shelf.Strconv.Clone
import Derived.Shelf.Strconv.SyntaxError
import Derived.Shelf.LaysC
import Derived.Shelf.Strconv.ToError
import Derived.Shelf.Strconv.Lower
import Derived.Shelf.Strconv.ParseUint10
import Derived.Shelf.Strconv.ParseUint10Empty
import Derived.Shelf.Strconv.ParseUint10Any
import Derived.Shelf.Strconv.ParseInt10
import Derived.Shelf.Strconv.AtoiLong
import Derived.Shelf.Strconv.AtoiInnerAll
import Derived.Shelf.Strconv.RangeError
import Derived.Shelf.Strconv.ToErrorRange
import Derived.Shelf.Strconv.AtoiAll
import Derived.Shelf.Strconv.ErrVarAll
import Derived.Test.YtbbpapaobehlcaaDoorProg
import Derived.Laws.Concat
import Derived.Deep.RegionWith
import Derived.Lib.ItoaMem
import Derived.Lib.AtoiErrMem
import Derived.Deep.RegionLaw
import Derived.StillTailTactics

/-
  Contracts of spec.Signs and impl.Signs: the characters of a string and true, or nothing and false where a byte belongs to no whole encoding.
-/
namespace Go.Proofs.YtbbpapaobehlcaaDoor.low
open Go.RowKit
set_option linter.unusedVariables false

def runesAt (s : ByteArray) : Nat → Nat → List Int
  | 0, _ => []
  | f + 1, p => if p < s.size then ((Utf8.decode s p).1 : Int) :: runesAt s f (p + (Utf8.decode s p).2) else []
def okFrom (s : ByteArray) : Nat → Nat → Bool
  | 0, _ => true
  | f + 1, p => if p < s.size then okAt s p && okFrom s f (p + (Utf8.decode s p).2) else true
/-- all characters of s; whether all are whole -/
def runesOf (s : ByteArray) : List Int := runesAt s s.size 0
def okS (s : ByteArray) : Bool := okFrom s s.size 0
def signsOf (s : ByteArray) : List Int := if okS s = true then runesOf s else []

theorem runesAt_end (s : ByteArray) (b p : Nat) (h : ¬ p < s.size) : runesAt s b p = [] := by
  cases b with
  | zero => rfl
  | succ b => show (if _ then _ else _) = _; rw [if_neg h]
theorem okFrom_end (s : ByteArray) (b p : Nat) (h : ¬ p < s.size) : okFrom s b p = true := by
  cases b with
  | zero => rfl
  | succ b => show (if _ then _ else _) = _; rw [if_neg h]
theorem runesAt_step (s : ByteArray) (b p : Nat) (h : p < s.size) : runesAt s (b + 1) p = ((Utf8.decode s p).1 : Int) :: runesAt s b (p + (Utf8.decode s p).2) := by
  show (if _ then _ else _) = _; rw [if_pos h]
theorem okFrom_step (s : ByteArray) (b p : Nat) (h : p < s.size) : okFrom s (b + 1) p = (okAt s p && okFrom s b (p + (Utf8.decode s p).2)) := by
  show (if _ then _ else _) = _; rw [if_pos h]

theorem all_runes (s : ByteArray) : ∀ b p, allB (runesAt s b p) = true := by
  intro b
  induction b with
  | zero => intro p; rfl
  | succ b ih =>
    intro p
    by_cases h : p < s.size
    · rw [runesAt_step s b p h]; unfold allB; rw [List.all_cons, dec_sign]; exact ih _
    · rw [runesAt_end s _ p h]; rfl
theorem enc_runes (s : ByteArray) : ∀ b p, s.size ≤ p + b → okFrom s b p = true → encL (runesAt s b p) = (numsOf s).drop p := by
  intro b
  induction b with
  | zero => intro p h _; rw [List.drop_of_length_le (by rw [numsOf_len]; omega)]; rfl
  | succ b ih =>
    intro p h hok
    by_cases hp : p < s.size
    · rw [okFrom_step s b p hp, Bool.and_eq_true] at hok
      have hw := dec_width s p hp
      rw [runesAt_step s b p hp, dec_enc s p hp hok.1, ← ih _ (by omega) hok.2]
      rfl
    · rw [runesAt_end s _ p hp, List.drop_of_length_le (by rw [numsOf_len]; omega)]; rfl
theorem encL_cons (z : Int) (zs : List Int) : encL (z :: zs) = encI z ++ encL zs := rfl
theorem len_runes (s : ByteArray) : ∀ b p, s.size ≤ p + b → s.size ≤ p + (encL (runesAt s b p)).length ∧ (okFrom s b p = false → s.size < p + (encL (runesAt s b p)).length) := by
  intro b
  induction b with
  | zero => intro p h; exact ⟨by omega, fun h => by cases h⟩
  | succ b ih =>
    intro p h
    by_cases hp : p < s.size
    · have hw := dec_width s p hp
      have hi := ih (p + (Utf8.decode s p).2) (by omega)
      rw [runesAt_step s b p hp, okFrom_step s b p hp, encL_cons, List.length_append]
      cases hok : okAt s p
      · have e := okAt_f hok
        have e1 : (Utf8.decode s p).1 = 65533 := by rw [e]
        have e2 : (Utf8.decode s p).2 = 1 := by rw [e]
        rw [e1, e2, encI_len3 (by omega) (by omega)]
        rw [e2] at hi
        exact ⟨by omega, fun _ => by omega⟩
      · have he := congrArg List.length (dec_enc s p hp hok)
        rw [List.length_append, List.length_drop, List.length_drop, numsOf_len] at he
        refine ⟨by omega, fun hf => ?_⟩
        have := hi.2 (by simpa using hf)
        omega
    · rw [okFrom_end s _ p hp]
      exact ⟨by omega, fun h => by cases h⟩
theorem bytes_runes_t {s : ByteArray} (h : okS s = true) : bytesOf (runesOf s) = s := by
  unfold runesOf okS at *
  rw [bytesOf_t (all_runes s _ _), enc_runes s _ _ (by omega) h, List.drop_zero, strOfNums_numsOf]
theorem bytes_runes_f {s : ByteArray} (h : okS s = false) : s.size < (bytesOf (runesOf s)).size := by
  unfold runesOf okS at *
  rw [bytesOf_t (all_runes s _ _), strOfNums_size]
  have := (len_runes s s.size 0 (by omega)).2 h
  omega
theorem signsOf_t {s : ByteArray} (h : okS s = true) : signsOf s = runesOf s := by unfold signsOf; rw [if_pos h]
theorem signsOf_f {s : ByteArray} (h : okS s = false) : signsOf s = [] := by unfold signsOf; rw [h]; rfl

def SignsPost (s : ByteArray) (w : World) (e : Ending) (w' : World) : Prop :=
  ∃ v, e = .returned (.tuple #[v, .bool (okS s)]) ∧ IBuf w.heap.size w' v (signsOf s) ∧ Below w.heap.size w w'
theorem signs_t {s : ByteArray} {v : Value} {w w' : World} (h : okS s = true) (hb : IBuf w.heap.size w' v (runesOf s)) (hbel : Below w.heap.size w w') : SignsPost s w (.returned (.tuple #[v, .bool true])) w' :=
  ⟨v, by rw [h], by rw [signsOf_t h]; exact hb, hbel⟩
theorem signs_f {s : ByteArray} {w w' : World} (h : okS s = false) (hbel : Below w.heap.size w w') : SignsPost s w (.returned (.tuple #[.slice none 0 0, .bool false])) w' :=
  ⟨_, by rw [h], by rw [signsOf_f h]; exact IBuf.nil _ _ hbel.size, hbel⟩
theorem getR_ok {s : ByteArray} {p : Nat} (h : okAt s p = true) : getR s p = (((Utf8.decode s p).1 : Int), ((Utf8.decode s p).2 : Int)) := by unfold getR; rw [if_pos h]

/-- how far a loop has come -/
def Come (s : ByteArray) (p : Nat) (acc : List Int) : Prop := ∃ b, acc ++ runesAt s b p = runesOf s ∧ okFrom s b p = okS s ∧ s.size ≤ p + b ∧ acc.length ≤ p ∧ p ≤ s.size
theorem come_0 (s : ByteArray) : Come s 0 [] := ⟨s.size, rfl, rfl, by omega, Nat.le_refl _, by omega⟩
theorem come_bd {s : ByteArray} {p : Nat} {acc : List Int} (h : Come s p acc) : acc.length ≤ p ∧ p ≤ s.size := by obtain ⟨b, _, _, _, h4, h5⟩ := h; exact ⟨h4, h5⟩
theorem come_bad {s : ByteArray} {p : Nat} {acc : List Int} (h : Come s p acc) (hp : p < s.size) (ho : okAt s p = false) : okS s = false := by
  obtain ⟨b, _, h2, h3, _⟩ := h
  cases b with
  | zero => omega
  | succ b => rw [← h2, okFrom_step s b p hp, ho]; rfl
theorem come_end {s : ByteArray} {p : Nat} {acc : List Int} (h : Come s p acc) (hp : ¬ p < s.size) : acc = runesOf s ∧ okS s = true := by
  obtain ⟨b, h1, h2, h3, _⟩ := h
  rw [runesAt_end s b p hp, List.append_nil] at h1
  rw [okFrom_end s b p hp] at h2
  exact ⟨h1, h2.symm⟩
theorem come_step {s : ByteArray} {p : Nat} {acc : List Int} (h : Come s p acc) (hp : p < s.size) (ho : okAt s p = true) : Come s (p + (Utf8.decode s p).2) (acc ++ [((Utf8.decode s p).1 : Int)]) := by
  obtain ⟨b, h1, h2, h3, h4, h5⟩ := h
  have hw := dec_width s p hp
  cases b with
  | zero => omega
  | succ b =>
    rw [runesAt_step s b p hp] at h1
    rw [okFrom_step s b p hp, ho, Bool.true_and] at h2
    refine ⟨b, by rw [List.append_assoc]; exact h1, h2, by omega, by simp; omega, by omega⟩

/-- how far the range has come: every character counts, whole or not -/
def Ran (s : ByteArray) (p : Nat) (acc : List Int) : Prop := ∃ b, acc ++ runesAt s b p = runesOf s ∧ s.size ≤ p + b ∧ acc.length ≤ p ∧ p ≤ s.size
theorem ran_0 (s : ByteArray) : Ran s 0 [] := ⟨s.size, rfl, by omega, Nat.le_refl _, by omega⟩
theorem ran_bd {s : ByteArray} {p : Nat} {acc : List Int} (h : Ran s p acc) : acc.length ≤ p ∧ p ≤ s.size := by obtain ⟨b, _, _, h4, h5⟩ := h; exact ⟨h4, h5⟩
theorem ran_end {s : ByteArray} {p : Nat} {acc : List Int} (h : Ran s p acc) (hp : ¬ p < s.size) : acc = runesOf s := by
  obtain ⟨b, h1, _⟩ := h
  rwa [runesAt_end s b p hp, List.append_nil] at h1
theorem ran_step {s : ByteArray} {p : Nat} {acc : List Int} (h : Ran s p acc) (hp : p < s.size) : Ran s (p + (Utf8.decode s p).2) (acc ++ [((Utf8.decode s p).1 : Int)]) := by
  obtain ⟨b, h1, h3, h4, h5⟩ := h
  have hw := dec_width s p hp
  cases b with
  | zero => omega
  | succ b =>
    rw [runesAt_step s b p hp] at h1
    exact ⟨b, by rw [List.append_assoc]; exact h1, by omega, by simp; omega, by omega⟩
theorem dec_bd (s : ByteArray) (p : Nat) : (Utf8.decode s p).1 ≤ 1114111 := by
  have := of_signB (dec_sign s p)
  omega
theorem str_ne {a s : ByteArray} (h : s.size < a.size) : (a.toList == s.toList) = false := by
  rw [beq_eq_false_iff_ne]
  intro e
  rw [ByteArray.toList_eq, ByteArray.toList_eq] at e
  have h1 := congrArg List.length e
  have h2 : a.size = s.size := h1
  omega
theorem iter_keep {w w3 : World} {o ob : Obj} {row : Option Nat} {k : Nat} (h : w.heap[k]? = some ob) (hg : (w.alloc o).grownBy w3 row) (hr : ¬ some k = row) : w3.heap[k]? = some ob := by
  have hlt : k < w.heap.size := by
    rcases Nat.lt_or_ge k w.heap.size with hlt | hge
    · exact hlt
    · rw [Array.getElem?_eq_none hge] at h; cases h
  rw [hg.block k (by simp; omega) hr]
  exact (Below.heap_alloc _ _ _ hlt).trans h
set_option maxRecDepth 100000 in
set_option maxHeartbeats 1600000 in
theorem implSigns_any (s : ByteArray) (w : World) (hs : s.size ≤ 1048576) :
    Calls Tryd.prog 25 #[.string s] w (SignsPost s w) := by
  obtain ⟨i0, hi0, hz0, hz1, hz2⟩ := info_parts int_info
  go_enter Tryd.func25, Tryd.ntmps25
  go_wp2
  go_loopw [4] (fun v wr => ∃ (p : Nat) (acc : List Int), wr.heap[w.heap.size]? = some (.stringIter s p) ∧ IBuf (w.heap.size + 1) wr v acc ∧ Below w.heap.size w wr ∧ Ran s p acc) (fun _ wr => s.size - wr.iterPos w.heap.size)
  case atStart => exact ⟨0, [], heap_alloc_new w _, IBuf.nil _ _ (by show _ ≤ (w.heap.push _).size; rw [Array.size_push]; exact Nat.le_refl _), (Below.refl _ _).alloc (Nat.le_refl _) _, ran_0 s⟩
  case round =>
    obtain ⟨p, acc, hit, hb, hbel, hran⟩ := hrel
    have hbd := ran_bd hran
    have hbd1 := hbd.1
    have hbd2 := hbd.2
    clear hbd
    by_cases hp : p < s.size
    · have hnx : ∀ ty, (Instr.next (.pointer (some ⟨w.heap.size, 0, none⟩)) true ty).run Tryd.prog wr = _ := fun ty => Lib.run_next_any_at wr w.heap.size s p ty hit hp
      have hst := ran_step hran hp
      have hw := dec_width s p hp
      have hzb := dec_bd s p
      have hb2 := hb.iterAt (s := s) (Nat.lt_succ_self _) (p + (Utf8.decode s p).2)
      have hit2 := Lib.iterAt_heap wr w.heap.size s p (p + (Utf8.decode s p).2) hit
      have hbel2 := Lib.below_iterAt hbel (Nat.le_refl _) s (p + (Utf8.decode s p).2)
      have HP := Lib.hid (iterPos_of hit)
      clear hran
      generalize (Utf8.decode s p).1 = z at *
      generalize (Utf8.decode s p).2 = k at *
      have hk1 := hw.1
      clear hw
      have HIT := Lib.hid hit2
      clear hit hit2
      go_wp2_with (at_builtin; refine wpList_append_own _ rfl (.tmp 12) (.tmp 15) 23 rfl (w.heap.size + 1) 3 i0 (.int .i64 0) 1 8 Tryd.underlying23 hi0 hz0 hz1 hz2 rfl (by decide) _ acc.length (acc.map (Value.int .i64)) rfl (hb2.alloc _).1 ⟨(wr.iterAt w.heap.size s (p + k)).heap.size, 0, none⟩ 1 1 ([(z : Int)].map (Value.int .i64)) rfl rfl (new_cells _ _ _) (ints_oneCell _ _) (by unfold maxLen; omega) (by omega) (hb2.alloc _).2 ?_; intro v' w3 ho hg _)
      go_roundw
      case rel =>
        have hit3 : w3.heap[w.heap.size]? = some (.stringIter s (p + k)) := iter_keep HIT.out hg (fun e => absurd (hb2.own _ e.symm) (by omega))
        exact ⟨p + k, acc ++ [(z : Int)], hit3, ibuf_of rfl ho hg (hb2.alloc _), (hbel2.alloc (Nat.le_trans (Nat.le_succ _) hb2.2) _).grown hg (Nat.le_trans (Nat.le_succ _) (hb2.alloc _).2) (fun k e => Nat.le_trans (Nat.le_succ _) (hb2.own k e)), hst⟩
      case measure =>
        have hit3 : w3.heap[w.heap.size]? = some (.stringIter s (p + k)) := iter_keep HIT.out hg (fun e => absurd (hb2.own _ e.symm) (by omega))
        rw [HP.out, iterPos_of hit3]
        omega
    · have hnx : ∀ ty, (Instr.next (.pointer (some ⟨w.heap.size, 0, none⟩)) true ty).run Tryd.prog wr = _ := fun ty => Lib.run_next_end_at wr w.heap.size s p ty hit hp
      have he := ran_end hran hp
      clear hran hit
      subst he
      obtain ⟨A, c, rfl, hrow⟩ := hb.slice
      cases hok : okS s
      · have HF := Lib.hid hok
        have hlt := str_ne (bytes_runes_f hok)
        clear hok
        go_wp2_with fail
        refine (implBytes_any A c (runesOf s) _ hrow (by omega)).mono ?_
        rintro e w2 ⟨rfl, b2⟩
        go_wp2
        go_ret2
        exact signs_f HF.out (hbel.trans (b2.mono hbel.size))
      · have HO := Lib.hid hok
        have HB := Lib.hid (bytes_runes_t hok)
        clear hok
        go_wp2_with fail
        refine (implBytes_any A c (runesOf s) _ hrow (by omega)).mono ?_
        rintro e w2 ⟨rfl, b2⟩
        rw [HB.out]
        have hb2 := hb.past b2
        go_wp2
        go_ret2
        exact signs_t HO.out (hb2.lower (Nat.le_succ _)) (hbel.trans (b2.mono hbel.size))
theorem runes_len (s : ByteArray) : ∀ b p, p ≤ s.size → (runesAt s b p).length ≤ s.size - p := by
  intro b
  induction b with
  | zero => intro p _; exact Nat.zero_le _
  | succ b ih =>
    intro p h
    by_cases hp : p < s.size
    · have hw := dec_width s p hp
      have := ih (p + (Utf8.decode s p).2) (by omega)
      rw [runesAt_step s b p hp, List.length_cons]
      omega
    · rw [runesAt_end s _ p hp]; exact Nat.zero_le _
theorem signs_len (s : ByteArray) : (signsOf s).length ≤ s.size := by
  cases h : okS s
  · rw [signsOf_f h]; exact Nat.zero_le _
  · rw [signsOf_t h]; exact runes_len s s.size 0 (by omega)
end Go.Proofs.YtbbpapaobehlcaaDoor.low

/-
  The library's contracts that this seat's proofs use, laid at this seat's translation by the guide's own tool in plain words; no conditions but those in each statement.
-/
namespace Go.Proofs
open Go.Shelf
def Tryd.lays156_ren : Go.Shelf.Ren := ⟨fun | 156 => 59 | 165 => 93 | 166 => 94 | 169 => 95 | 240 => 119 | 241 => 120 | 276 => 134 | 277 => 135 | n => n, fun | 31 => 72 | 9 => 9 | 3 => 3 | 4 => 4 | 0 => 0 | 20 => 20 | 72 => 107 | 76 => 90 | 70 => 105 | 37 => 22 | 75 => 89 | 127 => 128 | 164 => 143 | 5 => 5 | 80 => 108 | n => n, fun | n => n⟩
theorem Tryd.lays156 : Go.Proofs.Lays.n156 Tryd.prog Tryd.lays156_ren := {
  mixed := by kernel_rfl
  f156 := Tryd.func59.trans (congrArg some (by kernel_rfl))
  f165 := Tryd.func93.trans (congrArg some (by kernel_rfl))
  f166 := Tryd.func94.trans (congrArg some (by kernel_rfl))
  f169 := Tryd.func95.trans (congrArg some (by kernel_rfl))
  f240 := Tryd.func119.trans (congrArg some (by kernel_rfl))
  f241 := Tryd.func120.trans (congrArg some (by kernel_rfl))
  f276 := Tryd.func134.trans (congrArg some (by kernel_rfl))
  f277 := Tryd.func135.trans (congrArg some (by kernel_rfl))
  t0 := Tryd.underlying0
  a0 := Tryd.isAgg0
  z0 := Tryd.sizeOf0
  v0 := Tryd.zeroValue0
  t3 := Tryd.underlying3
  a3 := Tryd.isAgg3
  z3 := Tryd.sizeOf3
  v3 := Tryd.zeroValue3
  t4 := Tryd.underlying4
  a4 := Tryd.isAgg4
  z4 := Tryd.sizeOf4
  v4 := Tryd.zeroValue4
  t9 := Tryd.underlying9
  a9 := Tryd.isAgg9
  z9 := Tryd.sizeOf9
  v9 := Tryd.zeroValue9
  t20 := Tryd.underlying20
  a20 := Tryd.isAgg20
  z20 := Tryd.sizeOf20
  v20 := Tryd.zeroValue20
  t31 := Tryd.underlying72
  a31 := Tryd.isAgg72
  z31 := Tryd.sizeOf72
  v31 := Tryd.zeroValue72
  t37 := Tryd.underlying22
  a37 := Tryd.isAgg22
  z37 := Tryd.sizeOf22
  v37 := Tryd.zeroValue22
  t70 := Tryd.underlying105
  a70 := Tryd.isAgg105
  z70 := Tryd.sizeOf105
  v70 := Tryd.zeroValue105
  t72 := Tryd.underlying107
  a72 := Tryd.isAgg107
  z72 := Tryd.sizeOf107
  v72 := Tryd.zeroValue107
  t75 := Tryd.underlying89
  a75 := Tryd.isAgg89
  z75 := Tryd.sizeOf89
  v75 := Tryd.zeroValue89
  t76 := Tryd.underlying90
  a76 := Tryd.isAgg90
  z76 := Tryd.sizeOf90
  v76 := Tryd.zeroValue90
  t127 := Tryd.underlying128
  a127 := Tryd.isAgg128
  z127 := Tryd.sizeOf128
  v127 := Tryd.zeroValue128
  t164 := Tryd.underlying143
  a164 := Tryd.isAgg143
  z164 := Tryd.sizeOf143
  v164 := Tryd.zeroValue143 }
theorem Tryd.Builder_Extra_156 : Builder.Extra Tryd.prog Tryd.lays156_ren := {
  sizeBuilder := by kernel_rfl
  liesBuilder := by kernel_rfl
  t5 := Tryd.underlying5
  a5 := Tryd.isAgg5
  z5 := Tryd.sizeOf5
  v5 := Tryd.zeroValue5
  infoByte := by kernel_rfl
  cellsByte := by kernel_rfl
  sizeByte := by kernel_rfl
  neB5 := by decide }
open Go.RowKit in
/-- No element: the empty string; the world is as it was. (Whatever the slice's address and capacity: a nil slice too.) (LAID: no walk: one application.) -/
theorem Tryd.strings_Join_none (a : Option Addr) (c : Nat) (sep : ByteArray) (w : World) :
    Calls Tryd.prog 59 #[.slice a 0 c, .string sep] w fun e w' => e = .returned (.string ⟨#[]⟩) ∧ w' = w := Any.strings_Join_none Tryd.lays156 Tryd.Builder_Extra_156 a c sep w
open Go.RowKit in
/-- strings.Join: "Join concatenates the elements of its first argument to create a single string. The separator string sep is placed between elements in the resulting string.": HOWEVER MANY ELEMENTS. Below the heap's end the world is as it was. (LAID: no walk: one application.) -/
theorem Tryd.strings_Join (bk o c : Nat) (xs : List ByteArray) (sep : ByteArray) (w : World) (hcells : ∀ (j : Nat) x, xs[j]? = some x → w.cell? ⟨bk, o + j, none⟩ = some (.string x)) (hbk : bk < w.heap.size) (hN : xs.length ≤ 140737488355328) (hcap : xs.length ≤ c) (hlen : (Lib.join (xs.map (·.data.toList)) sep.data.toList).length ≤ 140737488355328) :
    Calls Tryd.prog 59 #[.slice (some ⟨bk, o, none⟩) xs.length c, .string sep] w fun e w' => e = .returned (.string ⟨(Lib.join (xs.map (·.data.toList)) sep.data.toList).toArray⟩) ∧ Below w.heap.size w w' := Any.strings_Join Tryd.lays156 Tryd.Builder_Extra_156 bk o c xs sep w hcells hbk hN hcap hlen
def Tryd.laysM171_ren : Go.Shelf.Ren := ⟨fun | 171 => 72 | 243 => 106 | 246 => 128 | 283 => 138 | 284 => 139 | 285 => 140 | 286 => 141 | 129 => 145 | 317 => 144 | 318 => 146 | 319 => 147 | 320 => 148 | 337 => 149 | 338 => 150 | n => n, fun | 3 => 3 | 9 => 9 | 2 => 2 | 4 => 4 | 171 => 152 | 0 => 0 | 53 => 146 | 37 => 22 | 5 => 5 | 173 => 155 | 212 => 162 | 51 => 163 | 20 => 20 | 213 => 164 | 46 => 132 | 232 => 167 | 233 => 168 | n => n, fun | 17 => 3 | 18 => 4 | 19 => 5 | n => n⟩
theorem Tryd.laysM171 : Go.Proofs.LaysM.n171 Tryd.prog Tryd.laysM171_ren := {
  mixed := by kernel_rfl
  f129 := Tryd.func145.trans (congrArg some (by kernel_rfl))
  f171 := Tryd.func72.trans (congrArg some (by kernel_rfl))
  f243 := Tryd.func106.trans (congrArg some (by kernel_rfl))
  f246 := Tryd.func128.trans (congrArg some (by kernel_rfl))
  f283 := Tryd.func138.trans (congrArg some (by kernel_rfl))
  f284 := Tryd.func139.trans (congrArg some (by kernel_rfl))
  f285 := Tryd.func140.trans (congrArg some (by kernel_rfl))
  f286 := Tryd.func141.trans (congrArg some (by kernel_rfl))
  f317 := Tryd.func144.trans (congrArg some (by kernel_rfl))
  f318 := Tryd.func146.trans (congrArg some (by kernel_rfl))
  f319 := Tryd.func147.trans (congrArg some (by kernel_rfl))
  f320 := Tryd.func148.trans (congrArg some (by kernel_rfl))
  f337 := Tryd.func149.trans (congrArg some (by kernel_rfl))
  f338 := Tryd.func150.trans (congrArg some (by kernel_rfl))
  t0 := Tryd.underlying0
  a0 := Tryd.isAgg0
  z0 := Tryd.sizeOf0
  v0 := Tryd.zeroValue0
  t2 := Tryd.underlying2
  a2 := Tryd.isAgg2
  z2 := Tryd.sizeOf2
  v2 := Tryd.zeroValue2
  t3 := Tryd.underlying3
  a3 := Tryd.isAgg3
  z3 := Tryd.sizeOf3
  v3 := Tryd.zeroValue3
  t4 := Tryd.underlying4
  a4 := Tryd.isAgg4
  z4 := Tryd.sizeOf4
  v4 := Tryd.zeroValue4
  t5 := Tryd.underlying5
  a5 := Tryd.isAgg5
  z5 := Tryd.sizeOf5
  v5 := Tryd.zeroValue5
  t9 := Tryd.underlying9
  a9 := Tryd.isAgg9
  z9 := Tryd.sizeOf9
  v9 := Tryd.zeroValue9
  t20 := Tryd.underlying20
  a20 := Tryd.isAgg20
  z20 := Tryd.sizeOf20
  v20 := Tryd.zeroValue20
  t37 := Tryd.underlying22
  a37 := Tryd.isAgg22
  z37 := Tryd.sizeOf22
  v37 := Tryd.zeroValue22
  t46 := Tryd.underlying132
  a46 := Tryd.isAgg132
  z46 := Tryd.sizeOf132
  v46 := Tryd.zeroValue132
  t51 := Tryd.underlying163
  a51 := Tryd.isAgg163
  z51 := Tryd.sizeOf163
  v51 := Tryd.zeroValue163
  t53 := Tryd.underlying146
  a53 := Tryd.isAgg146
  z53 := Tryd.sizeOf146
  v53 := Tryd.zeroValue146
  t171 := Tryd.underlying152
  a171 := Tryd.isAgg152
  z171 := Tryd.sizeOf152
  v171 := Tryd.zeroValue152
  t173 := Tryd.underlying155
  a173 := Tryd.isAgg155
  z173 := Tryd.sizeOf155
  v173 := Tryd.zeroValue155
  t212 := Tryd.underlying162
  a212 := Tryd.isAgg162
  z212 := Tryd.sizeOf162
  v212 := Tryd.zeroValue162
  t213 := Tryd.underlying164
  a213 := Tryd.isAgg164
  z213 := Tryd.sizeOf164
  t232 := Tryd.underlying167
  a232 := Tryd.isAgg167
  z232 := Tryd.sizeOf167
  v232 := Tryd.zeroValue167
  t233 := Tryd.underlying168
  a233 := Tryd.isAgg168
  z233 := Tryd.sizeOf168
  v233 := Tryd.zeroValue168
  g17 := by kernel_rfl
  g18 := by kernel_rfl
  g19 := by kernel_rfl
  i0 := by kernel_rfl
  i2 := by kernel_rfl
  i3 := by kernel_rfl
  i4 := by kernel_rfl
  i5 := by kernel_rfl
  i9 := by kernel_rfl
  i20 := by kernel_rfl
  i37 := by kernel_rfl
  i46 := by kernel_rfl
  i51 := by kernel_rfl
  i53 := by kernel_rfl
  i171 := by kernel_rfl
  i173 := by kernel_rfl
  i212 := by kernel_rfl
  i232 := by kernel_rfl
  i233 := by kernel_rfl
  m17 := by kernel_rfl
  m18 := by kernel_rfl
  m19 := by kernel_rfl }
open Go.RowKit Go.Sort Go.Lib in
/-- strconv.Itoa: "Itoa is equivalent to FormatInt(int64(i), 10).": i's DECIMAL NUMERAL ('Lib.itoa': a '-' where i is negative, then the digits), FOR EVERY int. The world behind the call: the world before it, new blocks behind the heap (the library's 'var a [24]byte'), draws. (LAID: no walk: one application.) -/
theorem Tryd.strconv_Itoa (n : Int) (h0 : -9223372036854775808 ≤ n) (h1 : n ≤ 9223372036854775807) (w : World) (htab : Lib.TabIs Tryd.prog w "internal/strconv.uint64pow10" .u64 Lib.pow10Tab) :
    Calls Tryd.prog 72 #[.int .i64 n] w fun e w' => e = .returned (.string ⟨(Lib.itoa n).toArray⟩) ∧ ∃ k os, w' = grow (w.drewN k) os := Any.strconv_Itoa Tryd.laysM171 n h0 h1 w htab
def Tryd.laysM316_ren : Go.Shelf.Ren := ⟨fun | 316 => 133 | n => n, fun | 9 => 9 | 3 => 3 | 4 => 4 | 37 => 22 | 0 => 0 | 127 => 128 | 5 => 5 | n => n, fun | n => n⟩
theorem Tryd.laysM316 : Go.Proofs.LaysM.n316 Tryd.prog Tryd.laysM316_ren := {
  mixed := by kernel_rfl
  f316 := Tryd.func133.trans (congrArg some (by kernel_rfl))
  t0 := Tryd.underlying0
  a0 := Tryd.isAgg0
  z0 := Tryd.sizeOf0
  v0 := Tryd.zeroValue0
  t3 := Tryd.underlying3
  a3 := Tryd.isAgg3
  z3 := Tryd.sizeOf3
  v3 := Tryd.zeroValue3
  t4 := Tryd.underlying4
  a4 := Tryd.isAgg4
  z4 := Tryd.sizeOf4
  v4 := Tryd.zeroValue4
  t9 := Tryd.underlying9
  a9 := Tryd.isAgg9
  z9 := Tryd.sizeOf9
  v9 := Tryd.zeroValue9
  t37 := Tryd.underlying22
  a37 := Tryd.isAgg22
  z37 := Tryd.sizeOf22
  v37 := Tryd.zeroValue22
  t127 := Tryd.underlying128
  a127 := Tryd.isAgg128
  z127 := Tryd.sizeOf128
  v127 := Tryd.zeroValue128
  t5 := Tryd.underlying5
  a5 := Tryd.isAgg5
  z5 := Tryd.sizeOf5
  v5 := Tryd.zeroValue5
  i0 := by kernel_rfl
  i3 := by kernel_rfl
  i4 := by kernel_rfl
  i5 := by kernel_rfl
  i9 := by kernel_rfl
  i37 := by kernel_rfl
  i127 := by kernel_rfl }
open Go.RowKit in
/-- internal/stringslite.Clone (what strings.Clone calls): "Clone returns a fresh copy of s.": THE SAME BYTES. Of what was there nothing has turned (a new row is laid, and frozen, where s is not empty). (LAID: no walk: one application.) -/
theorem Tryd.stringslite_Clone (s : ByteArray) (w : World) (hlim : s.size ≤ 281474976710656) :
    Calls Tryd.prog 133 #[.string s] w fun e w' => e = .returned (.string s) ∧ Below w.heap.size w w' := Any.stringslite_Clone Tryd.laysM316 s w hlim
def Tryd.laysC172_ren : Go.Shelf.Ren := ⟨fun | 172 => 71 | 244 => 104 | 245 => 105 | 247 => 123 | 279 => 124 | 280 => 125 | 281 => 126 | 282 => 127 | 287 => 136 | 316 => 133 | 171 => 72 | 205 => 137 | 321 => 142 | 322 => 143 | 243 => 106 | 246 => 128 | 283 => 138 | 284 => 139 | 285 => 140 | 286 => 141 | 129 => 145 | 317 => 144 | 318 => 146 | 319 => 147 | 320 => 148 | 337 => 149 | 338 => 150 | n => n, fun | 9 => 9 | 3 => 3 | 75 => 89 | 76 => 90 | 4 => 4 | 5 => 5 | 167 => 133 | 37 => 22 | 0 => 0 | 85 => 134 | 2 => 2 | 168 => 136 | 53 => 146 | 175 => 147 | 46 => 132 | 210 => 150 | 127 => 128 | 145 => 160 | 143 => 158 | 21 => 21 | 171 => 152 | 173 => 155 | 212 => 162 | 51 => 163 | 20 => 20 | 213 => 164 | 232 => 167 | 233 => 168 | 80 => 108 | n => n, fun | 15 => 0 | 16 => 1 | 17 => 3 | 18 => 4 | 19 => 5 | n => n⟩
theorem Tryd.laysC172 : Go.Proofs.LaysC.n172 Tryd.prog Tryd.laysC172_ren := {
  mixed := by kernel_rfl
  f129 := Tryd.func145.trans (congrArg some (by kernel_rfl))
  f171 := Tryd.func72.trans (congrArg some (by kernel_rfl))
  f172 := Tryd.func71.trans (congrArg some (by kernel_rfl))
  f205 := Tryd.func137.trans (congrArg some (by kernel_rfl))
  f243 := Tryd.func106.trans (congrArg some (by kernel_rfl))
  f244 := Tryd.func104.trans (congrArg some (by kernel_rfl))
  f245 := Tryd.func105.trans (congrArg some (by kernel_rfl))
  f246 := Tryd.func128.trans (congrArg some (by kernel_rfl))
  f247 := Tryd.func123.trans (congrArg some (by kernel_rfl))
  f279 := Tryd.func124.trans (congrArg some (by kernel_rfl))
  f280 := Tryd.func125.trans (congrArg some (by kernel_rfl))
  f281 := Tryd.func126.trans (congrArg some (by kernel_rfl))
  f282 := Tryd.func127.trans (congrArg some (by kernel_rfl))
  f283 := Tryd.func138.trans (congrArg some (by kernel_rfl))
  f284 := Tryd.func139.trans (congrArg some (by kernel_rfl))
  f285 := Tryd.func140.trans (congrArg some (by kernel_rfl))
  f286 := Tryd.func141.trans (congrArg some (by kernel_rfl))
  f287 := Tryd.func136.trans (congrArg some (by kernel_rfl))
  f316 := Tryd.func133.trans (congrArg some (by kernel_rfl))
  f317 := Tryd.func144.trans (congrArg some (by kernel_rfl))
  f318 := Tryd.func146.trans (congrArg some (by kernel_rfl))
  f319 := Tryd.func147.trans (congrArg some (by kernel_rfl))
  f320 := Tryd.func148.trans (congrArg some (by kernel_rfl))
  f321 := Tryd.func142.trans (congrArg some (by kernel_rfl))
  f322 := Tryd.func143.trans (congrArg some (by kernel_rfl))
  f337 := Tryd.func149.trans (congrArg some (by kernel_rfl))
  f338 := Tryd.func150.trans (congrArg some (by kernel_rfl))
  t0 := Tryd.underlying0
  a0 := Tryd.isAgg0
  z0 := Tryd.sizeOf0
  v0 := Tryd.zeroValue0
  t2 := Tryd.underlying2
  a2 := Tryd.isAgg2
  z2 := Tryd.sizeOf2
  v2 := Tryd.zeroValue2
  t3 := Tryd.underlying3
  a3 := Tryd.isAgg3
  z3 := Tryd.sizeOf3
  v3 := Tryd.zeroValue3
  t4 := Tryd.underlying4
  a4 := Tryd.isAgg4
  z4 := Tryd.sizeOf4
  v4 := Tryd.zeroValue4
  t5 := Tryd.underlying5
  a5 := Tryd.isAgg5
  z5 := Tryd.sizeOf5
  v5 := Tryd.zeroValue5
  t9 := Tryd.underlying9
  a9 := Tryd.isAgg9
  z9 := Tryd.sizeOf9
  v9 := Tryd.zeroValue9
  t20 := Tryd.underlying20
  a20 := Tryd.isAgg20
  z20 := Tryd.sizeOf20
  v20 := Tryd.zeroValue20
  t21 := Tryd.underlying21
  a21 := Tryd.isAgg21
  z21 := Tryd.sizeOf21
  v21 := Tryd.zeroValue21
  t37 := Tryd.underlying22
  a37 := Tryd.isAgg22
  z37 := Tryd.sizeOf22
  v37 := Tryd.zeroValue22
  t46 := Tryd.underlying132
  a46 := Tryd.isAgg132
  z46 := Tryd.sizeOf132
  v46 := Tryd.zeroValue132
  t51 := Tryd.underlying163
  a51 := Tryd.isAgg163
  z51 := Tryd.sizeOf163
  v51 := Tryd.zeroValue163
  t53 := Tryd.underlying146
  a53 := Tryd.isAgg146
  z53 := Tryd.sizeOf146
  v53 := Tryd.zeroValue146
  t75 := Tryd.underlying89
  a75 := Tryd.isAgg89
  z75 := Tryd.sizeOf89
  v75 := Tryd.zeroValue89
  t76 := Tryd.underlying90
  a76 := Tryd.isAgg90
  z76 := Tryd.sizeOf90
  v76 := Tryd.zeroValue90
  t85 := Tryd.underlying134
  a85 := Tryd.isAgg134
  z85 := Tryd.sizeOf134
  v85 := Tryd.zeroValue134
  t127 := Tryd.underlying128
  a127 := Tryd.isAgg128
  z127 := Tryd.sizeOf128
  v127 := Tryd.zeroValue128
  t143 := Tryd.underlying158
  a143 := Tryd.isAgg158
  z143 := Tryd.sizeOf158
  v143 := Tryd.zeroValue158
  t145 := Tryd.underlying160
  a145 := Tryd.isAgg160
  z145 := Tryd.sizeOf160
  v145 := Tryd.zeroValue160
  t167 := Tryd.underlying133
  a167 := Tryd.isAgg133
  z167 := Tryd.sizeOf133
  v167 := Tryd.zeroValue133
  t168 := Tryd.underlying136
  a168 := Tryd.isAgg136
  z168 := Tryd.sizeOf136
  v168 := Tryd.zeroValue136
  t171 := Tryd.underlying152
  a171 := Tryd.isAgg152
  z171 := Tryd.sizeOf152
  v171 := Tryd.zeroValue152
  t173 := Tryd.underlying155
  a173 := Tryd.isAgg155
  z173 := Tryd.sizeOf155
  v173 := Tryd.zeroValue155
  t175 := Tryd.underlying147
  a175 := Tryd.isAgg147
  z175 := Tryd.sizeOf147
  v175 := Tryd.zeroValue147
  t210 := Tryd.underlying150
  a210 := Tryd.isAgg150
  z210 := Tryd.sizeOf150
  v210 := Tryd.zeroValue150
  t212 := Tryd.underlying162
  a212 := Tryd.isAgg162
  z212 := Tryd.sizeOf162
  v212 := Tryd.zeroValue162
  t213 := Tryd.underlying164
  a213 := Tryd.isAgg164
  z213 := Tryd.sizeOf164
  t232 := Tryd.underlying167
  a232 := Tryd.isAgg167
  z232 := Tryd.sizeOf167
  v232 := Tryd.zeroValue167
  t233 := Tryd.underlying168
  a233 := Tryd.isAgg168
  z233 := Tryd.sizeOf168
  v233 := Tryd.zeroValue168
  g15 := by kernel_rfl
  g16 := by kernel_rfl
  g17 := by kernel_rfl
  g18 := by kernel_rfl
  g19 := by kernel_rfl
  t80 := Tryd.underlying108
  a80 := Tryd.isAgg108
  z80 := Tryd.sizeOf108
  v80 := Tryd.zeroValue108
  i0 := by kernel_rfl
  i2 := by kernel_rfl
  i3 := by kernel_rfl
  i4 := by kernel_rfl
  i5 := by kernel_rfl
  i9 := by kernel_rfl
  i20 := by kernel_rfl
  i21 := by kernel_rfl
  i37 := by kernel_rfl
  i46 := by kernel_rfl
  i51 := by kernel_rfl
  i53 := by kernel_rfl
  i75 := by kernel_rfl
  i76 := by kernel_rfl
  i80 := by kernel_rfl
  i85 := by kernel_rfl
  i127 := by kernel_rfl
  i143 := by kernel_rfl
  i145 := by kernel_rfl
  i167 := by kernel_rfl
  i168 := by kernel_rfl
  i171 := by kernel_rfl
  i173 := by kernel_rfl
  i175 := by kernel_rfl
  i210 := by kernel_rfl
  i212 := by kernel_rfl
  i232 := by kernel_rfl
  i233 := by kernel_rfl
  m15 := by kernel_rfl
  m16 := by kernel_rfl
  m17 := by kernel_rfl
  m18 := by kernel_rfl
  m19 := by kernel_rfl
  c0 := by kernel_rfl
  c2 := by kernel_rfl
  c3 := by kernel_rfl
  c4 := by kernel_rfl
  c5 := by kernel_rfl
  c9 := by kernel_rfl
  c20 := by kernel_rfl
  c21 := by kernel_rfl
  c37 := by kernel_rfl
  c46 := by kernel_rfl
  c51 := by kernel_rfl
  c53 := by kernel_rfl
  c75 := by kernel_rfl
  c76 := by kernel_rfl
  c80 := by kernel_rfl
  c85 := by kernel_rfl
  c127 := by kernel_rfl
  c143 := by kernel_rfl
  c145 := by kernel_rfl
  c167 := by kernel_rfl
  c168 := by kernel_rfl
  c171 := by kernel_rfl
  c173 := by kernel_rfl
  c175 := by kernel_rfl
  c210 := by kernel_rfl
  c212 := by kernel_rfl
  c213 := by kernel_rfl
  c232 := by kernel_rfl
  c233 := by kernel_rfl }
open Go.RowKit in
/-- strconv.Atoi, AT EVERY STRING THAT SPELLS AN int ('Lib.atoiAll .. = .ok v'; of whatever length: leading zeros count): v, AND NO ERROR. The world: as it was, or with the one new row that '[]byte(..)' lays. (LAID: no walk: one application.) -/
theorem Tryd.strconv_Atoi_ok (s : ByteArray) (hmax : s.size ≤ 9223372036854775806) (v : Int) (h : Lib.atoiAll s.data.toList = .ok v) (w : World) :
    Calls Tryd.prog 71 #[.string s] w fun e w' => e = .returned (.tuple #[.int .i64 v, .nilIface]) ∧ (w' = w ∨ ∃ t, w' = Lib.bytesWorld w 5 t) := Any.strconv_Atoi_ok Tryd.laysC172 s hmax v h w
end Go.Proofs


/-
  Contracts of spec.l01Split and impl.splitAt: a string cut at every byte of a given value below 128.
-/
namespace Go.Proofs.YtbbpapaobehlcaaDoor.low
open Go.RowKit
set_option linter.unusedVariables false

/-- the pieces from place i on, the current one begun at f -/
def cutsFrom (s : ByteArray) (m : Nat) : Nat → Nat → Nat → List ByteArray
  | 0, i, f => [s.extract f i]
  | n + 1, i, f => if bAt s i = m then s.extract f i :: cutsFrom s m n (i + 1) (i + 1) else cutsFrom s m n (i + 1) f
def cuts (s : ByteArray) (m : Nat) : List ByteArray := cutsFrom s m s.size 0 0
theorem cuts_hit {s : ByteArray} {m i f : Nat} (hi : i < s.size) (h : bAt s i = m) : cutsFrom s m (s.size - i) i f = s.extract f i :: cutsFrom s m (s.size - (i + 1)) (i + 1) (i + 1) := by
  obtain ⟨n, hn⟩ : ∃ n, s.size - i = n + 1 := ⟨s.size - i - 1, by omega⟩
  rw [hn, show s.size - (i + 1) = n by omega]
  show (if _ then _ else _) = _
  rw [if_pos h]
theorem cuts_miss {s : ByteArray} {m i f : Nat} (hi : i < s.size) (h : ¬ bAt s i = m) : cutsFrom s m (s.size - i) i f = cutsFrom s m (s.size - (i + 1)) (i + 1) f := by
  obtain ⟨n, hn⟩ : ∃ n, s.size - i = n + 1 := ⟨s.size - i - 1, by omega⟩
  rw [hn, show s.size - (i + 1) = n by omega]
  show (if _ then _ else _) = _
  rw [if_neg h]
theorem cuts_end {s : ByteArray} {m f : Nat} : cutsFrom s m (s.size - s.size) s.size f = [s.extract f s.size] := by rw [Nat.sub_self]; rfl
theorem cuts_skip {s : ByteArray} {m i f : Nat} : ∀ k, i + k ≤ s.size → (∀ t, t < k → ¬ bAt s (i + t) = m) → cutsFrom s m (s.size - i) i f = cutsFrom s m (s.size - (i + k)) (i + k) f := by
  intro k
  induction k with
  | zero => intro _ _; rfl
  | succ k ih =>
    intro h1 h2
    rw [ih (by omega) (fun t ht => h2 t (by omega)), cuts_miss (by omega) (h2 k (by omega))]
    rfl
theorem cuts_pos (s : ByteArray) (m : Nat) : ∀ n i f, 1 ≤ (cutsFrom s m n i f).length ∧ (cutsFrom s m n i f).length ≤ n + 1 := by
  intro n
  induction n with
  | zero => intro i f; exact ⟨Nat.le_refl _, Nat.le_refl _⟩
  | succ n ih =>
    intro i f
    show 1 ≤ (if _ then _ else _ : List ByteArray).length ∧ (if _ then _ else _ : List ByteArray).length ≤ _
    split
    · rw [List.length_cons]; have := ih (i + 1) (i + 1); omega
    · have := ih (i + 1) f; omega

theorem str_info : (Tryd.prog.info? 9).map (fun i => (i.zero, i.size, i.bytes)) = some (some (.string ByteArray.empty), 1, 16) := by kernel_rfl
theorem strs_oneCell (zs : List ByteArray) : ∀ u ∈ zs.map Value.string, u.oneCell' = true := by
  intro u hu
  obtain ⟨_, _, rfl⟩ := List.mem_map.1 hu
  rfl

/-- v is a row of strings of the caller's own -/
def SBuf (base : Nat) (w : World) (v : Value) (zs : List ByteArray) : Prop := w.ownsRow base 9 1 v zs.length (zs.map Value.string) ∧ base ≤ w.heap.size
theorem SBuf.alloc {base : Nat} {w : World} {v : Value} {bs : List ByteArray} (h : SBuf base w v bs) (o : Obj) : SBuf base (w.alloc o) v bs := ⟨h.1.alloc o, by have := h.2; simp; omega⟩
theorem SBuf.nil (base : Nat) (w : World) (h : base ≤ w.heap.size) : SBuf base w (.slice none 0 0) [] := ⟨World.ownsRow_nil _ _ _ _, h⟩
theorem SBuf.slice {base : Nat} {w : World} {v : Value} {zs : List ByteArray} (h : SBuf base w v zs) : ∃ A c, v = .slice A zs.length c ∧ Row Value.string w w.heap.size A zs := by
  rcases h.1.2 with ⟨rfl, h0⟩ | ⟨g, cap, cur, rfl, _⟩
  · have : zs = [] := List.eq_nil_of_length_eq_zero h0
    subst this
    exact ⟨none, 0, rfl, Row.nil⟩
  · exact ⟨_, cap, rfl, Row.of_own h.1⟩
theorem SBuf.own {base : Nat} {w : World} {v : Value} {zs : List ByteArray} (h : SBuf base w v zs) : ∀ k, v.ownBlock = some k → base ≤ k := by
  intro k hk
  rcases h.1.2 with ⟨rfl, _⟩ | ⟨g, cap, cur, rfl, hge, _⟩
  · simp [Value.ownBlock] at hk
  · simp [Value.ownBlock] at hk; omega
theorem SBuf.lower {base base' : Nat} {w : World} {v : Value} {zs : List ByteArray} (h : SBuf base w v zs) (hb : base' ≤ base) : SBuf base' w v zs := by
  refine ⟨⟨h.1.1, ?_⟩, Nat.le_trans hb h.2⟩
  rcases h.1.2 with hn | ⟨g, cap, cur, hv, hge, hr⟩
  · exact .inl hn
  · exact .inr ⟨g, cap, cur, hv, Nat.le_trans hb hge, hr⟩
theorem SBuf.past {base : Nat} {w w' : World} {v : Value} {zs : List ByteArray} (h : SBuf base w v zs) (hb : Below w.heap.size w w') : SBuf base w' v zs := by
  refine ⟨⟨h.1.1, ?_⟩, Nat.le_trans h.2 hb.size⟩
  rcases h.1.2 with hn | ⟨g, cap, cur, hv, hge, hh, hr⟩
  · exact .inl hn
  · exact .inr ⟨g, cap, cur, hv, hge, (hb.block g (lt_of_some hh)).trans hh, hr⟩
theorem SBuf.iterAt {base k : Nat} {w : World} {v : Value} {zs : List ByteArray} {s : ByteArray} (h : SBuf base w v zs) (hk : k < base) (pos : Nat) : SBuf base (w.iterAt k s pos) v zs := by
  refine ⟨⟨h.1.1, ?_⟩, by rw [Lib.iterAt_size]; exact h.2⟩
  rcases h.1.2 with hn | ⟨g, cap, cur, hv, hge, hh, hr⟩
  · exact .inl hn
  · exact .inr ⟨g, cap, cur, hv, hge, (Lib.iterAt_other w k g s pos (by omega)).trans hh, hr⟩
theorem sbuf_of {base : Nat} {w w' : World} {v v' : Value} {bs : List ByteArray} {z : ByteArray} {xs : List Value} (hx : xs = [z].map Value.string)
    (ho : w'.ownsRow base 9 1 v' (bs.length + 1) (bs.map Value.string ++ xs)) (hg : w.grownBy w' v.ownBlock) (hb : SBuf base w v bs) : SBuf base w' v' (bs ++ [z]) := by
  subst hx
  exact ⟨by simpa using ho, Nat.le_trans hb.2 hg.size⟩
/-- it returns a row of its own that holds these strings -/
def StrsPost (ss : List ByteArray) (w : World) (e : Ending) (w' : World) : Prop := ∃ v, e = .returned v ∧ SBuf w.heap.size w' v ss ∧ Below w.heap.size w w'

def CutTo (s : ByteArray) (m i f : Nat) (acc : List ByteArray) : Prop := f ≤ i ∧ i ≤ s.size ∧ acc.length ≤ i ∧ acc ++ cutsFrom s m (s.size - i) i f = cuts s m

set_option maxRecDepth 100000 in
set_option maxHeartbeats 1600000 in
theorem specSplit_any (s : ByteArray) (m : Nat) (w : World) (hs : s.size ≤ 1048576) :
    Calls Tryd.prog 77 #[.string s, .int .u8 m] w (StrsPost (cuts s m) w) := by
  obtain ⟨i0, hi0, hz0, hz1, hz2⟩ := info_parts str_info
  go_enter Tryd.func77, Tryd.ntmps77
  go_wp2
  go_loopw [5, 6, 7] (fun v f i wr => ∃ (p fr : Nat) (acc : List ByteArray), i = .int .i64 p ∧ f = .int .i64 fr ∧ SBuf w.heap.size wr v acc ∧ Below w.heap.size w wr ∧ (CutTo s m p fr acc ∨ (p = s.size + 1 ∧ acc = cuts s m))) (fun _ _ i _ => s.size + 1 - (intOf i).toNat)
  case atStart =>
    refine ⟨0, 0, [], rfl, rfl, ⟨?_, by simp⟩, (Below.refl _ _).alloc (Nat.le_refl _) _, .inl ⟨Nat.le_refl _, Nat.zero_le _, Nat.le_refl _, rfl⟩⟩
    exact World.ownsRow_lit w #[] 0 (Nat.le_refl _) (Nat.zero_le _) (by simp)
  case round =>
    obtain ⟨p, fr, acc, rfl, rfl, hb, hbel, hst⟩ := hrel
    rcases hst with ⟨h1, h2, h3, h4⟩ | ⟨rfl, rfl⟩
    · have H4 := Lib.hid h4
      clear h4
      by_cases hlt : p < s.size
      · have hpe : ((p : Int) == (s.size : Int)) = false := by simp; omega
        have HB := Lib.hid (bAt_eq s p hlt)
        by_cases hm : bAt s p = m
        · have hmb : ((s[p].toNat : Int) == (m : Int)) = true := by rw [bAt_eq s p hlt, hm]; simp
          have HM := Lib.hid hm
          clear hm
          go_wp2_with (at_builtin; refine wpList_append_own _ rfl (.tmp 26) (.tmp 31) 72 rfl w.heap.size 9 i0 (.string ByteArray.empty) 1 16 Tryd.underlying72 hi0 hz0 hz1 hz2 rfl (by decide) _ acc.length (acc.map Value.string) rfl (hb.alloc _).1 ⟨wr.heap.size, 0, none⟩ 1 1 ([s.extract fr p].map Value.string) rfl rfl (new_cells _ _ _) (strs_oneCell _) (by unfold maxLen; omega) (by omega) (hb.alloc _).2 ?_; intro v' w3 ho hg _)
          go_roundw
          case rel =>
            refine ⟨p + 1, p + 1, acc ++ [s.extract fr p], by go_num, by go_num, sbuf_of rfl ho hg (hb.alloc _), (hbel.alloc hb.2 _).grown hg (hb.alloc _).2 hb.own, .inl ⟨Nat.le_refl _, by omega, by simp; omega, ?_⟩⟩
            rw [← H4.out, cuts_hit hlt HM.out, List.append_assoc]; rfl
          case measure => simp [intOf]; omega
        · have hmb : ((s[p].toNat : Int) == (m : Int)) = false := by rw [bAt_eq s p hlt]; simp; omega
          have HM := Lib.hid hm
          clear hm
          go_wp2
          go_roundw
          case rel => exact ⟨p + 1, fr, acc, by go_num, rfl, hb, hbel, .inl ⟨by omega, by omega, by omega, by rw [← H4.out, cuts_miss hlt HM.out]⟩⟩
          case measure => simp [intOf]; omega
      · obtain rfl : p = s.size := by omega
        have hpe : ((s.size : Int) == (s.size : Int)) = true := by simp
        go_wp2_with (at_builtin; refine wpList_append_own _ rfl (.tmp 26) (.tmp 31) 72 rfl w.heap.size 9 i0 (.string ByteArray.empty) 1 16 Tryd.underlying72 hi0 hz0 hz1 hz2 rfl (by decide) _ acc.length (acc.map Value.string) rfl (hb.alloc _).1 ⟨wr.heap.size, 0, none⟩ 1 1 ([s.extract fr s.size].map Value.string) rfl rfl (new_cells _ _ _) (strs_oneCell _) (by unfold maxLen; omega) (by omega) (hb.alloc _).2 ?_; intro v' w3 ho hg _)
        go_roundw
        case rel =>
          refine ⟨s.size + 1, s.size + 1, acc ++ [s.extract fr s.size], by go_num, by go_num, sbuf_of rfl ho hg (hb.alloc _), (hbel.alloc hb.2 _).grown hg (hb.alloc _).2 hb.own, .inr ⟨rfl, ?_⟩⟩
          rw [← H4.out, cuts_end]
        case measure => simp [intOf]
    · go_wp2
      go_ret
      exact ⟨_, rfl, hb, hbel⟩

theorem clone_any (s : ByteArray) (w : World) (hs : s.size ≤ 4294967296) :
    Calls Tryd.prog 118 #[.string s] w fun e w' => e = .returned (.string s) ∧ Below w.heap.size w w' := by
  go_enter Tryd.func118, Tryd.ntmps118
  go_wp2_with fail
  refine (Tryd.stringslite_Clone s _ (by omega)).mono ?_
  rintro e w' ⟨rfl, hb⟩
  go_wp2
  go_ret
  exact ⟨rfl, hb⟩
theorem extract_le (s : ByteArray) (a b : Nat) : (s.extract a b).size ≤ s.size := by simp; omega
theorem dec_ascii {s : ByteArray} {p : Nat} (h : bAt s p < 128) : Utf8.decode s p = (bAt s p, 1) := by
  rcases dec_cases s p with ⟨h', e⟩ | ⟨h', e⟩ | ⟨h', e⟩ | ⟨h', e⟩ | ⟨h', _, _, _, e⟩
  · exact e
  · have := h'.1; omega
  · have := h'.1; omega
  · have := h'.1; omega
  · omega
theorem below_append {B : Nat} {w wr w2 w3 : World} {o : Obj} {row : Option Nat} (hbel : Below B w wr) (b2 : Below wr.heap.size wr w2) (hg : (w2.alloc o).grownBy w3 row) (hB : B ≤ wr.heap.size) (hr : ∀ k, row = some k → B ≤ k) : Below B w w3 := by
  have h2 : Below B w w2 := hbel.trans (b2.mono hB)
  exact (h2.alloc (Nat.le_trans hB b2.size) o).grown hg (by have := b2.size; simp; omega) hr

set_option maxRecDepth 100000 in
set_option maxHeartbeats 1600000 in
theorem implSplit_any (s : ByteArray) (m : Nat) (w : World) (hs : s.size ≤ 1048576) (hm8 : m < 128) :
    Calls Tryd.prog 92 #[.string s, .int .i32 m] w (StrsPost (cuts s m) w) := by
  obtain ⟨i0, hi0, hz0, hz1, hz2⟩ := info_parts str_info
  go_enter Tryd.func92, Tryd.ntmps92
  go_wp2
  go_loopw [5, 6] (fun v f wr => ∃ (p fr : Nat) (acc : List ByteArray), f = .int .i64 fr ∧ wr.heap[w.heap.size]? = some (.stringIter s p) ∧ SBuf (w.heap.size + 1) wr v acc ∧ Below w.heap.size w wr ∧ CutTo s m p fr acc) (fun _ _ wr => s.size - wr.iterPos w.heap.size)
  case atStart => exact ⟨0, 0, [], rfl, heap_alloc_new w _, SBuf.nil _ _ (by show _ ≤ (w.heap.push _).size; rw [Array.size_push]; exact Nat.le_refl _), (Below.refl _ _).alloc (Nat.le_refl _) _, ⟨Nat.le_refl _, Nat.zero_le _, Nat.le_refl _, rfl⟩⟩
  case round =>
    obtain ⟨p, fr, acc, rfl, hit, hb, hbel, h1, h2, h3, h4⟩ := hrel
    have H4 := Lib.hid h4
    clear h4
    have hB : w.heap.size ≤ wr.heap.size := Nat.le_trans (Nat.le_succ _) hb.2
    by_cases hp : p < s.size
    · have hnx : ∀ ty, (Instr.next (.pointer (some ⟨w.heap.size, 0, none⟩)) true ty).run Tryd.prog wr = _ := fun ty => Lib.run_next_any_at wr w.heap.size s p ty hit hp
      have hw := dec_width s p hp
      have hb2 := hb.iterAt (s := s) (Nat.lt_succ_self _) (p + (Utf8.decode s p).2)
      have hit2 := Lib.iterAt_heap wr w.heap.size s p (p + (Utf8.decode s p).2) hit
      have hbel2 := Lib.below_iterAt hbel (Nat.le_refl _) s (p + (Utf8.decode s p).2)
      have HP := Lib.hid (iterPos_of hit)
      have HIT := Lib.hid hit2
      clear hit hit2
      have hszr : (wr.iterAt w.heap.size s (p + (Utf8.decode s p).2)).heap.size = wr.heap.size := Lib.iterAt_size _ _ _ _
      have HSZR := Lib.hid hszr
      clear hszr
      by_cases hm : bAt s p = m
      · have hd := dec_ascii (s := s) (p := p) (by omega)
        rw [hd] at hnx hb2 hbel2 HIT HSZR
        simp only at hnx hb2 hbel2 HIT HSZR
        have hmb : (((bAt s p : Nat) : Int) == (m : Int)) = true := by rw [hm]; simp
        have HM := Lib.hid hm
        clear hm hd hw
        go_wp2_with fail
        refine (clone_any (s.extract fr p) _ (Nat.le_trans (extract_le _ _ _) (by omega))).mono ?_
        rintro e w2 ⟨rfl, b2⟩
        have hb3 := hb2.past b2
        have hit3 : w2.heap[w.heap.size]? = some (.stringIter s (p + 1)) := (b2.block _ (lt_of_some HIT.out)).trans HIT.out
        have HIT3 := Lib.hid hit3
        clear hit3
        go_wp2_with (at_builtin; refine wpList_append_own _ rfl (.tmp 18) (.tmp 24) 72 rfl (w.heap.size + 1) 9 i0 (.string ByteArray.empty) 1 16 Tryd.underlying72 hi0 hz0 hz1 hz2 rfl (by decide) _ acc.length (acc.map Value.string) rfl (hb3.alloc _).1 ⟨w2.heap.size, 0, none⟩ 1 1 ([s.extract fr p].map Value.string) rfl rfl (new_cells _ _ _) (strs_oneCell _) (by unfold maxLen; omega) (by omega) (hb3.alloc _).2 ?_; intro v' w3 ho hg _)
        have hit4 : w3.heap[w.heap.size]? = some (.stringIter s (p + 1)) := iter_keep HIT3.out hg (fun e => absurd (hb3.own _ e.symm) (by omega))
        have HIT4 := Lib.hid hit4
        clear hit4
        go_wp2
        go_roundw
        case rel =>
          refine ⟨p + 1, p + 1, acc ++ [s.extract fr p], by go_num, HIT4.out, sbuf_of rfl ho hg (hb3.alloc _), below_append hbel2 b2 hg (by rw [HSZR.out]; exact hB) (fun k e => Nat.le_trans (Nat.le_succ _) (hb3.own k e)), Nat.le_refl _, by omega, by simp; omega, ?_⟩
          rw [← H4.out, cuts_hit hp HM.out, List.append_assoc]; rfl
        case measure => rw [HP.out, iterPos_of HIT4.out]; omega
      · have hmb : ((((Utf8.decode s p).1 : Nat) : Int) == (m : Int)) = false := by
          by_cases h8 : bAt s p < 128
          · rw [dec_ascii h8]; simp; omega
          · have := dec_high s p (by omega); simp; omega
        have hsk := cuts_skip (s := s) (m := m) (i := p) (f := fr) (Utf8.decode s p).2 (by omega) (fun t ht => by
          rcases Nat.eq_zero_or_pos t with rfl | h
          · exact hm
          · have := (dec_cont s p t h ht).2; omega)
        have HSK := Lib.hid hsk
        clear hsk hm
        go_wp2
        go_roundw
        case rel => exact ⟨p + (Utf8.decode s p).2, fr, acc, rfl, HIT.out, hb2, hbel2, by omega, by omega, by omega, by rw [← H4.out, HSK.out]⟩
        case measure => rw [HP.out, iterPos_of HIT.out]; omega
    · have hnx : ∀ ty, (Instr.next (.pointer (some ⟨w.heap.size, 0, none⟩)) true ty).run Tryd.prog wr = _ := fun ty => Lib.run_next_end_at wr w.heap.size s p ty hit hp
      obtain rfl : p = s.size := by omega
      clear hit
      go_wp2_with fail
      refine (clone_any (s.extract fr s.size) _ (Nat.le_trans (extract_le _ _ _) (by omega))).mono ?_
      rintro e w2 ⟨rfl, b2⟩
      have hb3 := hb.past b2
      go_wp2_with (at_builtin; refine wpList_append_own _ rfl (.tmp 28) (.tmp 33) 72 rfl (w.heap.size + 1) 9 i0 (.string ByteArray.empty) 1 16 Tryd.underlying72 hi0 hz0 hz1 hz2 rfl (by decide) _ acc.length (acc.map Value.string) rfl (hb3.alloc _).1 ⟨w2.heap.size, 0, none⟩ 1 1 ([s.extract fr s.size].map Value.string) rfl rfl (new_cells _ _ _) (strs_oneCell _) (by unfold maxLen; omega) (by omega) (hb3.alloc _).2 ?_; intro v' w3 ho hg _)
      go_ret
      refine ⟨v', rfl, ?_, below_append hbel b2 hg hB (fun k e => Nat.le_trans (Nat.le_succ _) (hb3.own k e))⟩
      have := sbuf_of rfl ho hg (hb3.alloc _)
      rw [← H4.out, cuts_end]
      exact this.lower (Nat.le_succ _)
end Go.Proofs.YtbbpapaobehlcaaDoor.low


/-
  Contracts of the laws' own eqStringS, markText, markStringS and heldStringS.
-/
namespace Go.Proofs.YtbbpapaobehlcaaDoor.low
open Go.RowKit
set_option linter.unusedVariables false

def sameSB (xs ys : List ByteArray) : Bool := decide (xs = ys)
theorem sameSB_self (xs : List ByteArray) : sameSB xs xs = true := decide_eq_true rfl

/-- the text of a mark: the digits of k, from the last on -/
def digLoop : Nat → Int → ByteArray → ByteArray
  | 0, _, out => out
  | f + 1, k, out => if 0 < k then digLoop f (k / 10) (strOfNums [48 + k % 10] ++ out) else out
def markB (k : Int) : ByteArray := ⟨#[109]⟩ ++ digLoop k.toNat k ByteArray.empty
theorem digLoop_step {f : Nat} {k : Int} {out : ByteArray} (h : 0 < k) : digLoop (f + 1) k out = digLoop f (k / 10) (strOfNums [48 + k % 10] ++ out) := by
  show (if _ then _ else _) = _; rw [if_pos h]
theorem digLoop_end {f : Nat} {k : Int} {out : ByteArray} (h : ¬ 0 < k) : digLoop f k out = out := by
  cases f with
  | zero => rfl
  | succ f => show (if _ then _ else _) = _; rw [if_neg h]

/-- the texts of n marks from k on -/
def marksB (k : Int) (n : Nat) : List ByteArray := (marks k n).map markB
theorem marksB_len (k : Int) (n : Nat) : (marksB k n).length = n := by simp [marksB, marks_len]
theorem marksB_at {k : Int} {n j : Nat} (h : j < n) : (marksB k n)[j]? = some (markB (k + (j : Int))) := by simp [marksB, marks_at h]
def MarkedS (base : Nat) (v : Value) (k : Int) (n : Nat) (w : World) (e : Ending) (w' : World) : Prop :=
  e = .returned (.int .i64 (k + (n : Int))) ∧ SBuf base w' v (marksB k n) ∧ Below base w w'
theorem markS_set {xs : List Value} {k : Int} {j : Nat} (hl : j < xs.length) (hp : ∀ t, t < j → xs[t]? = some (.string (markB (k + (t : Int))))) :
    ∀ t, t < j + 1 → (xs.set j (.string (markB (k + (j : Int)))))[t]? = some (.string (markB (k + (t : Int)))) := by
  intro t ht
  rw [List.getElem?_set]
  by_cases e : j = t
  · subst e; rw [if_pos rfl, if_pos hl]
  · rw [if_neg e]; exact hp t (by omega)
theorem marksS_all {xs : List Value} {k : Int} {n : Nat} (hl : xs.length = n) (hp : ∀ t, t < n → xs[t]? = some (.string (markB (k + (t : Int))))) : xs = (marksB k n).map Value.string := by
  apply List.ext_getElem?
  intro t
  rcases Nat.lt_or_ge t n with h | h
  · rw [hp t h, List.getElem?_map, marksB_at h]; rfl
  · rw [List.getElem?_eq_none (by omega), List.getElem?_eq_none (by rw [List.length_map, marksB_len]; exact h)]
theorem own_past {base n cap g : Nat} {w w' : World} {e : TypeId} {xs : List Value} (h : w.ownsRow base e 1 (.slice (some ⟨g, 0, none⟩) n cap) n xs) (hb : Below w.heap.size w w') : w'.ownsRow base e 1 (.slice (some ⟨g, 0, none⟩) n cap) n xs := by
  refine ⟨h.1, ?_⟩
  rcases h.2 with ⟨hn, _⟩ | ⟨g', cap', cur, hv, hge, hh, hr⟩
  · cases hn
  · exact .inr ⟨g', cap', cur, hv, hge, (hb.block g' (lt_of_some hh)).trans hh, hr⟩

end Go.Proofs.YtbbpapaobehlcaaDoor.low


/-
  Contracts of spec.Cut and impl.Cut (the pieces of a string between its spaces) and of spec.Lines and impl.Lines (its lines).
-/
namespace Go.Proofs.YtbbpapaobehlcaaDoor.low
open Go.RowKit
set_option linter.unusedVariables false

theorem specCut_any (s : ByteArray) (w : World) (hs : s.size ≤ 1048576) : Calls Tryd.prog 85 #[.string s] w (StrsPost (cuts s 32) w) := by
  go_enter Tryd.func85, Tryd.ntmps85
  go_wp2_with fail
  refine (specSplit_any s 32 _ hs).mono ?_
  rintro e w' ⟨v, rfl, h1, h2⟩
  go_wp2
  go_ret
  exact ⟨v, rfl, h1, h2⟩
theorem implCut_any (s : ByteArray) (w : World) (hs : s.size ≤ 1048576) : Calls Tryd.prog 55 #[.string s] w (StrsPost (cuts s 32) w) := by
  go_enter Tryd.func55, Tryd.ntmps55
  go_wp2_with fail
  refine (implSplit_any s 32 _ hs (by omega)).mono ?_
  rintro e w' ⟨v, rfl, h1, h2⟩
  go_wp2
  go_ret
  exact ⟨v, rfl, h1, h2⟩
theorem cuts_len (s : ByteArray) (m : Nat) (hs : s.size ≤ 1048576) : (cuts s m).length ≤ 1048577 := by
  have := (cuts_pos s m s.size 0 0).2
  unfold cuts
  omega

/-- the lines: the pieces between newlines, without a last one that is empty -/
def linesOf (s : ByteArray) : List ByteArray := if (cuts s 10).getLast? = some ByteArray.empty then (cuts s 10).dropLast else cuts s 10
theorem cuts_last (s : ByteArray) (m : Nat) : ∃ ys z, cuts s m = ys ++ [z] := by
  rcases List.eq_nil_or_concat (cuts s m) with h | ⟨ys, z, h⟩
  · have := (cuts_pos s m s.size 0 0).1
    unfold cuts at h
    rw [h] at this
    simp at this
  · exact ⟨ys, z, by rw [h, List.concat_eq_append]⟩
theorem lines_t {s : ByteArray} {ys : List ByteArray} {z : ByteArray} (h : cuts s 10 = ys ++ [z]) (hz : z.size = 0) : linesOf s = ys := by
  have he : z = ByteArray.empty := by apply ByteArray.ext; exact Array.eq_empty_of_size_eq_zero hz
  subst he
  unfold linesOf
  rw [h]
  simp
theorem lines_f {s : ByteArray} {ys : List ByteArray} {z : ByteArray} (h : cuts s 10 = ys ++ [z]) (hz : ¬ z.size = 0) : linesOf s = ys ++ [z] := by
  unfold linesOf
  rw [h, if_neg]
  simp
  rintro rfl
  exact hz rfl
theorem lines_len (s : ByteArray) (hs : s.size ≤ 1048576) : (linesOf s).length ≤ 1048577 := by
  have h := cuts_len s 10 hs
  unfold linesOf
  split
  · simp; omega
  · exact h
theorem sbuf_cell {base g cap : Nat} {w : World} {ys : List ByteArray} {z : ByteArray} (h : SBuf base w (.slice (some ⟨g, 0, none⟩) (ys.length + 1) cap) (ys ++ [z])) : w.cell? ⟨g, ys.length, none⟩ = some (.string z) := by
  have h1 := h.1
  have hy : (ys ++ [z]).length = ys.length + 1 := by simp
  rw [hy] at h1
  rw [World.ownsRow.cellAt (g := g) h1 ys.length (by omega)]
  simp
theorem sbuf_init {base g cap : Nat} {w : World} {ys : List ByteArray} {z : ByteArray} (h : SBuf base w (.slice (some ⟨g, 0, none⟩) (ys.length + 1) cap) (ys ++ [z])) : SBuf base w (.slice (some ⟨g, 0, none⟩) ys.length cap) ys := by
  refine ⟨⟨by simp, ?_⟩, h.2⟩
  rcases h.1.2 with ⟨hn, _⟩ | ⟨g', cap', cur, hv, hge, hh, hnc, hm, hcs, ht⟩
  · cases hn
  · injection hv with e1 e2 e3
    injection e1 with e1
    injection e1 with e1
    subst e1
    subst e3
    refine .inr ⟨g, cap, cur, rfl, hge, hh, by omega, hm, hcs, ?_⟩
    have := congrArg (List.take ys.length) ht
    rw [List.take_take] at this
    simp only [List.map_append, List.length_append, List.length_cons, List.length_nil, Nat.mul_one] at this
    rw [Nat.min_eq_left (by omega), List.take_append_of_le_length (by simp), List.take_of_length_le (l := List.map Value.string ys) (by simp)] at this
    rw [Nat.mul_one]
    exact this
theorem str_full {z : ByteArray} (h : ¬ z.size = 0) : (z.toList == []) = false := by
  rw [beq_eq_false_iff_ne]
  intro e
  rw [ByteArray.toList_eq] at e
  have h1 := congrArg List.length e
  exact h h1
theorem sbuf_form {base : Nat} {w : World} {v : Value} {ys : List ByteArray} {z : ByteArray} (h : SBuf base w v (ys ++ [z])) : ∃ g cap, v = .slice (some ⟨g, 0, none⟩) (ys.length + 1) cap ∧ ys.length + 1 ≤ cap ∧ cap ≤ maxLen := by
  rcases h.1.2 with ⟨_, h0⟩ | ⟨g, cap, cur, rfl, hge, hh, hnc, hm, _⟩
  · simp at h0
  · exact ⟨g, cap, by simp, by simpa using hnc, hm⟩

end Go.Proofs.YtbbpapaobehlcaaDoor.low


/-
  Contracts of NumText and TextNum, the specification's and the program's, beside the other texts.
-/
namespace Go.Proofs.YtbbpapaobehlcaaDoor.low.nt
open Go.RowKit
set_option linter.unusedVariables false

/-- 'string([]byte{..})' of one byte, the slice newly made -/
theorem one_byte (w : World) (z : Int) : (convert 22 9 (.slice (some ⟨w.heap.size, 0, none⟩) 1 1)).run Tryd.prog (w.alloc (.cells #[.int .u8 z] 5)) = .ok (.string (strOfNums [z])) (w.alloc (.cells #[.int .u8 z] 5)) :=
  run_convert_bytes_arg (P := Tryd.prog) (w.alloc (.cells #[.int .u8 z] 5)) 22 5 Tryd.underlying22 Tryd.underlying5 w.heap.size 0 1 1 [z] rfl (fun i hi => by
    obtain rfl : i = 0 := by omega
    exact new_cells w [.int .u8 z] 5 0 _ rfl) 9 Tryd.underlying9

/-- the numeral of u -/
def strD (u : Nat) : ByteArray := ⟨(Lib.decDigits u).toArray⟩
theorem strOne (z : Int) : strOfNums [z] = ⟨[UInt8.ofNat z.toNat].toArray⟩ := rfl
theorem mk_toList (o : ByteArray) : o = ⟨o.data.toList.toArray⟩ := by cases o; simp
theorem strD_step (u : Nat) (out : ByteArray) (h : ¬ u < 10) : strD (u / 10) ++ (strOfNums [48 + (u : Int) % 10] ++ out) = strD u ++ out := by
  have e : (48 + (u : Int) % 10).toNat = 48 + u % 10 := by omega
  rw [mk_toList out]
  unfold strD
  rw [strOne, e, ByteArray.mk_append_mk, ByteArray.mk_append_mk, ByteArray.mk_append_mk]
  conv => rhs; rw [Lib.decDigits, dif_neg h]
  rw [List.append_assoc]
theorem strD_end (u : Nat) (out : ByteArray) (h : u < 10) : strOfNums [48 + (u : Int)] ++ out = strD u ++ out := by
  have e : (48 + (u : Int)).toNat = 48 + u := by omega
  unfold strD
  rw [strOne, e, Lib.decDigits_one h]
/-- what NumText returns -/
def numT (n : Int) : ByteArray := if 0 ≤ n ∧ n ≤ 1000000000 then strD n.toNat else ByteArray.empty
theorem numT_t {n : Int} (h : 0 ≤ n ∧ n ≤ 1000000000) : numT n = strD n.toNat := by unfold numT; rw [if_pos h]
theorem numT_f {n : Int} (h : ¬ (0 ≤ n ∧ n ≤ 1000000000)) : numT n = ByteArray.empty := by unfold numT; rw [if_neg h]
theorem strOne_size (z : Int) : (strOfNums [z]).size = 1 := by rw [strOfNums_size]; rfl

set_option maxRecDepth 100000 in
set_option maxHeartbeats 1600000 in
theorem specNumText_any (n : Int) (w : World) : Calls Tryd.prog 76 #[.int .i64 n] w (Strs (numT n) w) := by
  by_cases hn : 0 ≤ n ∧ n ≤ 1000000000
  · have HN := Lib.hid (numT_t hn)
    have k1 := inB_t hn
    obtain ⟨u0, rfl⟩ : ∃ u : Nat, n = u := ⟨n.toNat, by omega⟩
    have hu0 : u0 ≤ 1000000000 := by omega
    clear hn
    go_enter Tryd.func76, Tryd.ntmps76
    go_wp2_with (go_at_call 107; refine (in_any _ _ _ _).mono ?_; rintro e w' ⟨rfl, rfl⟩)
    go_loopw [0, 3] (fun kk o wr => ∃ (u : Nat) (out : ByteArray), kk = .int .i64 u ∧ o = .string out ∧ out.size + u ≤ u0 ∧ strD u ++ out = strD u0 ∧ Below w.heap.size w wr) (fun kk _ _ => (intOf kk).toNat)
    case atStart => exact ⟨u0, ByteArray.empty, rfl, rfl, by simp, by simp, Below.refl _ _⟩
    case round =>
      obtain ⟨u, out, rfl, rfl, hs, hd, hbel⟩ := hrel
      have HD := Lib.hid hd
      clear hd
      by_cases hlt : 9 < u
      · have hcv := one_byte wr (48 + (u : Int) % 10)
        have HST := Lib.hid (strD_step u out (by omega))
        have hs1 := strOne_size (48 + (u : Int) % 10)
        have HS1 := Lib.hid hs1
        have hsum : (strOfNums [48 + (u : Int) % 10]).size + out.size ≤ 9223372036854775807 := by omega
        clear hs1
        go_wp2
        go_roundw
        case rel => exact ⟨u / 10, _, by go_num, rfl, by rw [ByteArray.size_append, HS1.out]; omega, by rw [HST.out]; exact HD.out, hbel.alloc hbel.size _⟩
        case measure => simp [intOf]; omega
      · have hcv := one_byte wr (48 + (u : Int))
        have HST := Lib.hid (strD_end u out (by omega))
        have hs1 := strOne_size (48 + (u : Int))
        have hsum : (strOfNums [48 + (u : Int)]).size + out.size ≤ 9223372036854775807 := by omega
        clear hs1
        go_wp2
        go_ret
        refine ⟨?_, hbel.alloc hbel.size _⟩
        rw [HN.out]
        show _ = Ending.returned (.string (strD (u0 : Int).toNat))
        rw [Int.toNat_natCast, ← HD.out, ← HST.out]
        rfl
  · have HN := Lib.hid (numT_f hn)
    have k1 := inB_f hn
    clear hn
    go_enter Tryd.func76, Tryd.ntmps76
    go_wp2_with (go_at_call 107; refine (in_any _ _ _ _).mono ?_; rintro e w' ⟨rfl, rfl⟩)
    go_ret
    rw [HN.out]
    exact ⟨rfl, Below.refl _ _⟩

/-- the library's table of powers of ten lies as the program's text lays it -/
def Tab (w : World) : Prop := Lib.TabIs Tryd.prog w "internal/strconv.uint64pow10" .u64 Lib.pow10Tab
theorem Tab.past {w w' : World} (h : Tab w) (hb : Below w.heap.size w w') : Tab w' := by
  unfold Tab Lib.TabIs at h
  have hlt : 3 < w.heap.size := by
    rcases Nat.lt_or_ge 3 w.heap.size with hlt | hge
    · exact hlt
    · unfold World.var? at h
      rw [show Tryd.prog.globalNamed "internal/strconv.uint64pow10" = some 3 by kernel_rfl, Option.bind_some, Array.getElem?_eq_none hge] at h
      simp at h
  exact var?_below hb (g := 3) (by kernel_rfl) hlt h
theorem below_grow (w : World) (k : Nat) (os : Array Obj) : Below w.heap.size w (Go.Sort.grow (w.drewN k) os) :=
  ⟨rfl, rfl, rfl, by simp [Go.Sort.grow], fun i hi => by
    show (w.heap ++ os)[i]? = _
    rw [Array.getElem?_append_left hi]⟩

set_option maxRecDepth 100000 in
set_option maxHeartbeats 1600000 in
theorem implNumText_any (n : Int) (w : World) (ht : Tab w) (h64 : -9223372036854775808 ≤ n ∧ n ≤ 9223372036854775807) : Calls Tryd.prog 31 #[.int .i64 n] w (Strs (numT n) w) := by
  have HT := Lib.hid ht
  clear ht
  rcases (show n < 0 ∨ 1000000000 < n ∨ (0 ≤ n ∧ n ≤ 1000000000) by omega) with h | h | h
  · have HN := Lib.hid (numT_f (n := n) (by omega))
    go_enter Tryd.func31, Tryd.ntmps31
    go_wp2
    go_ret
    rw [HN.out]
    exact ⟨rfl, Below.refl _ _⟩
  · have HN := Lib.hid (numT_f (n := n) (by omega))
    have h' : 0 ≤ n := by omega
    go_enter Tryd.func31, Tryd.ntmps31
    go_wp2
    go_ret
    rw [HN.out]
    exact ⟨rfl, Below.refl _ _⟩
  · have HN := Lib.hid (numT_t h)
    obtain ⟨h1, h2⟩ := h
    go_enter Tryd.func31, Tryd.ntmps31
    go_wp2_with fail
    refine (Tryd.strconv_Itoa n h64.1 h64.2 _ HT.out).mono ?_
    rintro e w' ⟨rfl, k, os, rfl⟩
    go_wp2
    go_ret
    rw [HN.out]
    refine ⟨?_, below_grow _ _ _⟩
    obtain ⟨u, rfl⟩ : ∃ u : Nat, n = u := ⟨n.toNat, by omega⟩
    show Ending.returned (.string ⟨(Lib.itoa (u : Int)).toArray⟩) = Ending.returned (.string (strD (u : Int).toNat))
    rw [Lib.itoa_nonneg, Int.toNat_natCast]
    rfl

def step10 (a : Nat) (c : UInt8) : Nat := a * 10 + (c.toNat - 48)
def parse (l : List UInt8) : Nat := l.foldl step10 0
def Digits (l : List UInt8) : Prop := ∀ c ∈ l, 48 ≤ c.toNat ∧ c.toNat ≤ 57
theorem parse_snoc (l : List UInt8) (c : UInt8) : parse (l ++ [c]) = parse l * 10 + (c.toNat - 48) := by unfold parse; rw [List.foldl_append, List.foldl_cons, List.foldl_nil]; rfl
theorem digit_of (d : Nat) (h : d < 10) : (UInt8.ofNat (48 + d)).toNat = 48 + d := by simp; omega
theorem dec_digits (u : Nat) : Digits (Lib.decDigits u) := by
  induction u using Nat.strongRecOn with
  | _ u ih =>
    by_cases h : u < 10
    · rw [Lib.decDigits_one h]; intro c hc; simp only [List.mem_singleton] at hc; subst hc; rw [digit_of u h]; omega
    · rw [Lib.decDigits, dif_neg h]
      intro c hc
      rcases List.mem_append.1 hc with hc | hc
      · exact ih (u / 10) (by omega) c hc
      · simp only [List.mem_singleton] at hc; subst hc; rw [digit_of _ (by omega)]; omega
theorem parse_dec (u : Nat) : parse (Lib.decDigits u) = u := by
  induction u using Nat.strongRecOn with
  | _ u ih =>
    by_cases h : u < 10
    · rw [Lib.decDigits_one h]; show 0 * 10 + _ = _; rw [digit_of u h]; omega
    · rw [Lib.decDigits, dif_neg h, parse_snoc, ih (u / 10) (by omega), digit_of _ (by omega)]; omega
theorem dec_len : ∀ (k u : Nat), u < 10 ^ (k + 1) → 1 ≤ (Lib.decDigits u).length ∧ (Lib.decDigits u).length ≤ k + 1 := by
  intro k
  induction k with
  | zero => intro u h; rw [Lib.decDigits_one (by simpa using h)]; simp
  | succ k ih =>
    intro u h
    by_cases h' : u < 10
    · rw [Lib.decDigits_one h']; simp
    · rw [Lib.decDigits, dif_neg h', List.length_append]
      have := ih (u / 10) (by rw [Nat.pow_succ] at h; omega)
      simp only [List.length_cons, List.length_nil]
      omega
theorem parse_lt : ∀ (l : List UInt8) (a : Nat), Digits l → l.foldl step10 a < (a + 1) * 10 ^ l.length := by
  intro l
  induction l with
  | nil => intro a _; simp
  | cons c r ih =>
    intro a h
    have hc := h c (List.mem_cons_self ..)
    have := ih (step10 a c) (fun x hx => h x (List.mem_cons_of_mem _ hx))
    rw [List.foldl_cons, List.length_cons, Nat.pow_succ]
    refine Nat.lt_of_lt_of_le this ?_
    have h1 : step10 a c + 1 ≤ (a + 1) * 10 := by unfold step10; omega
    calc (step10 a c + 1) * 10 ^ r.length ≤ ((a + 1) * 10) * 10 ^ r.length := Nat.mul_le_mul_right _ h1
      _ = (a + 1) * (10 ^ r.length * 10) := by rw [Nat.mul_assoc, Nat.mul_comm 10]
theorem parse_uint : ∀ (l : List UInt8) (a : Nat), Digits l → (a + 1) * 10 ^ l.length ≤ 100000000000 → Lib.parseUint10 a l = .ok (l.foldl step10 a) := by
  intro l
  induction l with
  | nil => intro a _ _; rfl
  | cons c r ih =>
    intro a h hb
    have hc := h c (List.mem_cons_self ..)
    rw [List.length_cons, Nat.pow_succ] at hb
    have h1 : step10 a c + 1 ≤ (a + 1) * 10 := by unfold step10; omega
    have h2 : (step10 a c + 1) * 10 ^ r.length ≤ 100000000000 := by
      refine Nat.le_trans (Nat.mul_le_mul_right _ h1) ?_
      rw [Nat.mul_assoc, Nat.mul_comm 10]; exact hb
    have hp : 1 ≤ 10 ^ r.length := Nat.pos_of_ne_zero (by simp)
    have h3 : step10 a c + 1 ≤ 100000000000 := Nat.le_trans (Nat.le_mul_of_pos_right _ hp) h2
    rw [List.foldl_cons, ← ih (step10 a c) (fun x hx => h x (List.mem_cons_of_mem _ hx)) h2]
    unfold step10 at h3 ⊢
    conv => lhs; unfold Lib.parseUint10
    rw [if_pos hc, if_neg (by omega), if_neg (by omega)]

/-- s is the numeral of a number from 0 to 1000000000 -/
def Num (s : ByteArray) : Prop := Lib.decDigits (parse s.data.toList) = s.data.toList ∧ parse s.data.toList ≤ 1000000000
theorem Num.len {s : ByteArray} (h : Num s) : 1 ≤ s.size ∧ s.size ≤ 10 := by
  have := dec_len 9 (parse s.data.toList) (by have := h.2; omega)
  rw [h.1] at this
  exact this
theorem Num.digits {s : ByteArray} (h : Num s) : Digits s.data.toList := by rw [← h.1]; exact dec_digits _
theorem num_of_eq {s : ByteArray} {n : Int} (hs : 1 ≤ s.size) (h : numT n = s) : Num s ∧ n = (parse s.data.toList : Nat) := by
  by_cases hn : 0 ≤ n ∧ n ≤ 1000000000
  · rw [numT_t hn] at h
    subst h
    have e : (strD n.toNat).data.toList = Lib.decDigits n.toNat := by unfold strD; simp
    unfold Num
    rw [e, parse_dec]
    exact ⟨⟨rfl, by omega⟩, by omega⟩
  · rw [numT_f hn] at h
    subst h
    exact absurd hs (by simp)
theorem numT_num {s : ByteArray} (h : Num s) : numT (parse s.data.toList : Nat) = s := by
  rw [numT_t (by have := h.2; omega), Int.toNat_natCast]
  unfold strD
  rw [h.1]
theorem atoi_num {s : ByteArray} (h : Num s) : Lib.atoiAll s.data.toList = .ok (parse s.data.toList : Nat) := by
  have hl := h.len
  have hd := h.digits
  have hp := h.2
  have hl' : s.data.toList.length = s.size := rfl
  unfold parse at hp ⊢
  generalize s.data.toList = l at *
  cases l with
  | nil => simp at hl'; omega
  | cons c r =>
    have hc := hd c (List.mem_cons_self ..)
    have hpm : Lib.parseMag (c :: r) = .ok ((c :: r).foldl step10 0) := by
      unfold Lib.parseMag
      rw [if_neg (by simp)]
      refine parse_uint (c :: r) 0 hd ?_
      rw [hl']
      calc (0 + 1) * 10 ^ s.size ≤ 1 * 10 ^ 10 := Nat.mul_le_mul_left _ (Nat.pow_le_pow_right (by omega) hl.2)
        _ ≤ 100000000000 := by omega
    unfold Lib.atoiAll
    simp only
    rw [if_neg (by omega), hpm]
    simp only
    rw [if_neg (by omega), if_neg (by omega), if_neg (by omega)]
theorem atoi_bd {l : List UInt8} {v : Int} (h : Lib.atoiAll l = .ok v) : -9223372036854775808 ≤ v ∧ v ≤ 9223372036854775807 := by
  unfold Lib.atoiAll at h
  cases l with
  | nil => cases h
  | cons c r =>
    simp only at h
    split at h
    · cases h
    · cases h
    · split at h
      · cases h
      · split at h
        · cases h
        · injection h with h
          subst h
          split <;> omega
theorem atoi_empty {s : ByteArray} (h : s.size = 0) {v : Int} (hv : Lib.atoiAll s.data.toList = .ok v) : False := by
  have : s.data.toList = [] := List.eq_nil_of_length_eq_zero h
  rw [this] at hv
  cases hv

/-- what TextNum answers -/
def textR (s : ByteArray) (e : Ending) : Prop := (Num s → e = .returned (.tuple #[.int .i64 (parse s.data.toList : Nat), .bool true])) ∧ (¬ Num s → e = .returned (.tuple #[.int .i64 0, .bool false]))
def TextPost (s : ByteArray) (w : World) (e : Ending) (w' : World) : Prop := textR s e ∧ Below w.heap.size w w'
theorem text_t {s : ByteArray} {w w' : World} (h : Num s) (hb : Below w.heap.size w w') : TextPost s w (.returned (.tuple #[.int .i64 (parse s.data.toList : Nat), .bool true])) w' := ⟨⟨fun _ => rfl, fun h' => absurd h h'⟩, hb⟩
theorem text_f {s : ByteArray} {w w' : World} (h : ¬ Num s) (hb : Below w.heap.size w w') : TextPost s w (.returned (.tuple #[.int .i64 0, .bool false])) w' := ⟨⟨fun h' => absurd h' h, fun _ => rfl⟩, hb⟩
theorem take_snoc (s : ByteArray) (k : Nat) (h : k < s.size) : s.data.toList.take (k + 1) = s.data.toList.take k ++ [s[k]] := by
  rw [List.take_succ_eq_append_getElem (by simpa using h)]; rfl
theorem str_ne {a s : ByteArray} (h : ¬ a = s) : (a.toList == s.toList) = false := by
  rw [beq_eq_false_iff_ne]
  intro e
  rw [ByteArray.toList_eq, ByteArray.toList_eq] at e
  refine h ?_
  cases a; cases s
  simp at e
  rw [e]
theorem mem_byte (s : ByteArray) (k : Nat) (h : k < s.size) : s[k] ∈ s.data.toList := by
  have : s[k] = s.data[k] := rfl
  rw [this]
  exact Array.mem_toList_iff.2 (Array.getElem_mem _)

set_option maxRecDepth 100000 in
set_option maxHeartbeats 1600000 in
theorem specTextNum_any (s : ByteArray) (w : World) (hs : s.size ≤ 1048576) : Calls Tryd.prog 78 #[.string s] w (TextPost s w) := by
  rcases (show s.size = 0 ∨ 10 < s.size ∨ (1 ≤ s.size ∧ s.size ≤ 10) by omega) with h | h | ⟨h1, h2⟩
  · have HF : Hid (¬ Num s) := fun hn => by have := hn.len; omega
    have hz : ((s.size : Int) == 0) = true := by simp [h]
    clear h
    go_enter Tryd.func78, Tryd.ntmps78
    go_wp2
    go_ret2
    exact text_f HF.out (Below.refl _ _)
  · have HF : Hid (¬ Num s) := fun hn => by have := hn.len; omega
    have hz : ((s.size : Int) == 0) = false := by rw [beq_eq_false_iff_ne]; omega
    have hb : (10 : Int) < (s.size : Int) := by omega
    go_enter Tryd.func78, Tryd.ntmps78
    go_wp2
    go_ret2
    exact text_f HF.out (Below.refl _ _)
  · have hz : ((s.size : Int) == 0) = false := by rw [beq_eq_false_iff_ne]; omega
    have hb : (s.size : Int) ≤ 10 := by omega
    go_enter Tryd.func78, Tryd.ntmps78
    go_wp2
    go_loop [4, 5] (fun n i => ∃ k : Nat, k ≤ s.size ∧ i = .int .i64 k ∧ n = .int .i64 (parse (s.data.toList.take k) : Nat) ∧ Digits (s.data.toList.take k)) (fun _ i => s.size - (intOf i).toNat)
    case atStart => exact ⟨0, Nat.zero_le _, rfl, rfl, fun c hc => by simp at hc⟩
    case round =>
      obtain ⟨k, hk, rfl, rfl, hd⟩ := hrel
      have hlt := parse_lt (s.data.toList.take k) 0 hd
      have hpb : parse (s.data.toList.take k) < 10000000000 := by
        refine Nat.lt_of_lt_of_le hlt ?_
        have hl : (s.data.toList.take k).length ≤ 10 := by have := List.length_take_le k s.data.toList; omega
        calc (0 + 1) * 10 ^ (s.data.toList.take k).length ≤ 1 * 10 ^ 10 := Nat.mul_le_mul_left _ (Nat.pow_le_pow_right (by omega) hl)
          _ ≤ 10000000000 := by omega
      clear hlt
      have HD := Lib.hid hd
      clear hd
      by_cases hks : k < s.size
      · have HS : Hid (parse (s.data.toList.take (k + 1)) = parse (s.data.toList.take k) * 10 + (s[k].toNat - 48)) := by rw [take_snoc s k hks]; exact parse_snoc _ _
        have HT := Lib.hid (take_snoc s k hks)
        have hb8 : (s[k].toNat : Int) < 256 := by have := s[k].toNat_lt; omega
        generalize parse (s.data.toList.take k) = m at *
        rcases (show (s[k].toNat : Int) < 48 ∨ 57 < (s[k].toNat : Int) ∨ (48 ≤ (s[k].toNat : Int) ∧ (s[k].toNat : Int) ≤ 57) by omega) with hc | hc | ⟨hc, hc'⟩
        · have HF : Hid (¬ Num s) := fun hn => by have := hn.digits s[k] (mem_byte s k hks); omega
          go_wp2
          go_ret2
          exact text_f HF.out (Below.refl _ _)
        · have HF : Hid (¬ Num s) := fun hn => by have := hn.digits s[k] (mem_byte s k hks); omega
          have hc2 : 48 ≤ (s[k].toNat : Int) := by omega
          go_wp2
          go_ret2
          exact text_f HF.out (Below.refl _ _)
        · go_wp2
          go_round
          case rel =>
            refine ⟨k + 1, by omega, by go_num, ?_, ?_⟩
            · rw [HS.out]
              have e : ((m * 10 + (s[k].toNat - 48) : Nat) : Int) = (m : Int) * 10 + ((s[k].toNat : Int) - 48) := by omega
              rw [e]
            · rw [HT.out]
              intro c hcm
              rcases List.mem_append.1 hcm with hcm | hcm
              · exact HD.out c hcm
              · simp only [List.mem_singleton] at hcm; subst hcm; omega
          case measure => simp [intOf]; omega
      · have hke : s.data.toList.take k = s.data.toList := List.take_of_length_le (by show s.size ≤ k; omega)
        rw [hke] at hpb ⊢
        clear hke
        by_cases hn : Num s
        · have HN := Lib.hid hn
          have HE := Lib.hid (numT_num hn)
          clear hn
          generalize hm : parse s.data.toList = m at *
          have HM := Lib.hid hm
          clear hm
          go_wp2_with fail
          refine (specNumText_any (m : Int) _).mono ?_
          rintro e u1 ⟨rfl, b1⟩
          rw [HE.out]
          go_wp2
          go_ret2
          rw [← HM.out]
          exact text_t HN.out b1
        · have hne : ¬ numT (parse s.data.toList : Nat) = s := fun e => hn (num_of_eq h1 e).1
          have hne' := str_ne hne
          have HN := Lib.hid hn
          clear hn hne
          generalize parse s.data.toList = m at *
          go_wp2_with fail
          refine (specNumText_any (m : Int) _).mono ?_
          rintro e u1 ⟨rfl, b1⟩
          go_wp2
          go_ret2
          exact text_f HN.out b1

theorem below_bytes (w : World) (e : TypeId) (t : ByteArray) : Below w.heap.size w (Lib.bytesWorld w e t) := Lib.bytesWorld_below w e t
/-- the library's two error variables hold an interface value each -/
def Errs (w : World) : Prop := (∃ te pe, w.cell? ⟨0, 0, none⟩ = some (.iface te pe)) ∧ ∃ te pe, w.cell? ⟨1, 0, none⟩ = some (.iface te pe)
theorem cell_lt {w : World} {p : Addr} {v : Value} (h : w.cell? p = some v) : p.block < w.heap.size := by
  rcases Nat.lt_or_ge p.block w.heap.size with hlt | hge
  · exact hlt
  · unfold World.cell? at h; rw [Array.getElem?_eq_none hge] at h; simp at h
theorem Errs.past {w w' : World} (h : Errs w) (hb : Below w.heap.size w w') : Errs w' := by
  obtain ⟨⟨a, b, h1⟩, c, d, h2⟩ := h
  exact ⟨⟨a, b, (hb.cell (cell_lt h1)).trans h1⟩, c, d, (hb.cell (cell_lt h2)).trans h2⟩

set_option maxRecDepth 100000 in
set_option maxHeartbeats 1600000 in
theorem implTextNum_any (s : ByteArray) (w : World) (hs : s.size ≤ 1048576) (ht : Tab w) (he : Errs w) : Calls Tryd.prog 30 #[.string s] w (TextPost s w) := by
  have HT := Lib.hid ht
  have HE := Lib.hid he
  clear ht he
  rcases hA : Lib.atoiAll s.data.toList with v | _ | _
  · have HA := Lib.hid hA
    clear hA
    by_cases h0 : s.size = 0
    · exact absurd HA.out (fun h => atoi_empty h0 h)
    · have hbd := atoi_bd HA.out
      have hb1 := hbd.1
      have hb2 := hbd.2
      clear hbd
      by_cases hn : Num s
      · have hv : v = (parse s.data.toList : Nat) := by have := atoi_num hn; rw [HA.out] at this; injection this
        have HV := Lib.hid hv
        have HN := Lib.hid hn
        have HQ : Hid (numT v = s) := by rw [hv]; exact numT_num hn
        clear hv hn
        go_enter Tryd.func30, Tryd.ntmps30
        go_wp2_with fail
        refine (Tryd.strconv_Atoi_ok s (by omega) v HA.out _).mono ?_
        rintro e u1 ⟨rfl, hu⟩
        have b1 : Below w.heap.size w u1 := by
          rcases hu with rfl | ⟨t, rfl⟩
          · exact Below.refl _ _
          · exact below_bytes _ _ _
        clear hu
        go_wp2_with fail
        refine (implNumText_any v _ (HT.out.past b1) ⟨hb1, hb2⟩).mono ?_
        rintro e u2 ⟨rfl, b2⟩
        rw [HQ.out]
        go_wp2
        go_ret2
        rw [HV.out]
        exact text_t HN.out (b1.trans (b2.mono b1.size))
      · have hne : ¬ numT v = s := fun e => hn (num_of_eq (by omega) e).1
        have hne' := str_ne hne
        have HN := Lib.hid hn
        clear hn hne
        go_enter Tryd.func30, Tryd.ntmps30
        go_wp2_with fail
        refine (Tryd.strconv_Atoi_ok s (by omega) v HA.out _).mono ?_
        rintro e u1 ⟨rfl, hu⟩
        have b1 : Below w.heap.size w u1 := by
          rcases hu with rfl | ⟨t, rfl⟩
          · exact Below.refl _ _
          · exact below_bytes _ _ _
        clear hu
        go_wp2_with fail
        refine (implNumText_any v _ (HT.out.past b1) ⟨hb1, hb2⟩).mono ?_
        rintro e u2 ⟨rfl, b2⟩
        go_wp2
        go_ret2
        exact text_f HN.out (b1.trans (b2.mono b1.size))
  · have HN : Hid (¬ Num s) := fun hn => by have := atoi_num hn; rw [hA] at this; cases this
    have HA := Lib.hid hA
    clear hA
    obtain ⟨⟨te, pe, h1⟩, _⟩ := HE.out
    have H1 := Lib.hid h1
    clear h1
    go_enter Tryd.func30, Tryd.ntmps30
    go_wp2_with fail
    refine (Any.strconv_Atoi_syntax Tryd.laysC172 s (by omega) HA.out (.iface te pe) _ H1.out (Or.inr ⟨te, pe, rfl⟩)).mono ?_
    rintro e u1 ⟨N, rfl, _, _, b1⟩
    go_wp2
    go_ret2
    exact text_f HN.out b1
  · have HN : Hid (¬ Num s) := fun hn => by have := atoi_num hn; rw [hA] at this; cases this
    have HA := Lib.hid hA
    clear hA
    obtain ⟨_, te, pe, h1⟩ := HE.out
    have H1 := Lib.hid h1
    clear h1
    go_enter Tryd.func30, Tryd.ntmps30
    go_wp2_with fail
    refine (Any.strconv_Atoi_range Tryd.laysC172 s (by omega) HA.out (.iface te pe) _ H1.out (Or.inr ⟨te, pe, rfl⟩)).mono ?_
    rintro e u1 ⟨N, rfl, _, _, b1⟩
    go_wp2
    go_ret2
    exact text_f HN.out b1
end Go.Proofs.YtbbpapaobehlcaaDoor.low.nt


/-
  Texts joined and cut: the functions behind SignText, TextSign, OpText and TextOp, on lists of bytes.
-/
namespace Go.Proofs.YtbbpapaobehlcaaDoor.low
open Go.RowKit
set_option linter.unusedVariables false

/-- a list of bytes cut at every byte of the value m -/
def cutL_ (m : Nat) : List UInt8 → List UInt8 → List (List UInt8)
  | acc, [] => [acc]
  | acc, c :: l => if c.toNat = m then acc :: cutL_ m [] l else cutL_ m (acc ++ [c]) l
def mkB (l : List UInt8) : ByteArray := ⟨l.toArray⟩
theorem mkB_list (l : List UInt8) : (mkB l).data.toList = l := by simp [mkB]
theorem mkB_of (s : ByteArray) : mkB s.data.toList = s := (nt.mk_toList s).symm
theorem mkB_size (l : List UInt8) : (mkB l).size = l.length := by simp [mkB, ByteArray.size]
theorem mkB_app (a b : List UInt8) : mkB a ++ mkB b = mkB (a ++ b) := by unfold mkB; rw [ByteArray.mk_append_mk]
theorem mkB_inj {a b : List UInt8} (h : mkB a = mkB b) : a = b := by
  have := congrArg (fun s => s.data.toList) h
  simpa [mkB] using this
theorem extract_mk (s : ByteArray) (i j : Nat) : s.extract i j = mkB ((s.data.toList.take j).drop i) := by
  have : (s.extract i j).data = s.data.extract i j := by simp
  rw [← mkB_of (s.extract i j), this]
  simp [List.drop_take]
theorem bAt_list (s : ByteArray) (i : Nat) (h : i < s.size) : ∃ c, s.data.toList[i]? = some c ∧ c.toNat = bAt s i := by
  have h' : i < s.data.size := h
  refine ⟨s.data[i], by simp, ?_⟩
  rw [← bAt_eq s i h]
  rfl
theorem cutsFrom_list (s : ByteArray) (m : Nat) : ∀ (n i f : Nat), n = s.size - i → i ≤ s.size → f ≤ i → cutsFrom s m (s.size - i) i f = (cutL_ m ((s.data.toList.take i).drop f) (s.data.toList.drop i)).map mkB := by
  intro n
  induction n with
  | zero =>
    intro i f hn hi hf
    obtain rfl : i = s.size := by omega
    have e : s.data.toList.drop s.size = [] := by rw [List.drop_eq_nil_iff]; exact Nat.le_refl _
    rw [cuts_end, e, extract_mk]
    rfl
  | succ n ih =>
    intro i f hn hi hf
    have hlt : i < s.size := by omega
    obtain ⟨c, hc, hb⟩ := bAt_list s i hlt
    have ed : s.data.toList.drop i = c :: s.data.toList.drop (i + 1) := by
      rw [List.drop_eq_getElem_cons (by have : s.data.toList.length = s.size := rfl; omega)]
      congr 1
      have := List.getElem?_eq_getElem (l := s.data.toList) (i := i) (by have : s.data.toList.length = s.size := rfl; omega)
      rw [this] at hc
      exact Option.some.inj hc
    by_cases h : bAt s i = m
    · rw [cuts_hit hlt h, ih (i + 1) (i + 1) (by omega) (by omega) (by omega), ed, cutL_, if_pos (by rw [hb]; exact h), List.map_cons, extract_mk]
      congr 3
      rw [List.drop_eq_nil_iff]
      simp
      omega
    · rw [cuts_miss hlt h, ih (i + 1) f (by omega) (by omega) (by omega), ed, cutL_, if_neg (by rw [hb]; exact h)]
      congr 2
      rw [List.take_add_one, hc, List.drop_append_of_le_length (by simp; have : s.data.toList.length = s.size := rfl; omega)]
      rfl
theorem cuts_list (s : ByteArray) (m : Nat) : cuts s m = (cutL_ m [] s.data.toList).map mkB := by
  have := cutsFrom_list s m s.size 0 0 (by omega) (by omega) (by omega)
  simpa [cuts] using this
/-- joined by one byte -/
def joinL (c : UInt8) : List (List UInt8) → List UInt8
  | [] => []
  | [x] => x
  | x :: y :: xs => x ++ c :: joinL c (y :: xs)
theorem joinL_snoc (c : UInt8) : ∀ (xs : List (List UInt8)) (x : List UInt8), joinL c (xs ++ [x]) = if xs = [] then x else joinL c xs ++ c :: x
  | [], x => rfl
  | [y], x => by simp [joinL]
  | y :: z :: ys, x => by
    have ih := joinL_snoc c (z :: ys) x
    rw [if_neg (by simp)] at ih
    rw [if_neg (by simp)]
    show y ++ c :: joinL c ((z :: ys) ++ [x]) = _
    rw [ih]
    simp [joinL]
theorem cutL_skip {m : Nat} : ∀ {x : List UInt8} (acc l : List UInt8), (∀ b ∈ x, ¬ b.toNat = m) → cutL_ m acc (x ++ l) = cutL_ m (acc ++ x) l
  | [], acc, l, _ => by simp
  | b :: x, acc, l, h => by
    show cutL_ m acc (b :: (x ++ l)) = _
    rw [cutL_, if_neg (h b (by simp)), cutL_skip (acc ++ [b]) l (fun y hy => h y (by simp [hy]))]
    simp
theorem cut_join {c : UInt8} : ∀ {xs : List (List UInt8)}, xs ≠ [] → (∀ x ∈ xs, ∀ b ∈ x, ¬ b.toNat = c.toNat) → cutL_ c.toNat [] (joinL c xs) = xs
  | [], h, _ => absurd rfl h
  | [x], _, h => by
    have := cutL_skip (m := c.toNat) [] [] (h x (by simp))
    simp [cutL_] at this
    simpa [joinL] using this
  | x :: y :: xs, _, h => by
    show cutL_ c.toNat [] (x ++ c :: joinL c (y :: xs)) = _
    rw [cutL_skip [] _ (h x (by simp)), cutL_, if_pos rfl, cut_join (by simp) (fun z hz => h z (by simp [hz]))]
    simp
theorem join_cut (c : UInt8) : ∀ (l acc : List UInt8), joinL c (cutL_ c.toNat acc l) = acc ++ l
  | [], acc => by simp [cutL_, joinL]
  | b :: l, acc => by
    rw [cutL_]
    split
    · rename_i h
      have e : b = c := UInt8.toNat_inj.1 h
      have ih := join_cut c l []
      cases hc : cutL_ c.toNat [] l with
      | nil => rw [hc] at ih; simp [joinL] at ih; subst ih; simp [cutL_] at hc
      | cons z zs =>
        rw [hc] at ih
        show acc ++ c :: joinL c (z :: zs) = _
        rw [ih, e]
        rfl
    · rw [join_cut c l (acc ++ [b])]
      simp
theorem cutL_pos (m : Nat) : ∀ (l acc : List UInt8), cutL_ m acc l ≠ []
  | [], acc => by simp [cutL_]
  | b :: l, acc => by
    rw [cutL_]
    split
    · simp
    · exact cutL_pos m l _
theorem joinL_len (c : UInt8) {k : Nat} : ∀ {xs : List (List UInt8)}, (∀ x ∈ xs, x.length ≤ k) → (joinL c xs).length ≤ (k + 1) * xs.length
  | [], _ => by simp [joinL]
  | [x], h => by have := h x (by simp); simp [joinL]; omega
  | x :: y :: xs, h => by
    have h1 := h x (by simp)
    have ih := joinL_len c (xs := y :: xs) (fun z hz => h z (by simp [hz]))
    simp only [joinL, List.length_append, List.length_cons] at ih ⊢
    rw [Nat.mul_succ (k + 1) (xs.length + 1)]
    omega
end Go.Proofs.YtbbpapaobehlcaaDoor.low


/-
  The text of a list of characters: the functions behind SignText and TextSign.
-/
namespace Go.Proofs.YtbbpapaobehlcaaDoor.low
open Go.RowKit
set_option linter.unusedVariables false

/-- a number's numeral -/
def numL (z : Int) : List UInt8 := Lib.decDigits z.toNat
theorem numT_mk {z : Int} (h0 : 0 ≤ z) (h1 : z ≤ 1000000000) : nt.numT z = mkB (numL z) := by rw [nt.numT_t ⟨h0, h1⟩]; rfl
theorem numL_len {z : Int} (h1 : z ≤ 1000000000) : 1 ≤ (numL z).length ∧ (numL z).length ≤ 10 := nt.dec_len 9 _ (by omega)
theorem numL_digits (z : Int) : ∀ c ∈ numL z, 48 ≤ c.toNat ∧ c.toNat ≤ 57 := nt.dec_digits _
theorem signB_bd {z : Int} (h : signB z = true) : 0 ≤ z ∧ z ≤ 1114111 := by
  unfold signB at h
  simp at h
  omega
/-- the characters' numerals, joined by dots -/
def signL (zs : List Int) : List UInt8 := if zs = [] then [45] else joinL 46 (zs.map numL)
def signT (zs : List Int) : ByteArray := if allB zs = true then mkB (signL zs) else ByteArray.empty
theorem signT_t {zs : List Int} (h : allB zs = true) : signT zs = mkB (signL zs) := by unfold signT; rw [if_pos h]
theorem signT_f {zs : List Int} (h : allB zs = false) : signT zs = ByteArray.empty := by unfold signT; rw [if_neg (by simp [h])]
/-- how far the text has come -/
def signJ (zs : List Int) : List UInt8 := joinL 46 (zs.map numL)
theorem signJ_snoc {zs : List Int} {k : Nat} {z : Int} (h : zs[k]? = some z) : signJ (zs.take (k + 1)) = if k = 0 then numL z else signJ (zs.take k) ++ 46 :: numL z := by
  unfold signJ
  rw [List.take_add_one, h]
  simp only [Option.toList_some, List.map_append, List.map_cons, List.map_nil]
  rw [joinL_snoc]
  by_cases hk : k = 0
  · subst hk; simp
  · have hlt : k < zs.length := idx_lt h
    rw [if_neg hk, if_neg (by cases zs with | nil => simp at hlt | cons y ys => cases k with | zero => exact absurd rfl hk | succ k => simp)]
theorem signJ_len {zs : List Int} (h : allB zs = true) : (signJ zs).length ≤ 11 * zs.length := by
  have := joinL_len 46 (k := 10) (xs := zs.map numL) (fun x hx => by
    obtain ⟨z, hz, rfl⟩ := List.mem_map.1 hx
    have := signB_bd (List.all_eq_true.1 h z hz)
    exact (numL_len (by omega)).2)
  rw [List.length_map] at this
  exact this
theorem allB_take {zs : List Int} (h : allB zs = true) (k : Nat) : allB (zs.take k) = true := by
  unfold allB at h ⊢
  rw [List.all_eq_true] at h ⊢
  exact fun x hx => h x (List.mem_of_mem_take hx)
theorem signL_ne (zs : List Int) (h : allB zs = true) : signL zs ≠ [] := by
  unfold signL
  split
  · simp
  · rename_i hz
    cases zs with
    | nil => exact absurd rfl hz
    | cons z zs =>
      have h1 := (numL_len (z := z) (by have := signB_bd (List.all_eq_true.1 h z (by simp)); omega)).1
      intro e
      cases zs with
      | nil => simp [joinL] at e; rw [e] at h1; simp at h1
      | cons y ys => simp [joinL] at e
/-- a piece that is the numeral of a character -/
def goodN (x : ByteArray) : Option Int := if Lib.decDigits (nt.parse x.data.toList) = x.data.toList ∧ nt.parse x.data.toList ≤ 1000000000 ∧ signB (nt.parse x.data.toList : Nat) = true then some ((nt.parse x.data.toList : Nat) : Int) else none
theorem goodN_t {x : ByteArray} (h : nt.Num x) (hs : signB (nt.parse x.data.toList : Nat) = true) : goodN x = some ((nt.parse x.data.toList : Nat) : Int) := by unfold goodN; rw [if_pos ⟨h.1, h.2, hs⟩]
theorem goodN_f {x : ByteArray} (h : ¬ (nt.Num x ∧ signB (nt.parse x.data.toList : Nat) = true)) : goodN x = none := by unfold goodN; rw [if_neg (fun k => h ⟨⟨k.1, k.2.1⟩, k.2.2⟩)]
theorem goodN_sound {x : ByteArray} {z : Int} (h : goodN x = some z) : signB z = true ∧ x = mkB (numL z) := by
  unfold goodN at h
  split at h
  · rename_i k
    injection h with h
    subst h
    refine ⟨k.2.2, ?_⟩
    unfold numL
    rw [Int.toNat_natCast, k.1, mkB_of]
  · cases h
theorem goodN_num {z : Int} (h : signB z = true) : goodN (mkB (numL z)) = some z := by
  have hb := signB_bd h
  have e : nt.parse (mkB (numL z)).data.toList = z.toNat := by rw [mkB_list]; exact nt.parse_dec _
  unfold goodN
  rw [e, mkB_list, if_pos ⟨rfl, by omega, by rw [Int.toNat_of_nonneg hb.1]; exact h⟩, Int.toNat_of_nonneg hb.1]
def readAll : List ByteArray → Option (List Int)
  | [] => some []
  | x :: xs => match goodN x with
    | none => none
    | some z => (readAll xs).map (z :: ·)
theorem readAll_snoc (x : ByteArray) : ∀ xs : List ByteArray, readAll (xs ++ [x]) = match readAll xs with
    | none => none
    | some zs => (goodN x).map (fun z => zs ++ [z])
  | [] => by simp only [List.nil_append, readAll]; cases goodN x <;> rfl
  | y :: ys => by
    have ih := readAll_snoc x ys
    simp only [List.cons_append, readAll]
    cases goodN y with
    | none => rfl
    | some z =>
      simp only
      rw [ih]
      cases readAll ys with
      | none => rfl
      | some zs => simp only [Option.map_some]; cases goodN x <;> rfl
theorem readAll_none {xs : List ByteArray} {k : Nat} (h : readAll (xs.take k) = none) : readAll xs = none := by
  have key : ∀ (ys zs : List ByteArray), readAll ys = none → readAll (ys ++ zs) = none := by
    intro ys
    induction ys with
    | nil => intro zs h; cases h
    | cons y ys ih =>
      intro zs h
      simp only [List.cons_append, readAll] at h ⊢
      cases hg : goodN y with
      | none => rfl
      | some z =>
        rw [hg] at h
        simp only [Option.map_eq_none_iff] at h ⊢
        exact ih zs h
  have := key _ (xs.drop k) h
  rwa [List.take_append_drop] at this
theorem readAll_sound : ∀ {xs : List ByteArray} {zs : List Int}, readAll xs = some zs → allB zs = true ∧ xs = zs.map (fun z => mkB (numL z))
  | [], zs, h => by simp [readAll] at h; subst h; exact ⟨rfl, rfl⟩
  | x :: xs, zs, h => by
    simp only [readAll] at h
    cases hg : goodN x with
    | none => rw [hg] at h; cases h
    | some z =>
      rw [hg] at h
      simp only [Option.map_eq_some_iff] at h
      obtain ⟨ys, h1, rfl⟩ := h
      obtain ⟨k1, k2⟩ := readAll_sound h1
      obtain ⟨g1, g2⟩ := goodN_sound hg
      exact ⟨by simp [allB, g1]; simpa [allB] using k1, by rw [List.map_cons, ← g2, ← k2]⟩
theorem readAll_num : ∀ {zs : List Int}, allB zs = true → readAll (zs.map (fun z => mkB (numL z))) = some zs
  | [], _ => rfl
  | z :: zs, h => by
    have h1 : signB z = true ∧ allB zs = true := by simpa [allB] using h
    simp only [List.map_cons, readAll, goodN_num h1.1, readAll_num h1.2]
    rfl
theorem readAll_len : ∀ {xs : List ByteArray} {zs : List Int}, readAll xs = some zs → zs.length = xs.length
  | xs, zs, h => by rw [(readAll_sound h).2]; simp
/-- the characters whose text s is -/
def textSign (s : ByteArray) : Option (List Int) := if s = mkB [45] then some [] else match readAll (cuts s 46) with
  | none => none
  | some zs => if signT zs = s then some zs else none
theorem textSign_dash : textSign (mkB [45]) = some [] := by unfold textSign; rw [if_pos rfl]
theorem textSign_none {s : ByteArray} (h : ¬ s = mkB [45]) (h1 : readAll (cuts s 46) = none) : textSign s = none := by unfold textSign; rw [if_neg h, h1]
theorem textSign_some {s : ByteArray} {zs : List Int} (h : ¬ s = mkB [45]) (h1 : readAll (cuts s 46) = some zs) : textSign s = if signT zs = s then some zs else none := by unfold textSign; rw [if_neg h, h1]
theorem textSign_sound {s : ByteArray} {zs : List Int} (h : textSign s = some zs) : allB zs = true ∧ signT zs = s := by
  unfold textSign at h
  split at h
  · rename_i hs
    injection h with h
    subst h
    exact ⟨rfl, by rw [hs]; rfl⟩
  · cases h1 : readAll (cuts s 46) with
    | none => rw [h1] at h; cases h
    | some ys =>
      rw [h1] at h
      simp only at h
      split at h
      · rename_i hq
        injection h with h
        subst h
        exact ⟨(readAll_sound h1).1, hq⟩
      · cases h
theorem textSign_of {zs : List Int} (h : allB zs = true) : textSign (signT zs) = some zs := by
  by_cases hz : zs = []
  · subst hz; exact textSign_dash
  · have e : signT zs = mkB (joinL 46 (zs.map numL)) := by rw [signT_t h]; unfold signL; rw [if_neg hz]
    have hc : cuts (signT zs) 46 = zs.map (fun z => mkB (numL z)) := by
      rw [cuts_list, e, mkB_list]
      have := cut_join (c := 46) (xs := zs.map numL) (by simpa using hz) (fun x hx b hb => by
        obtain ⟨z, _, rfl⟩ := List.mem_map.1 hx
        have := numL_digits z b hb
        show ¬ b.toNat = 46
        omega)
      rw [show (46 : Nat) = (46 : UInt8).toNat from rfl, this, List.map_map]
      rfl
    have hne : ¬ signT zs = mkB [45] := by
      rw [e]
      intro k
      have k := mkB_inj k
      cases zs with
      | nil => exact hz rfl
      | cons z zs =>
        have hd := numL_digits z
        have hl := (numL_len (z := z) (by have := signB_bd (List.all_eq_true.1 h z (by simp)); omega)).1
        cases hn : numL z with
        | nil => rw [hn] at hl; simp at hl
        | cons c r =>
          have := hd c (by rw [hn]; simp)
          have hc45 : c = 45 := by
            cases zs with
            | nil => simp [joinL, hn] at k; exact k.1
            | cons y ys => simp [joinL, hn] at k
          subst hc45
          exact absurd this.1 (by decide)
    rw [textSign_some hne (by rw [hc]; exact readAll_num h), if_pos rfl]
end Go.Proofs.YtbbpapaobehlcaaDoor.low


/-
  Contracts of spec.SignText and spec.TextSign.
-/
namespace Go.Proofs.YtbbpapaobehlcaaDoor.low
open Go.RowKit
set_option linter.unusedVariables false

theorem mk46 : (⟨#[46]⟩ : ByteArray) = mkB [46] := rfl
theorem mk45 : (⟨#[45]⟩ : ByteArray) = mkB [45] := rfl
theorem mk32 : (⟨#[32]⟩ : ByteArray) = mkB [32] := rfl
theorem size46 : (⟨#[46]⟩ : ByteArray).size = 1 := rfl
/-- one character more -/
theorem signJ_step {zs : List Int} {k : Nat} {z : Int} (h : zs[k]? = some z) (hk : ¬ k = 0) (ha : allB zs = true) : mkB (signJ (zs.take k)) ++ (⟨#[46]⟩ : ByteArray) ++ nt.numT z = mkB (signJ (zs.take (k + 1))) := by
  have hb := signB_bd (List.all_eq_true.1 ha z (List.mem_of_getElem? h))
  rw [signJ_snoc h, if_neg hk, numT_mk hb.1 (by omega), mk46, mkB_app, mkB_app]
  simp
theorem signJ_first {zs : List Int} {k : Nat} {z : Int} (h : zs[k]? = some z) (hk : k = 0) (ha : allB zs = true) : mkB (signJ (zs.take k)) ++ nt.numT z = mkB (signJ (zs.take (k + 1))) := by
  have hb := signB_bd (List.all_eq_true.1 ha z (List.mem_of_getElem? h))
  rw [signJ_snoc h, if_pos hk, numT_mk hb.1 (by omega), mkB_app]
  subst hk
  rfl
theorem numT_size {z : Int} (h : signB z = true) : (nt.numT z).size ≤ 10 := by
  have hb := signB_bd h
  rw [numT_mk hb.1 (by omega), mkB_size]
  exact (numL_len (by omega)).2
set_option maxRecDepth 100000 in
set_option maxHeartbeats 1600000 in
theorem specSignText_any (A : Option Addr) (c : Nat) (zs : List Int) (w : World) (hr : Row (Value.int .i64) w w.heap.size A zs) (hl : zs.length ≤ 1048577) :
    Calls Tryd.prog 35 #[.slice A zs.length c] w (Strs (signT zs) w) := by
  cases hab : allB zs
  · have HB := Lib.hid (signT_f hab)
    go_enter Tryd.func35, Tryd.ntmps35
    go_wp2_with fail
    refine (specSignsOk_any A c zs _ hr (by omega)).mono ?_
    rintro e w' ⟨rfl, rfl⟩
    rw [hab]
    go_wp2
    go_ret
    rw [HB.out]
    exact ⟨rfl, Below.refl _ _⟩
  · have HAB := Lib.hid hab
    by_cases hz : zs.length = 0
    · have e0 : zs = [] := List.eq_nil_of_length_eq_zero hz
      subst e0
      go_enter Tryd.func35, Tryd.ntmps35
      go_wp2_with fail
      refine (specSignsOk_any A c [] _ hr (by omega)).mono ?_
      rintro e w' ⟨rfl, rfl⟩
      go_wp2
      go_ret
      exact ⟨rfl, Below.refl _ _⟩
    · have HB := Lib.hid (show signT zs = mkB (signJ zs) by rw [signT_t hab]; unfold signL signJ; rw [if_neg (by intro e; rw [e] at hz; exact hz rfl)])
      have hz' : ((zs.length : Int) == 0) = false := by rw [beq_eq_false_iff_ne]; omega
      go_enter Tryd.func35, Tryd.ntmps35
      go_wp2_with fail
      refine (specSignsOk_any A c zs _ hr (by omega)).mono ?_
      rintro e w' ⟨rfl, rfl⟩
      rw [hab]
      clear hab hz
      go_wp2
      go_loopw [3, 14] (fun o i wr => ∃ k : Nat, k ≤ zs.length ∧ i = .int .i64 k ∧ o = .string (mkB (signJ (zs.take k))) ∧ Below w.heap.size w wr) (fun _ i _ => zs.length - (intOf i).toNat)
      case atStart => exact ⟨0, Nat.zero_le _, rfl, rfl, Below.refl _ _⟩
      case round =>
        obtain ⟨k, hk, rfl, rfl, hbel⟩ := hrel
        have hle : (mkB (signJ (zs.take k))).size ≤ 20000000 := by
          rw [mkB_size]
          have := signJ_len (allB_take HAB.out k)
          have : (zs.take k).length ≤ k := List.length_take_le _ _
          omega
        by_cases hlt : k < zs.length
        · obtain ⟨ad, z, rfl, hbl, hz, hc⟩ := hr.at_ hlt
          have hc' : wr.cell? (ad.add k) = some (.int .i64 z) := by rw [hbel.cell (by rw [block_of_add]; exact hbl)]; exact hc
          have hs := allB_at hz HAB.out
          have hns := numT_size hs
          clear hc
          by_cases hk0 : k = 0
          · have HS := Lib.hid (signJ_first hz hk0 HAB.out)
            clear hz
            generalize mkB (signJ (zs.take k)) = o at *
            have hs2 : o.size + (nt.numT z).size ≤ 9223372036854775807 := by omega
            have hk1 : ¬ (0 : Int) < (k : Int) := by omega
            clear hk0
            go_wp2_with fail
            refine (nt.specNumText_any z _).mono ?_
            rintro e w' ⟨rfl, b1⟩
            go_wp2
            go_roundw
            case rel => exact ⟨k + 1, by omega, by go_num, by rw [← HS.out], hbel.trans (b1.mono hbel.size)⟩
            case measure => simp [intOf]; omega
          · have HS := Lib.hid (signJ_step hz hk0 HAB.out)
            clear hz
            generalize mkB (signJ (zs.take k)) = o at *
            have hs1 : o.size + (⟨#[46]⟩ : ByteArray).size ≤ 9223372036854775807 := by rw [size46]; omega
            have hs2 : (o ++ (⟨#[46]⟩ : ByteArray)).size + (nt.numT z).size ≤ 9223372036854775807 := by rw [ByteArray.size_append, size46]; omega
            have hk1 : (0 : Int) < (k : Int) := by omega
            go_wp2_with fail
            refine (nt.specNumText_any z _).mono ?_
            rintro e w' ⟨rfl, b1⟩
            go_wp2
            go_roundw
            case rel => exact ⟨k + 1, by omega, by go_num, by rw [← HS.out], hbel.trans (b1.mono hbel.size)⟩
            case measure => simp [intOf]; omega
        · have hke : zs.take k = zs := List.take_of_length_le (by omega)
          rw [hke] at hle ⊢
          clear hke
          go_wp2
          go_ret
          rw [HB.out]
          exact ⟨rfl, hbel⟩
end Go.Proofs.YtbbpapaobehlcaaDoor.low


/-
  Contracts of the specification's builder: spec.l02Flush, l02Keep, l02Put, l02Drop, l02Done.
-/
namespace Go.Proofs.YtbbpapaobehlcaaDoor.low
open Go.RowKit
set_option linter.unusedVariables false

theorem free_grown {w w0 w1 : World} {g o : Nat} {cs : Array Value} {T : TypeId} {r : Option Nat} (hg : w.heap[g]? = some (.cells cs T (0, 0))) (h0 : Below w.heap.size w w0) (hgrow : w0.grownBy w1 r) (hne : ¬ r = some g) : w1.frozen? ⟨g, o, none⟩ = false := by
  have hlt := lt_of_some hg
  have : w1.heap[g]? = some (.cells cs T (0, 0)) := by rw [hgrow.block g (Nat.lt_of_lt_of_le hlt h0.size) (fun e => hne e.symm), h0.block g hlt]; exact hg
  simp [World.frozen?, this]
theorem below_made (w : World) (o : Obj) : Below w.heap.size w (w.alloc o).drew := ((Below.refl _ _).alloc (Nat.le_refl _) o).drew
theorem cell_grown {w w0 w1 : World} {g : Nat} {cs : Array Value} {T : TypeId} {r : Option Nat} (o : Nat) (hg : w.heap[g]? = some (.cells cs T (0, 0))) (h0 : Below w.heap.size w w0) (hgrow : w0.grownBy w1 r) (hne : ¬ r = some g) : w1.cell? ⟨g, o, none⟩ = cs[o]? := by
  have hlt := lt_of_some hg
  have : w1.heap[g]? = some (.cells cs T (0, 0)) := by rw [hgrow.block g (Nat.lt_of_lt_of_le hlt h0.size) (fun e => hne e.symm), h0.block g hlt]; exact hg
  exact cell_of_row _ _ o _ _ _ this
theorem Box.drew {lo g : Nat} {T : TypeId} {w : World} {v u : Value} {d : Int} {ps : List Pt} {us : List Value} (h : Box lo g T w v u d ps us) : Box lo g T w.drew v u d ps us := ⟨h.box, h.row.drew, h.len, h.low⟩
theorem Apart.drew {lo hi : Nat} {w : World} {ps : List Pt} {us : List Value} (h : Apart lo hi w ps us) : Apart lo hi w.drew ps us := h.keep (Nat.le_refl _) (fun _ _ _ _ _ _ => rfl)
theorem Apart.drewS {lo : Nat} {w : World} {ps : List Pt} {us : List Value} (h : Apart lo w.heap.size w ps us) : Apart lo w.drew.heap.size w.drew ps us := h.drew

def putL (put : List Int) : List Pt := if put.length = 0 then [] else [⟨2, 0, put⟩]
def dropL (d : Int) : List Pt := if 0 < d then [⟨3, d, []⟩] else []
/-- the builder: its parts, what is to be put, what is dropped -/
def BAt (lo g : Nat) (T : TypeId) (w : World) (ps : List Pt) (put : List Int) (d : Int) : Prop :=
  ∃ v u us, Box lo g T w v u d ps us ∧ Apart lo w.heap.size w (ps ++ [⟨2, 0, put⟩]) (us ++ [u])
/-- the function returns nothing and leaves the builder so -/
def Built (lo g : Nat) (T : TypeId) (w : World) (ps : List Pt) (put : List Int) (d : Int) (e : Ending) (w' : World) : Prop := e = .returned (.tuple #[]) ∧ BAt lo g T w' ps put d ∧ Below lo w w'

theorem Apart.init {lo hi : Nat} {w : World} {ps : List Pt} {us : List Value} {p : Pt} {u : Value} (h : Apart lo hi w (ps ++ [p]) (us ++ [u])) (hl : us.length = ps.length) : Apart lo hi w ps us := by
  obtain ⟨h1, h2, h3⟩ := h
  refine ⟨hl, fun i q x hq hx => h2 i q x ?_ ?_, fun i j k a b ha hb => h3 i j k a b ?_ ?_⟩
  · rw [List.getElem?_append_left (idx_lt hq)]; exact hq
  · rw [List.getElem?_append_left (idx_lt hx)]; exact hx
  · rw [List.getElem?_append_left (idx_lt ha)]; exact ha
  · rw [List.getElem?_append_left (idx_lt hb)]; exact hb
theorem Apart.last {lo hi : Nat} {w : World} {ps : List Pt} {us : List Value} {p : Pt} {u : Value} (h : Apart lo hi w (ps ++ [p]) (us ++ [u])) (hl : us.length = ps.length) : w.ownsRow lo 3 1 u p.signs.length (p.signs.map (Value.int .i64)) := by
  have := (h.2.1 ps.length p u (by simp) (by rw [← hl]; simp)).1
  exact this
theorem Apart.bare {lo hi : Nat} {w : World} {ps : List Pt} {us : List Value} (k n : Int) (h : Apart lo hi w ps us) : Apart lo hi w (ps ++ [⟨k, n, []⟩]) (us ++ [.slice none 0 0]) :=
  h.snoc (World.ownsRow_nil _ _ _ _) (fun k hk => by simp [Value.ownBlock] at hk) (fun i v k _ _ he => by simp [Value.ownBlock] at he)

/-- the builder with nothing pending -/
def BNil (lo g : Nat) (T : TypeId) (w : World) (ps : List Pt) : Prop := ∃ v us, Box lo g T w v (.slice none 0 0) 0 ps us ∧ Apart lo w.heap.size w ps us
theorem BNil.at_ {lo g : Nat} {T : TypeId} {w : World} {ps : List Pt} (h : BNil lo g T w ps) : BAt lo g T w ps [] 0 := by
  obtain ⟨v, us, hx, ha⟩ := h
  exact ⟨v, _, us, hx, Apart.bare 2 0 ha⟩
def Flushed (lo g : Nat) (T : TypeId) (w : World) (ps : List Pt) (e : Ending) (w' : World) : Prop := e = .returned (.tuple #[]) ∧ BNil lo g T w' ps ∧ Below lo w w'
theorem Box.clear {lo g : Nat} {T : TypeId} {w : World} {v u : Value} {d : Int} {ps : List Pt} {us : List Value} (h : Box lo g T w v u d ps us) (hT1 : ¬ T = 3) (hT2 : ¬ T = 64) (ha : Apart lo w.heap.size w ps us) :
    BNil lo g T ((w.setCell ⟨g, 1, none⟩ (.slice none 0 0)).setCell ⟨g, 2, none⟩ (.int .i64 0)) ps ∧ Below lo w ((w.setCell ⟨g, 1, none⟩ (.slice none 0 0)).setCell ⟨g, 2, none⟩ (.int .i64 0)) := by
  refine ⟨⟨v, us, ⟨?_, ?_, h.len, h.low⟩, ?_⟩, ((Below.refl _ _).setCell h.low _).setCell h.low _⟩
  · rw [heap_setCell_same _ _ _ _ _ _ (heap_setCell_same _ _ _ _ _ _ h.box)]; rfl
  · exact ownsRow_setCell_other (ownsRow_setCell_other h.row (own_far h.row h.box hT2) _) (own_far h.row h.box hT2) _
  · refine ha.keep (by simp) (fun i x k hx hk1 hk2 => ?_)
    obtain ⟨q, hq⟩ := idx_some (l := ps) (i := i) (by rw [← ha.1]; exact idx_lt hx)
    have hkg : ¬ k = g := fun e => own_far (ha.2.1 i q x hq hx).1 h.box hT1 (by rw [hk1, e])
    rw [Below.heap_setCell _ _ _ _ hkg, Below.heap_setCell _ _ _ _ hkg]

/-- the blocks of a builder lie in S -/
def OwnS (S : Nat → Prop) (g : Nat) (v : Value) (us : List Value) : Prop := S g ∧ (∀ k, v.ownBlock = some k → S k) ∧ ∀ (i k : Nat) (x : Value), us[i]? = some x → x.ownBlock = some k → S k
/-- blocks outside S are as they were -/
structure Fr (S : Nat → Prop) (w w' : World) : Prop where
  size : w.heap.size ≤ w'.heap.size
  block : ∀ b, b < w.heap.size → ¬ S b → w'.heap[b]? = w.heap[b]?
theorem Fr.refl (S : Nat → Prop) (w : World) : Fr S w w := ⟨Nat.le_refl _, fun _ _ _ => rfl⟩
theorem Fr.trans {S : Nat → Prop} {a b c : World} (h : Fr S a b) (k : Fr S b c) : Fr S a c := ⟨Nat.le_trans h.size k.size, fun i hi hs => (k.block i (Nat.lt_of_lt_of_le hi h.size) hs).trans (h.block i hi hs)⟩
theorem Fr.setCell {S : Nat → Prop} {a w : World} (h : Fr S a w) {p : Addr} (hp : S p.block) (u : Value) : Fr S a (w.setCell p u) :=
  h.trans ⟨by simp [World.setCell], fun b _ hb => Below.heap_setCell _ _ _ _ (fun e => hb (by rw [e]; exact hp))⟩
theorem Fr.drew {S : Nat → Prop} {a w : World} (h : Fr S a w) : Fr S a w.drew := h.trans ⟨Nat.le_refl _, fun _ _ _ => rfl⟩
theorem Fr.below {S : Nat → Prop} {w w' : World} (h : Below w.heap.size w w') : Fr S w w' := ⟨h.size, fun b hb _ => h.block b hb⟩
theorem Fr.grown {S : Nat → Prop} {a w w' : World} {r : Option Nat} (h : Fr S a w) (hg : w.grownBy w' r) (hr : ∀ k, r = some k → S k) : Fr S a w' :=
  h.trans ⟨hg.size, fun b hb hs => hg.block b hb (fun e => hs (hr b e.symm))⟩
theorem OwnS.push {S : Nat → Prop} {g gg cap n H : Nat} {v u' : Value} {us : List Value} (h : OwnS S g v us) (hu : ∀ k, u'.ownBlock = some k → S k) (hat : v.ownBlock = some gg ∨ gg = H) (hH : S H) : OwnS S g (.slice (some ⟨gg, 0, none⟩) n cap) (us ++ [u']) := by
  refine ⟨h.1, fun k hk => ?_, fun i k x hx hk => ?_⟩
  · have e : gg = k := by simpa [Value.ownBlock] using hk
    subst e
    rcases hat with e | e
    · exact h.2.1 _ e
    · rw [e]; exact hH
  · by_cases hi : i < us.length
    · rw [List.getElem?_append_left hi] at hx
      exact h.2.2 i k x hx hk
    · rw [List.getElem?_append_right (by omega)] at hx
      have hx' : i - us.length = 0 := by
        have := idx_lt hx
        simp at this
        omega
      rw [hx'] at hx
      simp at hx
      subst hx
      exact hu k hk
theorem OwnS.init {S : Nat → Prop} {g : Nat} {v u : Value} {us : List Value} (h : OwnS S g v (us ++ [u])) : OwnS S g v us := ⟨h.1, h.2.1, fun i k x hx hk => h.2.2 i k x (by rw [List.getElem?_append_left (idx_lt hx)]; exact hx) hk⟩
theorem OwnS.last {S : Nat → Prop} {g : Nat} {v u : Value} {us : List Value} (h : OwnS S g v (us ++ [u])) : ∀ k, u.ownBlock = some k → S k := fun k hk => h.2.2 us.length k u (by simp) hk
theorem nil_own {S : Nat → Prop} : ∀ k, (Value.slice none 0 0).ownBlock = some k → S k := fun k hk => by simp [Value.ownBlock] at hk
theorem push_fr {S : Nat → Prop} {g : Nat} {v : Value} {us : List Value} {w w0 w1 : World} (h : OwnS S g v us) (h0 : Below w.heap.size w w0) (hg : w0.grownBy w1 v.ownBlock) (x : Value) : Fr S w (w1.setCell ⟨g, 0, none⟩ x) :=
  ((Fr.below h0).grown hg (fun k hk => h.2.1 k hk)).setCell h.1 x
/-- the builder: its parts, what is to be put, what is dropped; its blocks lie in S -/
def BAtS (S : Nat → Prop) (lo g : Nat) (T : TypeId) (w : World) (ps : List Pt) (put : List Int) (d : Int) : Prop :=
  ∃ v u us, Box lo g T w v u d ps us ∧ Apart lo w.heap.size w (ps ++ [⟨2, 0, put⟩]) (us ++ [u]) ∧ OwnS S g v (us ++ [u])
def BNilS (S : Nat → Prop) (lo g : Nat) (T : TypeId) (w : World) (ps : List Pt) : Prop := ∃ v us, Box lo g T w v (.slice none 0 0) 0 ps us ∧ Apart lo w.heap.size w ps us ∧ OwnS S g v us
def FlushedS (S : Nat → Prop) (lo g : Nat) (T : TypeId) (w : World) (ps : List Pt) (e : Ending) (w' : World) : Prop := e = .returned (.tuple #[]) ∧ BNilS S lo g T w' ps ∧ Below lo w w' ∧ Fr S w w'
def BuiltS (S : Nat → Prop) (lo g : Nat) (T : TypeId) (w : World) (ps : List Pt) (put : List Int) (d : Int) (e : Ending) (w' : World) : Prop := e = .returned (.tuple #[]) ∧ BAtS S lo g T w' ps put d ∧ Below lo w w' ∧ Fr S w w'
theorem BAt.all {lo g : Nat} {T : TypeId} {w : World} {ps : List Pt} {put : List Int} {d : Int} (h : BAt lo g T w ps put d) : BAtS (fun _ => True) lo g T w ps put d := by
  obtain ⟨v, u, us, hx, ha⟩ := h
  exact ⟨v, u, us, hx, ha, trivial, fun _ _ => trivial, fun _ _ _ _ _ => trivial⟩
theorem BAtS.any {S : Nat → Prop} {lo g : Nat} {T : TypeId} {w : World} {ps : List Pt} {put : List Int} {d : Int} (h : BAtS S lo g T w ps put d) : BAt lo g T w ps put d := by
  obtain ⟨v, u, us, hx, ha, _⟩ := h
  exact ⟨v, u, us, hx, ha⟩
theorem FlushedS.any {S : Nat → Prop} {lo g : Nat} {T : TypeId} {w w' : World} {ps : List Pt} {e : Ending} (h : FlushedS S lo g T w ps e w') : Flushed lo g T w ps e w' := by
  obtain ⟨h1, ⟨v, us, hx, ha, _⟩, b, _⟩ := h
  exact ⟨h1, ⟨v, us, hx, ha⟩, b⟩
theorem BuiltS.any {S : Nat → Prop} {lo g : Nat} {T : TypeId} {w w' : World} {ps : List Pt} {put : List Int} {d : Int} {e : Ending} (h : BuiltS S lo g T w ps put d e w') : Built lo g T w ps put d e w' := ⟨h.1, h.2.1.any, h.2.2.1⟩
theorem BNilS.at_ {S : Nat → Prop} {lo g : Nat} {T : TypeId} {w : World} {ps : List Pt} (h : BNilS S lo g T w ps) : BAtS S lo g T w ps [] 0 := by
  obtain ⟨v, us, hx, ha, ho⟩ := h
  refine ⟨v, _, us, hx, Apart.bare 2 0 ha, ho.1, ho.2.1, fun i k x hxi hk => ?_⟩
  by_cases hi : i < us.length
  · rw [List.getElem?_append_left hi] at hxi
    exact ho.2.2 i k x hxi hk
  · rw [List.getElem?_append_right (by omega)] at hxi
    have hx' : i - us.length = 0 := by
      have := idx_lt hxi
      simp at this
      omega
    rw [hx'] at hxi
    simp at hxi
    subst hxi
    simp [Value.ownBlock] at hk
theorem Box.clearS {S : Nat → Prop} {lo g : Nat} {T : TypeId} {w : World} {v u : Value} {d : Int} {ps : List Pt} {us : List Value} (h : Box lo g T w v u d ps us) (hT1 : ¬ T = 3) (hT2 : ¬ T = 64) (ha : Apart lo w.heap.size w ps us) (ho : OwnS S g v us) :
    BNilS S lo g T ((w.setCell ⟨g, 1, none⟩ (.slice none 0 0)).setCell ⟨g, 2, none⟩ (.int .i64 0)) ps ∧ Below lo w ((w.setCell ⟨g, 1, none⟩ (.slice none 0 0)).setCell ⟨g, 2, none⟩ (.int .i64 0)) ∧ Fr S w ((w.setCell ⟨g, 1, none⟩ (.slice none 0 0)).setCell ⟨g, 2, none⟩ (.int .i64 0)) := by
  refine ⟨⟨v, us, ⟨?_, ?_, h.len, h.low⟩, ?_, ho⟩, ((Below.refl _ _).setCell h.low _).setCell h.low _, ((Fr.refl S w).setCell (p := ⟨g, 1, none⟩) ho.1 _).setCell (p := ⟨g, 2, none⟩) ho.1 _⟩
  · rw [heap_setCell_same _ _ _ _ _ _ (heap_setCell_same _ _ _ _ _ _ h.box)]; rfl
  · exact ownsRow_setCell_other (ownsRow_setCell_other h.row (own_far h.row h.box hT2) _) (own_far h.row h.box hT2) _
  · refine ha.keep (by simp) (fun i x k hx hk1 hk2 => ?_)
    obtain ⟨q, hq⟩ := idx_some (l := ps) (i := i) (by rw [← ha.1]; exact idx_lt hx)
    have hkg : ¬ k = g := fun e => own_far (ha.2.1 i q x hq hx).1 h.box hT1 (by rw [hk1, e])
    rw [Below.heap_setCell _ _ _ _ hkg, Below.heap_setCell _ _ _ _ hkg]

set_option maxRecDepth 100000 in
set_option maxHeartbeats 3200000 in
theorem specFlush_f (S : Nat → Prop) (lo g : Nat) (ps : List Pt) (put : List Int) (d : Int) (w : World) (hb : BAtS S lo g 122 w ps put d) (hS : ∀ b, w.heap.size ≤ b → S b) (hl : ps.length ≤ 4294967296) (hp : put.length ≤ 4294967296) :
    Calls Tryd.prog 131 #[.pointer (some ⟨g, 0, none⟩)] w (FlushedS S lo g 122 w (ps ++ putL put ++ dropL d)) := by
  obtain ⟨i0, hi0, hz0, hz1, hz2⟩ := info_parts part_info
  obtain ⟨v, u, us, hx, ha, hos⟩ := hb
  have HS := Lib.hid hS
  have HOS := Lib.hid hos
  clear hS hos
  have ha0 := ha.init hx.len
  obtain ⟨A, c, rfl⟩ := own_form (ha.last hx.len)
  have c0 := hx.cell0
  have c1 := hx.cell1
  have c2 := hx.cell2
  have f0 := hx.free 0
  have f1 := hx.free 1
  have f2 := hx.free 2
  have HX := Lib.hid hx
  have HA := Lib.hid ha
  have HA0 := Lib.hid ha0
  clear hx ha ha0
  by_cases hput : put.length = 0
  · have e1 : putL put = [] := by simp [putL, hput]
    rw [e1, List.append_nil]
    by_cases hd : 0 < d
    · have e2 : dropL d = [⟨3, d, []⟩] := by simp [dropL, hd]
      rw [e2]
      go_enter Tryd.func131, Tryd.ntmps131
      go_wp2_with fail
      have lg := HX.out.lt
      have hlo : lo ≤ w.heap.size := Nat.le_trans HX.out.low (Nat.le_of_lt lg)
      have hne := own_far HX.out.row HX.out.box (by decide)
      go_region_law ((refine step_append_lies _ (by rfl) (.tmp 31) (.tmp 37) 24 (by rfl) lo 64 i0 _ 3 40 Tryd.underlying24 hi0 hz0 hz1 hz2 rfl (by omega) v ps.length (cellsOf ps us) (by rfl) ((HX.out.row.alloc _).drew) ⟨w.heap.size, 0, none⟩ 1 1 [.int .i64 3, .int .i64 d, .slice none 0 0] (by rfl) (by rfl) (World.news_of_block (cs := #[.int .i64 3, .int .i64 d, .slice none 0 0]) (t := 64) (fr := (0, 0)) (heap_alloc_new w _)) (by simp [Value.oneCell']) (by omega) (by unfold maxLen; omega) (by omega) (by simp; omega) (w.heap.size + 1) (by simp) ?_; intro gg cap w1 hown1 hgrow hat hlt; have hf := free_grown (o := 0) HX.out.box (below_made w _) hgrow hne; have hf1 := free_grown (o := 1) HX.out.box (below_made w _) hgrow hne; have hf2 := free_grown (o := 2) HX.out.box (below_made w _) hgrow hne; have hc : w1.cell? ⟨g, 0, none⟩ = some v := cell_grown 0 HX.out.box (below_made w _) hgrow hne; have hc1 : w1.cell? ⟨g, 1, none⟩ = some (.slice A put.length c) := cell_grown 1 HX.out.box (below_made w _) hgrow hne; have hc2 : w1.cell? ⟨g, 2, none⟩ = some (.int .i64 d) := cell_grown 2 HX.out.box (below_made w _) hgrow hne))
      all_goals
        obtain ⟨hx2, ha2, b2⟩ := Box.push (p := ⟨3, d, []⟩) HX.out (by decide) (by decide) (Apart.bare 3 d HA0.out) (below_made w _) hown1 hgrow
        have HO2 := Lib.hid (HOS.out.init.push (n := ps.length + 1) (cap := cap) nil_own hat (HS.out _ (by omega)))
        have HR2 := Lib.hid (push_fr HOS.out.init (below_made w _) hgrow (.slice (some ⟨gg, 0, none⟩) (ps.length + 1) cap))
        have HX2 := Lib.hid hx2
        have HA2 := Lib.hid ha2
        have HB2 := Lib.hid b2
        clear hx2 ha2 b2
        go_wp2
        go_end0
        obtain ⟨r1, r2, r3⟩ := HX2.out.clearS (by decide) (by decide) HA2.out HO2.out
        exact ⟨rfl, r1, HB2.out.trans r2, HR2.out.trans r3⟩

    · have e2 : dropL d = [] := by simp [dropL]; omega
      rw [e2, List.append_nil]
      go_enter Tryd.func131, Tryd.ntmps131
      go_wp2_with fail
      go_end0
      obtain ⟨r1, r2, r3⟩ := HX.out.clearS (by decide) (by decide) HA0.out HOS.out.init
      exact ⟨rfl, r1, r2, r3⟩
  · have hput' : (0 : Int) < (put.length : Int) := by omega
    have e1 : putL put = [⟨2, 0, put⟩] := by simp [putL, hput]
    rw [e1]
    by_cases hd : 0 < d
    · have e2 : dropL d = [⟨3, d, []⟩] := by simp [dropL, hd]
      rw [e2]
      generalize hQ : ps ++ [⟨2, 0, put⟩] ++ [⟨3, d, []⟩] = Q
      have HQ := Lib.hid hQ
      clear hQ
      go_enter Tryd.func131, Tryd.ntmps131
      go_wp2_with fail
      have lg := HX.out.lt
      have hlo : lo ≤ w.heap.size := Nat.le_trans HX.out.low (Nat.le_of_lt lg)
      have hne := own_far HX.out.row HX.out.box (by decide)
      go_region_law ((refine step_append_lies _ (by rfl) (.tmp 12) (.tmp 18) 24 (by rfl) lo 64 i0 _ 3 40 Tryd.underlying24 hi0 hz0 hz1 hz2 rfl (by omega) v ps.length (cellsOf ps us) (by rfl) ((HX.out.row.alloc _).drew) ⟨w.heap.size, 0, none⟩ 1 1 [.int .i64 2, .int .i64 0, .slice A put.length c] (by rfl) (by rfl) (World.news_of_block (cs := #[.int .i64 2, .int .i64 0, .slice A put.length c]) (t := 64) (fr := (0, 0)) (heap_alloc_new w _)) (by simp [Value.oneCell']) (by omega) (by unfold maxLen; omega) (by omega) (by simp; omega) (w.heap.size + 1) (by simp) ?_; intro gg cap w1 hown1 hgrow hat hlt; have hf := free_grown (o := 0) HX.out.box (below_made w _) hgrow hne; have hf1 := free_grown (o := 1) HX.out.box (below_made w _) hgrow hne; have hf2 := free_grown (o := 2) HX.out.box (below_made w _) hgrow hne; have hc : w1.cell? ⟨g, 0, none⟩ = some v := cell_grown 0 HX.out.box (below_made w _) hgrow hne; have hc1 : w1.cell? ⟨g, 1, none⟩ = some (.slice A put.length c) := cell_grown 1 HX.out.box (below_made w _) hgrow hne; have hc2 : w1.cell? ⟨g, 2, none⟩ = some (.int .i64 d) := cell_grown 2 HX.out.box (below_made w _) hgrow hne))
      all_goals

        obtain ⟨hx1, ha1, b1⟩ := Box.push (p := ⟨2, 0, put⟩) HX.out (by decide) (by decide) HA.out (below_made w _) hown1 hgrow
        have HO1 := Lib.hid (HOS.out.init.push (n := ps.length + 1) (cap := cap) HOS.out.last hat (HS.out _ (by omega)))
        have HR1 := Lib.hid (push_fr HOS.out.init (below_made w _) hgrow (.slice (some ⟨gg, 0, none⟩) (ps.length + 1) cap))
        clear hown1 hgrow hat hlt hlo hne lg c0 c1 c2 f0 f1 f2
        have HX1 := Lib.hid hx1
        have HA1 := Lib.hid ha1
        have HB1 := Lib.hid b1
        clear hx1 ha1 b1
        go_wp2_with fail
        clear hf hf1 hf2 hc hc1 hc2
        generalize (Value.slice (some ⟨gg, 0, none⟩) (ps.length + 1) cap) = v1 at *
        generalize w1.setCell ⟨g, 0, none⟩ v1 = W1 at *
        have c0 := HX1.out.cell0
        have c1 := HX1.out.cell1
        have c2 := HX1.out.cell2
        have f0 := HX1.out.free 0
        have f1 := HX1.out.free 1
        have f2 := HX1.out.free 2
        generalize hps : ps ++ [⟨2, 0, put⟩] = ps1 at *
        have hl1 : ps1.length ≤ 4294967297 := by rw [← hps]; simp; omega
        clear hps
        generalize us ++ [Value.slice A put.length c] = us1 at *
        have lg := HX1.out.lt
        have hlo : lo ≤ W1.heap.size := Nat.le_trans HX1.out.low (Nat.le_of_lt lg)
        have hne := own_far HX1.out.row HX1.out.box (by decide)
        go_region_law ((refine step_append_lies _ (by rfl) (.tmp 31) (.tmp 37) 24 (by rfl) lo 64 i0 _ 3 40 Tryd.underlying24 hi0 hz0 hz1 hz2 rfl (by omega) v1 ps1.length (cellsOf ps1 us1) (by rfl) ((HX1.out.row.alloc _).drew) ⟨W1.heap.size, 0, none⟩ 1 1 [.int .i64 3, .int .i64 d, .slice none 0 0] (by rfl) (by rfl) (World.news_of_block (cs := #[.int .i64 3, .int .i64 d, .slice none 0 0]) (t := 64) (fr := (0, 0)) (heap_alloc_new W1 _)) (by simp [Value.oneCell']) (by omega) (by unfold maxLen; omega) (by omega) (by simp; omega) (W1.heap.size + 1) (by simp) ?_; intro gg cap w1 hown1 hgrow hat hlt; have hf := free_grown (o := 0) HX1.out.box (below_made W1 _) hgrow hne; have hf1 := free_grown (o := 1) HX1.out.box (below_made W1 _) hgrow hne; have hf2 := free_grown (o := 2) HX1.out.box (below_made W1 _) hgrow hne; have hc : w1.cell? ⟨g, 0, none⟩ = some v1 := cell_grown 0 HX1.out.box (below_made W1 _) hgrow hne; have hc1 : w1.cell? ⟨g, 1, none⟩ = some (.slice A put.length c) := cell_grown 1 HX1.out.box (below_made W1 _) hgrow hne; have hc2 : w1.cell? ⟨g, 2, none⟩ = some (.int .i64 d) := cell_grown 2 HX1.out.box (below_made W1 _) hgrow hne))
        all_goals
          obtain ⟨hx2, ha2, b2⟩ := Box.push (p := ⟨3, d, []⟩) HX1.out (by decide) (by decide) (Apart.bare 3 d HA1.out) (below_made W1 _) hown1 hgrow
          have HO2 := Lib.hid (HO1.out.push (n := ps1.length + 1) (cap := cap) nil_own hat (HS.out _ (by have := HR1.out.size; omega)))
          have HR2 := Lib.hid (push_fr HO1.out (below_made W1 _) hgrow (.slice (some ⟨gg, 0, none⟩) (ps1.length + 1) cap))
          have HX2 := Lib.hid hx2
          have HA2 := Lib.hid ha2
          have HB2 := Lib.hid b2
          clear hx2 ha2 b2
          go_wp2
          go_end0
          obtain ⟨r1, r2, r3⟩ := HX2.out.clearS (by decide) (by decide) HA2.out HO2.out
          exact ⟨rfl, by rw [← HQ.out]; exact r1, HB1.out.trans (HB2.out.trans r2), HR1.out.trans (HR2.out.trans r3)⟩

    · have e2 : dropL d = [] := by simp [dropL]; omega
      rw [e2, List.append_nil]
      go_enter Tryd.func131, Tryd.ntmps131
      go_wp2_with fail
      have lg := HX.out.lt
      have hlo : lo ≤ w.heap.size := Nat.le_trans HX.out.low (Nat.le_of_lt lg)
      have hne := own_far HX.out.row HX.out.box (by decide)
      go_region_law ((refine step_append_lies _ (by rfl) (.tmp 12) (.tmp 18) 24 (by rfl) lo 64 i0 _ 3 40 Tryd.underlying24 hi0 hz0 hz1 hz2 rfl (by omega) v ps.length (cellsOf ps us) (by rfl) ((HX.out.row.alloc _).drew) ⟨w.heap.size, 0, none⟩ 1 1 [.int .i64 2, .int .i64 0, .slice A put.length c] (by rfl) (by rfl) (World.news_of_block (cs := #[.int .i64 2, .int .i64 0, .slice A put.length c]) (t := 64) (fr := (0, 0)) (heap_alloc_new w _)) (by simp [Value.oneCell']) (by omega) (by unfold maxLen; omega) (by omega) (by simp; omega) (w.heap.size + 1) (by simp) ?_; intro gg cap w1 hown1 hgrow hat hlt; have hf := free_grown (o := 0) HX.out.box (below_made w _) hgrow hne; have hf1 := free_grown (o := 1) HX.out.box (below_made w _) hgrow hne; have hf2 := free_grown (o := 2) HX.out.box (below_made w _) hgrow hne; have hc : w1.cell? ⟨g, 0, none⟩ = some v := cell_grown 0 HX.out.box (below_made w _) hgrow hne; have hc1 : w1.cell? ⟨g, 1, none⟩ = some (.slice A put.length c) := cell_grown 1 HX.out.box (below_made w _) hgrow hne; have hc2 : w1.cell? ⟨g, 2, none⟩ = some (.int .i64 d) := cell_grown 2 HX.out.box (below_made w _) hgrow hne))
      all_goals

        obtain ⟨hx1, ha1, b1⟩ := Box.push (p := ⟨2, 0, put⟩) HX.out (by decide) (by decide) HA.out (below_made w _) hown1 hgrow
        have HO2 := Lib.hid (HOS.out.init.push (n := ps.length + 1) (cap := cap) HOS.out.last hat (HS.out _ (by omega)))
        have HR2 := Lib.hid (push_fr HOS.out.init (below_made w _) hgrow (.slice (some ⟨gg, 0, none⟩) (ps.length + 1) cap))
        have HX2 := Lib.hid hx1
        have HA2 := Lib.hid ha1
        have HB2 := Lib.hid b1
        clear hx1 ha1 b1
        go_wp2
        go_end0
        obtain ⟨r1, r2, r3⟩ := HX2.out.clearS (by decide) (by decide) HA2.out HO2.out
        exact ⟨rfl, r1, HB2.out.trans r2, HR2.out.trans r3⟩
theorem specFlush_any (lo g : Nat) (ps : List Pt) (put : List Int) (d : Int) (w : World) (hb : BAt lo g 122 w ps put d) (hl : ps.length ≤ 4294967296) (hp : put.length ≤ 4294967296) :
    Calls Tryd.prog 131 #[.pointer (some ⟨g, 0, none⟩)] w (Flushed lo g 122 w (ps ++ putL put ++ dropL d)) :=
  (specFlush_f (fun _ => True) lo g ps put d w hb.all (fun _ _ => trivial) hl hp).mono fun e w' h => h.any
end Go.Proofs.YtbbpapaobehlcaaDoor.low


/-
  Contracts of the specification's builder: spec.l02Put, l02Drop.
-/
namespace Go.Proofs.YtbbpapaobehlcaaDoor.low
open Go.RowKit
set_option linter.unusedVariables false

theorem run_append_zero {P : Program} {w : World} (base : Nat) (t ty e : TypeId) (i : TypeInfo) (size : Nat) (ht : P.underlying t = some (.slice e)) (hi : P.info? e = some i)
    (v : Value) (n : Nat) (xs : List Value) (hown : w.ownsRow base e size v n xs) (A : Option Addr) (c : Nat) :
    (Builtin.append_ #[t, t] ty #[v, .slice A 0 c]).run P w = .ok v w := by
  rcases hown.2 with ⟨rfl, rfl⟩ | ⟨g, cap, cur, rfl, _, _, hnc, _⟩
  · cases A <;> simp [Builtin.append_, run_underlying ht, sizeOf, typeInfo, hi, Builtin.lenOf, Builtin.firstCells, loadCells, loadCellsFrom]
  · cases A <;> simp [Builtin.append_, run_underlying ht, sizeOf, typeInfo, hi, Builtin.lenOf, Builtin.firstCells, loadCells, loadCellsFrom, hnc, storeCells]
theorem wpList_append_zero {P : Program} {w : World} {ops : Array Oper} {rest : List Oper} {o : Oper} {a : Act} {Q : Exit → Act → World → Prop} (hgd : o.guard = none) (s x : Operand) (t : TypeId)
    (ho : o.op = .call { callee := .builtin .append, args := #[s, x], argTypes := #[t, t] })
    (base : Nat) (e : TypeId) (i : TypeInfo) (size : Nat) (ht : P.underlying t = some (.slice e)) (hi : P.info? e = some i)
    (v : Value) (n : Nat) (xs : List Value) (hs : a.eval s = v) (hown : w.ownsRow base e size v n xs) (A : Option Addr) (c : Nat) (hx : a.eval x = .slice A 0 c)
    (h : wpList P ops Q rest (a.put o.dst v) w) : wpList P ops Q (o :: rest) a w := by
  refine wpList_plain hgd fun K hK => ?_
  have hrun := run_append_zero (P := P) (w := w) base t o.type e i size ht hi v n xs hown A c
  unfold Oper.wp
  simp [execOp, ho, resolve, invoke, builtin, hs, hx, hrun, Result.andThen]
  exact hK _ _ h

theorem Apart.far {lo hi : Nat} {w : World} {ps : List Pt} {us : List Value} {p : Pt} {u : Value} (h : Apart lo hi w (ps ++ [p]) (us ++ [u])) (hl : us.length = ps.length) {i k : Nat} {x : Value} (hx : us[i]? = some x) (hk : x.ownBlock = some k) : ¬ u.ownBlock = some k := fun hu => by
  have := h.2.2 i us.length k x u (by rw [List.getElem?_append_left (idx_lt hx)]; exact hx) (by simp) hk hu
  have := idx_lt hx
  omega
/-- more characters to be put: behind the append and the store -/
theorem Box.moreS {S : Nat → Prop} {lo g : Nat} {T : TypeId} {w w1 : World} {v u v' : Value} {d : Int} {ps : List Pt} {us : List Value} {put put' : List Int} (h : Box lo g T w v u d ps us) (hT1 : ¬ T = 3) (hT2 : ¬ T = 64)
    (ha : Apart lo w.heap.size w (ps ++ [⟨2, 0, put⟩]) (us ++ [u])) (hown : w1.ownsRow lo 3 1 v' put'.length (put'.map (Value.int .i64))) (hgrow : w.grownBy w1 u.ownBlock) (hat : v'.ownBlock = u.ownBlock ∨ v'.ownBlock = some w.heap.size) (hos : OwnS S g v (us ++ [u])) (hS : S w.heap.size) :
    BAtS S lo g T (w1.setCell ⟨g, 1, none⟩ v') ps put' d ∧ Below lo w (w1.setCell ⟨g, 1, none⟩ v') ∧ Fr S w (w1.setCell ⟨g, 1, none⟩ v') := by
  have hlt := h.lt
  have hu := ha.last h.len
  have ha0 := ha.init h.len
  have hold : ∀ k, k < w.heap.size → ¬ u.ownBlock = some k → w1.heap[k]? = w.heap[k]? := fun k hk hne => hgrow.block k hk (fun e => hne e.symm)
  have hg1 : w1.heap[g]? = some (.cells #[v, u, .int .i64 d] T (0, 0)) := by rw [hold g hlt (own_far hu h.box hT1)]; exact h.box
  have hvg := own_far hown hg1 hT1
  have hlow : lo ≤ w.heap.size := Nat.le_trans h.low (Nat.le_of_lt hlt)
  have hv' : ∀ k, v'.ownBlock = some k → S k := fun k hk => by
    rcases hat with e | e
    · exact hos.last k (by rw [← e]; exact hk)
    · rw [e] at hk
      injection hk with hk
      rw [← hk]; exact hS
  have hos' : OwnS S g v (us ++ [v']) := ⟨hos.1, hos.2.1, fun i k x hx hk => by
    by_cases hi : i < us.length
    · rw [List.getElem?_append_left hi] at hx
      exact hos.init.2.2 i k x hx hk
    · rw [List.getElem?_append_right (by omega)] at hx
      have hx' : i - us.length = 0 := by
        have := idx_lt hx
        simp at this
        omega
      rw [hx'] at hx
      simp at hx
      subst hx
      exact hv' k hk⟩
  have hfr : Fr S w (w1.setCell ⟨g, 1, none⟩ v') := ((Fr.refl S w).grown hgrow (fun k hk => hos.last k hk)).setCell (p := ⟨g, 1, none⟩) hos.1 _
  refine ⟨⟨v, v', us, ⟨?_, ?_, h.len, h.low⟩, ?_, hos'⟩, ?_, hfr⟩
  · rw [heap_setCell_same _ _ _ _ _ _ hg1]; rfl
  · refine own_keep h.row (fun k hk1 hk2 => ?_)
    have hkg : ¬ k = g := fun e => own_far h.row h.box hT2 (by rw [hk1, e])
    rw [Below.heap_setCell _ _ _ _ hkg]
    refine hold k hk2 (fun hk3 => ?_)
    obtain ⟨c1, e1⟩ := own_blk h.row hk1
    exact own_far hu e1 (by decide) hk3
  · have hkeep : Apart lo (w1.setCell ⟨g, 1, none⟩ v').heap.size (w1.setCell ⟨g, 1, none⟩ v') ps us := by
      refine ha0.keep (by simp; exact hgrow.size) (fun i x k hx hk1 hk2 => ?_)
      obtain ⟨q, hq⟩ := idx_some (l := ps) (i := i) (by rw [← h.len]; exact idx_lt hx)
      have hkg : ¬ k = g := fun e => own_far (ha0.2.1 i q x hq hx).1 h.box hT1 (by rw [hk1, e])
      rw [Below.heap_setCell _ _ _ _ hkg]
      exact hold k hk2 (ha.far h.len hx hk1)
    refine hkeep.snoc (ownsRow_setCell_other hown hvg _) (fun k hk => ?_) (fun i x k hx hk1 hk2 => ?_)
    · obtain ⟨c1, e1⟩ := own_blk hown hk
      have := lt_of_some e1
      simpa using this
    · obtain ⟨q, hq⟩ := idx_some (l := ps) (i := i) (by rw [← h.len]; exact idx_lt hx)
      rcases hat with e | e
      · exact ha.far h.len hx hk1 (by rw [← e]; exact hk2)
      · obtain ⟨c1, e1⟩ := own_blk (ha0.2.1 i q x hq hx).1 hk1
        have := lt_of_some e1
        rw [hk2] at e
        injection e with e
        omega
  · refine Below.setCell ?_ h.low _
    exact (Below.refl _ _).grown hgrow hlow (fun k hk => own_ge hu k hk)
theorem Box.dropS {S : Nat → Prop} {lo g : Nat} {T : TypeId} {w : World} {v u : Value} {d d' : Int} {ps : List Pt} {us : List Value} {put : List Int} (h : Box lo g T w v u d ps us) (hT1 : ¬ T = 3) (hT2 : ¬ T = 64)
    (ha : Apart lo w.heap.size w (ps ++ [⟨2, 0, put⟩]) (us ++ [u])) (hos : OwnS S g v (us ++ [u])) :
    BAtS S lo g T (w.setCell ⟨g, 2, none⟩ (.int .i64 d')) ps put d' ∧ Below lo w (w.setCell ⟨g, 2, none⟩ (.int .i64 d')) ∧ Fr S w (w.setCell ⟨g, 2, none⟩ (.int .i64 d')) := by
  refine ⟨⟨v, u, us, ⟨?_, ownsRow_setCell_other h.row (own_far h.row h.box hT2) _, h.len, h.low⟩, ha.keep (by simp) (fun i x k hx hk1 hk2 => ?_), hos⟩, (Below.refl _ _).setCell h.low _, (Fr.refl S w).setCell (p := ⟨g, 2, none⟩) hos.1 _⟩
  · rw [heap_setCell_same _ _ _ _ _ _ h.box]; rfl
  · obtain ⟨q, hq⟩ := idx_some (l := ps ++ [⟨2, 0, put⟩]) (i := i) (by rw [← ha.1]; exact idx_lt hx)
    have hkg : ¬ k = g := fun e => own_far (ha.2.1 i q x hq hx).1 h.box hT1 (by rw [hk1, e])
    rw [Below.heap_setCell _ _ _ _ hkg]

theorem ints_info : (Tryd.prog.info? 3).map (fun i => (i.zero, i.size, i.bytes)) = some (some (.int .i64 0), 1, 8) := by kernel_rfl

set_option maxHeartbeats 1600000 in
theorem specDrop_f (S : Nat → Prop) (lo g : Nat) (ps : List Pt) (put : List Int) (d n : Int) (w : World) (hb : BAtS S lo g 122 w ps put d) (hS : ∀ b, w.heap.size ≤ b → S b) (h0 : 0 ≤ d) (h1 : d ≤ 4611686018427387904) (h2 : 0 ≤ n) (h3 : n ≤ 1048576) :
    Calls Tryd.prog 114 #[.pointer (some ⟨g, 0, none⟩), .int .i64 n] w (BuiltS S lo g 122 w ps put (d + n)) := by
  obtain ⟨v, u, us, hx, ha, hos⟩ := hb
  have HS := Lib.hid hS
  have HOS := Lib.hid hos
  clear hS hos
  have c2 := hx.cell2
  have f2 := hx.free 2
  have HX := Lib.hid hx
  have HA := Lib.hid ha
  clear hx ha
  go_enter Tryd.func114, Tryd.ntmps114
  go_wp2
  go_end0
  obtain ⟨r1, r2, r3⟩ := HX.out.dropS (d' := d + n) (by decide) (by decide) HA.out HOS.out
  exact ⟨rfl, r1, r2, r3⟩

set_option maxHeartbeats 1600000 in
theorem specPut_f (S : Nat → Prop) (lo g : Nat) (ps : List Pt) (put : List Int) (d : Int) (A : Option Addr) (c : Nat) (zs : List Int) (w : World) (hb : BAtS S lo g 122 w ps put d) (hS : ∀ b, w.heap.size ≤ b → S b) (hr : Row (Value.int .i64) w w.heap.size A zs) (hp : put.length ≤ 4294967296) (hz : zs.length ≤ 4294967296) :
    Calls Tryd.prog 113 #[.pointer (some ⟨g, 0, none⟩), .slice A zs.length c] w (BuiltS S lo g 122 w ps (put ++ zs) d) := by
  obtain ⟨i0, hi0, hz0, hz1, hz2⟩ := info_parts ints_info
  obtain ⟨v, u, us, hx, ha, hos⟩ := hb
  have HS := Lib.hid hS
  have HOS := Lib.hid hos
  clear hS hos
  obtain ⟨Au, cu, rfl⟩ := own_form (ha.last hx.len)
  simp only at hx ha
  have c1 := hx.cell1
  have f1 := hx.free 1
  have ho := Lib.hid (ha.last hx.len)
  have hlo : lo ≤ w.heap.size := Nat.le_trans hx.low (Nat.le_of_lt hx.lt)
  have HX := Lib.hid hx
  have HA := Lib.hid ha
  clear hx ha
  by_cases hn : 0 < zs.length
  · obtain ⟨ad, rfl, hbk, hcs⟩ := hr hn
    have hcs' : ∀ j x, (zs.map (Value.int .i64))[j]? = some x → w.cell? (ad.add j) = some x := fun j x hx => by
      rw [List.getElem?_map] at hx
      obtain ⟨z, hz, rfl⟩ := Option.map_eq_some_iff.1 hx
      exact hcs j z hz
    have HC := Lib.hid hcs'
    clear hcs hcs' hr
    have hug := own_far ho.out HX.out.box (by decide)
    go_enter Tryd.func113, Tryd.ntmps113
    go_wp2_with (at_builtin; refine wpList_append_lies _ rfl (.tmp 8) (.tmp 9) 23 rfl lo 3 i0 (.int .i64 0) 1 8 Tryd.underlying23 hi0 hz0 hz1 hz2 rfl (by decide) (.slice Au put.length cu) put.length (put.map (Value.int .i64)) rfl ho.out ad zs.length c (zs.map (Value.int .i64)) rfl (by simp) HC.out (by simp [Value.oneCell']) (by omega) (by unfold maxLen; omega) (by omega) hlo w.heap.size rfl ?_; intro gg cap w1 hown1 hgrow hat hlt; have hf := free_grown (o := 1) HX.out.box (Below.refl _ _) hgrow hug; have hc : w1.cell? ⟨g, 1, none⟩ = some (.slice Au put.length cu) := cell_grown 1 HX.out.box (Below.refl _ _) hgrow hug)
    go_end0
    obtain ⟨r1, r2, r3⟩ := Box.moreS (put' := put ++ zs) HX.out (by decide) (by decide) HA.out (by simpa using hown1) hgrow (hat.elim (fun e => .inl (by rw [e]; rfl)) (fun e => .inr (by rw [← e]; rfl))) HOS.out (HS.out _ (Nat.le_refl _))
    exact ⟨rfl, r1, r2, r3⟩
  · have e0 : zs = [] := List.eq_nil_of_length_eq_zero (by omega)
    subst e0
    rw [List.append_nil]
    go_enter Tryd.func113, Tryd.ntmps113
    go_wp2_with (at_builtin; refine wpList_append_zero rfl (.tmp 8) (.tmp 9) 23 rfl lo 3 i0 1 Tryd.underlying23 hi0 (.slice Au put.length cu) put.length (put.map (Value.int .i64)) rfl ho.out A c rfl ?_)
    go_end0
    obtain ⟨r1, r2, r3⟩ := Box.moreS (put' := put) HX.out (by decide) (by decide) HA.out ho.out ⟨rfl, rfl, rfl, Nat.le_refl _, fun _ _ _ => rfl⟩ (.inl rfl) HOS.out (HS.out _ (Nat.le_refl _))
    exact ⟨rfl, r1, r2, r3⟩
theorem specDrop_any (lo g : Nat) (ps : List Pt) (put : List Int) (d n : Int) (w : World) (hb : BAt lo g 122 w ps put d) (h0 : 0 ≤ d) (h1 : d ≤ 4611686018427387904) (h2 : 0 ≤ n) (h3 : n ≤ 1048576) :
    Calls Tryd.prog 114 #[.pointer (some ⟨g, 0, none⟩), .int .i64 n] w (Built lo g 122 w ps put (d + n)) :=
  (specDrop_f (fun _ => True) lo g ps put d n w hb.all (fun _ _ => trivial) h0 h1 h2 h3).mono fun e w' h => h.any
theorem specPut_any (lo g : Nat) (ps : List Pt) (put : List Int) (d : Int) (A : Option Addr) (c : Nat) (zs : List Int) (w : World) (hb : BAt lo g 122 w ps put d) (hr : Row (Value.int .i64) w w.heap.size A zs) (hp : put.length ≤ 4294967296) (hz : zs.length ≤ 4294967296) :
    Calls Tryd.prog 113 #[.pointer (some ⟨g, 0, none⟩), .slice A zs.length c] w (Built lo g 122 w ps (put ++ zs) d) :=
  (specPut_f (fun _ => True) lo g ps put d A c zs w hb.all (fun _ _ => trivial) hr hp hz).mono fun e w' h => h.any
end Go.Proofs.YtbbpapaobehlcaaDoor.low


/-
  Contracts of the specification's builder: spec.l02Keep, l02Done.
-/
namespace Go.Proofs.YtbbpapaobehlcaaDoor.low
open Go.RowKit
set_option linter.unusedVariables false

theorem below_new (w : World) (o : Obj) : Below w.heap.size w (w.alloc o) := (Below.refl _ _).alloc (Nat.le_refl _) o
def keepTo (q : List Pt) (n : Int) : List Pt :=
  match q.getLast? with
  | some p => if p.kind = 1 then q.set (q.length - 1) ⟨p.kind, p.n + n, p.signs⟩ else q ++ [⟨1, n, []⟩]
  | none => q ++ [⟨1, n, []⟩]
theorem keepTo_nil (n : Int) : keepTo [] n = [⟨1, n, []⟩] := rfl
theorem keepTo_t {r : List Pt} {p : Pt} (n : Int) (h : p.kind = 1) : keepTo (r ++ [p]) n = r ++ [⟨p.kind, p.n + n, p.signs⟩] := by
  simp [keepTo, h]
theorem keepTo_f {r : List Pt} {p : Pt} (n : Int) (h : ¬ p.kind = 1) : keepTo (r ++ [p]) n = r ++ [p] ++ [⟨1, n, []⟩] := by
  simp [keepTo, h]

theorem cellsOf_setN : ∀ (ps : List Pt) (us : List Value) (i : Nat) (p : Pt) (b : Int), us.length = ps.length → ps[i]? = some p →
    (cellsOf ps us).set (i * 3 + 1) (.int .i64 b) = cellsOf (ps.set i ⟨p.kind, b, p.signs⟩) us
  | [], us, i, p, b, _, h => by simp at h
  | _ :: _, [], i, p, b, hl, _ => by simp at hl
  | x :: ps, u :: us, 0, p, b, hl, h => by
    simp at h
    subst h
    rfl
  | x :: ps, u :: us, i + 1, p, b, hl, h => by
    have e0 : (i + 1) * 3 + 1 = i * 3 + 1 + 1 + 1 + 1 := by omega
    rw [e0]
    show .int .i64 x.kind :: .int .i64 x.n :: u :: (cellsOf ps us).set (i * 3 + 1) (.int .i64 b) = .int .i64 x.kind :: .int .i64 x.n :: u :: cellsOf (ps.set i ⟨p.kind, b, p.signs⟩) us
    rw [cellsOf_setN ps us i p b (by simpa using hl) (by simpa using h)]
theorem Apart.setN {lo hi : Nat} {w : World} {r : List Pt} {p q : Pt} {us : List Value} (h : Apart lo hi w (r ++ [p]) us) (hq : q.signs = p.signs) : Apart lo hi w (r ++ [q]) us := by
  refine ⟨by simpa using h.1, fun i x u hx hu => ?_, h.2.2⟩
  by_cases hi' : i < r.length
  · rw [List.getElem?_append_left hi'] at hx
    exact h.2.1 i x u (by rw [List.getElem?_append_left hi']; exact hx) hu
  · have e : i = r.length := by have := idx_lt hx; simp at this; omega
    subst e
    simp at hx
    subst hx
    have := h.2.1 r.length p u (by simp) hu
    rw [hq]
    exact this

/-- the last part's number is changed in place -/
theorem Box.setN {lo g gv cap : Nat} {T : TypeId} {w : World} {u : Value} {d b : Int} {r : List Pt} {p : Pt} {us : List Value} (h : Box lo g T w (.slice (some ⟨gv, 0, none⟩) (r.length + 1) cap) u d (r ++ [p]) us) (hT1 : ¬ T = 3) (hT2 : ¬ T = 64)
    (ha : Apart lo w.heap.size w (r ++ [p]) us) :
    Box lo g T (w.setCell ⟨gv, r.length * 3 + 1, none⟩ (.int .i64 b)) (.slice (some ⟨gv, 0, none⟩) (r.length + 1) cap) u d (r ++ [⟨p.kind, b, p.signs⟩]) us ∧
    Apart lo (w.setCell ⟨gv, r.length * 3 + 1, none⟩ (.int .i64 b)).heap.size (w.setCell ⟨gv, r.length * 3 + 1, none⟩ (.int .i64 b)) (r ++ [⟨p.kind, b, p.signs⟩]) us ∧
    Below lo w (w.setCell ⟨gv, r.length * 3 + 1, none⟩ (.int .i64 b)) := by
  have hgv := own_far h.row h.box hT2
  have hge := own_ge h.row gv rfl
  have hl : us.length = (r ++ [p]).length := h.len
  refine ⟨⟨?_, ?_, by simpa using hl, h.low⟩, ?_, (Below.refl _ _).setCell hge _⟩
  · rw [Below.heap_setCell _ _ _ _ (fun e => hgv (by simp [Value.ownBlock]; exact e.symm))]; exact h.box
  · have e1 := cellsOf_setN (r ++ [p]) us r.length p b hl (by simp)
    have e2 : (r ++ [p]).set r.length ⟨p.kind, b, p.signs⟩ = r ++ [⟨p.kind, b, p.signs⟩] := by simp
    rw [e2] at e1
    rw [← e1]
    have := (World.ownsRow.stored (n := r.length + 1) (by simpa using h.row) (r.length * 3 + 1) (.int .i64 b)).1
    simpa using this
  · refine Apart.setN (p := p) (ha.keep (by simp) (fun i x k hx hk1 hk2 => ?_)) rfl
    obtain ⟨q, hq⟩ := idx_some (l := r ++ [p]) (i := i) (by rw [← hl]; exact idx_lt hx)
    obtain ⟨c1, e1⟩ := own_blk (ha.2.1 i q x hq hx).1 hk1
    have hne : ¬ k = gv := fun e => by
      subst e
      exact own_far h.row e1 (by decide) rfl
    rw [Below.heap_setCell _ _ _ _ hne]

theorem setN_fr {S : Nat → Prop} {g gv n cap o : Nat} {us : List Value} {w : World} (h : OwnS S g (.slice (some ⟨gv, 0, none⟩) n cap) us) (x : Value) : Fr S w (w.setCell ⟨gv, o, none⟩ x) := (Fr.refl S w).setCell (p := ⟨gv, o, none⟩) (h.2.1 gv rfl) x
/-- the builder's end: the parts -/
def Gone (lo : Nat) (ps : List Pt) (w : World) (e : Ending) (w' : World) : Prop := ∃ v, e = .returned v ∧ PBuf lo w'.heap.size w' v ps ∧ Below lo w w'
def GoneS (S : Nat → Prop) (lo : Nat) (ps : List Pt) (w : World) (e : Ending) (w' : World) : Prop := ∃ v us, e = .returned v ∧ PBuf lo w'.heap.size w' v ps ∧ Below lo w w' ∧ Fr S w w' ∧ w'.ownsRow lo 64 3 v ps.length (cellsOf ps us) ∧ us.length = ps.length ∧ (∀ k, v.ownBlock = some k → S k) ∧ ∀ (i k : Nat) (x : Value), us[i]? = some x → x.ownBlock = some k → S k
theorem Box.parts {lo g : Nat} {T : TypeId} {w : World} {v u : Value} {d : Int} {ps : List Pt} {us : List Value} (h : Box lo g T w v u d ps us) (ha : Apart lo w.heap.size w ps us) : PBuf lo w.heap.size w v ps :=
  ⟨us, h.row, ha, fun k hk => by obtain ⟨c1, e1⟩ := own_blk h.row hk; exact lt_of_some e1, Nat.le_refl _, Nat.le_trans h.low (Nat.le_of_lt h.lt)⟩

set_option maxHeartbeats 1600000 in
theorem specDone_f (S : Nat → Prop) (lo g : Nat) (ps : List Pt) (put : List Int) (d : Int) (w : World) (hb : BAtS S lo g 122 w ps put d) (hS : ∀ b, w.heap.size ≤ b → S b) (hl : ps.length ≤ 4294967296) (hp : put.length ≤ 4294967296) :
    Calls Tryd.prog 115 #[.pointer (some ⟨g, 0, none⟩)] w (GoneS S lo (ps ++ putL put ++ dropL d) w) := by
  go_enter Tryd.func115, Tryd.ntmps115
  go_wp2_with fail
  refine (specFlush_f S lo g ps put d w hb hS hl hp).mono ?_
  rintro e w1 ⟨rfl, ⟨v, us, hx, ha, hos⟩, b1, fr1⟩
  have HS := Lib.hid hS
  have HOS := Lib.hid hos
  have HR := Lib.hid fr1
  clear hS hos fr1
  obtain ⟨Av, cv, rfl⟩ := own_form hx.row
  have c0 := hx.cell0
  have HX := Lib.hid hx
  have HA := Lib.hid ha
  clear hx ha
  generalize ps ++ putL put ++ dropL d = q at *
  go_wp2
  go_ret
  exact ⟨_, us, rfl, HX.out.parts HA.out, b1, HR.out, HX.out.row, HX.out.len, HOS.out.2.1, HOS.out.2.2⟩

set_option maxRecDepth 100000 in
set_option maxHeartbeats 3200000 in
theorem specKeep_f (S : Nat → Prop) (lo g : Nat) (ps : List Pt) (put : List Int) (d n : Int) (w : World) (hb : BAtS S lo g 122 w ps put d) (hS : ∀ b, w.heap.size ≤ b → S b) (hl : ps.length ≤ 4294967296) (hp : put.length ≤ 4294967296) (hn : ¬ n = 0) (hn0 : 0 ≤ n) (hn1 : n ≤ 1048576)
    (hq : ∀ p ∈ ps ++ putL put ++ dropL d, 0 ≤ p.n ∧ p.n ≤ 4611686018427387904) (hql : (ps ++ putL put ++ dropL d).length ≤ 4294967298) :
    Calls Tryd.prog 112 #[.pointer (some ⟨g, 0, none⟩), .int .i64 n] w (FlushedS S lo g 122 w (keepTo (ps ++ putL put ++ dropL d) n)) := by
  obtain ⟨i0, hi0, hz0, hz1, hz2⟩ := info_parts part_info
  go_enter Tryd.func112, Tryd.ntmps112
  go_wp2_with fail
  refine (specFlush_f S lo g ps put d w hb hS hl hp).mono ?_
  rintro e w1 ⟨rfl, ⟨v, us, hx, ha, hos⟩, b1, fr1⟩
  have HS := Lib.hid hS
  have HOS := Lib.hid hos
  have HR := Lib.hid fr1
  clear hS hos fr1
  generalize ps ++ putL put ++ dropL d = q at *
  have c0 := hx.cell0
  have f0 := hx.free 0
  have hne := own_far hx.row hx.box (by decide)
  have hlo : lo ≤ w1.heap.size := Nat.le_trans hx.low (Nat.le_of_lt hx.lt)
  rcases q.eq_nil_or_concat with rfl | ⟨r, p, rfl⟩
  · obtain ⟨Av, cv, rfl⟩ := own_form hx.row
    have HX := Lib.hid hx
    have HA := Lib.hid ha
    clear hx ha
    go_wp2_with (at_builtin; refine wpList_append_lies _ rfl (.tmp 51) (.tmp 54) 24 rfl lo 64 i0 _ 3 40 Tryd.underlying24 hi0 hz0 hz1 hz2 rfl (by omega) (.slice Av 0 cv) 0 (cellsOf [] us) rfl (HX.out.row.alloc _) ⟨w1.heap.size, 0, none⟩ 1 1 [.int .i64 1, .int .i64 n, .slice none 0 0] rfl rfl (World.news_of_block (cs := #[.int .i64 1, .int .i64 n, .slice none 0 0]) (t := 64) (fr := (0, 0)) (heap_alloc_new w1 _)) (by simp [Value.oneCell']) (by omega) (by unfold maxLen; omega) (by omega) (by simp; omega) (w1.heap.size + 1) (by simp) ?_; intro gg cap w2 hown1 hgrow hat hlt; have hf := free_grown (o := 0) HX.out.box (below_new w1 _) hgrow hne; have hc : w2.cell? ⟨g, 0, none⟩ = some (.slice Av 0 cv) := cell_grown 0 HX.out.box (below_new w1 _) hgrow hne)
    go_end0
    obtain ⟨hx2, ha2, b2⟩ := Box.push (p := ⟨1, n, []⟩) HX.out (by decide) (by decide) (Apart.bare 1 n HA.out) (below_new w1 _) hown1 hgrow
    refine ⟨rfl, ?_, b1.trans b2, HR.out.trans (push_fr HOS.out (below_new w1 _) hgrow _)⟩
    rw [keepTo_nil]
    exact ⟨_, _, hx2, ha2, HOS.out.push nil_own hat (HS.out _ (by have := HR.out.size; omega))⟩
  · rw [List.concat_eq_append] at *
    have hrl : (r ++ [p]).length = r.length + 1 := by simp
    rw [hrl] at hql
    have hp0 := hq p (by simp)
    clear hq
    rcases hx.row.2 with ⟨_, h0⟩ | ⟨gv, cap0, cur, rfl, hgv, hhv, hcap, hcap2, _, _⟩
    · simp at h0
    rw [hrl] at c0 hne hcap hx
    have hrow : w1.ownsRow lo 64 3 (.slice (some ⟨gv, 0, none⟩) (r.length + 1) cap0) (r.length + 1) (cellsOf (r ++ [p]) us) := by have := hx.row; rwa [hrl] at this
    have k0 : w1.cell? ⟨gv, r.length * 3, none⟩ = some (.int .i64 p.kind) := by
      have := hrow.cellAt (r.length * 3) (by omega)
      obtain ⟨u, hu⟩ := idx_some (l := us) (i := r.length) (by rw [hx.len]; simp)
      rw [this, (cellsOf_at (r ++ [p]) us r.length p u (by simp) hu).1]
    have k1 : w1.cell? ⟨gv, r.length * 3 + 1, none⟩ = some (.int .i64 p.n) := by
      have := hrow.cellAt (r.length * 3 + 1) (by omega)
      obtain ⟨u, hu⟩ := idx_some (l := us) (i := r.length) (by rw [hx.len]; simp)
      rw [this, (cellsOf_at (r ++ [p]) us r.length p u (by simp) hu).2.1]
    have fv := hrow.frozenAt (r.length * 3 + 1)
    have HRW := Lib.hid hrow
    clear hrow
    have HX := Lib.hid hx
    have HA := Lib.hid ha
    clear hx ha hhv
    by_cases hk : p.kind = 1
    · go_wp2_with fail
      have dx := Lib.hid HX.out.drew
      have da := Lib.hid HA.out.drewS
      have hw1 : IntKind.i64.wrap (r.length : Int) = (r.length : Int) := by rw [IntKind.wrap_i64]; omega
      have hw2 : IntKind.i64.wrap (p.n + n) = p.n + n := by rw [IntKind.wrap_i64]; omega
      have hi1 : (r.length : Int) < (r.length : Int) + 1 := by omega
      go_still_tail 19, (by kernel_rfl)
      clear hw1 hw2
      go_wp2
      go_end0

      obtain ⟨hx2, ha2, b2⟩ := Box.setN (b := p.n + n) dx.out (by decide) (by decide) da.out
      refine ⟨rfl, ?_, b1.trans ((Below.refl _ _).drew.trans b2), HR.out.drew.trans (setN_fr HOS.out _)⟩
      rw [keepTo_t n hk]
      exact ⟨_, _, hx2, ha2, HOS.out⟩
    · go_wp2_with (at_builtin; refine wpList_append_lies _ rfl (.tmp 51) (.tmp 54) 24 rfl lo 64 i0 _ 3 40 Tryd.underlying24 hi0 hz0 hz1 hz2 rfl (by omega) (.slice (some ⟨gv, 0, none⟩) (r.length + 1) cap0) (r.length + 1) (cellsOf (r ++ [p]) us) rfl (HRW.out.alloc _) ⟨w1.heap.size, 0, none⟩ 1 1 [.int .i64 1, .int .i64 n, .slice none 0 0] rfl rfl (World.news_of_block (cs := #[.int .i64 1, .int .i64 n, .slice none 0 0]) (t := 64) (fr := (0, 0)) (heap_alloc_new w1 _)) (by simp [Value.oneCell']) (by omega) (by unfold maxLen; omega) (by omega) (by simp; omega) (w1.heap.size + 1) (by simp) ?_; intro gg cap w2 hown1 hgrow hat hlt; have hf := free_grown (o := 0) HX.out.box (below_new w1 _) hgrow hne; have hc : w2.cell? ⟨g, 0, none⟩ = some (.slice (some ⟨gv, 0, none⟩) (r.length + 1) cap0) := cell_grown 0 HX.out.box (below_new w1 _) hgrow hne)
      go_end0
      obtain ⟨hx2, ha2, b2⟩ := Box.push (p := ⟨1, n, []⟩) HX.out (by decide) (by decide) (Apart.bare 1 n HA.out) (below_new w1 _) (by rw [hrl]; exact hown1) hgrow
      rw [hrl] at hx2 ha2 b2
      refine ⟨rfl, ?_, b1.trans b2, HR.out.trans (push_fr HOS.out (below_new w1 _) hgrow _)⟩
      rw [keepTo_f n hk]
      exact ⟨_, _, hx2, ha2, HOS.out.push nil_own hat (HS.out _ (by have := HR.out.size; omega))⟩
theorem GoneS.any {S : Nat → Prop} {lo : Nat} {ps : List Pt} {w w' : World} {e : Ending} (h : GoneS S lo ps w e w') : Gone lo ps w e w' := by
  obtain ⟨v, us, h1, h2, h3, _⟩ := h
  exact ⟨v, h1, h2, h3⟩
theorem specDone_any (lo g : Nat) (ps : List Pt) (put : List Int) (d : Int) (w : World) (hb : BAt lo g 122 w ps put d) (hl : ps.length ≤ 4294967296) (hp : put.length ≤ 4294967296) :
    Calls Tryd.prog 115 #[.pointer (some ⟨g, 0, none⟩)] w (Gone lo (ps ++ putL put ++ dropL d) w) :=
  (specDone_f (fun _ => True) lo g ps put d w hb.all (fun _ _ => trivial) hl hp).mono fun e w' h => h.any
theorem specKeep_any (lo g : Nat) (ps : List Pt) (put : List Int) (d n : Int) (w : World) (hb : BAt lo g 122 w ps put d) (hl : ps.length ≤ 4294967296) (hp : put.length ≤ 4294967296) (hn : ¬ n = 0) (hn0 : 0 ≤ n) (hn1 : n ≤ 1048576)
    (hq : ∀ p ∈ ps ++ putL put ++ dropL d, 0 ≤ p.n ∧ p.n ≤ 4611686018427387904) (hql : (ps ++ putL put ++ dropL d).length ≤ 4294967298) :
    Calls Tryd.prog 112 #[.pointer (some ⟨g, 0, none⟩), .int .i64 n] w (Flushed lo g 122 w (keepTo (ps ++ putL put ++ dropL d) n)) :=
  (specKeep_f (fun _ => True) lo g ps put d n w hb.all (fun _ _ => trivial) hl hp hn hn0 hn1 hq hql).mono fun e w' h => h.any
end Go.Proofs.YtbbpapaobehlcaaDoor.low


/-
  The normal form as a fold over a builder's state: parts so far, what is to be put, how many are dropped.
-/
namespace Go.Proofs.YtbbpapaobehlcaaDoor.low
open Go.RowKit
set_option linter.unusedVariables false

def stepN (s : List Pt × List Int × Int) (p : Pt) : List Pt × List Int × Int :=
  if p.kind = 1 then (if p.n = 0 then s else (keepTo (s.1 ++ putL s.2.1 ++ dropL s.2.2) p.n, [], 0))
  else if p.kind = 2 then (s.1, s.2.1 ++ p.signs, s.2.2) else (s.1, s.2.1, s.2.2 + p.n)
def foldN (ps : List Pt) : List Pt × List Int × Int := ps.foldl stepN ([], [], 0)
def doneN (s : List Pt × List Int × Int) : List Pt := s.1 ++ putL s.2.1 ++ dropL s.2.2
/-- the normal form -/
def normL (ps : List Pt) : List Pt := if okOp ps = true then doneN (foldN ps) else []
theorem foldN_snoc {ps : List Pt} {k : Nat} {p : Pt} (h : ps[k]? = some p) : foldN (ps.take (k + 1)) = stepN (foldN (ps.take k)) p := by
  unfold foldN
  rw [List.take_add_one, h]
  simp

theorem signsIn_app (a b : List Pt) : signsIn (a ++ b) = signsIn a + signsIn b := by simp [signsIn]
theorem putL_len (z : List Int) : (putL z).length ≤ 1 ∧ signsIn (putL z) = z.length ∧ ∀ p ∈ putL z, p.n = 0 := by
  unfold putL
  split
  · rename_i h; simp [signsIn, h]
  · simp [signsIn]
theorem dropL_len (d : Int) : (dropL d).length ≤ 1 ∧ signsIn (dropL d) = 0 ∧ ∀ p ∈ dropL d, p.n = d ∧ 0 ≤ d := by
  unfold dropL
  split
  · rename_i h; simp [signsIn]; omega
  · simp [signsIn]

/-- the state behind j valid parts that hold m characters -/
structure Fit (j m : Nat) (s : List Pt × List Int × Int) : Prop where
  len : s.1.length ≤ 3 * j
  signs : signsIn s.1 + s.2.1.length ≤ m
  d0 : 0 ≤ s.2.2
  d1 : s.2.2 ≤ 200 * (j : Int)
  ns : ∀ p ∈ s.1, 0 ≤ p.n ∧ p.n ≤ 200 * (j : Int)
theorem Fit.done {j m : Nat} {s : List Pt × List Int × Int} (h : Fit j m s) : (doneN s).length ≤ 3 * j + 2 ∧ signsIn (doneN s) ≤ m ∧ ∀ p ∈ doneN s, 0 ≤ p.n ∧ p.n ≤ 200 * (j : Int) := by
  obtain ⟨a1, a2, a3⟩ := putL_len s.2.1
  obtain ⟨b1, b2, b3⟩ := dropL_len s.2.2
  have h1 := h.len
  have h2 := h.signs
  have h3 := h.d0
  have h4 := h.d1
  refine ⟨by unfold doneN; simp; omega, by unfold doneN; rw [signsIn_app, signsIn_app]; omega, fun p hp => ?_⟩
  unfold doneN at hp
  rcases List.mem_append.1 hp with hp | hp
  · rcases List.mem_append.1 hp with hp | hp
    · exact h.ns p hp
    · have := a3 p hp; omega
  · have := b3 p hp; omega
theorem keepTo_fit {q : List Pt} {n M : Int} (hn : 0 ≤ n) (hM : 0 ≤ M) (hq : ∀ p ∈ q, 0 ≤ p.n ∧ p.n ≤ M) : (keepTo q n).length ≤ q.length + 1 ∧ signsIn (keepTo q n) = signsIn q ∧ ∀ p ∈ keepTo q n, 0 ≤ p.n ∧ p.n ≤ M + n := by
  rcases q.eq_nil_or_concat with rfl | ⟨r, p, rfl⟩
  · rw [keepTo_nil]
    refine ⟨by simp, by simp [signsIn], fun x hx => ?_⟩
    simp at hx
    subst hx
    simp only
    omega
  · rw [List.concat_eq_append] at *
    have hp := hq p (by simp)
    by_cases hk : p.kind = 1
    · rw [keepTo_t n hk]
      refine ⟨by simp, by rw [signsIn_app, signsIn_app]; simp [signsIn], fun x hx => ?_⟩
      rcases List.mem_append.1 hx with hx | hx
      · have := hq x (by simp [hx]); omega
      · simp at hx
        subst hx
        simp only
        omega
    · rw [keepTo_f n hk]
      refine ⟨by simp, by rw [signsIn_app, signsIn_app]; simp [signsIn], fun x hx => ?_⟩
      rcases List.mem_append.1 hx with hx | hx
      · have := hq x hx; omega
      · simp at hx
        subst hx
        simp only
        omega
theorem Fit.step {j m : Nat} {s : List Pt × List Int × Int} {p : Pt} (h : Fit j m s) (hp : okPt p = true) : Fit (j + 1) (m + p.signs.length) (stepN s p) := by
  have hok := of_okPt hp
  obtain ⟨d1, d2, d3⟩ := h.done
  have h1 := h.len
  have h2 := h.signs
  have h3 := h.d0
  have h4 := h.d1
  have hns := h.ns
  unfold stepN
  split
  · rename_i hk
    have hn : 0 ≤ p.n ∧ p.n ≤ 200 := by omega
    split
    · exact ⟨by omega, by omega, h3, by omega, fun x hx => by have := hns x hx; omega⟩
    · have hM : p.n ≤ 200 * ((j : Int) + 1) := by omega
      obtain ⟨k1, k2, k3⟩ := keepTo_fit (q := doneN s) hn.1 (M := 200 * (j : Int)) (by omega) d3
      refine ⟨?_, ?_, by simp, by simp; omega, fun x hx => ?_⟩
      · show (keepTo (doneN s) p.n).length ≤ _; omega
      · show signsIn (keepTo (doneN s) p.n) + 0 ≤ _; omega
      · have := k3 x hx; omega
  · split
    · rename_i hk
      refine ⟨by simp; omega, by simp; omega, h3, by simp; omega, fun x hx => by have := hns x hx; omega⟩
    · have hn : 0 ≤ p.n ∧ p.n ≤ 200 := by omega
      refine ⟨by simp; omega, by simp; omega, by simp; omega, by simp; omega, fun x hx => by have := hns x hx; omega⟩
theorem Fit.start : Fit 0 0 ([], [], 0) := ⟨by simp, by simp [signsIn], by simp, by simp, fun p hp => by simp at hp⟩
theorem foldN_fit {ps : List Pt} (h : okPs ps = true) : ∀ k, k ≤ ps.length → Fit k (signsIn (ps.take k)) (foldN (ps.take k))
  | 0, _ => by simpa [foldN, signsIn] using Fit.start
  | k + 1, hk => by
    obtain ⟨p, hp⟩ := idx_some (l := ps) (i := k) (by omega)
    rw [foldN_snoc hp, signsIn_snoc hp]
    exact (foldN_fit h k (by omega)).step (okPs_at hp h)
end Go.Proofs.YtbbpapaobehlcaaDoor.low


/-
  The contract of spec.OpSame: two lists of parts are equal.
-/
namespace Go.Proofs.YtbbpapaobehlcaaDoor.low
open Go.RowKit
set_option linter.unusedVariables false

theorem drewN_below (w : World) (n : Nat) : Below w.heap.size w (w.drewN n) := ⟨rfl, rfl, rfl, Nat.le_refl _, fun _ _ => rfl⟩

set_option maxRecDepth 100000 in
set_option maxHeartbeats 3200000 in
theorem specOpSame_any (A B : Option Addr) (c d : Nat) (ps qs : List Pt) (w : World) (hx : PRow w w.heap.size A ps) (hy : PRow w w.heap.size B qs)
    (hl : ps.length ≤ 4294967296) (hl2 : qs.length ≤ 4294967296) (hs : ∀ p ∈ ps, p.signs.length ≤ 4294967296) (hs2 : ∀ p ∈ qs, p.signs.length ≤ 4294967296) :
    Calls Tryd.prog 116 #[.slice A ps.length c, .slice B qs.length d] w (Tells (samePs ps qs) w) := by
  by_cases hlen : ps.length = qs.length
  · have HL := Lib.hid hlen
    have hb : ((ps.length : Int) != (qs.length : Int)) = false := by simp [hlen]
    clear hlen
    go_enter Tryd.func116, Tryd.ntmps116
    go_wp2
    go_loopw [14] (fun i wr => ∃ k : Nat, k ≤ ps.length ∧ i = .int .i64 k ∧ samePs (ps.take k) (qs.take k) = true ∧ Below w.heap.size w wr) (fun i _ => ps.length - (intOf i).toNat)
    case atStart => exact ⟨0, Nat.zero_le _, rfl, rfl, Below.refl _ _⟩
    case round =>
      obtain ⟨k, hk, rfl, ht, hbel⟩ := hrel
      have HT := Lib.hid ht
      clear ht
      by_cases hlt : k < ps.length
      · have hlt2 : k < qs.length := by have := HL.out; omega
        obtain ⟨b1, o1, p, rfl, hb1, hp, hc1⟩ := hx.at_ hlt
        obtain ⟨b2, o2, q, rfl, hb2, hq, hc2⟩ := hy.at_ (k := k) hlt2
        obtain ⟨x0, x1, A1, e1, x2, r1⟩ := hc1.keep (w' := wr) hb1 (fun _ hq => hbel.cell hq)
        have hsp := hs p (List.mem_of_getElem? hp)
        have hsq := hs2 q (List.mem_of_getElem? hq)
        have HP := Lib.hid hp
        have HQ := Lib.hid hq
        clear hp hq hc1
        have bW := alloc_below wr (.cells #[.int .i64 p.kind, .int .i64 p.n, .slice A1 p.signs.length e1] 64)
        have dW := hbel.trans (bW.mono hbel.size)
        obtain ⟨y0, y1, A2, e2, y2, r2⟩ := hc2.keep (w' := wr.alloc (.cells #[.int .i64 p.kind, .int .i64 p.n, .slice A1 p.signs.length e1] 64)) hb2 (fun _ hq => dW.cell hq)
        have rr1 := (r1.more hbel.size).past bW
        have rr2 := r2.more dW.size
        have R1 := Lib.hid rr1
        have R2 := Lib.hid rr2
        clear hc2 r1 r2 rr1 rr2
        by_cases hk : p.kind = q.kind
        · by_cases hn : p.n = q.n
          · cases hss : sameB p.signs q.signs
            · have HS := Lib.hid (show samePt p q = false by unfold samePt; rw [hss]; simp)
              have hkb : (p.kind != q.kind) = false := by simp [hk]
              have hnb : (p.n != q.n) = false := by simp [hn]
              clear hk hn
              go_wp2
              go_quiet ((go_at_call 132; exact Calls.quiet_of (specSignsSame_any A1 A2 e1 e2 p.signs q.signs _ R1.out R2.out hsp hsq)))
              go_wp2
              go_ret
              exact ⟨ret_bool (by rw [samePs_at ps qs k p q HP.out HQ.out HS.out]), dW.trans ((drewN_below _ _).mono dW.size)⟩
            · have HS := Lib.hid (show samePt p q = true by unfold samePt; rw [hss]; simp [hk, hn])
              have hkb : (p.kind != q.kind) = false := by simp [hk]
              have hnb : (p.n != q.n) = false := by simp [hn]
              clear hk hn
              go_wp2
              go_quiet ((go_at_call 132; exact Calls.quiet_of (specSignsSame_any A1 A2 e1 e2 p.signs q.signs _ R1.out R2.out hsp hsq)))
              go_wp2
              go_roundw
              case rel => exact ⟨k + 1, by omega, by go_num, samePs_snoc ps qs k p q HP.out HQ.out HS.out HT.out, dW.trans ((drewN_below _ _).mono dW.size)⟩
              case measure => simp [intOf]; omega
          · have HS := Lib.hid (show samePt p q = false by unfold samePt; simp [hn])
            have hkb : (p.kind != q.kind) = false := by simp [hk]
            have hnb : (p.n != q.n) = true := by simp [hn]
            clear hk hn
            go_wp2
            go_quiet (fail)
            go_wp2
            go_ret
            exact ⟨ret_bool (by rw [samePs_at ps qs k p q HP.out HQ.out HS.out]), dW.trans ((drewN_below _ _).mono dW.size)⟩
        · have HS := Lib.hid (show samePt p q = false by unfold samePt; simp [hk])
          have hkb : (p.kind != q.kind) = true := by simp [hk]
          clear hk
          go_wp2
          go_quiet (fail)
          go_wp2
          go_ret
          exact ⟨ret_bool (by rw [samePs_at ps qs k p q HP.out HQ.out HS.out]), dW.trans ((drewN_below _ _).mono dW.size)⟩
      · have H := Lib.hid (show samePs ps qs = true by have := HT.out; rwa [List.take_of_length_le (by omega), List.take_of_length_le (by have := HL.out; omega)] at this)
        go_wp2
        go_ret
        exact ⟨ret_bool (by rw [H.out]), hbel⟩
  · have hb : ((ps.length : Int) != (qs.length : Int)) = true := by simp; omega
    have H := Lib.hid (show samePs ps qs = false by cases h : samePs ps qs; rfl; exact absurd (samePs_len ps qs h) hlen)
    clear hlen
    go_enter Tryd.func116, Tryd.ntmps116
    go_wp2
    go_ret
    exact ⟨ret_bool (by rw [H.out]), Below.refl _ _⟩
end Go.Proofs.YtbbpapaobehlcaaDoor.low


/-
  Contracts of spec.OpNorm and spec.IsNorm.
-/
namespace Go.Proofs.YtbbpapaobehlcaaDoor.low
open Go.RowKit
set_option linter.unusedVariables false

theorem BAt.past {lo g : Nat} {T : TypeId} {w w' : World} {ps : List Pt} {put : List Int} {d : Int} (h : BAt lo g T w ps put d) (hb : Below w.heap.size w w') : BAt lo g T w' ps put d := by
  obtain ⟨v, u, us, hx, ha⟩ := h
  exact ⟨v, u, us, ⟨(hb.block g hx.lt).trans hx.box, own_keep hx.row (fun k _ hk2 => hb.block k hk2), hx.len, hx.low⟩, ha.keep hb.size (fun i x k _ _ hk2 => hb.block k hk2)⟩
theorem BAt.new (lo : Nat) (T : TypeId) (w : World) (h : lo ≤ w.heap.size) : BAt lo w.heap.size T (w.alloc (.cells #[.slice none 0 0, .slice none 0 0, .int .i64 0] T)) [] [] 0 :=
  ⟨.slice none 0 0, .slice none 0 0, [], ⟨heap_alloc_new w _, World.ownsRow_nil _ _ _ _, rfl, h⟩, Apart.bare 2 0 ⟨rfl, fun i p u hp _ => by simp at hp, fun i j k u v hu _ _ _ => by simp at hu⟩⟩

set_option maxHeartbeats 1600000 in
theorem specKeep_zero (g : Nat) (w : World) : Calls Tryd.prog 112 #[.pointer (some ⟨g, 0, none⟩), .int .i64 0] w fun e w' => e = .returned (.tuple #[]) ∧ w = w' := by
  go_enter Tryd.func112, Tryd.ntmps112
  go_wp2
  first | go_end0 | (refine bodyPost_ret (results_none rfl _ _ _) rfl ?_)
  exact ⟨rfl, rfl⟩

set_option maxRecDepth 100000 in
set_option maxHeartbeats 3200000 in
theorem specOpNorm_any (A : Option Addr) (c : Nat) (ps : List Pt) (w : World) (hr : PRow w w.heap.size A ps) (hl : ps.length ≤ 4294967296) (hls : ∀ p ∈ ps, p.signs.length ≤ 4294967296) (hss : signsIn ps ≤ 1048576) :
    Calls Tryd.prog 82 #[.slice A ps.length c] w (PsPost (normL ps) w) := by
  cases hok : okOp ps
  · have e1 : normL ps = [] := by simp [normL, hok]
    rw [e1]
    go_enter Tryd.func82, Tryd.ntmps82
    go_wp2_with fail
    refine (specOpOk_any A c ps _ hr hl hls).mono ?_
    rintro e w1 ⟨rfl, b1⟩
    rw [hok] at *
    go_wp2
    go_ret
    refine ⟨_, rfl, ⟨[], World.ownsRow_nil _ _ _ _, ⟨rfl, fun i p u hp _ => by simp at hp, fun i j k u v hu _ _ _ => by simp at hu⟩, fun k hk => by simp [Value.ownBlock] at hk, Nat.le_refl _, b1.size⟩, b1⟩
  · have e1 : normL ps = doneN (foldN ps) := by simp [normL, hok]
    rw [e1]
    have hpb : partsB ps = true := by
      unfold okOp at hok
      cases h : partsB ps
      · rw [h] at hok; simp at hok
      · rfl
    have HPB := Lib.hid (partsB_of hpb)
    clear hpb
    go_enter Tryd.func82, Tryd.ntmps82
    go_wp2_with fail
    refine (specOpOk_any A c ps _ hr hl hls).mono ?_
    rintro e w1 ⟨rfl, b1⟩
    rw [hok] at *
    clear hok
    go_wp2
    have hnew := BAt.new w.heap.size 122 w1 b1.size
    have hbn := b1.trans ((alloc_below w1 (.cells #[.slice none 0 0, .slice none 0 0, .int .i64 0] 122)).mono b1.size)
    have hgl : w.heap.size ≤ w1.heap.size := b1.size
    generalize w1.alloc (.cells #[.slice none 0 0, .slice none 0 0, .int .i64 0] 122) = w2 at *
    generalize w1.heap.size = g at *
    clear b1
    go_loopw [13] (fun i wr => ∃ k : Nat, k ≤ ps.length ∧ i = .int .i64 k ∧ BAt w.heap.size g 122 wr (foldN (ps.take k)).1 (foldN (ps.take k)).2.1 (foldN (ps.take k)).2.2 ∧ Below w.heap.size w wr) (fun i _ => ps.length - (intOf i).toNat)
    case atStart => exact ⟨0, Nat.zero_le _, rfl, hnew, hbn⟩
    case round =>
      obtain ⟨k, hk, rfl, hat, hbel⟩ := hrel
      clear hnew hbn
      have hfit := foldN_fit HPB.out.1 k hk
      have hpl := HPB.out.2
      by_cases hlt : k < ps.length
      · obtain ⟨b, off, p, rfl, hb, hp, hc⟩ := hr.at_ hlt
        obtain ⟨x0, x1, A1, e1, x2, r1⟩ := hc.keep (w' := wr) hb (fun _ hq => hbel.cell hq)
        have hokp := okPs_at hp HPB.out.1
        have hok := of_okPt hokp
        have hsl := hls p (List.mem_of_getElem? hp)
        have K1 := Lib.hid (foldN_snoc hp)
        have hsg : signsIn (ps.take k) ≤ signsIn ps := signsIn_take ps k
        clear hp hc
        generalize foldN (ps.take k) = st at *
        obtain ⟨qs, put, d⟩ := st
        have hf1 := hfit.len
        have hf2 := hfit.signs
        have hf3 := hfit.d0
        have hf4 := hfit.d1
        have hdn := Lib.hid hfit.done
        simp only at hf1 hf2 hf3 hf4 hat
        obtain ⟨pk, pn, pz⟩ := p
        simp only at x0 x1 x2 hok r1 hsl
        rcases (show pk = 1 ∨ pk = 2 ∨ pk = 3 by omega) with rfl | rfl | rfl
        · have hn1 : 0 ≤ pn := by omega
          have hn2 : pn ≤ 200 := by omega
          clear hok
          by_cases hz : pn = 0
          · subst hz
            go_wp2_with fail
            refine (specKeep_zero g _).mono ?_
            rintro e w' ⟨rfl, rfl⟩
            go_wp2
            go_roundw
            case rel => exact ⟨k + 1, by omega, by go_num, by rw [K1.out]; exact hat.past (alloc_below wr _), hbel.trans ((alloc_below wr _).mono hbel.size)⟩
            case measure => simp [intOf]; omega
          · go_wp2_with fail
            refine (specKeep_any w.heap.size g qs put d pn _ (hat.past (alloc_below wr _)) (by omega) (by omega) hz hn1 (by omega) (fun p hp => by have := hdn.out.2.2 p hp; omega) (by have := hdn.out.1; exact Nat.le_trans this (by omega))).mono ?_
            rintro e w3 ⟨rfl, hn3, b3⟩
            go_wp2
            go_roundw
            case rel => exact ⟨k + 1, by omega, by go_num, by rw [K1.out]; simp only [stepN, if_neg hz]; exact hn3.at_, hbel.trans (((alloc_below wr _).mono hbel.size).trans b3)⟩
            case measure => simp [intOf]; omega
        · clear hok
          go_wp2_with fail
          refine (specPut_any w.heap.size g qs put d A1 e1 pz _ (hat.past (alloc_below wr _)) (Row.past_alloc (r1.more hbel.size) _) (by omega) (by omega)).mono ?_
          rintro e w3 ⟨rfl, hn3, b3⟩
          go_wp2
          go_roundw
          case rel => exact ⟨k + 1, by omega, by go_num, by rw [K1.out]; exact hn3, hbel.trans (((alloc_below wr _).mono hbel.size).trans b3)⟩
          case measure => simp [intOf]; omega
        · have hn1 : 0 ≤ pn := by omega
          have hn2 : pn ≤ 200 := by omega
          clear hok
          go_wp2_with fail
          refine (specDrop_any w.heap.size g qs put d pn _ (hat.past (alloc_below wr _)) (by omega) (by omega) (by omega) (by omega)).mono ?_
          rintro e w3 ⟨rfl, hn3, b3⟩
          go_wp2
          go_roundw
          case rel => exact ⟨k + 1, by omega, by go_num, by rw [K1.out]; exact hn3, hbel.trans (((alloc_below wr _).mono hbel.size).trans b3)⟩
          case measure => simp [intOf]; omega
      · have hke : ps.take k = ps := List.take_of_length_le (by omega)
        rw [hke] at hat hfit
        have hf1 := hfit.len
        have hf2 := hfit.signs
        go_wp2_with fail
        refine (specDone_any w.heap.size g _ _ _ _ hat (by omega) (by omega)).mono ?_
        rintro e w3 ⟨v, rfl, p3, b3⟩
        change PBuf _ _ _ _ (doneN (foldN ps)) at p3
        generalize doneN (foldN ps) = L at *
        obtain ⟨B3, d3, rfl, q3⟩ := p3.slice
        have HP3 := Lib.hid p3
        clear p3
        go_wp2
        go_ret
        exact ⟨_, rfl, HP3.out, hbel.trans b3⟩
theorem normL_fit {ps : List Pt} (hs : signsIn ps ≤ 1048576) : (normL ps).length ≤ 1802 ∧ signsIn (normL ps) ≤ 1048576 := by
  unfold normL
  split
  · rename_i hok
    have hpb : partsB ps = true := by
      unfold okOp at hok
      cases h : partsB ps
      · rw [h] at hok; simp at hok
      · rfl
    obtain ⟨h1, h2⟩ := partsB_of hpb
    have hf := (foldN_fit h1 ps.length (Nat.le_refl _)).done
    rw [List.take_length] at hf
    exact ⟨by have := hf.1; omega, Nat.le_trans hf.2.1 hs⟩
  · simp [signsIn]

/-- a normal operation -/
def isNormL (ps : List Pt) : Bool := okOp ps && samePs (normL ps) ps
set_option maxHeartbeats 1600000 in
theorem specIsNorm_any (A : Option Addr) (c : Nat) (ps : List Pt) (w : World) (hr : PRow w w.heap.size A ps) (hl : ps.length ≤ 4294967296) (hls : ∀ p ∈ ps, p.signs.length ≤ 4294967296) (hss : signsIn ps ≤ 1048576) :
    Calls Tryd.prog 86 #[.slice A ps.length c] w (Tells (isNormL ps) w) := by
  obtain ⟨n1, n2⟩ := normL_fit hss
  have hls' : ∀ p ∈ normL ps, p.signs.length ≤ 4294967296 := fun p hp => by
    obtain ⟨i, hi⟩ := List.getElem?_of_mem hp
    have := signsIn_at hi
    omega
  cases hok : okOp ps
  · have HS := Lib.hid (show isNormL ps = false by unfold isNormL; rw [hok]; rfl)
    go_enter Tryd.func86, Tryd.ntmps86
    go_wp2_with fail
    refine (specOpOk_any A c ps _ hr hl hls).mono ?_
    rintro e w1 ⟨rfl, b1⟩
    rw [hok] at *
    go_wp2
    go_ret
    exact ⟨ret_bool (by rw [HS.out]), b1⟩
  · have HS := Lib.hid (show isNormL ps = samePs (normL ps) ps by unfold isNormL; rw [hok]; rfl)
    go_enter Tryd.func86, Tryd.ntmps86
    go_wp2_with fail
    refine (specOpOk_any A c ps _ hr hl hls).mono ?_
    rintro e w1 ⟨rfl, b1⟩
    rw [hok] at *
    clear hok
    go_wp2_with fail
    refine (specOpNorm_any A c ps _ (hr.past b1) hl hls hss).mono ?_
    rintro e w2 ⟨v2, rfl, p2, b2⟩
    obtain ⟨B2, d2, rfl, q2⟩ := p2.slice
    have d2' := b1.trans (b2.mono b1.size)
    generalize normL ps = L at *
    go_wp2_with fail
    refine (specOpSame_any B2 A d2 c L ps _ q2 (hr.past d2') (by omega) hl hls' hls).mono ?_
    rintro e w3 ⟨rfl, b3⟩
    go_wp2
    go_ret
    exact ⟨ret_bool (by rw [HS.out]), d2'.trans (b3.mono d2'.size)⟩
end Go.Proofs.YtbbpapaobehlcaaDoor.low


/-
  append(out, xs...) where out is a row of numbers of the caller's own and xs reads as numbers, nil and empty let in; a piece of a slice of numbers.
-/
namespace Go.Proofs.YtbbpapaobehlcaaDoor.low
open Go.RowKit
set_option linter.unusedVariables false

theorem grown_refl (w : World) (r : Option Nat) : w.grownBy w r := ⟨rfl, rfl, rfl, Nat.le_refl _, fun _ _ _ => rfl⟩
theorem wpList_append_ints {w : World} {ops : Array Oper} {rest : List Oper} {o : Oper} {a : Act} {Q : Exit → Act → World → Prop} (hgd : o.guard = none) (s x : Operand)
    (ho : o.op = .call { callee := .builtin .append, args := #[s, x], argTypes := #[23, 23] })
    (base : Nat) (v : Value) (zs : List Int) (hs : a.eval s = v) (hown : w.ownsRow base 3 1 v zs.length (zs.map (Value.int .i64)))
    (A : Option Addr) (m c : Nat) (ys : List Int) (hx : a.eval x = .slice A m c) (hm : ys.length = m) (hr : Row (Value.int .i64) w w.heap.size A ys)
    (h63 : zs.length + m ≤ 1000000000) (hbase : base ≤ w.heap.size)
    (h : ∀ A' c' w', w'.ownsRow base 3 1 (.slice A' (zs.length + m) c') (zs ++ ys).length ((zs ++ ys).map (Value.int .i64)) → w.grownBy w' v.ownBlock → wpList Tryd.prog ops Q rest (a.put o.dst (.slice A' (zs.length + m) c')) w') : wpList Tryd.prog ops Q (o :: rest) a w := by
  obtain ⟨i0, hi0, hz0, hz1, hz2⟩ := info_parts ints_info
  by_cases h0 : 0 < m
  · obtain ⟨ad, rfl, hbk, hcs⟩ := hr (by omega)
    refine wpList_append_lies _ hgd s x 23 ho base 3 i0 (.int .i64 0) 1 8 Tryd.underlying23 hi0 hz0 hz1 hz2 rfl (by decide) v zs.length (zs.map (Value.int .i64)) hs hown ad m c (ys.map (Value.int .i64)) hx (by simp [hm]) (fun j u hu => ?_) (by simp [Value.oneCell']) h0 (by unfold maxLen; omega) (by omega) hbase w.heap.size rfl ?_
    · rw [List.getElem?_map] at hu
      obtain ⟨z, hz, rfl⟩ := Option.map_eq_some_iff.1 hu
      exact hcs j z hz
    · intro g cap w' hown' hg _ _
      exact h _ cap w' (by simpa [hm] using hown') hg
  · have e0 : ys = [] := List.eq_nil_of_length_eq_zero (by omega)
    subst e0
    obtain rfl : m = 0 := by omega
    refine wpList_append_zero hgd s x 23 ho base 3 i0 1 Tryd.underlying23 hi0 v zs.length (zs.map (Value.int .i64)) hs hown A c hx ?_
    obtain ⟨Av, cv, rfl⟩ := own_form hown
    exact h Av cv w (by simpa using hown) (grown_refl _ _)
theorem grown_cell {w w' : World} {r : Option Nat} {p : Addr} (h : w.grownBy w' r) (hb : p.block < w.heap.size) (hne : ¬ r = some p.block) : w'.cell? p = w.cell? p := World.cell?_of_block (w := w) (h.block p.block hb (fun e => hne e.symm))
/-- the box of a struct that was just made, behind a growth of an older row -/
theorem box_cell {w w' : World} {base n size : Nat} {v : Value} {e T : TypeId} {xs : List Value} {cs : Array Value} (ho : w.ownsRow base e size v n xs) (h : (w.alloc (.cells cs T)).grownBy w' v.ownBlock) (i : Nat) : w'.cell? ⟨w.heap.size, i, none⟩ = cs[i]? := by
  rw [grown_cell h (by simp) (fun e => by have := own_in ho e; simp at this)]
  exact cell_of_row _ _ i _ _ _ (heap_alloc_new w _)
/-- a piece of a slice of numbers -/
theorem Row.piece {w : World} {B : Nat} {ad : Addr} {zs : List Int} (h : Row (Value.int .i64) w B (some ad) zs) (at_ m : Nat) (hl : at_ + m ≤ zs.length) : Row (Value.int .i64) w B (some (ad.add at_)) ((zs.drop at_).take m) := fun hn => by
  have hlen : ((zs.drop at_).take m).length = m := by rw [List.length_take, List.length_drop]; omega
  obtain ⟨ad', e, hb, hc⟩ := h (by omega)
  injection e with e
  subst e
  refine ⟨_, rfl, by rw [block_of_add]; exact hb, fun k z hz => ?_⟩
  have hk : k < m := by have := idx_lt hz; omega
  rw [List.getElem?_take, if_pos hk, List.getElem?_drop] at hz
  have := hc (at_ + k) z hz
  rwa [show ∀ (p : Addr) (i j : Nat), (p.add i).add j = p.add (i + j) from fun p i j => by
    unfold Addr.add
    by_cases hi : i = 0
    · subst hi; simp
    · by_cases hj : j = 0
      · subst hj; simp [hi]
      · simp [hi, hj, Nat.add_assoc]]
theorem piece_len {zs : List Int} {at_ m : Nat} (hl : at_ + m ≤ zs.length) : ((zs.drop at_).take m).length = m := by rw [List.length_take, List.length_drop]; omega
end Go.Proofs.YtbbpapaobehlcaaDoor.low


/-
  The builder in one word: Bld: at block g it holds what the parts L, added one by one, have made of it.
-/
namespace Go.Proofs.YtbbpapaobehlcaaDoor.low
open Go.RowKit
set_option linter.unusedVariables false

/-- a part of bounded size -/
def szP_ (p : Pt) : Prop := (p.kind = 1 ∨ p.kind = 2 ∨ p.kind = 3) ∧ 0 ≤ p.n ∧ p.n ≤ 200 ∧ p.signs.length ≤ 200
theorem szP_of {p : Pt} (h : okPt p = true) : szP_ p := by
  have := of_okPt h
  unfold szP_
  omega
theorem Fit.stepZ {j m : Nat} {s : List Pt × List Int × Int} {p : Pt} (h : Fit j m s) (hp : szP_ p) : Fit (j + 1) (m + p.signs.length) (stepN s p) := by
  unfold szP_ at hp
  obtain ⟨d1, d2, d3⟩ := h.done
  have h1 := h.len
  have h2 := h.signs
  have h3 := h.d0
  have h4 := h.d1
  have hns := h.ns
  unfold stepN
  split
  · rename_i hk
    have hn : 0 ≤ p.n ∧ p.n ≤ 200 := by omega
    split
    · exact ⟨by omega, by omega, h3, by omega, fun x hx => by have := hns x hx; omega⟩
    · obtain ⟨k1, k2, k3⟩ := keepTo_fit (q := doneN s) hn.1 (M := 200 * (j : Int)) (by omega) d3
      refine ⟨?_, ?_, by simp, by simp; omega, fun x hx => ?_⟩
      · show (keepTo (doneN s) p.n).length ≤ _; omega
      · show signsIn (keepTo (doneN s) p.n) + 0 ≤ _; omega
      · have := k3 x hx; omega
  · split
    · refine ⟨by simp; omega, by simp; omega, h3, by simp; omega, fun x hx => by have := hns x hx; omega⟩
    · refine ⟨by simp; omega, by simp; omega, by simp; omega, by simp; omega, fun x hx => by have := hns x hx; omega⟩
theorem foldN_app (L : List Pt) (p : Pt) : foldN (L ++ [p]) = stepN (foldN L) p := by unfold foldN; simp
theorem foldN_fitZ {L : List Pt} (h : ∀ p ∈ L, szP_ p) : Fit L.length (signsIn L) (foldN L) := by
  have key : ∀ k, k ≤ L.length → Fit k (signsIn (L.take k)) (foldN (L.take k)) := by
    intro k
    induction k with
    | zero => intro _; simpa [foldN, signsIn] using Fit.start
    | succ k ih =>
      intro hk
      obtain ⟨p, hp⟩ := idx_some (l := L) (i := k) (by omega)
      rw [foldN_snoc hp, signsIn_snoc hp]
      exact (ih (by omega)).stepZ (h p (List.mem_of_getElem? hp))
  have := key L.length (Nat.le_refl _)
  rwa [List.take_length] at this
theorem OwnS.mono {S S' : Nat → Prop} {g : Nat} {v : Value} {us : List Value} (h : OwnS S g v us) (hs : ∀ b, S b → S' b) : OwnS S' g v us := ⟨hs _ h.1, fun k hk => hs k (h.2.1 k hk), fun i k x hx hk => hs k (h.2.2 i k x hx hk)⟩
theorem BAtS.mono {S S' : Nat → Prop} {lo g : Nat} {T : TypeId} {w : World} {ps : List Pt} {put : List Int} {d : Int} (h : BAtS S lo g T w ps put d) (hs : ∀ b, S b → S' b) : BAtS S' lo g T w ps put d := by
  obtain ⟨v, u, us, hx, ha, ho⟩ := h
  exact ⟨v, u, us, hx, ha, ho.mono hs⟩
/-- the builder's blocks exist -/
theorem BAtS.shrink {S : Nat → Prop} {lo g : Nat} {T : TypeId} {w : World} {ps : List Pt} {put : List Int} {d : Int} (h : BAtS S lo g T w ps put d) : BAtS (fun b => S b ∧ b < w.heap.size) lo g T w ps put d := by
  obtain ⟨v, u, us, hx, ha, ho⟩ := h
  refine ⟨v, u, us, hx, ha, ⟨ho.1, hx.lt⟩, fun k hk => ⟨ho.2.1 k hk, own_in hx.row hk⟩, fun i k x hxi hk => ⟨ho.2.2 i k x hxi hk, ?_⟩⟩
  obtain ⟨q, hq⟩ := idx_some (l := ps ++ [⟨2, 0, put⟩]) (i := i) (by rw [← ha.1]; exact idx_lt hxi)
  exact own_in (ha.2.1 i q x hq hxi).1 hk
theorem BAtS.keep {S : Nat → Prop} {lo g : Nat} {T : TypeId} {w w' : World} {ps : List Pt} {put : List Int} {d : Int} (h : BAtS S lo g T w ps put d) (hsz : w.heap.size ≤ w'.heap.size) (hk : ∀ b, b < w.heap.size → S b → w'.heap[b]? = w.heap[b]?) : BAtS S lo g T w' ps put d := by
  obtain ⟨v, u, us, hx, ha, ho⟩ := h
  exact ⟨v, u, us, ⟨(hk g hx.lt ho.1).trans hx.box, own_keep hx.row (fun k h1 h2 => hk k h2 (ho.2.1 k h1)), hx.len, hx.low⟩, ha.keep hsz (fun i x k hxi h1 h2 => hk k h2 (ho.2.2 i k x hxi h1)), ho⟩
/-- the builder at block g holds what the parts L have made of it; O: its blocks -/
structure Bld (O : Nat → Prop) (lo g : Nat) (T : TypeId) (w : World) (L : List Pt) : Prop where
  at_ : BAtS O lo g T w (foldN L).1 (foldN L).2.1 (foldN L).2.2
  sz : ∀ p ∈ L, szP_ p
  len : L.length ≤ 100000
  old : ∀ b, O b → b < w.heap.size
/-- blocks outside O are as they were; O' is O and new blocks -/
structure Grew (O O' : Nat → Prop) (w w' : World) : Prop where
  size : w.heap.size ≤ w'.heap.size
  block : ∀ b, b < w.heap.size → ¬ O b → w'.heap[b]? = w.heap[b]?
  more : ∀ b, O' b → O b ∨ w.heap.size ≤ b
def BldP (O : Nat → Prop) (lo g : Nat) (T : TypeId) (L : List Pt) (w : World) (e : Ending) (w' : World) : Prop := e = .returned (.tuple #[]) ∧ ∃ O', Bld O' lo g T w' L ∧ Below lo w w' ∧ Grew O O' w w'
theorem signsIn_le {L : List Pt} (h : ∀ p ∈ L, szP_ p) : signsIn L ≤ 200 * L.length := by
  induction L with
  | nil => simp [signsIn]
  | cons p L ih =>
    have h1 := (h p (by simp)).2.2.2
    have h2 := ih (fun q hq => h q (by simp [hq]))
    have e : signsIn (p :: L) = p.signs.length + signsIn L := by simp [signsIn]
    rw [e, List.length_cons]
    omega
theorem Bld.fit {O : Nat → Prop} {lo g : Nat} {T : TypeId} {w : World} {L : List Pt} (h : Bld O lo g T w L) : Fit L.length (signsIn L) (foldN L) := foldN_fitZ h.sz
theorem Bld.keep {O : Nat → Prop} {lo g : Nat} {T : TypeId} {w w' : World} {L : List Pt} (h : Bld O lo g T w L) (hsz : w.heap.size ≤ w'.heap.size) (hk : ∀ b, b < w.heap.size → O b → w'.heap[b]? = w.heap[b]?) : Bld O lo g T w' L := ⟨h.at_.keep hsz hk, h.sz, h.len, fun b hb => Nat.lt_of_lt_of_le (h.old b hb) hsz⟩
theorem Bld.past {O : Nat → Prop} {lo g : Nat} {T : TypeId} {w w' : World} {L : List Pt} (h : Bld O lo g T w L) (hb : Below w.heap.size w w') : Bld O lo g T w' L := h.keep hb.size (fun b hlt _ => hb.block b hlt)
/-- another builder's growth leaves this one alone -/
theorem Bld.apart {O P P' : Nat → Prop} {lo g : Nat} {T : TypeId} {w w' : World} {L : List Pt} (h : Bld O lo g T w L) (hg : Grew P P' w w') (hd : ∀ b, O b → ¬ P b) : Bld O lo g T w' L ∧ ∀ b, O b → ¬ P' b :=
  ⟨h.keep hg.size (fun b hlt ho => hg.block b hlt (hd b ho)), fun b ho hp => by
    rcases hg.more b hp with h1 | h1
    · exact hd b ho h1
    · have := h.old b ho; omega⟩
theorem Bld.new (lo : Nat) (T : TypeId) (w : World) (h : lo ≤ w.heap.size) : Bld (fun b => b = w.heap.size) lo w.heap.size T (w.alloc (.cells #[.slice none 0 0, .slice none 0 0, .int .i64 0] T)) [] :=
  ⟨show BAtS (fun b => b = w.heap.size) lo w.heap.size T (w.alloc (.cells #[.slice none 0 0, .slice none 0 0, .int .i64 0] T)) [] [] 0 from ⟨.slice none 0 0, .slice none 0 0, [], ⟨heap_alloc_new w _, World.ownsRow_nil _ _ _ _, rfl, h⟩, Apart.bare 2 0 ⟨rfl, fun i p u hp _ => by simp at hp, fun i j k u v hu _ _ _ => by simp at hu⟩, rfl, fun k hk => by simp [Value.ownBlock] at hk, fun i k x hx hk => by
      cases i with
      | zero => simp at hx; subst hx; simp [Value.ownBlock] at hk
      | succ i => simp at hx⟩, fun p hp => by simp at hp, by simp, fun b hb => by
      have hb' : b = w.heap.size := hb
      rw [hb']
      exact lt_of_some (heap_alloc_new w _)⟩
theorem Bld.low {O : Nat → Prop} {lo g : Nat} {T : TypeId} {w : World} {L : List Pt} (h : Bld O lo g T w L) : lo ≤ w.heap.size := by
  obtain ⟨v, u, us, hx, _⟩ := h.at_
  exact Nat.le_trans hx.low (Nat.le_of_lt hx.lt)
/-- what the contracts with frames give, in one word -/
theorem Bld.add {O : Nat → Prop} {lo g : Nat} {T : TypeId} {w w' : World} {L : List Pt} {p : Pt} (h : Bld O lo g T w L) (hl : L.length < 100000) (hp : szP_ p) (hb : Below lo w w') (hf : Fr (fun b => O b ∨ w.heap.size ≤ b) w w') (ha : BAtS (fun b => O b ∨ w.heap.size ≤ b) lo g T w' (stepN (foldN L) p).1 (stepN (foldN L) p).2.1 (stepN (foldN L) p).2.2) : ∃ O', Bld O' lo g T w' (L ++ [p]) ∧ Below lo w w' ∧ Grew O O' w w' :=
  ⟨fun b => (O b ∨ w.heap.size ≤ b) ∧ b < w'.heap.size, ⟨by rw [foldN_app]; exact ha.shrink, fun q hq => by rcases List.mem_append.1 hq with hq | hq; exact h.sz q hq; simp at hq; subst hq; exact hp, by simp; omega, fun b hb => hb.2⟩, hb, hf.size, fun b hlt ho => hf.block b hlt (fun hs => by rcases hs with hs | hs; exact ho hs; omega), fun b hb => hb.1⟩
theorem OwB.grew {O O' : Nat → Prop} {lo hi : Nat} {w w' : World} {d : Dat} {v : Value} {b : List Nat} (h : OwB lo hi w d v b) (hg : Grew O O' w w') (hO : ∀ x, O x → x < lo ∨ hi ≤ x) : OwB lo hi w' d v b :=
  ⟨OwC.keep d v b h.ow (fun x hx => hg.block x (OwC.lt d v b h.ow x hx) (fun ho => by have := h.rng x hx; have := hO x ho; omega)), h.nd, h.rng, Nat.le_trans h.top hg.size, h.le⟩
theorem Grew.out {O O' : Nat → Prop} {lo hi : Nat} {w w' : World} (hg : Grew O O' w w') (hO : ∀ x, O x → x < lo ∨ hi ≤ x) (hh : hi ≤ w.heap.size) : ∀ x, O' x → x < lo ∨ hi ≤ x := fun x hx => by
  rcases hg.more x hx with h | h
  · exact hO x h
  · exact .inr (Nat.le_trans hh h)
/-- it returns the built parts, in blocks of the builder or new ones -/
def DoneP (O : Nat → Prop) (lo : Nat) (L : List Pt) (w : World) (e : Ending) (w' : World) : Prop := ∃ v b, e = .returned v ∧ OwB lo w'.heap.size w' (encPs (doneN (foldN L))) v b ∧ (∀ x ∈ b, O x ∨ w.heap.size ≤ x) ∧ Below lo w w' ∧ Grew O (fun x => x ∈ b) w w'
theorem GoneS.done {O : Nat → Prop} {lo : Nat} {L : List Pt} {w w' : World} {e : Ending} (h : GoneS (fun b => O b ∨ w.heap.size ≤ b) lo (doneN (foldN L)) w e w') : DoneP O lo L w e w' := by
  obtain ⟨v, us, e1, p, b, fr, ho, hl, hv, hu⟩ := h
  have hp := p
  obtain ⟨us', ho', ha', _⟩ := p
  obtain ⟨bs, oc, nd, rng, top, le⟩ := own_parts hp
  have heq : ∀ x ∈ bs, O x ∨ w.heap.size ≤ x := fun x hx => by
    obtain ⟨xs, cs, hox, hor, hb⟩ := oc
    rw [hb] at hx
    rcases List.mem_append.1 hx with hx | hx
    · exact hv x (by simpa using hx)
    · obtain ⟨us2, k1, k2, k3, k4⟩ := owR_parts hor
      rw [k3] at hx
      obtain ⟨i, u, hui, hk⟩ := mem_blks.1 hx
      have e2 : cellsOf (doneN (foldN L)) us2 = cellsOf (doneN (foldN L)) us := by
        rw [← k2]
        rcases ho.2 with ⟨rfl, h0⟩ | ⟨g, cap, cur, rfl, _, hh, _, _, _, ht⟩
        · have : doneN (foldN L) = [] := List.eq_nil_of_length_eq_zero h0
          have l1 := hox.1
          have l2 := ho.1
          rw [this] at l1 l2 ⊢
          simp at l1
          rw [l1]
          rfl
        · rcases hox.2 with ⟨hn, _⟩ | ⟨g', cap', cur', hv', _, hh', _, _, _, ht'⟩
          · cases hn
          · injection hv' with q1 q2 q3
            injection q1 with q1
            injection q1 with q1
            subst q1
            rw [hh] at hh'
            injection hh' with hh'
            injection hh' with hc _ _
            subst hc
            rw [← ht', ← ht]
            simp
      have e3 : us2[i]? = us[i]? := by
        obtain ⟨q, hq⟩ := idx_some (l := doneN (foldN L)) (i := i) (by rw [← k1]; exact idx_lt hui)
        obtain ⟨u2, hu2⟩ := idx_some (l := us) (i := i) (by rw [hl, ← k1]; exact idx_lt hui)
        have a1 := (cellsOf_at _ us2 i q u hq hui).2.2
        have a2 := (cellsOf_at _ us i q u2 hq hu2).2.2
        rw [e2, a2] at a1
        rw [hui, hu2]
        exact a1.symm
      exact hu i x u (by rw [← e3]; exact hui) hk
  exact ⟨v, bs, e1, ⟨oc, nd, rng, top, le⟩, heq, b, fr.size, fun x hlt ho => fr.block x hlt (fun hs => by rcases hs with hs | hs; exact ho hs; omega), heq⟩
end Go.Proofs.YtbbpapaobehlcaaDoor.low


/-
  The normal form as a function on lists: its sums are those of the operation, its parts are tidy and stand in order, it is no longer than the operation, and it is its own normal form.
-/
namespace Go.Proofs.YtbbpapaobehlcaaDoor.low
open Go.RowKit
set_option linter.unusedVariables false

theorem sumOf_app {f : Pt → Int} (a b : List Pt) : sumOf f (a ++ b) = sumOf f a + sumOf f b := by unfold sumOf; simp
theorem sumOf_cons {f : Pt → Int} (p : Pt) (a : List Pt) : sumOf f (p :: a) = f p + sumOf f a := by unfold sumOf; simp
theorem sumOf_nil {f : Pt → Int} : sumOf f [] = 0 := rfl
theorem sum_done (s : List Pt × List Int × Int) (h : 0 ≤ s.2.2) : sumOf keepOf (doneN s) = sumOf keepOf s.1 ∧ sumOf putOf (doneN s) = sumOf putOf s.1 + (s.2.1.length : Int) ∧ sumOf dropOf (doneN s) = sumOf dropOf s.1 + s.2.2 := by
  unfold doneN putL dropL
  split <;> split <;> simp [sumOf_app, sumOf_cons, sumOf_nil, keepOf, putOf, dropOf] <;> omega
theorem sum_keepTo (q : List Pt) (n : Int) : sumOf keepOf (keepTo q n) = sumOf keepOf q + n ∧ sumOf putOf (keepTo q n) = sumOf putOf q ∧ sumOf dropOf (keepTo q n) = sumOf dropOf q := by
  rcases q.eq_nil_or_concat with rfl | ⟨r, p, rfl⟩
  · rw [keepTo_nil]
    simp [sumOf_cons, sumOf_nil, keepOf, putOf, dropOf]
  · rw [List.concat_eq_append]
    by_cases hk : p.kind = 1
    · rw [keepTo_t n hk]
      simp [sumOf_app, sumOf_cons, sumOf_nil, keepOf, putOf, dropOf, hk]
      omega
    · rw [keepTo_f n hk]
      simp [sumOf_app, sumOf_cons, sumOf_nil, keepOf, putOf, dropOf]
      omega
theorem sum_step {s : List Pt × List Int × Int} {p : Pt} (h : 0 ≤ s.2.2) (hp : szP_ p) : 0 ≤ (stepN s p).2.2 ∧ sumOf keepOf (doneN (stepN s p)) = sumOf keepOf (doneN s) + keepOf p ∧ sumOf putOf (doneN (stepN s p)) = sumOf putOf (doneN s) + putOf p ∧ sumOf dropOf (doneN (stepN s p)) = sumOf dropOf (doneN s) + dropOf p := by
  obtain ⟨hk, hn0, hn1, hz⟩ := hp
  rcases hk with e | e | e
  · by_cases h0 : p.n = 0
    · have : stepN s p = s := by unfold stepN; rw [if_pos e, if_pos h0]
      rw [this]
      simp [keepOf, putOf, dropOf, e, h0]
      exact h
    · have : stepN s p = (keepTo (doneN s) p.n, [], 0) := by unfold stepN; rw [if_pos e, if_neg h0]; rfl
      rw [this]
      obtain ⟨a1, a2, a3⟩ := sum_keepTo (doneN s) p.n
      obtain ⟨b1, b2, b3⟩ := sum_done (keepTo (doneN s) p.n, [], 0) (by simp)
      rw [b1, b2, b3]
      simp only [a1, a2, a3]
      simp [keepOf, putOf, dropOf, e]
  · have : stepN s p = (s.1, s.2.1 ++ p.signs, s.2.2) := by unfold stepN; rw [if_neg (by omega), if_pos e]
    rw [this]
    obtain ⟨b1, b2, b3⟩ := sum_done (s.1, s.2.1 ++ p.signs, s.2.2) h
    obtain ⟨c1, c2, c3⟩ := sum_done s h
    rw [b1, b2, b3, c1, c2, c3]
    simp [keepOf, putOf, dropOf, e]
    omega
  · have : stepN s p = (s.1, s.2.1, s.2.2 + p.n) := by unfold stepN; rw [if_neg (by omega), if_neg (by omega)]
    rw [this]
    have h' : 0 ≤ s.2.2 + p.n := by omega
    obtain ⟨b1, b2, b3⟩ := sum_done (s.1, s.2.1, s.2.2 + p.n) h'
    obtain ⟨c1, c2, c3⟩ := sum_done s h
    rw [b1, b2, b3, c1, c2, c3]
    simp [keepOf, putOf, dropOf, e]
    omega
theorem sum_fold : ∀ (L : List Pt) (s : List Pt × List Int × Int), 0 ≤ s.2.2 → (∀ p ∈ L, szP_ p) → 0 ≤ (L.foldl stepN s).2.2 ∧ sumOf keepOf (doneN (L.foldl stepN s)) = sumOf keepOf (doneN s) + sumOf keepOf L ∧ sumOf putOf (doneN (L.foldl stepN s)) = sumOf putOf (doneN s) + sumOf putOf L ∧ sumOf dropOf (doneN (L.foldl stepN s)) = sumOf dropOf (doneN s) + sumOf dropOf L
  | [], s, h, _ => by simp [sumOf_nil]; exact h
  | p :: L, s, h, hp => by
    obtain ⟨a0, a1, a2, a3⟩ := sum_step h (hp p (by simp))
    obtain ⟨b0, b1, b2, b3⟩ := sum_fold L (stepN s p) a0 (fun q hq => hp q (by simp [hq]))
    rw [List.foldl_cons, b1, b2, b3, a1, a2, a3, sumOf_cons, sumOf_cons, sumOf_cons]
    exact ⟨b0, by omega, by omega, by omega⟩
/-- the sums of the normal form -/
theorem sum_norm {L : List Pt} (h : ∀ p ∈ L, szP_ p) : sumOf keepOf (doneN (foldN L)) = sumOf keepOf L ∧ sumOf putOf (doneN (foldN L)) = sumOf putOf L ∧ sumOf dropOf (doneN (foldN L)) = sumOf dropOf L := by
  obtain ⟨_, h1, h2, h3⟩ := sum_fold L ([], [], 0) (by simp) h
  have e : doneN ([], [], 0) = [] := by simp [doneN, putL, dropL]
  rw [e] at h1 h2 h3
  simp only [sumOf_nil, Int.zero_add] at h1 h2 h3
  exact ⟨h1, h2, h3⟩

/-- a part with an effect, in its proper form -/
def tidy (p : Pt) : Prop := (p.kind = 1 ∧ 0 < p.n ∧ p.signs = []) ∨ (p.kind = 2 ∧ p.n = 0 ∧ 0 < p.signs.length) ∨ (p.kind = 3 ∧ 0 < p.n ∧ p.signs = [])
/-- which part may follow which -/
def nextOk (p q : Pt) : Prop := (p.kind = 1 → q.kind = 2 ∨ q.kind = 3) ∧ (p.kind = 2 → q.kind = 1 ∨ q.kind = 3) ∧ (p.kind = 3 → q.kind = 1)
/-- the parts stand in order -/
def inOrder : List Pt → Prop
  | [] => True
  | [_] => True
  | p :: q :: r => nextOk p q ∧ inOrder (q :: r)
/-- a normal operation -/
def normal (L : List Pt) : Prop := (∀ p ∈ L, tidy p) ∧ inOrder L
theorem inOrder_app : ∀ (a : List Pt) (p q : Pt) (b : List Pt), inOrder (a ++ [p]) → nextOk p q → inOrder (q :: b) → inOrder (a ++ p :: q :: b)
  | [], p, q, b, _, h2, h3 => ⟨h2, h3⟩
  | [x], p, q, b, h1, h2, h3 => ⟨h1.1, h2, h3⟩
  | x :: y :: a, p, q, b, h1, h2, h3 => ⟨h1.1, inOrder_app (y :: a) p q b h1.2 h2 h3⟩
theorem inOrder_init : ∀ (a b : List Pt), inOrder (a ++ b) → inOrder a
  | [], _, _ => trivial
  | [_], _, _ => trivial
  | x :: y :: a, b, h => ⟨h.1, inOrder_init (y :: a) b h.2⟩
/-- the last part's kind, 0 if there is none -/
def lastK (L : List Pt) : Int := match L.getLast? with | some p => p.kind | none => 0
theorem lastK_app (a : List Pt) (p : Pt) : lastK (a ++ [p]) = p.kind := by simp [lastK]
theorem normal_snoc {L : List Pt} {q : Pt} (h : normal L) (hq : tidy q) (hl : ∀ p, L.getLast? = some p → nextOk p q) : normal (L ++ [q]) := by
  refine ⟨fun p hp => ?_, ?_⟩
  · rcases List.mem_append.1 hp with hp | hp
    · exact h.1 p hp
    · simp at hp; subst hp; exact hq
  · rcases L.eq_nil_or_concat with rfl | ⟨a, p, rfl⟩
    · trivial
    · rw [List.concat_eq_append] at *
      have := inOrder_app a p q [] h.2 (hl p (by simp)) trivial
      simpa using this
/-- a builder's state: what is flushed ends with a retaining part -/
def okS_ (s : List Pt × List Int × Int) : Prop := normal s.1 ∧ (s.1 = [] ∨ lastK s.1 = 1) ∧ 0 ≤ s.2.2
theorem getLast_kind {L : List Pt} {p : Pt} (h : L = [] ∨ lastK L = 1) (hp : L.getLast? = some p) : p.kind = 1 := by
  rcases h with rfl | h
  · simp at hp
  · unfold lastK at h
    rw [hp] at h
    exact h
theorem normal_done {s : List Pt × List Int × Int} (h : okS_ s) : normal (doneN s) := by
  obtain ⟨h1, h2, h3⟩ := h
  unfold doneN putL dropL
  by_cases hp : s.2.1.length = 0
  · rw [if_pos hp, List.append_nil]
    by_cases hd : 0 < s.2.2
    · rw [if_pos hd]
      refine normal_snoc h1 (.inr (.inr ⟨rfl, hd, rfl⟩)) (fun p hp' => ?_)
      have := getLast_kind h2 hp'
      exact ⟨fun _ => .inr rfl, fun e => by omega, fun e => by omega⟩
    · rw [if_neg hd, List.append_nil]
      exact h1
  · rw [if_neg hp]
    have hn : normal (s.1 ++ [⟨2, 0, s.2.1⟩]) := normal_snoc h1 (.inr (.inl ⟨rfl, rfl, by simp; omega⟩)) (fun p hp' => by
      have := getLast_kind h2 hp'
      exact ⟨fun _ => .inl rfl, fun e => by omega, fun e => by omega⟩)
    by_cases hd : 0 < s.2.2
    · rw [if_pos hd]
      refine normal_snoc hn (.inr (.inr ⟨rfl, hd, rfl⟩)) (fun p hp' => ?_)
      simp at hp'
      subst hp'
      exact ⟨fun e => by simp at e, fun _ => .inr rfl, fun e => by simp at e⟩
    · rw [if_neg hd, List.append_nil]
      exact hn
theorem normal_keepTo {q : List Pt} {n : Int} (h : normal q) (hn : 0 < n) : normal (keepTo q n) ∧ lastK (keepTo q n) = 1 := by
  rcases q.eq_nil_or_concat with rfl | ⟨r, p, rfl⟩
  · rw [keepTo_nil]
    exact ⟨⟨fun p hp => by simp at hp; subst hp; exact .inl ⟨rfl, hn, rfl⟩, trivial⟩, rfl⟩
  · rw [List.concat_eq_append] at *
    by_cases hk : p.kind = 1
    · rw [keepTo_t n hk]
      have hp := h.1 p (by simp)
      refine ⟨⟨fun x hx => ?_, ?_⟩, by rw [lastK_app]; exact hk⟩
      · rcases List.mem_append.1 hx with hx | hx
        · exact h.1 x (by simp [hx])
        · simp at hx
          subst hx
          unfold tidy at *
          simp only
          rcases hp with ⟨a, b, c⟩ | ⟨a, b, c⟩ | ⟨a, b, c⟩
          · exact .inl ⟨a, by omega, c⟩
          · omega
          · omega
      · rcases r.eq_nil_or_concat with rfl | ⟨a, x, rfl⟩
        · trivial
        · rw [List.concat_eq_append] at *
          have h2 : inOrder (a ++ x :: p :: []) := by simpa using h.2
          have hx : nextOk x p := by
            clear hp hk h
            induction a with
            | nil => exact h2.1
            | cons y a ih =>
              cases a with
              | nil => exact h2.2.1
              | cons z a => exact ih h2.2
          have := inOrder_app a x ⟨p.kind, p.n + n, p.signs⟩ [] (inOrder_init (a ++ [x]) [p] (by simpa using h2)) hx trivial
          simpa using this
    · rw [keepTo_f n hk]
      refine ⟨normal_snoc h (.inl ⟨rfl, hn, rfl⟩) (fun x hx => ?_), by rw [lastK_app]⟩
      simp at hx
      subst hx
      exact ⟨fun e => absurd e hk, fun _ => .inl rfl, fun _ => rfl⟩
theorem okS_step {s : List Pt × List Int × Int} {p : Pt} (h : okS_ s) (hp : szP_ p) : okS_ (stepN s p) := by
  obtain ⟨hk, hn0, hn1, hz⟩ := hp
  rcases hk with e | e | e
  · by_cases h0 : p.n = 0
    · have : stepN s p = s := by unfold stepN; rw [if_pos e, if_pos h0]
      rw [this]; exact h
    · have : stepN s p = (keepTo (doneN s) p.n, [], 0) := by unfold stepN; rw [if_pos e, if_neg h0]; rfl
      rw [this]
      obtain ⟨a, b⟩ := normal_keepTo (normal_done h) (show 0 < p.n by omega)
      exact ⟨a, .inr b, by simp⟩
  · have : stepN s p = (s.1, s.2.1 ++ p.signs, s.2.2) := by unfold stepN; rw [if_neg (by omega), if_pos e]
    rw [this]; exact h
  · have : stepN s p = (s.1, s.2.1, s.2.2 + p.n) := by unfold stepN; rw [if_neg (by omega), if_neg (by omega)]
    rw [this]; exact ⟨h.1, h.2.1, by have := h.2.2; simp only; omega⟩
theorem okS_fold : ∀ (L : List Pt) (s : List Pt × List Int × Int), okS_ s → (∀ p ∈ L, szP_ p) → okS_ (L.foldl stepN s)
  | [], s, h, _ => h
  | p :: L, s, h, hp => okS_fold L (stepN s p) (okS_step h (hp p (by simp))) (fun q hq => hp q (by simp [hq]))
/-- the normal form is normal -/
theorem normal_fold {L : List Pt} (h : ∀ p ∈ L, szP_ p) : normal (doneN (foldN L)) := normal_done (okS_fold L ([], [], 0) ⟨⟨fun p hp => by simp at hp, trivial⟩, .inl rfl, by simp⟩ h)

theorem inOrder_mid : ∀ (a : List Pt) (p q : Pt) (b : List Pt), inOrder (a ++ p :: q :: b) → nextOk p q
  | [], p, q, b, h => h.1
  | [x], p, q, b, h => h.2.1
  | x :: y :: a, p, q, b, h => inOrder_mid (y :: a) p q b h.2
theorem last_done {s : List Pt × List Int × Int} : (0 < s.2.2 → ∃ a p, doneN s = a ++ [p] ∧ p.kind = 3) ∧ (¬ 0 < s.2.2 → ¬ s.2.1.length = 0 → ∃ a p, doneN s = a ++ [p] ∧ p.kind = 2) := by
  refine ⟨fun h => ⟨s.1 ++ putL s.2.1, ⟨3, s.2.2, []⟩, by simp [doneN, dropL, h], rfl⟩, fun h h' => ⟨s.1, ⟨2, 0, s.2.1⟩, by simp [doneN, dropL, putL, h, h'], rfl⟩⟩
/-- a normal list is built as it stands -/
theorem fold_normal : ∀ (L : List Pt) (s : List Pt × List Int × Int), 0 ≤ s.2.2 → (∀ p ∈ L, tidy p) → inOrder (doneN s ++ L) → doneN (L.foldl stepN s) = doneN s ++ L
  | [], s, _, _, _ => by simp
  | p :: L, s, h0, ht, ho => by
    have hp := ht p (by simp)
    have key : doneN (stepN s p) = doneN s ++ [p] ∧ 0 ≤ (stepN s p).2.2 := by
      have hlast : ∀ a q, doneN s = a ++ [q] → nextOk q p := fun a q e => by
        rw [e] at ho
        exact inOrder_mid a q p L (by simpa using ho)
      rcases hp with ⟨e, hn, hz⟩ | ⟨e, hn, hz⟩ | ⟨e, hn, hz⟩
      · have hs : stepN s p = (keepTo (doneN s) p.n, [], 0) := by unfold stepN; rw [if_pos e, if_neg (by omega)]; rfl
        rw [hs]
        refine ⟨?_, by simp⟩
        have hd : doneN (keepTo (doneN s) p.n, [], 0) = keepTo (doneN s) p.n := by simp [doneN, putL, dropL]
        have hpp : p = ⟨1, p.n, []⟩ := by obtain ⟨a, b, c⟩ := p; simp only at e hz; rw [e, hz]
        rw [hd]
        rcases (doneN s).eq_nil_or_concat with e0 | ⟨a, q, e0⟩
        · rw [e0, keepTo_nil, List.nil_append, ← hpp]
        · rw [List.concat_eq_append] at e0
          have := hlast a q e0
          have hq : ¬ q.kind = 1 := fun h1 => by have := this.1 h1; omega
          rw [e0, keepTo_f _ hq, ← hpp]
      · have hs : stepN s p = (s.1, s.2.1 ++ p.signs, s.2.2) := by unfold stepN; rw [if_neg (by omega), if_pos e]
        rw [hs]
        have hd0 : ¬ 0 < s.2.2 := fun h1 => by
          obtain ⟨a, q, e1, e2⟩ := last_done.1 h1
          have := (hlast a q e1).2.2 e2
          omega
        have hp0 : s.2.1.length = 0 := by
          rcases Nat.eq_zero_or_pos s.2.1.length with h1 | h1
          · exact h1
          · obtain ⟨a, q, e1, e2⟩ := last_done.2 hd0 (by omega)
            have := (hlast a q e1).2.1 e2
            omega
        refine ⟨?_, h0⟩
        have he : s.2.1 = [] := List.eq_nil_of_length_eq_zero hp0
        have hpp : p = ⟨2, 0, p.signs⟩ := by obtain ⟨a, b, c⟩ := p; simp only at e hn; rw [e, hn]
        unfold doneN putL dropL
        simp only [he, List.nil_append, List.length_nil, if_true, if_neg hd0, if_neg (show ¬ p.signs.length = 0 by omega), List.append_nil]
        rw [← hpp]
      · have hs : stepN s p = (s.1, s.2.1, s.2.2 + p.n) := by unfold stepN; rw [if_neg (by omega), if_neg (by omega)]
        rw [hs]
        have hd0 : ¬ 0 < s.2.2 := fun h1 => by
          obtain ⟨a, q, e1, e2⟩ := last_done.1 h1
          have := (hlast a q e1).2.2 e2
          omega
        refine ⟨?_, by simp only; omega⟩
        have hpp : p = ⟨3, p.n, []⟩ := by obtain ⟨a, b, c⟩ := p; simp only at e hz; rw [e, hz]
        have e0 : s.2.2 = 0 := by omega
        unfold doneN dropL
        simp only [e0, Int.zero_add, if_pos hn]
        simp only [show ¬ (0 : Int) < 0 by omega, if_false, List.append_nil]
        rw [← hpp]
    rw [List.foldl_cons, fold_normal L (stepN s p) key.2 (fun q hq => ht q (by simp [hq])) (by rw [key.1]; simpa using ho), key.1]
    simp
theorem norm_self {L : List Pt} (h : normal L) : doneN (foldN L) = L := by
  have e : doneN ([], [], 0) = [] := by simp [doneN, putL, dropL]
  have := fold_normal L ([], [], 0) (by simp) h.1 (by rw [e]; exact h.2)
  rw [e] at this
  exact this
theorem len_step (s : List Pt × List Int × Int) (p : Pt) (h0 : 0 ≤ s.2.2) : (doneN (stepN s p)).length ≤ (doneN s).length + 1 := by
  unfold stepN
  split
  · split
    · omega
    · have e : doneN (keepTo (s.1 ++ putL s.2.1 ++ dropL s.2.2) p.n, [], 0) = keepTo (doneN s) p.n := by simp [doneN, putL, dropL]
      rw [e]
      rcases (doneN s).eq_nil_or_concat with e0 | ⟨a, q, e0⟩
      · rw [e0, keepTo_nil]; simp
      · rw [List.concat_eq_append] at e0
        rw [e0]
        by_cases hk : q.kind = 1
        · rw [keepTo_t _ hk]; simp
        · rw [keepTo_f _ hk]; simp
  · split
    · unfold doneN
      have a1 : (putL (s.2.1 ++ p.signs)).length ≤ (putL s.2.1).length + 1 := by have := (putL_len (s.2.1 ++ p.signs)).1; omega
      simp only [List.length_append]
      omega
    · unfold doneN
      have a1 : (dropL (s.2.2 + p.n)).length ≤ (dropL s.2.2).length + 1 := by have := (dropL_len (s.2.2 + p.n)).1; omega
      simp only [List.length_append]
      omega
theorem len_fold : ∀ (L : List Pt) (s : List Pt × List Int × Int), 0 ≤ s.2.2 → (∀ p ∈ L, szP_ p) → (doneN (L.foldl stepN s)).length ≤ (doneN s).length + L.length
  | [], s, _, _ => by simp
  | p :: L, s, h, hp => by
    have a := len_step s p h
    have b := len_fold L (stepN s p) (sum_step h (hp p (by simp))).1 (fun q hq => hp q (by simp [hq]))
    rw [List.foldl_cons, List.length_cons]
    omega
theorem norm_length {L : List Pt} (h : ∀ p ∈ L, szP_ p) : (doneN (foldN L)).length ≤ L.length := by
  have e : doneN ([], [], 0) = [] := by simp [doneN, putL, dropL]
  have := len_fold L ([], [], 0) (by simp) h
  rw [e, List.length_nil, Nat.zero_add] at this
  exact this
theorem allB_app (a b : List Int) : allB (a ++ b) = (allB a && allB b) := by simp [allB]
def okA (s : List Pt × List Int × Int) : Prop := (∀ p ∈ s.1, allB p.signs = true) ∧ allB s.2.1 = true
theorem okA_done {s : List Pt × List Int × Int} (h : okA s) : ∀ p ∈ doneN s, allB p.signs = true := fun p hp => by
  unfold doneN putL dropL at hp
  rcases List.mem_append.1 hp with hp | hp
  · rcases List.mem_append.1 hp with hp | hp
    · exact h.1 p hp
    · split at hp
      · simp at hp
      · simp at hp; subst hp; exact h.2
  · split at hp
    · simp at hp; subst hp; rfl
    · simp at hp
theorem okA_step {s : List Pt × List Int × Int} {p : Pt} (h : okA s) (hp : allB p.signs = true) : okA (stepN s p) := by
  unfold stepN
  split
  · split
    · exact h
    · have hd := okA_done h
      refine ⟨?_, rfl⟩
      change ∀ q ∈ keepTo (doneN s) p.n, _
      rcases (doneN s).eq_nil_or_concat with e0 | ⟨a, q, e0⟩
      · rw [e0, keepTo_nil]; intro x hx; simp at hx; subst hx; rfl
      · rw [List.concat_eq_append] at e0
        rw [e0] at hd ⊢
        intro x hx
        by_cases hk : q.kind = 1
        · rw [keepTo_t _ hk] at hx
          rcases List.mem_append.1 hx with hx | hx
          · exact hd x (by simp [hx])
          · simp at hx; subst hx; exact hd q (by simp)
        · rw [keepTo_f _ hk] at hx
          rcases List.mem_append.1 hx with hx | hx
          · exact hd x hx
          · simp at hx; subst hx; rfl
  · split
    · exact ⟨h.1, by simp only; rw [allB_app, h.2, hp]; rfl⟩
    · exact h
theorem okA_fold : ∀ (L : List Pt) (s : List Pt × List Int × Int), okA s → (∀ p ∈ L, allB p.signs = true) → okA (L.foldl stepN s)
  | [], s, h, _ => h
  | p :: L, s, h, hp => okA_fold L (stepN s p) (okA_step h (hp p (by simp))) (fun q hq => hp q (by simp [hq]))
theorem norm_allB {L : List Pt} (h : ∀ p ∈ L, allB p.signs = true) : ∀ p ∈ doneN (foldN L), allB p.signs = true := okA_done (okA_fold L ([], [], 0) ⟨fun p hp => by simp at hp, rfl⟩ h)

theorem sumOf_mem {f : Pt → Int} : ∀ {L : List Pt} {p : Pt}, (∀ q ∈ L, 0 ≤ f q) → p ∈ L → f p ≤ sumOf f L
  | [], _, _, h => by simp at h
  | q :: L, p, h0, h => by
    rw [sumOf_cons]
    have hs : 0 ≤ sumOf f L := by
      have hL : ∀ q ∈ L, 0 ≤ f q := fun q hq => h0 q (by simp [hq])
      clear h h0
      induction L with
      | nil => simp [sumOf_nil]
      | cons x L ih => rw [sumOf_cons]; have := hL x (by simp); have := ih (fun q hq => hL q (by simp [hq])); omega
    rcases List.mem_cons.1 h with rfl | h
    · omega
    · have := sumOf_mem (f := f) (fun q hq => h0 q (by simp [hq])) h
      have := h0 q (by simp)
      omega
theorem tidy_nonneg {p : Pt} (h : tidy p) : 0 ≤ keepOf p ∧ 0 ≤ putOf p ∧ 0 ≤ dropOf p := by
  unfold keepOf putOf dropOf
  rcases h with ⟨a, b, c⟩ | ⟨a, b, c⟩ | ⟨a, b, c⟩ <;> simp [a] <;> omega
/-- tidy parts whose sums are bounded are valid -/
theorem tidy_ok {L : List Pt} (ht : ∀ p ∈ L, tidy p) (ha : ∀ p ∈ L, allB p.signs = true) (h1 : sumOf keepOf L ≤ 200) (h2 : sumOf putOf L ≤ 200) (h3 : sumOf dropOf L ≤ 200) : okPs L = true := by
  unfold okPs
  rw [List.all_eq_true]
  intro p hp
  have k1 := sumOf_mem (f := keepOf) (fun q hq => (tidy_nonneg (ht q hq)).1) hp
  have k2 := sumOf_mem (f := putOf) (fun q hq => (tidy_nonneg (ht q hq)).2.1) hp
  have k3 := sumOf_mem (f := dropOf) (fun q hq => (tidy_nonneg (ht q hq)).2.2) hp
  have k1 := Int.le_trans k1 h1
  have k2 := Int.le_trans k2 h2
  have k3 := Int.le_trans k3 h3
  unfold keepOf at k1
  unfold putOf at k2
  unfold dropOf at k3
  apply okPt_t
  rcases ht p hp with ⟨a, b, c⟩ | ⟨a, b, c⟩ | ⟨a, b, c⟩
  · rw [if_pos a] at k1
    exact .inl ⟨.inl a, ⟨by omega, by omega⟩, by rw [c]; rfl⟩
  · rw [if_pos a] at k2
    exact .inr ⟨a, b, ha p hp, by omega⟩
  · rw [if_pos a] at k3
    exact .inl ⟨.inr a, ⟨by omega, by omega⟩, by rw [c]; rfl⟩
/-- a valid operation: its parts and sums -/
theorem okOp_of {ps : List Pt} (h : okOp ps = true) : okPs ps = true ∧ ps.length ≤ 600 ∧ sumOf keepOf ps + sumOf dropOf ps ≤ 200 ∧ sumOf keepOf ps + sumOf putOf ps ≤ 200 ∧ 0 ≤ sumOf keepOf ps ∧ 0 ≤ sumOf putOf ps ∧ 0 ≤ sumOf dropOf ps := by
  unfold okOp at h
  rw [Bool.and_eq_true, Bool.and_eq_true] at h
  obtain ⟨⟨h4, h5⟩, h6⟩ := h
  have h7 := partsB_of h4
  obtain ⟨t1, t2, t3⟩ := sum_t h4
  have h5 := of_decide_eq_true h5
  have h6 := of_decide_eq_true h6
  rw [t1, t3] at h5
  rw [t1, t2] at h6
  have := sums_bd h7.1 h7.2
  exact ⟨h7.1, h7.2, h5, h6, this.1.1, this.2.1.1, this.2.2.1⟩
theorem of_okOp {ps : List Pt} (h1 : okPs ps = true) (h2 : ps.length ≤ 600) (h3 : sumOf keepOf ps + sumOf dropOf ps ≤ 200) (h4 : sumOf keepOf ps + sumOf putOf ps ≤ 200) : okOp ps = true := by
  have hb : partsB ps = true := by unfold partsB; rw [h1, decide_eq_true h2]; rfl
  obtain ⟨t1, t2, t3⟩ := sum_t hb
  unfold okOp
  rw [hb, t1, t2, t3, decide_eq_true h3, decide_eq_true h4]
  rfl
theorem okPs_sz {ps : List Pt} (h : okPs ps = true) : ∀ p ∈ ps, szP_ p := fun p hp => szP_of (by unfold okPs at h; exact List.all_eq_true.1 h p hp)
theorem okPs_allB {ps : List Pt} (h : okPs ps = true) : ∀ p ∈ ps, allB p.signs = true := fun p hp => by
  have := of_okPt (show okPt p = true by unfold okPs at h; exact List.all_eq_true.1 h p hp)
  rcases this with ⟨_, _, hz⟩ | ⟨_, _, ha, _⟩
  · rw [List.eq_nil_of_length_eq_zero hz]; rfl
  · exact ha
/-- the normal form of a valid operation: valid, normal, of the same sums, its own normal form -/
theorem norm_ok {ps : List Pt} (h : okOp ps = true) : okOp (normL ps) = true ∧ normal (normL ps) ∧ sumOf keepOf (normL ps) = sumOf keepOf ps ∧ sumOf putOf (normL ps) = sumOf putOf ps ∧ sumOf dropOf (normL ps) = sumOf dropOf ps := by
  obtain ⟨h1, h2, h3, h4, h5, h6, h7⟩ := okOp_of h
  have e : normL ps = doneN (foldN ps) := by unfold normL; rw [if_pos h]
  obtain ⟨s1, s2, s3⟩ := sum_norm (okPs_sz h1)
  have hn := normal_fold (okPs_sz h1)
  have hl := norm_length (okPs_sz h1)
  have ha := norm_allB (okPs_allB h1)
  rw [e]
  refine ⟨of_okOp (tidy_ok hn.1 ha (by omega) (by omega) (by omega)) (by omega) (by omega) (by omega), hn, s1, s2, s3⟩
theorem norm_norm {ps : List Pt} : normL (normL ps) = normL ps := by
  by_cases h : okOp ps = true
  · obtain ⟨h1, h2, _⟩ := norm_ok h
    have e : ∀ qs, okOp qs = true → normL qs = doneN (foldN qs) := fun qs hq => by unfold normL; rw [if_pos hq]
    rw [e (normL ps) h1, norm_self h2]
  · have e : normL ps = [] := by unfold normL; rw [if_neg h]
    rw [e]
    unfold normL
    split
    · simp [foldN, doneN, putL, dropL]
    · rfl
theorem norm_normal {L : List Pt} (h : normal L) (ho : okOp L = true) : normL L = L := by unfold normL; rw [if_pos ho, norm_self h]
end Go.Proofs.YtbbpapaobehlcaaDoor.low


/-
  An operation as a list of unit actions: retain one character, insert one, delete one. The normal form is a function of that list; what applying, composing and transforming do to it.
-/
namespace Go.Proofs.YtbbpapaobehlcaaDoor.low
open Go.RowKit
set_option linter.unusedVariables false

inductive U where
  | k
  | p (x : Int)
  | d
def unitsP (p : Pt) : List U := if p.kind = 1 then List.replicate p.n.toNat .k else if p.kind = 2 then p.signs.map .p else List.replicate p.n.toNat .d
def units (L : List Pt) : List U := L.flatMap unitsP
theorem units_nil : units [] = [] := rfl
theorem units_cons (p : Pt) (L : List Pt) : units (p :: L) = unitsP p ++ units L := by simp [units]
theorem units_app (a b : List Pt) : units (a ++ b) = units a ++ units b := by simp [units]
def stepU (s : List Pt × List Int × Int) : U → List Pt × List Int × Int
  | .k => (keepTo (doneN s) 1, [], 0)
  | .p x => (s.1, s.2.1 ++ [x], s.2.2)
  | .d => (s.1, s.2.1, s.2.2 + 1)
def foldU (us : List U) : List Pt × List Int × Int := us.foldl stepU ([], [], 0)
theorem done_plain (q : List Pt) : doneN (q, [], 0) = q := by simp [doneN, putL, dropL]
theorem keepTo_keepTo (q : List Pt) (m n : Int) : keepTo (keepTo q m) n = keepTo q (m + n) := by
  rcases q.eq_nil_or_concat with rfl | ⟨r, p, rfl⟩
  · rw [keepTo_nil, keepTo_nil]
    have := keepTo_t (r := []) (p := ⟨1, m, []⟩) n rfl
    simpa using this
  · rw [List.concat_eq_append]
    by_cases hk : p.kind = 1
    · rw [keepTo_t m hk, keepTo_t (m + n) hk, keepTo_t (p := ⟨p.kind, p.n + m, p.signs⟩) n hk]
      simp only [Int.add_assoc]
    · rw [keepTo_f m hk, keepTo_f (m + n) hk]
      have := keepTo_t (r := r ++ [p]) (p := ⟨1, m, []⟩) n rfl
      simpa using this
theorem fold_k : ∀ (m : Nat) (q : List Pt), (List.replicate m U.k).foldl stepU (q, [], 0) = if m = 0 then (q, [], 0) else (keepTo q (m : Int), [], 0)
  | 0, q => by simp
  | m + 1, q => by
    rw [List.replicate_succ, List.foldl_cons]
    show (List.replicate m U.k).foldl stepU (keepTo (doneN (q, [], 0)) 1, [], 0) = _
    rw [done_plain, fold_k m (keepTo q 1)]
    by_cases h : m = 0
    · subst h; simp
    · rw [if_neg h, if_neg (by omega), keepTo_keepTo]
      congr 2
      omega
theorem fold_p : ∀ (zs : List Int) (s : List Pt × List Int × Int), (zs.map U.p).foldl stepU s = (s.1, s.2.1 ++ zs, s.2.2)
  | [], s => by simp
  | z :: zs, s => by
    rw [List.map_cons, List.foldl_cons, fold_p zs]
    simp [stepU]
theorem fold_d : ∀ (m : Nat) (s : List Pt × List Int × Int), (List.replicate m U.d).foldl stepU s = (s.1, s.2.1, s.2.2 + (m : Int))
  | 0, s => by simp
  | m + 1, s => by
    rw [List.replicate_succ, List.foldl_cons, fold_d m]
    simp [stepU]
    omega
/-- a part is built as its units are -/
theorem stepN_units (s : List Pt × List Int × Int) {p : Pt} (hp : szP_ p) : stepN s p = (unitsP p).foldl stepU s := by
  obtain ⟨hk, h0, h1, _⟩ := hp
  obtain ⟨m, hm⟩ := Int.eq_ofNat_of_zero_le h0
  rcases hk with e | e | e
  · unfold stepN unitsP
    rw [if_pos e, if_pos e, hm]
    cases m with
    | zero => simp
    | succ m =>
      rw [if_neg (by omega), show ((m + 1 : Nat) : Int).toNat = m + 1 from rfl, List.replicate_succ, List.foldl_cons]
      show _ = (List.replicate m U.k).foldl stepU (keepTo (doneN s) 1, [], 0)
      rw [fold_k]
      by_cases h : m = 0
      · subst h; simp [doneN]
      · rw [if_neg h, keepTo_keepTo]
        have : (1 : Int) + (m : Int) = ((m + 1 : Nat) : Int) := by omega
        rw [this]
        rfl
  · unfold stepN unitsP
    rw [if_neg (by omega), if_pos e, if_neg (by omega), if_pos e, fold_p]
  · unfold stepN unitsP
    rw [if_neg (by omega), if_neg (by omega), if_neg (by omega), if_neg (by omega), fold_d, hm]
    rfl
theorem foldN_units {L : List Pt} (h : ∀ p ∈ L, szP_ p) : foldN L = foldU (units L) := by
  unfold foldN foldU
  generalize (([], [], 0) : List Pt × List Int × Int) = s
  induction L generalizing s with
  | nil => rfl
  | cons p L ih =>
    rw [List.foldl_cons, units_cons, List.foldl_append, ← stepN_units s (h p (by simp))]
    exact ih (fun q hq => h q (by simp [hq])) _
/-- the normal form is a function of the units -/
theorem norm_of_units {L L' : List Pt} (h : ∀ p ∈ L, szP_ p) (h' : ∀ p ∈ L', szP_ p) (e : units L = units L') : doneN (foldN L) = doneN (foldN L') := by rw [foldN_units h, foldN_units h', e]

/-- the units in the normal form's order: within a run of insertions and deletions the insertions first -/
def nfGo : List U → List Int → Nat → List U
  | [], ps, n => ps.map U.p ++ List.replicate n U.d
  | .k :: us, ps, n => ps.map U.p ++ (List.replicate n U.d ++ U.k :: nfGo us [] 0)
  | .p x :: us, ps, n => nfGo us (ps ++ [x]) n
  | .d :: us, ps, n => nfGo us ps (n + 1)
def nfU (us : List U) : List U := nfGo us [] 0
theorem unitsP_k (n : Nat) : unitsP ⟨1, (n : Int), []⟩ = List.replicate n .k := rfl
theorem units_putL (zs : List Int) : units (putL zs) = zs.map U.p := by
  unfold putL
  split
  · rename_i h
    rw [List.eq_nil_of_length_eq_zero h]
    rfl
  · simp [units, unitsP]
theorem units_dropL (n : Nat) : units (dropL (n : Int)) = List.replicate n U.d := by
  unfold dropL
  split
  · simp [units, unitsP]
  · rename_i h
    have : n = 0 := by omega
    subst this
    rfl
theorem units_keepTo (q : List Pt) (hq : ∀ p ∈ q, 0 ≤ p.n) : units (keepTo q 1) = units q ++ [U.k] := by
  rcases q.eq_nil_or_concat with rfl | ⟨r, p, rfl⟩
  · rw [keepTo_nil]; rfl
  · rw [List.concat_eq_append] at *
    by_cases hk : p.kind = 1
    · rw [keepTo_t 1 hk, units_app, units_app, units_cons, units_cons, units_nil, List.append_nil, List.append_nil, List.append_assoc]
      congr 1
      unfold unitsP
      simp only [hk, if_true]
      have := hq p (by simp)
      rw [show (p.n + 1).toNat = p.n.toNat + 1 by omega, List.replicate_succ']
    · rw [keepTo_f 1 hk, units_app, units_cons, units_nil]
      rfl
theorem units_done (q : List Pt) (ps : List Int) (n : Nat) : units (doneN (q, ps, (n : Int))) = units q ++ (ps.map U.p ++ List.replicate n U.d) := by
  unfold doneN
  rw [units_app, units_app, units_putL, units_dropL, List.append_assoc]
theorem done_nonneg {q : List Pt} (ps : List Int) (n : Nat) (hq : ∀ p ∈ q, 0 ≤ p.n) : ∀ p ∈ doneN (q, ps, (n : Int)), 0 ≤ p.n := fun p hp => by
  unfold doneN putL dropL at hp
  rcases List.mem_append.1 hp with hp | hp
  · rcases List.mem_append.1 hp with hp | hp
    · exact hq p hp
    · split at hp
      · simp at hp
      · simp at hp; subst hp; simp
  · split at hp
    · simp at hp; subst hp; simp
    · simp at hp
theorem keepTo_nonneg {q : List Pt} (hq : ∀ p ∈ q, 0 ≤ p.n) : ∀ p ∈ keepTo q 1, 0 ≤ p.n := fun x hx => by
  rcases q.eq_nil_or_concat with rfl | ⟨r, p, rfl⟩
  · rw [keepTo_nil] at hx; simp at hx; subst hx; simp
  · rw [List.concat_eq_append] at *
    by_cases hk : p.kind = 1
    · rw [keepTo_t 1 hk] at hx
      rcases List.mem_append.1 hx with hx | hx
      · exact hq x (by simp [hx])
      · simp at hx; subst hx; have := hq p (by simp); simp only; omega
    · rw [keepTo_f 1 hk] at hx
      rcases List.mem_append.1 hx with hx | hx
      · exact hq x hx
      · simp at hx; subst hx; simp
theorem units_fold : ∀ (us : List U) (q : List Pt) (ps : List Int) (n : Nat), (∀ p ∈ q, 0 ≤ p.n) → units (doneN (us.foldl stepU (q, ps, (n : Int)))) = units q ++ nfGo us ps n
  | [], q, ps, n, _ => by rw [List.foldl_nil, units_done, nfGo]
  | .k :: us, q, ps, n, hq => by
    have hd := done_nonneg ps n hq
    have := units_fold us (keepTo (doneN (q, ps, (n : Int))) 1) [] 0 (keepTo_nonneg hd)
    rw [List.foldl_cons]
    show units (doneN (us.foldl stepU (keepTo (doneN (q, ps, (n : Int))) 1, [], ((0 : Nat) : Int)))) = _
    rw [this, units_keepTo _ hd, units_done, nfGo]
    simp
  | .p x :: us, q, ps, n, hq => by
    rw [List.foldl_cons, nfGo]
    exact units_fold us q (ps ++ [x]) n hq
  | .d :: us, q, ps, n, hq => by
    rw [List.foldl_cons, nfGo]
    have := units_fold us q ps (n + 1) hq
    rw [← this]
    rfl
/-- the units of the normal form -/
theorem units_norm (us : List U) : units (doneN (foldU us)) = nfU us := by
  have := units_fold us [] [] 0 (fun p hp => by simp at hp)
  simpa [foldU, nfU, units_nil] using this

/-- applying units to a text -/
def applyU : List U → List Int → List Int
  | [], _ => []
  | .k :: us, t => t.take 1 ++ applyU us (t.drop 1)
  | .p x :: us, t => x :: applyU us t
  | .d :: us, t => applyU us (t.drop 1)
theorem applyU_ps : ∀ (ps : List Int) (us : List U) (t : List Int), applyU (ps.map U.p ++ us) t = ps ++ applyU us t
  | [], us, t => rfl
  | x :: ps, us, t => by
    show x :: applyU (ps.map U.p ++ us) t = _
    rw [applyU_ps ps us t]
    rfl
theorem applyU_ds : ∀ (n : Nat) (us : List U) (t : List Int), applyU (List.replicate n U.d ++ us) t = applyU us (t.drop n)
  | 0, us, t => by simp
  | n + 1, us, t => by
    rw [List.replicate_succ]
    show applyU (List.replicate n U.d ++ us) (t.drop 1) = _
    rw [applyU_ds n us, List.drop_drop, Nat.add_comm]
theorem applyU_ks : ∀ (n : Nat) (us : List U) (t : List Int), applyU (List.replicate n U.k ++ us) t = t.take n ++ applyU us (t.drop n)
  | 0, us, t => by simp
  | n + 1, us, t => by
    rw [List.replicate_succ]
    show t.take 1 ++ applyU (List.replicate n U.k ++ us) (t.drop 1) = _
    rw [applyU_ks n us, List.drop_drop, ← List.append_assoc, Nat.add_comm 1 n]
    congr 1
    rw [← List.take_add, Nat.add_comm]
theorem apply_go : ∀ (us : List U) (ps : List Int) (n : Nat) (t : List Int), applyU (nfGo us ps n) t = ps ++ applyU us (t.drop n)
  | [], ps, n, t => by
    rw [nfGo, applyU_ps]
    have := applyU_ds n [] t
    rw [List.append_nil] at this
    rw [this]
  | .k :: us, ps, n, t => by
    rw [nfGo, applyU_ps, applyU_ds]
    show ps ++ ((t.drop n).take 1 ++ applyU (nfGo us [] 0) ((t.drop n).drop 1)) = _
    rw [apply_go us [] 0]
    simp [applyU]
  | .p x :: us, ps, n, t => by
    rw [nfGo, apply_go us]
    simp [applyU]
  | .d :: us, ps, n, t => by
    rw [nfGo, apply_go us]
    simp only [applyU, List.drop_drop]
/-- the normal form has the same effect -/
theorem apply_nf (us : List U) (t : List Int) : applyU (nfU us) t = applyU us t := by
  have := apply_go us [] 0 t
  simpa [nfU] using this
end Go.Proofs.YtbbpapaobehlcaaDoor.low


/-
  Applying operations, as functions on lists: a valid text, whether an operation fits it, the result.
-/
namespace Go.Proofs.YtbbpapaobehlcaaDoor.low
open Go.RowKit
set_option linter.unusedVariables false

/-- a valid text -/
def okText (t : List Int) : Bool := allB t && decide (t.length ≤ 200)
/-- the operation applies to the text -/
def fitsB (ps : List Pt) (t : List Int) : Bool := okOp ps && okText t && decide (sumK ps + sumD ps = (t.length : Int))
def stepA (t : List Int) (s : Nat × List Int) (p : Pt) : Nat × List Int :=
  if p.kind = 1 then (s.1 + p.n.toNat, s.2 ++ (t.drop s.1).take p.n.toNat) else if p.kind = 2 then (s.1, s.2 ++ p.signs) else (s.1 + p.n.toNat, s.2)
def foldA (t : List Int) (ps : List Pt) : Nat × List Int := ps.foldl (stepA t) (0, [])
def applyT (ps : List Pt) (t : List Int) : List Int := if fitsB ps t = true then (foldA t ps).2 else []
theorem foldA_snoc {t : List Int} {ps : List Pt} {k : Nat} {p : Pt} (h : ps[k]? = some p) : foldA t (ps.take (k + 1)) = stepA t (foldA t (ps.take k)) p := by
  unfold foldA
  rw [List.take_add_one, h]
  simp
theorem okPs_mem' {ps : List Pt} (h : okPs ps = true) {p : Pt} (hp : p ∈ ps) : okPt p = true := by unfold okPs at h; exact List.all_eq_true.1 h p hp
/-- where the reading stands, and how much there is -/
theorem foldA_fit {t : List Int} {ps : List Pt} (hok : okPs ps = true) : ∀ k, k ≤ ps.length → ((foldA t (ps.take k)).1 : Int) = sumOf keepOf (ps.take k) + sumOf dropOf (ps.take k) ∧ ((foldA t (ps.take k)).2.length : Int) ≤ sumOf keepOf (ps.take k) + sumOf putOf (ps.take k)
  | 0, _ => by simp [foldA, sumOf]
  | k + 1, hk => by
    obtain ⟨p, hp⟩ := idx_some (l := ps) (i := k) (by omega)
    obtain ⟨i1, i2⟩ := foldA_fit (t := t) hok k (by omega)
    have hp' := of_okPt (okPs_at hp hok)
    rw [foldA_snoc hp, sumOf_snoc hp, sumOf_snoc hp, sumOf_snoc hp]
    generalize foldA t (ps.take k) = s at *
    generalize sumOf keepOf (ps.take k) = q1 at *
    generalize sumOf putOf (ps.take k) = q2 at *
    generalize sumOf dropOf (ps.take k) = q3 at *
    unfold stepA keepOf putOf dropOf
    rcases (show p.kind = 1 ∨ p.kind = 2 ∨ p.kind = 3 by omega) with e | e | e
    · simp only [e, if_true]
      refine ⟨by simp; omega, ?_⟩
      rw [List.length_append, List.length_take, List.length_drop]
      simp
      omega
    · simp only [e]
      simp
      omega
    · simp only [e]
      simp
      omega
theorem sumOf_take {f : Pt → Int} {ps : List Pt} (h : ∀ p ∈ ps, 0 ≤ f p) (k : Nat) : sumOf f (ps.take k) ≤ sumOf f ps := by
  have e : sumOf f ps = sumOf f (ps.take k) + sumOf f (ps.drop k) := by
    unfold sumOf
    rw [← List.sum_append, ← List.map_append, List.take_append_drop]
  have : 0 ≤ sumOf f (ps.drop k) := by
    unfold sumOf
    have hd : ∀ p ∈ ps.drop k, 0 ≤ f p := fun p hp => h p (List.mem_of_mem_drop hp)
    clear e
    generalize ps.drop k = qs at *
    induction qs with
    | nil => simp
    | cons q qs ih =>
      rw [List.map_cons, List.sum_cons]
      have h1 := hd q (by simp)
      have h2 := ih (fun p hp => hd p (by simp [hp]))
      omega
  omega
/-- what a fitting operation is -/
theorem fits_of {ps : List Pt} {t : List Int} (h : fitsB ps t = true) : okPs ps = true ∧ ps.length ≤ 600 ∧ sumOf keepOf ps + sumOf dropOf ps = (t.length : Int) ∧ sumOf keepOf ps + sumOf putOf ps ≤ 200 ∧ okText t = true ∧ t.length ≤ 200 ∧ okOp ps = true := by
  unfold fitsB at h
  rw [Bool.and_eq_true, Bool.and_eq_true] at h
  obtain ⟨⟨h1, h2⟩, h3⟩ := h
  have h1' := h1
  unfold okOp at h1
  rw [Bool.and_eq_true, Bool.and_eq_true] at h1
  obtain ⟨⟨h4, h5⟩, h6⟩ := h1
  have h7 := partsB_of h4
  obtain ⟨t1, t2, t3⟩ := sum_t h4
  have h3 := of_decide_eq_true h3
  have h6 := of_decide_eq_true h6
  rw [t1, t3] at h3
  rw [t1, t2] at h6
  have h2' := h2
  unfold okText at h2'
  rw [Bool.and_eq_true] at h2'
  exact ⟨h7.1, h7.2, h3, h6, h2, of_decide_eq_true h2'.2, h1'⟩
/-- the reading stays in the text -/
theorem foldA_in {t : List Int} {ps : List Pt} {k : Nat} {p : Pt} (h : fitsB ps t = true) (hp : ps[k]? = some p) (hk : p.kind = 1 ∨ p.kind = 3) : ((foldA t (ps.take k)).1 : Int) + p.n ≤ (t.length : Int) := by
  obtain ⟨h1, h2, h3, _⟩ := fits_of h
  have hlt := idx_lt hp
  have f := (foldA_fit (t := t) h1 k (by omega)).1
  have a1 := sumOf_take (f := keepOf) (ps := ps) (fun q hq => (ok_bd (okPs_mem' h1 hq)).1.1) (k + 1)
  have a2 := sumOf_take (f := dropOf) (ps := ps) (fun q hq => (ok_bd (okPs_mem' h1 hq)).2.2.1) (k + 1)
  rw [sumOf_snoc hp] at a1 a2
  have : keepOf p + dropOf p = p.n := by
    unfold keepOf dropOf
    rcases hk with e | e <;> simp [e]
  omega
theorem apply_len (ps : List Pt) (t : List Int) : (applyT ps t).length ≤ 200 := by
  unfold applyT
  split
  · rename_i h
    obtain ⟨h1, h2, h3, h4, _⟩ := fits_of h
    have f := (foldA_fit (t := t) h1 ps.length (Nat.le_refl _)).2
    rw [List.take_length] at f
    omega
  · simp
theorem apply_small {ps : List Pt} {t : List Int} (h0 : SmP ps) (h1 : SmI t) : SmI (applyT ps t) := by
  have := apply_len ps t
  unfold SmI
  omega
end Go.Proofs.YtbbpapaobehlcaaDoor.low


/-
  Composition and transformation of unit actions: what they do to a text, in whichever order.
-/
namespace Go.Proofs.YtbbpapaobehlcaaDoor.low
open Go.RowKit
set_option linter.unusedVariables false

/-- how long the texts are to which it applies, and the results -/
def src : List U → Nat
  | [] => 0
  | .k :: us => src us + 1
  | .p _ :: us => src us
  | .d :: us => src us + 1
def tgt : List U → Nat
  | [] => 0
  | .k :: us => tgt us + 1
  | .p _ :: us => tgt us + 1
  | .d :: us => tgt us
theorem src_app : ∀ a b : List U, src (a ++ b) = src a + src b
  | [], b => by simp [src]
  | .k :: a, b => by simp only [List.cons_append, src, src_app a b]; omega
  | .p _ :: a, b => by simp only [List.cons_append, src, src_app a b]
  | .d :: a, b => by simp only [List.cons_append, src, src_app a b]; omega
theorem tgt_app : ∀ a b : List U, tgt (a ++ b) = tgt a + tgt b
  | [], b => by simp [tgt]
  | .k :: a, b => by simp only [List.cons_append, tgt, tgt_app a b]; omega
  | .p _ :: a, b => by simp only [List.cons_append, tgt, tgt_app a b]; omega
  | .d :: a, b => by simp only [List.cons_append, tgt, tgt_app a b]
theorem apply_len_u : ∀ (us : List U) (t : List Int), src us = t.length → (applyU us t).length = tgt us
  | [], t, _ => rfl
  | .k :: us, [], h => by simp [src] at h
  | .k :: us, x :: t, h => by
    have := apply_len_u us t (by simpa [src] using h)
    simp [applyU, tgt, this]
  | .p x :: us, t, h => by
    have := apply_len_u us t h
    simp [applyU, tgt, this]
  | .d :: us, [], h => by simp [src] at h
  | .d :: us, x :: t, h => by
    have := apply_len_u us t (by simpa [src] using h)
    simp [applyU, tgt, this]

def comp : List U → List U → List U
  | [], [] => []
  | [], .p x :: b => .p x :: comp [] b
  | [], .k :: b => []
  | [], .d :: b => []
  | .d :: a, b => .d :: comp a b
  | .k :: a, [] => []
  | .k :: a, .p x :: b => .p x :: comp (.k :: a) b
  | .k :: a, .k :: b => .k :: comp a b
  | .k :: a, .d :: b => .d :: comp a b
  | .p y :: a, [] => []
  | .p y :: a, .p x :: b => .p x :: comp (.p y :: a) b
  | .p y :: a, .k :: b => .p y :: comp a b
  | .p y :: a, .d :: b => comp a b
termination_by a b => a.length + b.length

/-- a composition has the effect of the one and then the other -/
theorem apply_comp (a b : List U) : ∀ t : List Int, src a = t.length → tgt a = src b → applyU (comp a b) t = applyU b (applyU a t) ∧ src (comp a b) = src a ∧ tgt (comp a b) = tgt b := by
  induction a, b using comp.induct with
  | case1 => intro t h1 h2; simp [comp, applyU, src, tgt]
  | case2 x b ih =>
    intro t h1 h2
    obtain ⟨i1, i2, i3⟩ := ih t h1 (by simpa [tgt, src] using h2)
    simp [comp, applyU, src, tgt] at *
    exact ⟨i1, i2, i3⟩
  | case3 b => intro t h1 h2; simp [tgt, src] at h2
  | case4 b => intro t h1 h2; simp [tgt, src] at h2
  | case5 b a ih =>
    intro t h1 h2
    cases t with
    | nil => simp [src] at h1
    | cons y t =>
      obtain ⟨i1, i2, i3⟩ := ih t (by simpa [src] using h1) (by simpa [tgt] using h2)
      simp [comp, applyU, src, tgt, i1, i2, i3]
  | case6 a => intro t h1 h2; simp [tgt, src] at h2
  | case7 a x b ih =>
    intro t h1 h2
    obtain ⟨i1, i2, i3⟩ := ih t h1 (by simpa [src] using h2)
    rw [comp]
    refine ⟨?_, by simpa [src] using i2, by simp [tgt, i3]⟩
    show x :: applyU (comp (.k :: a) b) t = x :: applyU b (applyU (.k :: a) t)
    rw [i1]
  | case8 a b ih =>
    intro t h1 h2
    cases t with
    | nil => simp [src] at h1
    | cons y t =>
      obtain ⟨i1, i2, i3⟩ := ih t (by simpa [src] using h1) (by simpa [tgt, src] using h2)
      simp [comp, applyU, src, tgt, i1, i2, i3]
  | case9 a b ih =>
    intro t h1 h2
    cases t with
    | nil => simp [src] at h1
    | cons y t =>
      obtain ⟨i1, i2, i3⟩ := ih t (by simpa [src] using h1) (by simpa [tgt, src] using h2)
      simp [comp, applyU, src, tgt, i1, i2, i3]
  | case10 y a => intro t h1 h2; simp [tgt, src] at h2
  | case11 y a x b ih =>
    intro t h1 h2
    obtain ⟨i1, i2, i3⟩ := ih t h1 (by simpa [src] using h2)
    rw [comp]
    refine ⟨?_, by simpa [src] using i2, by simp [tgt, i3]⟩
    show x :: applyU (comp (.p y :: a) b) t = x :: applyU b (applyU (.p y :: a) t)
    rw [i1]
  | case12 y a b ih =>
    intro t h1 h2
    obtain ⟨i1, i2, i3⟩ := ih t (by simpa [src] using h1) (by simpa [tgt, src] using h2)
    simp [comp, applyU, src, tgt, i1, i2, i3]
  | case13 y a b ih =>
    intro t h1 h2
    obtain ⟨i1, i2, i3⟩ := ih t (by simpa [src] using h1) (by simpa [tgt, src] using h2)
    simp [comp, applyU, src, tgt, i1, i2, i3]

/-- two operations on one text, each led past the other: the first's insertions come first -/
def xf : List U → List U → List U × List U
  | [], [] => ([], [])
  | .p x :: a, b => (.p x :: (xf a b).1, .k :: (xf a b).2)
  | [], .p x :: b => (.k :: (xf [] b).1, .p x :: (xf [] b).2)
  | [], .k :: b => ([], [])
  | [], .d :: b => ([], [])
  | .k :: a, [] => ([], [])
  | .k :: a, .p x :: b => (.k :: (xf (.k :: a) b).1, .p x :: (xf (.k :: a) b).2)
  | .k :: a, .k :: b => (.k :: (xf a b).1, .k :: (xf a b).2)
  | .k :: a, .d :: b => ((xf a b).1, .d :: (xf a b).2)
  | .d :: a, [] => ([], [])
  | .d :: a, .p x :: b => (.k :: (xf (.d :: a) b).1, .p x :: (xf (.d :: a) b).2)
  | .d :: a, .k :: b => (.d :: (xf a b).1, (xf a b).2)
  | .d :: a, .d :: b => xf a b
termination_by a b => a.length + b.length

/-- both orders lead to one text -/
theorem xf_meet (a b : List U) : ∀ t : List Int, src a = t.length → src b = t.length →
    applyU (xf a b).2 (applyU a t) = applyU (xf a b).1 (applyU b t) ∧ src (xf a b).1 = tgt b ∧ src (xf a b).2 = tgt a ∧ tgt (xf a b).1 = tgt (xf a b).2 := by
  induction a, b using xf.induct with
  | case1 => intro t h1 h2; simp [xf, applyU, src, tgt]
  | case2 x a b ih =>
    intro t h1 h2
    obtain ⟨i1, i2, i3, i4⟩ := ih t (by simpa [src] using h1) h2
    rw [xf]
    refine ⟨?_, by simpa [src] using i2, by simp [src, tgt, i3], by simp [tgt, i4]⟩
    show applyU (.k :: (xf a b).2) (x :: applyU a t) = x :: applyU (xf a b).1 (applyU b t)
    simp [applyU, i1]
  | case3 x b ih =>
    intro t h1 h2
    obtain ⟨i1, i2, i3, i4⟩ := ih t h1 (by simpa [src] using h2)
    rw [xf]
    refine ⟨?_, by simp [src, tgt, i2], by simpa [src] using i3, by simp [tgt, i4]⟩
    show x :: applyU (xf [] b).2 (applyU [] t) = applyU (.k :: (xf [] b).1) (x :: applyU b t)
    simp [applyU] at i1 ⊢
    exact i1
  | case4 b => intro t h1 h2; simp [src] at h1 h2; omega
  | case5 b => intro t h1 h2; simp [src] at h1 h2; omega
  | case6 a => intro t h1 h2; simp [src] at h1 h2; omega
  | case7 a x b ih =>
    intro t h1 h2
    obtain ⟨i1, i2, i3, i4⟩ := ih t h1 (by simpa [src] using h2)
    rw [xf]
    refine ⟨?_, by simp [src, tgt, i2], by simpa [src] using i3, by simp [tgt, i4]⟩
    show x :: applyU (xf (.k :: a) b).2 (applyU (.k :: a) t) = applyU (.k :: (xf (.k :: a) b).1) (x :: applyU b t)
    rw [i1]
    simp [applyU]
  | case8 a b ih =>
    intro t h1 h2
    cases t with
    | nil => simp [src] at h1
    | cons y t =>
      obtain ⟨i1, i2, i3, i4⟩ := ih t (by simpa [src] using h1) (by simpa [src] using h2)
      simp [xf, applyU, src, tgt, i1, i2, i3, i4]
  | case9 a b ih =>
    intro t h1 h2
    cases t with
    | nil => simp [src] at h1
    | cons y t =>
      obtain ⟨i1, i2, i3, i4⟩ := ih t (by simpa [src] using h1) (by simpa [src] using h2)
      simp [xf, applyU, src, tgt, i1, i2, i3, i4]
  | case10 a => intro t h1 h2; simp [src] at h1 h2; omega
  | case11 a x b ih =>
    intro t h1 h2
    obtain ⟨i1, i2, i3, i4⟩ := ih t h1 (by simpa [src] using h2)
    rw [xf]
    refine ⟨?_, by simp [src, tgt, i2], by simpa [src] using i3, by simp [tgt, i4]⟩
    show x :: applyU (xf (.d :: a) b).2 (applyU (.d :: a) t) = applyU (.k :: (xf (.d :: a) b).1) (x :: applyU b t)
    rw [i1]
    simp [applyU]
  | case12 a b ih =>
    intro t h1 h2
    cases t with
    | nil => simp [src] at h1
    | cons y t =>
      obtain ⟨i1, i2, i3, i4⟩ := ih t (by simpa [src] using h1) (by simpa [src] using h2)
      simp [xf, applyU, src, tgt, i1, i2, i3, i4]
  | case13 a b ih =>
    intro t h1 h2
    cases t with
    | nil => simp [src] at h1
    | cons y t =>
      obtain ⟨i1, i2, i3, i4⟩ := ih t (by simpa [src] using h1) (by simpa [src] using h2)
      simp [xf, applyU, tgt, i1, i2, i3, i4]

theorem src_rk : ∀ n : Nat, src (List.replicate n U.k) = n ∧ tgt (List.replicate n U.k) = n
  | 0 => ⟨rfl, rfl⟩
  | n + 1 => by rw [List.replicate_succ]; simp [src, tgt, src_rk n]
theorem src_rd : ∀ n : Nat, src (List.replicate n U.d) = n ∧ tgt (List.replicate n U.d) = 0
  | 0 => ⟨rfl, rfl⟩
  | n + 1 => by rw [List.replicate_succ]; simp [src, tgt, src_rd n]
theorem src_mp : ∀ zs : List Int, src (zs.map U.p) = 0 ∧ tgt (zs.map U.p) = zs.length
  | [] => ⟨rfl, rfl⟩
  | z :: zs => by rw [List.map_cons]; simp [src, tgt, src_mp zs]
/-- the sums, as lengths of the units -/
theorem src_units {L : List Pt} (h : ∀ p ∈ L, szP_ p) : (src (units L) : Int) = sumOf keepOf L + sumOf dropOf L ∧ (tgt (units L) : Int) = sumOf keepOf L + sumOf putOf L := by
  induction L with
  | nil => simp [units_nil, src, tgt, sumOf_nil]
  | cons p L ih =>
    obtain ⟨i1, i2⟩ := ih (fun q hq => h q (by simp [hq]))
    obtain ⟨hk, h0, _, _⟩ := h p (by simp)
    rw [units_cons, src_app, tgt_app, sumOf_cons, sumOf_cons, sumOf_cons]
    generalize sumOf keepOf L = q1 at *
    generalize sumOf putOf L = q2 at *
    generalize sumOf dropOf L = q3 at *
    unfold unitsP keepOf putOf dropOf
    rcases hk with e | e | e
    · simp [e, src_rk]; omega
    · simp [e, src_mp]; omega
    · simp [e, src_rd]; omega
theorem apply_fold : ∀ (L : List Pt) (t : List Int) (s : Nat × List Int), (∀ p ∈ L, szP_ p) → (L.foldl (stepA t) s).2 = s.2 ++ applyU (units L) (t.drop s.1)
  | [], t, s, _ => by simp [units_nil, applyU]
  | p :: L, t, s, h => by
    obtain ⟨hk, h0, _, _⟩ := h p (by simp)
    rw [List.foldl_cons, apply_fold L t _ (fun q hq => h q (by simp [hq])), units_cons]
    unfold stepA unitsP
    rcases hk with e | e | e
    · simp only [e, if_true]
      rw [applyU_ks, List.append_assoc, List.drop_drop]
    · simp [e, applyU_ps]
    · simp [e, applyU_ds, List.drop_drop]
/-- applying an operation is applying its units -/
theorem applyT_units {ps : List Pt} {t : List Int} (h : fitsB ps t = true) : applyT ps t = applyU (units ps) t := by
  have := apply_fold ps t (0, []) (okPs_sz (fits_of h).1)
  unfold applyT foldA
  rw [if_pos h, this]
  simp
end Go.Proofs.YtbbpapaobehlcaaDoor.low


/-
  The normal form is a function of what the units do to a text of marks; hence composition is associative up to the normal form, and so on.
-/
namespace Go.Proofs.YtbbpapaobehlcaaDoor.low
open Go.RowKit
set_option linter.unusedVariables false

/-- applying units to a text of whatever kind -/
def applyG {α : Type} (f : Int → α) : List U → List α → List α
  | [], _ => []
  | .k :: us, t => t.take 1 ++ applyG f us (t.drop 1)
  | .p x :: us, t => f x :: applyG f us t
  | .d :: us, t => applyG f us (t.drop 1)
theorem applyG_id : ∀ (us : List U) (t : List Int), applyG id us t = applyU us t
  | [], t => rfl
  | .k :: us, t => by simp [applyG, applyU, applyG_id us]
  | .p x :: us, t => by simp [applyG, applyU, applyG_id us]
  | .d :: us, t => by simp [applyG, applyU, applyG_id us]
theorem applyG_len {α : Type} (f : Int → α) : ∀ (us : List U) (t : List α), src us = t.length → (applyG f us t).length = tgt us
  | [], t, _ => rfl
  | .k :: us, [], h => by simp [src] at h
  | .k :: us, x :: t, h => by
    have := applyG_len f us t (by simpa [src] using h)
    simp [applyG, tgt, this]
  | .p x :: us, t, h => by
    have := applyG_len f us t h
    simp [applyG, tgt, this]
  | .d :: us, [], h => by simp [src] at h
  | .d :: us, x :: t, h => by
    have := applyG_len f us t (by simpa [src] using h)
    simp [applyG, tgt, this]
theorem applyG_comp {α : Type} (f : Int → α) (a b : List U) : ∀ t : List α, src a = t.length → tgt a = src b → applyG f (comp a b) t = applyG f b (applyG f a t) := by
  induction a, b using comp.induct with
  | case1 => intro t h1 h2; simp [comp, applyG]
  | case2 x b ih =>
    intro t h1 h2
    have i1 := ih t h1 (by simpa [tgt, src] using h2)
    simp [comp, applyG] at *
    exact i1
  | case3 b => intro t h1 h2; simp [tgt, src] at h2
  | case4 b => intro t h1 h2; simp [tgt, src] at h2
  | case5 b a ih =>
    intro t h1 h2
    cases t with
    | nil => simp [src] at h1
    | cons y t =>
      have i1 := ih t (by simpa [src] using h1) (by simpa [tgt] using h2)
      simp [comp, applyG, i1]
  | case6 a => intro t h1 h2; simp [tgt, src] at h2
  | case7 a x b ih =>
    intro t h1 h2
    have i1 := ih t h1 (by simpa [src] using h2)
    rw [comp]
    show f x :: applyG f (comp (.k :: a) b) t = f x :: applyG f b (applyG f (.k :: a) t)
    rw [i1]
  | case8 a b ih =>
    intro t h1 h2
    cases t with
    | nil => simp [src] at h1
    | cons y t =>
      have i1 := ih t (by simpa [src] using h1) (by simpa [tgt, src] using h2)
      simp [comp, applyG, i1]
  | case9 a b ih =>
    intro t h1 h2
    cases t with
    | nil => simp [src] at h1
    | cons y t =>
      have i1 := ih t (by simpa [src] using h1) (by simpa [tgt, src] using h2)
      simp [comp, applyG, i1]
  | case10 y a => intro t h1 h2; simp [tgt, src] at h2
  | case11 y a x b ih =>
    intro t h1 h2
    have i1 := ih t h1 (by simpa [src] using h2)
    rw [comp]
    show f x :: applyG f (comp (.p y :: a) b) t = f x :: applyG f b (applyG f (.p y :: a) t)
    rw [i1]
  | case12 y a b ih =>
    intro t h1 h2
    have i1 := ih t (by simpa [src] using h1) (by simpa [tgt, src] using h2)
    simp [comp, applyG, i1]
  | case13 y a b ih =>
    intro t h1 h2
    have i1 := ih t (by simpa [src] using h1) (by simpa [tgt, src] using h2)
    simp [comp, applyG, i1]
theorem comp_ends {a b : List U} (h : tgt a = src b) : src (comp a b) = src a ∧ tgt (comp a b) = tgt b := (apply_comp a b (List.replicate (src a) 0) (by simp) h).2

/-- the marks from i to below i + m -/
def marksG (i : Nat) : Nat → List (Nat ⊕ Int)
  | 0 => []
  | m + 1 => .inl i :: marksG (i + 1) m
theorem marksG_len : ∀ (m i : Nat), (marksG i m).length = m
  | 0, _ => rfl
  | m + 1, i => by simp [marksG, marksG_len m]
/-- the normal units, read off what has become of the marks i to below n -/
def dec : List (Nat ⊕ Int) → Nat → Nat → List U
  | [], i, n => List.replicate (n - i) .d
  | .inr x :: l, i, n => .p x :: dec l i n
  | .inl j :: l, i, n => List.replicate (j - i) .d ++ .k :: dec l (j + 1) n
theorem dec_ps : ∀ (ps : List Int) (l : List (Nat ⊕ Int)) (i n : Nat), dec (ps.map .inr ++ l) i n = ps.map U.p ++ dec l i n
  | [], l, i, n => rfl
  | x :: ps, l, i, n => by
    show U.p x :: dec (ps.map .inr ++ l) i n = _
    rw [dec_ps ps]
    rfl
theorem dec_apply : ∀ (us : List U) (ps : List Int) (m i r : Nat), src us = r → dec (ps.map .inr ++ applyG .inr us (marksG (i + m) r)) i (i + m + r) = nfGo us ps m
  | [], ps, m, i, r, h => by
    have : r = 0 := by simpa [src] using h.symm
    subst this
    rw [dec_ps]
    simp [applyG, dec, nfGo]
  | .k :: us, ps, m, i, r, h => by
    cases r with
    | zero => simp [src] at h
    | succ r =>
      have ih := dec_apply us [] 0 (i + m + 1) r (by simpa [src] using h)
      rw [dec_ps]
      simp only [marksG, applyG, List.take_succ_cons, List.take_zero, List.drop_succ_cons, List.drop_zero, List.cons_append, List.nil_append, dec, nfGo]
      simp only [List.map_nil, List.nil_append, Nat.add_zero] at ih
      rw [show i + m + (r + 1) = i + m + 1 + r by omega, ih, show i + m - i = m by omega]
  | .p x :: us, ps, m, i, r, h => by
    have ih := dec_apply us (ps ++ [x]) m i r (by simpa [src] using h)
    rw [nfGo, ← ih]
    simp [applyG]
  | .d :: us, ps, m, i, r, h => by
    cases r with
    | zero => simp [src] at h
    | succ r =>
      have ih := dec_apply us ps (m + 1) i r (by simpa [src] using h)
      rw [nfGo, ← ih]
      simp only [marksG, applyG, List.drop_succ_cons, List.drop_zero]
      rw [show i + (m + 1) = i + m + 1 by omega, show i + m + 1 + r = i + m + (r + 1) by omega]
/-- the normal form is a function of what becomes of the marks -/
theorem nf_dec (us : List U) : nfU us = dec (applyG .inr us (marksG 0 (src us))) 0 (src us) := by
  have := dec_apply us [] 0 0 (src us) rfl
  simp only [List.map_nil, List.nil_append, Nat.add_zero, Nat.zero_add] at this
  exact this.symm
theorem nf_ext {us vs : List U} (h : src us = src vs) (he : applyG .inr us (marksG 0 (src us)) = applyG .inr vs (marksG 0 (src us))) : nfU us = nfU vs := by
  rw [nf_dec us, nf_dec vs, ← h, he]

theorem applyG_ps {α : Type} (f : Int → α) : ∀ (ps : List Int) (us : List U) (t : List α), applyG f (ps.map U.p ++ us) t = ps.map f ++ applyG f us t
  | [], us, t => rfl
  | x :: ps, us, t => by
    show f x :: applyG f (ps.map U.p ++ us) t = _
    rw [applyG_ps f ps us t]
    rfl
theorem applyG_ds {α : Type} (f : Int → α) : ∀ (n : Nat) (us : List U) (t : List α), applyG f (List.replicate n U.d ++ us) t = applyG f us (t.drop n)
  | 0, us, t => by simp
  | n + 1, us, t => by
    rw [List.replicate_succ]
    show applyG f (List.replicate n U.d ++ us) (t.drop 1) = _
    rw [applyG_ds f n us, List.drop_drop, Nat.add_comm]
theorem applyG_go {α : Type} (f : Int → α) : ∀ (us : List U) (ps : List Int) (n : Nat) (t : List α), applyG f (nfGo us ps n) t = ps.map f ++ applyG f us (t.drop n)
  | [], ps, n, t => by
    rw [nfGo, applyG_ps]
    have := applyG_ds f n [] t
    rw [List.append_nil] at this
    rw [this]
  | .k :: us, ps, n, t => by
    rw [nfGo, applyG_ps, applyG_ds]
    show ps.map f ++ ((t.drop n).take 1 ++ applyG f (nfGo us [] 0) ((t.drop n).drop 1)) = _
    rw [applyG_go f us [] 0]
    simp [applyG]
  | .p x :: us, ps, n, t => by
    rw [nfGo, applyG_go f us]
    simp [applyG]
  | .d :: us, ps, n, t => by
    rw [nfGo, applyG_go f us]
    simp only [applyG, List.drop_drop]
theorem applyG_nf {α : Type} (f : Int → α) (us : List U) (t : List α) : applyG f (nfU us) t = applyG f us t := by
  have := applyG_go f us [] 0 t
  simpa [nfU] using this
theorem nfGo_ends : ∀ (us : List U) (ps : List Int) (n : Nat), src (nfGo us ps n) = src us + n ∧ tgt (nfGo us ps n) = tgt us + ps.length
  | [], ps, n => by rw [nfGo, src_app, tgt_app, (src_mp ps).1, (src_mp ps).2, (src_rd n).1, (src_rd n).2]; simp [src, tgt]
  | .k :: us, ps, n => by
    obtain ⟨i1, i2⟩ := nfGo_ends us [] 0
    rw [nfGo, src_app, tgt_app, src_app, tgt_app, (src_mp ps).1, (src_mp ps).2, (src_rd n).1, (src_rd n).2]
    simp [src, tgt, i1, i2]
    omega
  | .p x :: us, ps, n => by
    obtain ⟨i1, i2⟩ := nfGo_ends us (ps ++ [x]) n
    rw [nfGo, i1, i2]
    simp [src, tgt]
    omega
  | .d :: us, ps, n => by
    obtain ⟨i1, i2⟩ := nfGo_ends us ps (n + 1)
    rw [nfGo, i1, i2]
    simp [src, tgt]
    omega
theorem nf_ends (us : List U) : src (nfU us) = src us ∧ tgt (nfU us) = tgt us := by
  have := nfGo_ends us [] 0
  simpa [nfU] using this
theorem nf_idem (us : List U) : nfU (nfU us) = nfU us := nf_ext (nf_ends us).1 (applyG_nf _ us _)

/-- composition of normal forms, and in whichever grouping -/
theorem comp_nf {a b : List U} (h : tgt a = src b) : nfU (comp (nfU a) (nfU b)) = nfU (comp a b) := by
  have h' : tgt (nfU a) = src (nfU b) := by rw [(nf_ends a).2, (nf_ends b).1, h]
  have e : src (comp (nfU a) (nfU b)) = src (comp a b) := by rw [(comp_ends h').1, (comp_ends h).1, (nf_ends a).1]
  refine nf_ext e ?_
  have l : (marksG 0 (src (comp (nfU a) (nfU b)))).length = src a := by rw [marksG_len, e, (comp_ends h).1]
  rw [applyG_comp _ _ _ _ (by rw [l, (nf_ends a).1]) h', applyG_comp _ _ _ _ (by rw [l]) h, applyG_nf, applyG_nf]
theorem comp_assoc {a b c : List U} (h1 : tgt a = src b) (h2 : tgt b = src c) : nfU (comp (comp a b) c) = nfU (comp a (comp b c)) := by
  have k1 : tgt (comp a b) = src c := by rw [(comp_ends h1).2, h2]
  have k2 : tgt a = src (comp b c) := by rw [(comp_ends h2).1, h1]
  have e : src (comp (comp a b) c) = src (comp a (comp b c)) := by rw [(comp_ends k1).1, (comp_ends h1).1, (comp_ends k2).1]
  refine nf_ext e ?_
  have l : (marksG 0 (src (comp (comp a b) c))).length = src a := by rw [marksG_len, (comp_ends k1).1, (comp_ends h1).1]
  generalize marksG 0 (src (comp (comp a b) c)) = t at *
  have la : (applyG (α := Nat ⊕ Int) .inr a t).length = tgt a := applyG_len _ a t (by rw [l])
  rw [applyG_comp _ _ _ _ (by rw [l, (comp_ends h1).1]) k1, applyG_comp _ _ _ _ (by rw [l]) h1, applyG_comp _ _ _ _ (by rw [l]) k2, applyG_comp _ _ _ _ (by rw [la, h1]) h2]
end Go.Proofs.YtbbpapaobehlcaaDoor.low

