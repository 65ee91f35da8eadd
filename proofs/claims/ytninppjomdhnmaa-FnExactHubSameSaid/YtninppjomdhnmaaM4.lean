/-
  Texts that the proofs over this seat rest on, one behind the other (4 of 4).
-/
import Derived.Test.YtninppjomdhnmaaM2
import Derived.Test.YtninppjomdhnmaaM3
import Derived.Maps.RangeWalk
import Derived.Shelf.SlSortCmp.WholeK
import Derived.Shelf.Lay
import Derived.Shelf.LaySoft
import Derived.Test.YtninppjomdhnmaaProg

/-
  A slice cloned, its rows then made the caller's own one by one: the first rows are owned, the cells behind them are known.
-/
namespace Go.Proofs.Ytninppjomdhnmaa.low
open Go.RowKit
set_option linter.unusedVariables false

/-- the cells from k on are those of the list -/
def Raw (W : World) (g k : Nat) (raw : List Value) : Prop := ∃ cur T, W.heap[g]? = some (.cells cur T (0, 0)) ∧ ∀ t u, k ≤ t → raw[t]? = some u → cur[t]? = some u
theorem Raw.cell {W : World} {g k t : Nat} {raw : List Value} {u : Value} (h : Raw W g k raw) (hk : k ≤ t) (hu : raw[t]? = some u) : W.cell? ⟨g, t, none⟩ = some u := by
  obtain ⟨cur, T, hh, hc⟩ := h
  exact bxcell hh (hc t u hk hu)
theorem Raw.free {W : World} {g k t : Nat} {raw : List Value} (h : Raw W g k raw) : W.frozen? ⟨g, t, none⟩ = false := by
  obtain ⟨cur, T, hh, hc⟩ := h
  exact bxfree hh
theorem Raw.keep {W W' : World} {g k : Nat} {raw : List Value} (h : Raw W g k raw) (hk : W'.heap[g]? = W.heap[g]?) : Raw W' g k raw := by
  obtain ⟨cur, T, hh, hc⟩ := h
  exact ⟨cur, T, hk.trans hh, hc⟩
theorem Raw.lt {W : World} {g k : Nat} {raw : List Value} (h : Raw W g k raw) : g < W.heap.size := by
  obtain ⟨cur, T, hh, hc⟩ := h
  exact lt_of_some hh
theorem Raw.past {W W' : World} {g k : Nat} {raw : List Value} (h : Raw W g k raw) (hb : Below W.heap.size W W') : Raw W' g k raw := h.keep (hb.block g h.lt)
theorem Raw.other {W : World} {g k q o : Nat} {raw : List Value} (h : Raw W g k raw) (hne : ¬ g = q) (u : Value) : Raw (W.setCell ⟨q, o, none⟩ u) g k raw := h.keep (Below.heap_setCell _ _ _ _ hne)
theorem Raw.set {W : World} {g k k' : Nat} {raw : List Value} (h : Raw W g k raw) (o : Nat) (u : Value) (h1 : k ≤ k') (h2 : o < k') : Raw (W.setCell ⟨g, o, none⟩ u) g k' raw := by
  obtain ⟨cur, T, hh, hc⟩ := h
  refine ⟨_, T, bxset (j := o) hh u, fun t v ht hv => ?_⟩
  rw [Array.getElem?_setIfInBounds_ne (by omega)]
  exact hc t v (by omega) hv
section
variable {w0 W : World} {L : List It}
/-- the next row is the caller's own: its third cell has been written -/
theorem Ms.fill3 {g n cap : Nat} {e : TypeId} {ds : List (List Dat)} {d : Dat} {v : Value} {b c : List Nat} {x y : Int} {raw : List Value} (h : Ms w0 (.dt (.rows e 3 ds) (.slice (some ⟨g, 0, none⟩) n cap) b :: .dt d v c :: L) W) (hn : n = ds.length) (hcap : n < cap)
    (hr : Raw W g (n * 3) raw) (hx : raw[n * 3]? = some (.int .i64 x)) (hy : raw[n * 3 + 1]? = some (.int .i64 y)) :
    ∃ b', Ms w0 (.dt (.rows e 3 (ds ++ [[.int x, .int y, d]])) (.slice (some ⟨g, 0, none⟩) (n + 1) cap) b' :: L) (W.setCell ⟨g, n * 3 + 2, none⟩ v) := by
  subst hn
  have hd : OwC W d v c := h.at_ (i := 1) rfl
  have hrow : OwR W 3 [[.int x, .int y, d]] [.int .i64 x, .int .i64 y, v] c := OwR.one ⟨_, _, [], c, rfl, rfl, ⟨rfl, rfl⟩, _, _, [], c, rfl, rfl, ⟨rfl, rfl⟩, v, [], c, [], rfl, by simp, hd, rfl, rfl⟩ rfl
  obtain ⟨xs, hown, grow⟩ := Ms.grow (Y := [.dt d v c]) h hrow (h.ndAt (i := 1) (x := .dt d v c) rfl) (fun q hq => by simpa [It.bs] using hq)
  obtain ⟨hxs, hcase⟩ := hown
  rcases hcase with ⟨h0, _⟩ | ⟨g', cap', cur, hv, _, hh, hnc, hcm, hcs, htk⟩
  · cases h0
  injection hv with hv1 _ hv3
  injection hv1 with hv1
  injection hv1 with hv1 _ _
  subst hv1 hv3
  obtain ⟨cur', T', hh', hc'⟩ := hr
  rw [hh] at hh'
  injection hh' with hh'
  injection hh' with e1 e2 _
  subst e1 e2
  have q0 := hc' _ _ (Nat.le_refl _) hx
  have q1 := hc' _ _ (by omega) hy
  have hb := Below.heap_setCell W ⟨g, ds.length * 3 + 2, none⟩ v
  refine grow g (ds.length + 1) cap _ ?_ ⟨rfl, rfl, rfl, by simp [World.setCell], fun k hk hne => Below.heap_setCell _ _ _ _ (fun e => hne (by rw [e]; rfl))⟩ (.inl rfl) (by simp only [World.setCell, Array.size_modify]; exact lt_of_some hh)
  refine ⟨by simp [hxs]; omega, .inr ⟨g, cap, cur.setIfInBounds (ds.length * 3 + 2) v, by simp, Nat.zero_le _, bxset hh v, by simp; omega, hcm, by simpa using hcs, ?_⟩⟩
  have hsz : ds.length * 3 + 3 ≤ cur.toList.length := by
    have e : cur.toList.length = cap * 3 := by rw [Array.length_toList]; exact hcs
    rw [e]
    have : (ds.length + 1) * 3 ≤ cap * 3 := Nat.mul_le_mul_right 3 hcap
    omega
  rw [Array.toList_setIfInBounds, List.length_append, List.length_singleton, Nat.add_mul, Nat.one_mul]
  have l0 : cur.toList[ds.length * 3]? = some (.int .i64 x) := by rw [Array.getElem?_toList]; exact q0
  have l1 : cur.toList[ds.length * 3 + 1]? = some (.int .i64 y) := by rw [Array.getElem?_toList]; exact q1
  apply List.ext_getElem?
  intro t
  rw [List.getElem?_take]
  by_cases ht : t < ds.length * 3
  · rw [if_pos (by omega), List.getElem?_set_ne (by omega), List.getElem?_append_left (by rw [hxs]; exact ht), ← htk, List.getElem?_take, if_pos ht]
  · rw [List.getElem?_append_right (by rw [hxs]; omega), hxs]
    by_cases h3 : t < ds.length * 3 + 3
    · rw [if_pos h3]
      obtain ⟨k, rfl⟩ : ∃ k, t = ds.length * 3 + k := ⟨t - ds.length * 3, by omega⟩
      rw [Nat.add_sub_cancel_left]
      have hk : k = 0 ∨ k = 1 ∨ k = 2 := by omega
      rcases hk with rfl | rfl | rfl
      · rw [List.getElem?_set_ne (by omega), Nat.add_zero, l0]
        rfl
      · rw [List.getElem?_set_ne (by omega), l1]
        rfl
      · rw [List.getElem?_set_self (by omega)]
        rfl
    · rw [if_neg h3, List.getElem?_eq_none (by simp; omega)]
end
/-- the cells of rows, as values -/
theorem RdL.vals {w : World} {B : Nat} {ad : Addr} : ∀ {r : List Dat} {o : Nat}, RdL w B ad o r → ∃ ys : List Value, ys.length = r.length ∧ RdV w B r ys ∧ ∀ j u, ys[j]? = some u → w.cell? (ad.add (o + j)) = some u
  | [], o, _ => ⟨[], rfl, rfl, fun j u h => by simp at h⟩
  | d :: r, o, h => by
    obtain ⟨⟨v, hv, hd⟩, h2⟩ := h
    obtain ⟨ys, h3, h4, h5⟩ := RdL.vals h2
    refine ⟨v :: ys, by simp [h3], ⟨v, ys, rfl, hd, h4⟩, fun j u hu => ?_⟩
    cases j with
    | zero => simp at hu; subst hu; exact hv
    | succ j =>
      have := h5 j u (by simpa using hu)
      rwa [show o + (j + 1) = o + 1 + j by omega]
theorem RdR.vals {w : World} {B sz : Nat} {ad : Addr} : ∀ {rs : List (List Dat)} {o : Nat}, (∀ r ∈ rs, r.length = sz) → RdR w B sz ad o rs → ∃ ys : List Value, ys.length = rs.length * sz ∧ (∀ i r, rs[i]? = some r → ∃ y, RdV w B r y ∧ y.length = sz ∧ ∀ k u, y[k]? = some u → ys[i * sz + k]? = some u) ∧ ∀ j u, ys[j]? = some u → w.cell? (ad.add (o + j)) = some u
  | [], o, _, _ => ⟨[], by simp, fun i r h => by simp at h, fun j u h => by simp at h⟩
  | r :: rs, o, hl, h => by
    obtain ⟨y, y1, y2, y3⟩ := RdL.vals h.1
    obtain ⟨ys, h3, h4, h5⟩ := RdR.vals (rs := rs) (fun q hq => hl q (by simp [hq])) h.2
    have hy : y.length = sz := by rw [y1]; exact hl r (by simp)
    refine ⟨y ++ ys, by rw [List.length_append, hy, h3, List.length_cons, Nat.add_mul]; omega, fun i q hq => ?_, fun j u hu => ?_⟩
    · cases i with
      | zero =>
        simp at hq
        subst hq
        refine ⟨y, y2, hy, fun k u hu => ?_⟩
        rw [Nat.zero_mul, Nat.zero_add, List.getElem?_append_left (idx_lt hu)]
        exact hu
      | succ i =>
        obtain ⟨z, z1, z2, z3⟩ := h4 i q (by simpa using hq)
        refine ⟨z, z1, z2, fun k u hu => ?_⟩
        rw [List.getElem?_append_right (by rw [hy, Nat.add_mul]; omega), hy, show (i + 1) * sz + k - sz = i * sz + k by rw [Nat.add_mul]; omega]
        exact z3 k u hu
    · by_cases hj : j < sz
      · rw [List.getElem?_append_left (by omega)] at hu
        exact y3 j u hu
      · rw [List.getElem?_append_right (by omega), hy] at hu
        have := h5 (j - sz) u hu
        rwa [show o + sz + (j - sz) = o + j by omega] at this
/-- a value without parts fills one cell -/
def Dat.one : Dat → Bool
  | .agg _ => false
  | _ => true
theorem RdC.oneCell {w : World} {B : Nat} {d : Dat} {v : Value} (h : RdC w B d v) (hd : d.one = true) : v.oneCell' = true := by
  cases d with
  | int n => have h : v = .int .i64 n := h; rw [h]; rfl
  | bool b => have h : v = .bool b := h; rw [h]; rfl
  | str s => have h : v = .string s := h; rw [h]; rfl
  | rows e sz ds => obtain ⟨A, c, rfl, _⟩ := h; rfl
  | agg ds => cases hd
theorem RdV.ones {w : World} {B : Nat} : ∀ {r : List Dat} {ys : List Value}, (∀ d ∈ r, d.one = true) → RdV w B r ys → ∀ u ∈ ys, u.oneCell' = true
  | [], ys, _, h, u, hu => by
    have h : ys = [] := h
    subst h
    simp at hu
  | d :: r, ys, hd, h, u, hu => by
    obtain ⟨x, xs, rfl, h1, h2⟩ := h
    rcases List.mem_cons.1 hu with rfl | hu
    · exact h1.oneCell (hd d (by simp))
    · exact RdV.ones (fun q hq => hd q (by simp [hq])) h2 u hu
theorem RdR.ones {w : World} {B sz : Nat} {ad : Addr} : ∀ {rs : List (List Dat)} {o : Nat}, (∀ r ∈ rs, r.length = sz ∧ ∀ d ∈ r, d.one = true) → RdR w B sz ad o rs → ∃ ys : List Value, ys.length = rs.length * sz ∧ (∀ i r, rs[i]? = some r → ∃ y, RdV w B r y ∧ y.length = sz ∧ ∀ k u, y[k]? = some u → ys[i * sz + k]? = some u) ∧ (∀ u ∈ ys, u.oneCell' = true) ∧ ∀ j u, ys[j]? = some u → w.cell? (ad.add (o + j)) = some u
  | [], o, _, _ => ⟨[], by simp, fun i r h => by simp at h, by simp, fun j u h => by simp at h⟩
  | r :: rs, o, hl, h => by
    obtain ⟨y, y1, y2, y3⟩ := RdL.vals h.1
    obtain ⟨ys, h3, h4, h5, h6⟩ := RdR.ones (rs := rs) (fun q hq => hl q (by simp [hq])) h.2
    have hy : y.length = sz := by rw [y1]; exact (hl r (by simp)).1
    refine ⟨y ++ ys, by rw [List.length_append, hy, h3, List.length_cons, Nat.add_mul]; omega, fun i q hq => ?_, fun u hu => ?_, fun j u hu => ?_⟩
    · cases i with
      | zero =>
        simp at hq
        subst hq
        refine ⟨y, y2, hy, fun k u hu => ?_⟩
        rw [Nat.zero_mul, Nat.zero_add, List.getElem?_append_left (idx_lt hu)]
        exact hu
      | succ i =>
        obtain ⟨z, z1, z2, z3⟩ := h4 i q (by simpa using hq)
        refine ⟨z, z1, z2, fun k u hu => ?_⟩
        rw [List.getElem?_append_right (by rw [hy, Nat.add_mul]; omega), hy, show (i + 1) * sz + k - sz = i * sz + k by rw [Nat.add_mul]; omega]
        exact z3 k u hu
    · rcases List.mem_append.1 hu with hu | hu
      · exact RdV.ones (hl r (by simp)).2 y2 u hu
      · exact h5 u hu
    · by_cases hj : j < sz
      · rw [List.getElem?_append_left (by omega)] at hu
        exact y3 j u hu
      · rw [List.getElem?_append_right (by omega), hy] at hu
        have := h6 (j - sz) u hu
        rwa [show o + sz + (j - sz) = o + j by omega] at this
/-- the cells of rows as a list of values, each row read -/
def Cells (w : World) (rs : List (List Dat)) (ys : List Value) : Prop := ∀ i r, rs[i]? = some r → ∃ y, RdV w w.heap.size r y ∧ y.length = 3 ∧ ∀ k u, y[k]? = some u → ys[i * 3 + k]? = some u
section
variable {w0 W : World} {L : List It}
/-- to a slice without elements all of another's cells are added, whatever they lead to -/
theorem wpList_raw {ops : Array Oper} {rest : List Oper} {o : Oper} {a : Act} {Q : Exit → Act → World → Prop} (hgd : o.guard = none) (s x : Operand) (t : TypeId)
    (ho : o.op = .call { callee := .builtin .append, args := #[s, x], argTypes := #[t, t] }) {e : TypeId} {z : Value} {bytes : Nat} (he : Elt t e z 3 bytes) {rs : List (List Dat)} {g0 c1 : Nat} {b : List Nat}
    (h : Ms w0 (.dt (.rows e 3 []) (.slice (some ⟨g0, 0, none⟩) 0 c1) b :: L) W) (hs : a.eval s = .slice (some ⟨g0, 0, none⟩) 0 c1) (A : Option Addr) (m c0 : Nat) (hx : a.eval x = .slice A m c0) (hrd : RdC w0 w0.heap.size (.rows e 3 rs) (.slice A m c0)) (hone : ∀ r ∈ rs, r.length = 3 ∧ ∀ d ∈ r, d.one = true) (hlen : rs.length ≤ 2000000)
    (K : ∀ g cap W' b' ys, m ≤ cap → Ms w0 (.dt (.rows e 3 []) (.slice (some ⟨g, 0, none⟩) 0 cap) b' :: L) W' → Raw W' g 0 ys → Cells w0 rs ys → wpList Try.prog ops Q rest (a.put o.dst (.slice (some ⟨g, 0, none⟩) m cap)) W') : wpList Try.prog ops Q (o :: rest) a W := by
  obtain ⟨i, ht, hi, hz, hsize, hby, hzs, hsz, hbm⟩ := he
  obtain ⟨A', c', hv, hc, hrd⟩ := hrd
  injection hv with e1 e2 e3
  subst e1 e2 e3
  by_cases h0 : 0 < rs.length
  · obtain ⟨ad, rfl, hbk, hsp, hrr⟩ := hrd h0
    obtain ⟨ys, k1, k2, k3, k4⟩ := RdR.ones hone hrr
    obtain ⟨xs, hown, grow⟩ := Ms.grow (Y := []) (rs := []) (news := []) (c := []) h ⟨rfl, rfl⟩ (by simp) (by simp)
    have hx0 : xs = [] := List.eq_nil_of_length_eq_zero (by rw [hown.1]; simp)
    subst hx0
    refine wpList_append_lies _ hgd s x t ho 0 e i z 3 bytes ht hi hz hsize hby hzs hsz _ 0 [] hs hown ad rs.length c0 ys hx k1 (fun j u hu => by have := k4 j u hu; rw [Nat.zero_add] at this; exact (h.bl.cell (p := ad.add j) (by rw [block_of_add]; exact hbk)).trans this) k3 h0 (by unfold maxLen; omega) ?_ (Nat.zero_le _) _ rfl ?_
    · exact bytes_fit (by omega) hbm
    · intro g cap W' hown' hg hat hlt
      rw [Nat.zero_add, List.nil_append] at hown'
      rcases hown'.2 with ⟨e0, _⟩ | ⟨g', cap', cur, e0, q1, q2, q3, q4, q5, q6⟩
      · cases e0
      injection e0 with e1 _ e3
      injection e1 with e1
      injection e1 with e1
      subst e1 e3
      obtain ⟨b', hm⟩ := grow g 0 cap W' ⟨by simp, .inr ⟨g, cap, cur, rfl, Nat.zero_le _, q2, Nat.zero_le _, q4, q5, by simp⟩⟩ hg hat hlt
      have hraw : Raw W' g 0 ys := by
        refine ⟨cur, e, q2, fun t u _ hu => ?_⟩
        rw [← q6, List.getElem?_take] at hu
        split at hu
        · rwa [Array.getElem?_toList] at hu
        · cases hu
      rw [Nat.zero_add]
      exact K g cap W' b' ys q3 (by simpa using hm) hraw k2
  · obtain rfl : rs = [] := List.eq_nil_of_length_eq_zero (by omega)
    obtain ⟨xs, cs, hown, _⟩ : OwC W (.rows e 3 []) (.slice (some ⟨g0, 0, none⟩) 0 c1) b := h.at_ (i := 0) rfl
    refine wpList_append_zero hgd s x t ho 0 e i 3 ht hi _ 0 xs hs hown A c0 hx ?_
    rcases hown.2 with ⟨e0, _⟩ | ⟨g', cap', cur, e0, q1, q2, q3⟩
    · cases e0
    injection e0 with e1 _ e3
    injection e1 with e1
    injection e1 with e1
    subst e1 e3
    exact K g0 c1 W b [] (Nat.zero_le _) h ⟨cur, e, q2, fun t u _ hu => by simp at hu⟩ (fun i r hr => by simp at hr)
end
/-- a slice whose cells are those of the rows, in a block of its own; nil if the rows came as nil -/
def RawPost (e : TypeId) (rs : List (List Dat)) (w : World) (E : Ending) (w' : World) : Prop := (rs = [] ∧ E = .returned (.slice none 0 0) ∧ w = w') ∨
  ∃ g cap ys, E = .returned (.slice (some ⟨g, 0, none⟩) rs.length cap) ∧ rs.length ≤ cap ∧ Own w.heap.size w'.heap.size w' (.rows e 3 []) (.slice (some ⟨g, 0, none⟩) 0 cap) ∧ Raw w' g 0 ys ∧ Cells w rs ys ∧ Below w.heap.size w w'
end Go.Proofs.Ytninppjomdhnmaa.low


/-
  Contracts of impl.entriesOk and of two lists of entries compared. Cut out of what mkimp8b.py and mkimp8e.py write.
-/
namespace Go.Proofs.Ytninppjomdhnmaa.low
open Go.RowKit
set_option linter.unusedVariables false

theorem entriesB_len : ∀ {l m : List En}, ¬ l.length = m.length → entriesB l m = false
  | [], [], h => absurd rfl h
  | [], _ :: _, _ => rfl
  | _ :: _, [], _ => rfl
  | a :: l, b :: m, h => by
    rw [entriesB, entriesB_len (l := l) (m := m) (by simpa using h), Bool.and_false]
set_option maxRecDepth 100000 in
set_option maxHeartbeats 3200000 in
theorem equalEn_d (v v' : Value) (l m : List En) (w : World) (h : RdC w w.heap.size (encEns l) v) (h' : RdC w w.heap.size (encEns m) v') (hs : SmEns l) (hs' : SmEns m) : Calls Try.prog 43 #[v, v', .func (.func 44) #[] #[]] w (Tells (entriesB l m) w) := by
  obtain ⟨A, c, rfl⟩ := sliceEns h
  obtain ⟨A', c', rfl⟩ := sliceEns h'
  have hl := hs.len
  have hl2 := hs'.len
  have HR := Lib.hid h
  have HR' := Lib.hid h'
  clear h h'
  by_cases hlen : l.length = m.length
  · have HM := Lib.hid (Ms.start w)
    have gl : (((l.length : Int)) != (m.length : Int)) = false := by simp [hlen]
    have HL := Lib.hid hlen
    clear hlen
    go_enter Try.func43, Try.ntmps43
    go_wp2
    go_loopw [17] (fun i wr => ∃ j : Nat, j ≤ l.length ∧ i = .int .i64 (j : Int) ∧ entriesB l m = entriesB (l.drop j) (m.drop j) ∧ Ms w [] wr) (fun i _ => l.length - (intOf i).toNat)
    case atStart => exact ⟨0, Nat.zero_le _, rfl, by simp, HM.out⟩
    case round =>
      obtain ⟨j, hj, rfl, hi, hm⟩ := hrel
      clear HM
      have HM := Lib.hid hm
      have HI := Lib.hid hi
      clear hm hi
      by_cases hlt : j < l.length
      · have hlt2 : j < m.length := by have := HL.out; omega
        obtain ⟨b, off, e, A5, c5, rfl, hbb, hp, y0, y1, y2, q2⟩ := atEns HR.out hlt
        obtain ⟨b', off', u, A6, c6, rfl, hbb', hp', z0, z1, z2, q3⟩ := atEns HR'.out hlt2
        have x0 := (HM.out.bl.cell (p := ⟨b, off + j * 3, none⟩) hbb).trans y0
        have t0 := (HM.out.bl.cell (p := ⟨b', off' + j * 3, none⟩) hbb').trans z0
        have x1 := (HM.out.bl.cell (p := ⟨b, off + j * 3 + 1, none⟩) hbb).trans y1
        have t1 := (HM.out.bl.cell (p := ⟨b', off' + j * 3 + 1, none⟩) hbb').trans z1
        have x2 := (HM.out.bl.cell (p := ⟨b, off + j * 3 + 2, none⟩) hbb).trans y2
        have t2 := (HM.out.bl.cell (p := ⟨b', off' + j * 3 + 2, none⟩) hbb').trans z2
        have hbw : b < wr.heap.size := Nat.lt_of_lt_of_le hbb HM.out.size
        have hbw' : b' < wr.heap.size := Nat.lt_of_lt_of_le hbb' HM.out.size
        have u0 : (wr.alloc (.cells #[.int .i64 e.client, .int .i64 e.seq, .slice A5 e.o.length c5] 89)).cell? ⟨b', off' + j * 3, none⟩ = some (.int .i64 u.client) := ((alloc_below wr _).cell (p := ⟨b', off' + j * 3, none⟩) hbw').trans t0
        have u1 : (wr.alloc (.cells #[.int .i64 e.client, .int .i64 e.seq, .slice A5 e.o.length c5] 89)).cell? ⟨b', off' + j * 3 + 1, none⟩ = some (.int .i64 u.seq) := ((alloc_below wr _).cell (p := ⟨b', off' + j * 3 + 1, none⟩) hbw').trans t1
        have u2 : (wr.alloc (.cells #[.int .i64 e.client, .int .i64 e.seq, .slice A5 e.o.length c5] 89)).cell? ⟨b', off' + j * 3 + 2, none⟩ = some (.slice A6 u.o.length c6) := ((alloc_below wr _).cell (p := ⟨b', off' + j * 3 + 2, none⟩) hbw').trans t2
        clear y0 y1 y2 z0 z1 z2 t0 t1 t2
        have hse := hs.at_ (List.mem_of_getElem? hp)
        have hsu := hs'.at_ (List.mem_of_getElem? hp')
        have HS := Lib.hid (entriesB_step hp hp')
        have Q2 := Lib.hid q2
        have Q3 := Lib.hid q3
        clear hp hp' q2 q3
        replace HM := Lib.hid (HM.out.new #[.int .i64 e.client, .int .i64 e.seq, .slice A5 e.o.length c5] 89)
        have hm := HM.out.new #[.int .i64 u.client, .int .i64 u.seq, .slice A6 u.o.length c6] 89
        simp only [World.size_alloc] at hm
        replace HM := Lib.hid hm
        clear hm
        go_wp2_with fail
        obtain ⟨W1, hW, hm⟩ := HM.out.name
        rw [← hW]
        replace HM := Lib.hid hm
        clear hm hW
        refine (implEntrySame_d _ _ e u _ (rdEn e (HM.out.arg Q2.out)) (rdEn u (HM.out.arg Q3.out)) hse hsu).mono ?_
        rintro e' W2 ⟨rfl, b'⟩
        replace HM := Lib.hid (HM.out.past b')
        clear b'
        clear x0 x1 x2 u0 u1 u2 hbw hbw'
        cases h1 : entrySameB e u
        · have HE := Lib.hid (show entriesB l m = false by rw [HI.out, HS.out, h1, Bool.false_and])
          go_wp2
          go_ret
          exact ⟨ret_b HE.out.symm, HM.out.bl⟩
        have HE := Lib.hid (show entriesB l m = entriesB (l.drop (j + 1)) (m.drop (j + 1)) by rw [HI.out, HS.out, h1, Bool.true_and])
        go_wp2
        go_roundw
        case rel => exact ⟨j + 1, by omega, by go_num, HE.out, HM.out.pick (ks := []) (by decide) rfl⟩
        case measure => simp [intOf]; omega
      · have h9 : l.drop j = [] := List.drop_eq_nil_of_le (by omega)
        have h8 : m.drop j = [] := List.drop_eq_nil_of_le (by have := HL.out; omega)
        have HE := Lib.hid (show entriesB l m = true by rw [HI.out, h9, h8]; rfl)
        clear h9 h8
        go_wp2
        go_ret
        exact ⟨ret_b HE.out.symm, HM.out.bl⟩
  · have gl : (((l.length : Int)) != (m.length : Int)) = true := by simp; omega
    have HS2 := Lib.hid (entriesB_len hlen)
    clear hlen
    go_enter Try.func43, Try.ntmps43
    go_wp2
    go_ret
    exact ⟨ret_b HS2.out.symm, Below.refl _ _⟩
end Go.Proofs.Ytninppjomdhnmaa.low


/-
  Contract of impl.RingSame. Written by mkring3.py.
-/
namespace Go.Proofs.Ytninppjomdhnmaa.low
open Go.RowKit
set_option linter.unusedVariables false

set_option maxRecDepth 100000 in
set_option maxHeartbeats 3200000 in
theorem implRingSame_d (v v' : Value) (x y : Ri) (w : World) (h : RdC w w.heap.size (datRi x) v) (h' : RdC w w.heap.size (datRi y) v') (hs : SmRi x) (hs' : SmRi y) : Calls Try.prog 46 #[v, v'] w (Tells (ringSameB x y) w) := by
  have HR := Lib.hid h
  have HS := Lib.hid h'
  obtain ⟨A3, c3, rfl, r3⟩ := aggRi h
  obtain ⟨B3, d3, rfl, s3⟩ := aggRi h'
  have R3 := Lib.hid r3
  have S3 := Lib.hid s3
  have hl := hs.list.len
  have hl' := hs'.list.len
  clear h h' r3 s3
  generalize hY : y.out = oy
  have HY := Lib.hid hY
  clear hY
  have HB := Lib.hid (show ringSameB x y = (decide (x.cap = y.cap) && (decide (x.next = y.next) && (x.out == y.out && entriesB x.list y.list))) from rfl)
  by_cases h0 : x.cap = y.cap
  rotate_left
  · have g0 : (x.cap == y.cap) = false := by simp [h0]
    have H9 := Lib.hid (show decide (x.cap = y.cap) = false from decide_eq_false h0)
    clear h0
    have HM := Lib.hid (Ms.start w)
    replace HM := Lib.hid (HM.out.new #[.int .i64 x.cap, .int .i64 x.next, .bool x.out, .slice A3 x.list.length c3] 59)
    have hm := HM.out.new #[.int .i64 y.cap, .int .i64 y.next, .bool oy, .slice B3 y.list.length d3] 59
    simp only [World.size_alloc] at hm
    replace HM := Lib.hid hm
    clear hm
    go_enter Try.func46, Try.ntmps46
    go_wp2
    go_ret
    exact ⟨ret_b (show false = ringSameB x y by rw [HB.out, H9.out]; simp), HM.out.bl⟩
  have g0 : (x.cap == y.cap) = true := by simp [h0]
  have H0 := Lib.hid h0
  clear h0
  by_cases h1 : x.next = y.next
  rotate_left
  · have g1 : (x.next == y.next) = false := by simp [h1]
    have H9 := Lib.hid (show decide (x.next = y.next) = false from decide_eq_false h1)
    clear h1
    have HM := Lib.hid (Ms.start w)
    replace HM := Lib.hid (HM.out.new #[.int .i64 x.cap, .int .i64 x.next, .bool x.out, .slice A3 x.list.length c3] 59)
    have hm := HM.out.new #[.int .i64 y.cap, .int .i64 y.next, .bool oy, .slice B3 y.list.length d3] 59
    simp only [World.size_alloc] at hm
    replace HM := Lib.hid hm
    clear hm
    go_enter Try.func46, Try.ntmps46
    go_wp2
    go_ret
    exact ⟨ret_b (show false = ringSameB x y by rw [HB.out, H9.out]; simp), HM.out.bl⟩
  have g1 : (x.next == y.next) = true := by simp [h1]
  have H1 := Lib.hid h1
  clear h1
  by_cases h2 : x.out = oy
  rotate_left
  · obtain rfl : oy = !x.out := by revert h2; cases x.out <;> cases oy <;> simp
    have H9 := Lib.hid (show (x.out == y.out) = false by rw [HY.out]; cases x.out <;> rfl)
    clear h2
    have HM := Lib.hid (Ms.start w)
    replace HM := Lib.hid (HM.out.new #[.int .i64 x.cap, .int .i64 x.next, .bool x.out, .slice A3 x.list.length c3] 59)
    have hm := HM.out.new #[.int .i64 y.cap, .int .i64 y.next, .bool (!x.out), .slice B3 y.list.length d3] 59
    simp only [World.size_alloc] at hm
    replace HM := Lib.hid hm
    clear hm
    go_enter Try.func46, Try.ntmps46
    go_wp2
    go_ret
    exact ⟨ret_b (show false = ringSameB x y by rw [HB.out, H9.out]; simp), HM.out.bl⟩
  subst h2
  have H2 := Lib.hid (show (x.out == y.out) = true by rw [HY.out]; simp)
  have HM := Lib.hid (Ms.start w)
  replace HM := Lib.hid (HM.out.new #[.int .i64 x.cap, .int .i64 x.next, .bool x.out, .slice A3 x.list.length c3] 59)
  have hm := HM.out.new #[.int .i64 y.cap, .int .i64 y.next, .bool x.out, .slice B3 y.list.length d3] 59
  simp only [World.size_alloc] at hm
  replace HM := Lib.hid hm
  clear hm
  have HQ := Lib.hid (show ringSameB x y = entriesB x.list y.list by rw [HB.out, decide_eq_true H0.out, decide_eq_true H1.out, H2.out]; rfl)
  go_enter Try.func46, Try.ntmps46
  go_wp2_with fail
  obtain ⟨W1, hW, hm⟩ := HM.out.name
  rw [← hW]
  replace HM := Lib.hid hm
  clear hm hW
  refine (equalEn_d _ _ x.list y.list _ (HM.out.arg R3.out) (HM.out.arg S3.out) hs.list hs'.list).mono ?_
  rintro e' W2 ⟨rfl, b'⟩
  replace HM := Lib.hid (HM.out.past b')
  clear b'
  go_wp2
  go_ret
  exact ⟨ret_b HQ.out.symm, HM.out.bl⟩
end Go.Proofs.Ytninppjomdhnmaa.low


/-
  Maps from a client to its row: the map's block as a list in the order of its entries, and its operations.
-/
namespace Go.Proofs.Ytninppjomdhnmaa.low
open Go.RowKit
open Go.ChangeMaps (setBlock)
set_option linter.unusedVariables false

def valSe (s : Se) : Value := .agg #[.int .i64 s.client, .int .i64 s.seq, .int .i64 s.rev]
def entSe (s : Se) : Value × Value := (.int .i64 s.client, valSe s)
def decSe : Value × Value → Se
  | (_, .agg ⟨[.int _ a, .int _ b, .int _ c]⟩) => ⟨a, b, c⟩
  | _ => ⟨0, 0, 0⟩
theorem dec_ent (s : Se) : decSe (entSe s) = s := rfl
structure MapO (l : List Se) (es : Array MapEntry) (clock : Nat) : Prop where
  ents : es.toList.map (fun e => (e.key, e.val)) = l.map entSe
  old : ∀ x ∈ es.toList, x.born < clock
  nd : (es.toList.map (·.born)).Nodup
  one : OneSe l
theorem MapO.new : MapO [] #[] 0 := ⟨rfl, by simp, by simp, OneSe.nil⟩
section
variable {P : Program} {T K E : TypeId} {w : World} {b c0 : Nat} {es : Array MapEntry} {l : List Se}
theorem MapO.at_ (h : MapO l es c0) {j : Nat} {e : MapEntry} (he : es.toList[j]? = some e) : ∃ s, l[j]? = some s ∧ e.key = .int .i64 s.client ∧ e.val = valSe s := by
  have h1 := congrArg (fun x => x[j]?) h.ents
  simp only [List.getElem?_map, he, Option.map_some] at h1
  cases hl : l[j]? with
  | none => rw [hl] at h1; cases h1
  | some s =>
    rw [hl] at h1
    simp only [Option.map_some, Option.some.injEq, entSe, Prod.mk.injEq] at h1
    exact ⟨s, rfl, h1.1, h1.2⟩
theorem MapO.find (h : MapO l es c0) (hk : P.underlying K = some (.int .i64)) (k : Int) :
    ((Instr.findKey K (.int .i64 k) es.toList).run P w = .ok none w ∧ seenGo k l = none ∧ ∀ s', s'.client = k → putSe l s' = l ++ [s']) ∨
    ∃ j s, (Instr.findKey K (.int .i64 k) es.toList).run P w = .ok (some (j, valSe s)) w ∧ l[j]? = some s ∧ s.client = k ∧ seenGo k l = some s ∧ ∀ s', s'.client = k → putSe l s' = l.set j s' := by
  have hkeys : ∀ x ∈ es.toList, MapKept.IsKey (.int .i64) x.key := fun x hx => by
    obtain ⟨j, hj⟩ := List.getElem?_of_mem hx
    obtain ⟨s, _, e, _⟩ := h.at_ hj
    rw [e]
    rfl
  rcases MapKept.findNow_spec (d := .int .i64) (k := .int .i64 k) rfl es.toList 0 hkeys with ⟨h1, h2⟩ | ⟨j, e, h1, h2, h3⟩
  · have hn : ∀ s ∈ l, ¬ s.client = k := fun s hs e => by
      obtain ⟨j, hj⟩ := List.getElem?_of_mem hs
      have h4 := congrArg (fun x => x[j]?) h.ents
      simp only [List.getElem?_map, hj, Option.map_some] at h4
      cases he : es.toList[j]? with
      | none => rw [he] at h4; cases h4
      | some x =>
        rw [he] at h4
        simp only [Option.map_some, Option.some.injEq, entSe, Prod.mk.injEq] at h4
        exact h2 x (List.mem_of_getElem? he) (by rw [h4.1, e])
    refine .inl ⟨by simp [Instr.findKey, run_underlying hk, h1], seenGo_none.2 hn, fun s' h' => putSe_new (fun t ht e => hn t ht (by rw [e, h']))⟩
  · obtain ⟨s, hs, e1, e2⟩ := h.at_ h2
    have hc : s.client = k := by
      rw [e1] at h3
      injection h3
    obtain ⟨h5, h6⟩ := seenGo_at h.one hs hc
    refine .inr ⟨j, s, ?_, hs, hc, h5, h6⟩
    rw [Nat.zero_add] at h1
    simp [Instr.findKey, run_underlying hk, h1, e2]
theorem run_lookup_se (hT : P.underlying T = some (.map K E)) (hk : P.underlying K = some (.int .i64)) (hz : ∀ w, (zeroValue E).run P w = .ok (valSe ⟨0, 0, 0⟩) w) (hb : w.heap[b]? = some (.map es c0)) (h : MapO l es c0) (k : Int) :
    (Instr.lookup T (.map (some b)) (.int .i64 k) true).run P w = .ok (.tuple #[valSe ((seenGo k l).getD ⟨0, 0, 0⟩), .bool (seenGo k l).isSome]) w := by
  have hck := MapKept.run_checkKey (w := w) hk (k := .int .i64 k) rfl es.isEmpty 9999
  rcases h.find (w := w) hk k with ⟨h1, h2, _⟩ | ⟨j, s, h1, _, _, h2, _⟩
  · simp [Instr.lookup, run_underlying hT, MapKept.run_getObj_map hb, hck, h1, h2, hz, Result.andThen]
  · simp [Instr.lookup, run_underlying hT, MapKept.run_getObj_map hb, hck, h1, h2, Result.andThen]
theorem map_modify (f : MapEntry → MapEntry) {j : Nat} {e' : Value × Value} (hf : ∀ e : MapEntry, ((f e).key, (f e).val) = e') (l : List MapEntry) : (l.modify j f).map (fun e => (e.key, e.val)) = (l.map (fun e => (e.key, e.val))).set j e' := by
  induction l generalizing j with
  | nil => simp
  | cons a l ih =>
    cases j with
    | zero => simp [hf]
    | succ j => simp [ih]
theorem born_modify (f : MapEntry → MapEntry) {j : Nat} (hf : ∀ e : MapEntry, (f e).born = e.born) (l : List MapEntry) : (l.modify j f).map (·.born) = l.map (·.born) := by
  induction l generalizing j with
  | nil => simp
  | cons a l ih =>
    cases j with
    | zero => simp [hf]
    | succ j => simp [ih]
theorem run_update_se (hT : P.underlying T = some (.map K E)) (hk : P.underlying K = some (.int .i64)) (hb : w.heap[b]? = some (.map es c0)) (h : MapO l es c0) (s : Se) :
    ∃ es' c', (Instr.mapUpdate T (.map (some b)) (.int .i64 s.client) (valSe s)).run P w = .ok () (setBlock w b (.map es' c')) ∧ MapO (putSe l s) es' c' := by
  have hck := MapKept.run_checkKey (w := w) hk (k := .int .i64 s.client) rfl false 9999
  rcases h.find (w := w) hk s.client with ⟨h1, h2, h3⟩ | ⟨j, t, h1, h4, h5, h2, h3⟩
  · refine ⟨es.push ⟨.int .i64 s.client, valSe s, c0⟩, c0 + 1, ?_, ?_, ?_, ?_, h.one.put s⟩
    · simp [Instr.mapUpdate, run_underlying hT, MapKept.run_getObj_map hb, hck, h1, MapKept.run_setObj_map _ hb, Result.andThen, setBlock]
    · rw [Array.toList_push, List.map_append, h.ents, h3 s rfl, List.map_append]
      rfl
    · intro x hx
      rw [Array.toList_push] at hx
      rcases List.mem_append.1 hx with hx | hx
      · have := h.old x hx; omega
      · obtain rfl := List.mem_singleton.1 hx
        exact Nat.lt_succ_self _
    · rw [Array.toList_push, List.map_append, List.nodup_append]
      refine ⟨h.nd, by simp, fun a ha b hb e => ?_⟩
      obtain ⟨x, hx, rfl⟩ := List.mem_map.1 ha
      have := h.old x hx
      simp at hb
      omega
  · have hlt : j < es.size := by
      have h6 : j < l.length := (List.getElem?_eq_some_iff.1 h4).1
      have h7 := congrArg List.length h.ents
      simp at h7
      omega
    obtain ⟨u, hu, e1, e2⟩ := h.at_ (j := j) (e := es[j]) (by simp [hlt])
    obtain rfl : t = u := by rw [h4] at hu; injection hu
    have hst : (Instr.keyThatStays (.int .i64 t.client) (.int .i64 s.client)).run P w = .ok (.int .i64 s.client) w := by
      rw [h5]
      simp [Instr.keyThatStays, Instr.sameBits]
    refine ⟨es.modify j (fun e => { e with key := .int .i64 s.client, val := valSe s }), c0, ?_, ?_, ?_, ?_, h.one.put s⟩
    · have e3 : ((es[j]?).map (·.key)).getD (.int .i64 s.client) = .int .i64 t.client := by
        rw [Array.getElem?_eq_getElem hlt]
        exact e1
      simp [Instr.mapUpdate, run_underlying hT, MapKept.run_getObj_map hb, hck, h1, MapKept.run_setObj_map _ hb, Result.andThen, setBlock, e1, hlt, hst]
    · rw [Array.toList_modify, map_modify (e' := entSe s) _ (fun e => rfl), h.ents, h3 s rfl, List.map_set]
    · intro x hx
      have h8 : x.born ∈ (es.modify j (fun e => { e with key := .int .i64 s.client, val := valSe s })).toList.map (·.born) := List.mem_map.2 ⟨x, hx, rfl⟩
      rw [Array.toList_modify, born_modify (fun e => { e with key := .int .i64 s.client, val := valSe s }) (fun e => rfl)] at h8
      obtain ⟨y, hy, e⟩ := List.mem_map.1 h8
      rw [← e]
      exact h.old y hy
    · rw [Array.toList_modify, born_modify (fun e => { e with key := .int .i64 s.client, val := valSe s }) (fun e => rfl)]
      exact h.nd
variable {ops : Array Oper} {rest : List Oper} {o : Oper} {a : Act} {Q : Exit → Act → World → Prop}
theorem wpList_lookup_se (hg : o.guard = none) (m x : Operand) (T : TypeId) (hop : o.op = Op.lookup T m x true) (K E : TypeId) (hT : P.underlying T = some (.map K E)) (hk : P.underlying K = some (.int .i64)) (hz : ∀ w, (zeroValue E).run P w = .ok (valSe ⟨0, 0, 0⟩) w)
    (b : Nat) (hm : a.eval m = .map (some b)) (k : Int) (hx : a.eval x = .int .i64 k) (hb : w.heap[b]? = some (.map es c0)) (h : MapO l es c0)
    (hK : wpList P ops Q rest (a.put o.dst (.tuple #[valSe ((seenGo k l).getD ⟨0, 0, 0⟩), .bool (seenGo k l).isSome])) w) : wpList P ops Q (o :: rest) a w := by
  refine wpList_plain hg fun K' hK' => ?_
  have hrun := run_lookup_se hT hk hz hb h k
  unfold Oper.wp
  simp [execOp, hop, hm, hx, hrun, Result.andThen]
  exact hK' _ _ hK
theorem wpList_update_se (hg : o.guard = none) (m x v : Operand) (T : TypeId) (hop : o.op = Op.mapUpdate T m x v) (K E : TypeId) (hT : P.underlying T = some (.map K E)) (hk : P.underlying K = some (.int .i64))
    (b : Nat) (hm : a.eval m = .map (some b)) (s : Se) (hx : a.eval x = .int .i64 s.client) (hv : a.eval v = .agg #[.int .i64 s.client, .int .i64 s.seq, .int .i64 s.rev]) (hb : w.heap[b]? = some (.map es c0)) (h : MapO l es c0)
    (hK : ∀ es' c', MapO (putSe l s) es' c' → wpList P ops Q rest (a.put o.dst undef) (setBlock w b (.map es' c'))) : wpList P ops Q (o :: rest) a w := by
  refine wpList_plain hg fun K' hK' => ?_
  obtain ⟨es', c', hrun, h'⟩ := run_update_se hT hk hb h s
  unfold valSe at hrun
  unfold Oper.wp
  simp [execOp, hop, hm, hx, hv, hrun, Result.andThen]
  exact hK' _ _ (hK es' c' h')
theorem wpList_lookup_none (hg : o.guard = none) (m x : Operand) (T : TypeId) (hop : o.op = Op.lookup T m x true) (K E : TypeId) (hT : P.underlying T = some (.map K E)) (hk : P.underlying K = some (.int .i64)) (hz : ∀ w, (zeroValue E).run P w = .ok (valSe ⟨0, 0, 0⟩) w)
    (b : Nat) (hm : a.eval m = .map (some b)) (k : Int) (hx : a.eval x = .int .i64 k) (hb : w.heap[b]? = some (.map es c0)) (h : MapO l es c0) (hn : seenGo k l = none)
    (hK : wpList P ops Q rest (a.put o.dst (.tuple #[.agg #[.int .i64 0, .int .i64 0, .int .i64 0], .bool false])) w) : wpList P ops Q (o :: rest) a w :=
  wpList_lookup_se hg m x T hop K E hT hk hz b hm k hx hb h (by rw [hn]; exact hK)
theorem wpList_lookup_hit {s : Se} (hg : o.guard = none) (m x : Operand) (T : TypeId) (hop : o.op = Op.lookup T m x true) (K E : TypeId) (hT : P.underlying T = some (.map K E)) (hk : P.underlying K = some (.int .i64)) (hz : ∀ w, (zeroValue E).run P w = .ok (valSe ⟨0, 0, 0⟩) w)
    (b : Nat) (hm : a.eval m = .map (some b)) (k : Int) (hx : a.eval x = .int .i64 k) (hb : w.heap[b]? = some (.map es c0)) (h : MapO l es c0) (hn : seenGo k l = some s)
    (hK : wpList P ops Q rest (a.put o.dst (.tuple #[.agg #[.int .i64 s.client, .int .i64 s.seq, .int .i64 s.rev], .bool true])) w) : wpList P ops Q (o :: rest) a w :=
  wpList_lookup_se hg m x T hop K E hT hk hz b hm k hx hb h (by rw [hn]; exact hK)
/-- what a range over the map has given so far -/
def Seen_ (es : Array MapEntry) (seen : Array Nat) (c : List Se) : Prop := ∃ ds : List MapEntry, seen.toList = ds.map (·.born) ∧ (∀ e ∈ ds, e ∈ es.toList) ∧ ds.Nodup ∧ ds.map (fun e => (e.key, e.val)) = c.map entSe
theorem Seen_.nil (es : Array MapEntry) : Seen_ es #[] [] := ⟨[], rfl, by simp, by simp, rfl⟩
theorem MapO.mem (h : MapO l es c0) {e : MapEntry} (he : e ∈ es.toList) : ∃ s, s ∈ l ∧ e.key = .int .i64 s.client ∧ e.val = valSe s := by
  obtain ⟨j, hj⟩ := List.getElem?_of_mem he
  obtain ⟨s, h1, h2, h3⟩ := h.at_ hj
  exact ⟨s, List.mem_of_getElem? h1, h2, h3⟩
theorem Seen_.step {seen : Array Nat} {c : List Se} (h : Seen_ es seen c) {e : MapEntry} {s : Se} (he : e ∈ es.toList) (hn : seen.contains e.born = false) (h1 : e.key = .int .i64 s.client) (h2 : e.val = valSe s) : Seen_ es (seen.push e.born) (c ++ [s]) := by
  obtain ⟨ds, d1, d2, d3, d4⟩ := h
  have hn' : e.born ∉ seen.toList := by simpa using hn
  refine ⟨ds ++ [e], by simp [d1], fun x hx => ?_, ?_, by simp [d4, h1, h2, entSe]⟩
  · rcases List.mem_append.1 hx with hx | hx
    · exact d2 x hx
    · obtain rfl := List.mem_singleton.1 hx
      exact he
  · rw [List.nodup_append]
    refine ⟨d3, by simp, fun x hx y hy e1 => ?_⟩
    obtain rfl := List.mem_singleton.1 hy
    subst e1
    exact hn' (by rw [d1]; exact List.mem_map.2 ⟨_, hx, rfl⟩)
theorem born_one : ∀ {l : List MapEntry}, (l.map (·.born)).Nodup → ∀ {x y : MapEntry}, x ∈ l → y ∈ l → x.born = y.born → x = y
  | [], _, x, y, hx, _, _ => by simp at hx
  | a :: l, h, x, y, hx, hy, e => by
    rw [List.map_cons, List.nodup_cons] at h
    rcases List.mem_cons.1 hx with e1 | hx
    · rcases List.mem_cons.1 hy with e2 | hy
      · rw [e1, e2]
      · exact absurd (by rw [← e1, e]; exact List.mem_map.2 ⟨y, hy, rfl⟩) h.1
    · rcases List.mem_cons.1 hy with e2 | hy
      · exact absurd (by rw [← e2, ← e]; exact List.mem_map.2 ⟨x, hx, rfl⟩) h.1
      · exact born_one h.2 hx hy e
theorem Seen_.all {seen : Array Nat} {c : List Se} (h : Seen_ es seen c) (hm : MapO l es c0) (h0 : (leftOf es seen).size = 0) : c.Perm l := by
  obtain ⟨ds, d1, d2, d3, d4⟩ := h
  have hn : es.toList.Nodup := (List.pairwise_map.1 hm.nd).imp (fun h e => h (by rw [e]))
  have hp : ds.Perm es.toList := by
    rw [List.perm_ext_iff_of_nodup d3 hn]
    refine fun e => ⟨d2 e, fun he => ?_⟩
    have h1 := all_seen es seen h0 e he
    have h2 : e.born ∈ seen.toList := by simpa using h1
    rw [d1] at h2
    obtain ⟨d, hd, e1⟩ := List.mem_map.1 h2
    rw [← born_one hm.nd (d2 d hd) he e1]
    exact hd
  have h3 := (hp.map (fun e => (e.key, e.val))).map decSe
  rw [d4, hm.ents, List.map_map, List.map_map] at h3
  have h4 : (decSe ∘ entSe) = id := by funext s; exact dec_ent s
  rwa [h4, List.map_id, List.map_id] at h3
theorem wpList_range_se (hg : o.guard = none) (m : Operand) (T : TypeId) (hop : o.op = Op.range T m) (K E : TypeId) (hT : P.underlying T = some (.map K E)) (b : Nat) (hm : a.eval m = .map (some b)) (hb : w.heap[b]? = some (.map es c0))
    (hK : wpList P ops Q rest (a.put o.dst (.pointer (some ⟨w.heap.size, 0, none⟩))) (w.alloc (.mapIter (some b) c0 #[] c0))) : wpList P ops Q (o :: rest) a w := by
  refine wpList_plain hg fun K' hK' => ?_
  have hrun := run_range_map (P := P) w T K E b es c0 hT hb
  unfold Oper.wp
  simp [execOp, hop, hm, hrun, Result.andThen]
  exact hK' _ _ hK
theorem wpList_next_se (hg : o.guard = none) (it : Operand) (hop : o.op = Op.next it false) (r b : Nat) (seen : Array Nat) (c : List Se) (hit : a.eval it = .pointer (some ⟨r, 0, none⟩)) (hr : w.heap[r]? = some (.mapIter (some b) c0 seen c0)) (hb : w.heap[b]? = some (.map es c0)) (h : MapO l es c0) (hs : Seen_ es seen c)
    (hDone : c.Perm l → wpList P ops Q rest (a.put o.dst (.tuple #[.bool false])) w)
    (hMore : ∀ (s : Se) (seen' : Array Nat) (w1 : World), s ∈ l → Seen_ es seen' (c ++ [s]) → (leftOf es seen').size < (leftOf es seen).size → (w1 = w ∨ w1 = w.drew) →
      (Instr.entry (.pointer (some ⟨r, 0, none⟩))).run P (setBlock w1 r (.mapIter (some b) c0 seen' c0)) = .ok (.tuple #[.int .i64 s.client, .agg #[.int .i64 s.client, .int .i64 s.seq, .int .i64 s.rev]]) (setBlock w1 r (.mapIter (some b) c0 seen' c0)) →
      wpList P ops Q rest (a.put o.dst (.tuple #[.bool true, .int .i64 s.client, .agg #[.int .i64 s.client, .int .i64 s.seq, .int .i64 s.rev]])) (setBlock w1 r (.mapIter (some b) c0 seen' c0))) : wpList P ops Q (o :: rest) a w := by
  refine wpList_plain hg fun K' hK' => ?_
  unfold Oper.wp
  rcases run_next_at (P := P) w o.type r b c0 c0 seen es c0 hr hb h.old (Nat.le_refl _) with ⟨h0, hrun⟩ | ⟨e, he, w1, hw, hrun⟩
  · simp [execOp, hop, hit, hrun, Result.andThen]
    exact hK' _ _ (hDone (hs.all h h0))
  · obtain ⟨h1, h2⟩ := mem_left he
    obtain ⟨s, h3, h4, h5⟩ := h.mem h1
    have hne : ¬ b = r := fun e => by rw [e, hr] at hb; cases hb
    have hr1 : w1.heap[r]? = some (.mapIter (some b) c0 seen c0) := by rcases hw with rfl | rfl <;> exact hr
    have hb1 : w1.heap[b]? = some (.map es c0) := by rcases hw with rfl | rfl <;> exact hb
    have hset := MapKept.heap_set (o' := .mapIter (some b) c0 (seen.push e.born) c0) hr1
    have hen := run_entry_at (P := P) (setBlock w1 r (.mapIter (some b) c0 (seen.push e.born) c0)) r b c0 seen es c0 e hset.1 ((hset.2 b hne).trans hb1) h1 h.nd
    rw [h4, h5] at hrun hen
    unfold valSe at hrun hen
    simp [execOp, hop, hit, hrun, Result.andThen]
    exact hK' _ _ (hMore s _ w1 h3 (hs.step h1 h2 h4 h5) (left_shrinks es seen e he) hw hen)
end
section
variable {w0 W : World} {L : List It}
theorem Ms.obj {g : Nat} {o o' : Obj} (h : Ms w0 (.bx g o :: L) W) : Ms w0 (.bx g o' :: L) (setBlock W g o') := by
  have hg := h.glt (i := 0) rfl
  have hset := MapKept.heap_set (o' := o') (show W.heap[g]? = some o from h.at_ (i := 0) rfl)
  refine h.turn (by simp [setBlock]) (fun q hq hn => hset.2 q (fun e => hn (by simp [It.bs]; exact e))) ⟨h.bl.os, h.bl.tape, h.bl.output, by simp [setBlock]; exact h.bl.size, fun q hq => (hset.2 q (by omega)).trans (h.bl.block q hq)⟩ hset.1 (by simp [It.bs]) (fun q hq => .inl hq)
theorem Ms.newO (h : Ms w0 L W) (o : Obj) : Ms w0 (.bx W.heap.size o :: L) (W.alloc o) :=
  h.cons (alloc_below W _) (heap_alloc_new W _) (by simp [It.bs]) (fun q hq => by simp [It.bs] at hq; omega)
theorem Ms.either (h : Ms w0 L W) {W1 : World} (hw : W1 = W ∨ W1 = W.drew) : Ms w0 L W1 := by
  rcases hw with rfl | rfl
  · exact h
  · exact h.drew
end
end Go.Proofs.Ytninppjomdhnmaa.low


/-
  Rows of clients sorted: the library's words of a sorted row in the words of Ms.
-/
namespace Go.Proofs.Ytninppjomdhnmaa.low
open Go.RowKit Go.Sort
set_option linter.unusedVariables false

instance : Inhabited Se := ⟨⟨0, 0, 0⟩⟩
def encV (s : Se) : List Value := [.int .i64 s.client, .int .i64 s.seq, .int .i64 s.rev]
theorem flatV_get : ∀ (c : List Se) (t : Nat), (c.flatMap encV)[t]? = (c[t / 3]?).bind (fun s => (encV s)[t % 3]?)
  | [], t => by simp
  | s :: c, t => by
    rw [List.flatMap_cons]
    by_cases h : t < 3
    · rw [List.getElem?_append_left (by simp [encV]; omega), Nat.div_eq_of_lt h, Nat.mod_eq_of_lt h]
      rfl
    · rw [List.getElem?_append_right (by simp [encV]; omega), flatV_get c]
      have e1 : (encV s).length = 3 := rfl
      obtain ⟨k, rfl⟩ : ∃ k, t = k + 3 := ⟨t - 3, by omega⟩
      rw [e1, Nat.add_sub_cancel, Nat.add_mod_right, Nat.add_div_right _ (by omega)]
      rfl
theorem flatV_len : ∀ c : List Se, (c.flatMap encV).length = c.length * 3
  | [] => rfl
  | s :: c => by
    rw [List.flatMap_cons, List.length_append, flatV_len c, List.length_cons]
    show 3 + _ = _
    omega
theorem flatK_at {c : List Se} {t : Nat} (h : t < c.length * 3) : (c.flatMap encV)[t]? = some (flatK encV 3 c.toArray)[t]! := by
  rw [get_flatK encV 3 c.toArray t (by simpa using h), flatV_get]
  have h3 : t / 3 < c.length := by omega
  have e : (c.toArray)[t / 3]! = c[t / 3] := by rw [getElem!_pos c.toArray (t / 3) (by simpa using h3)]; simp
  rw [List.getElem?_eq_getElem h3, e]
  show (encV c[t / 3])[t % 3]? = _
  have h4 : t % 3 < (encV c[t / 3]).length := by show t % 3 < 3; omega
  rw [List.getElem?_eq_getElem h4, getElem!_pos (encV c[t / 3]) (t % 3) h4]
theorem owl_se {w : World} {s : Se} {y : List Value} {b : List Nat} (h : OwL w (encSe s) y b) : y = encV s ∧ b = [] := by
  obtain ⟨x1, y1, b1, b1', rfl, rfl, h1, x2, y2, b2, b2', rfl, rfl, h2, x3, y3, b3, b3', rfl, rfl, h3, rfl, rfl⟩ := h
  obtain ⟨rfl, rfl⟩ := h1
  obtain ⟨rfl, rfl⟩ := h2
  obtain ⟨rfl, rfl⟩ := h3
  exact ⟨rfl, rfl⟩
theorem owl_of (w : World) (s : Se) : OwL w (encSe s) (encV s) [] := ⟨_, _, [], [], rfl, rfl, ⟨rfl, rfl⟩, _, _, [], [], rfl, rfl, ⟨rfl, rfl⟩, _, _, [], [], rfl, rfl, ⟨rfl, rfl⟩, rfl, rfl⟩
theorem owr_se {w : World} : ∀ {c : List Se} {xs : List Value} {cs : List Nat}, OwR w 3 (c.map encSe) xs cs → xs = c.flatMap encV ∧ cs = []
  | [], xs, cs, h => h
  | s :: c, xs, cs, h => by
    obtain ⟨y, ys, b, b', rfl, _, rfl, h1, h2⟩ := h
    obtain ⟨rfl, rfl⟩ := owl_se h1
    obtain ⟨rfl, rfl⟩ := owr_se h2
    exact ⟨rfl, rfl⟩
theorem owr_of (w : World) : ∀ c : List Se, OwR w 3 (c.map encSe) (c.flatMap encV) []
  | [] => ⟨rfl, rfl⟩
  | s :: c => ⟨encV s, c.flatMap encV, [], [], rfl, rfl, rfl, owl_of w s, owr_of w c⟩
theorem holds_se {W : World} {c : List Se} {g n cap : Nat} {b : List Nat} (h : OwC W (encSes c) (.slice (some ⟨g, 0, none⟩) n cap) b) : n = c.length ∧ b = [g] ∧ HoldsK encV 3 W g 0 c.toArray := by
  obtain ⟨hn, xs, cs, ho, hr, hb⟩ := OwC.open_ h
  obtain ⟨rfl, rfl⟩ := owr_se hr
  refine ⟨by simpa using hn, hb, fun j hj => ?_⟩
  have hj' : j < c.length * 3 := by simpa using hj
  rw [Nat.zero_add]
  exact ⟨own_cells ho j _ (flatK_at hj'), ho.frozenAt j⟩
section
variable {w0 W : World} {L : List It}
theorem Ms.sorted {c d : List Se} {g n cap : Nat} {b : List Nat} (h : Ms w0 (.dt (encSes c) (.slice (some ⟨g, 0, none⟩) n cap) b :: L) W) (hd : d.length = c.length) (q : Nat) (os : Array Obj) :
    Ms w0 (.dt (encSes d) (.slice (some ⟨g, 0, none⟩) n cap) b :: L) (sortWorldK encV 3 W g 0 q d.toArray os) := by
  have hx : OwC W (encSes c) (.slice (some ⟨g, 0, none⟩) n cap) b := h.at_ (i := 0) rfl
  obtain ⟨hn, hb, _⟩ := holds_se hx
  obtain ⟨_, xs, cs, ho, hr, _⟩ := OwC.open_ hx
  obtain ⟨rfl, rfl⟩ := owr_se hr
  subst hb
  have hg := h.bsAt (i := 0) rfl g (by simp [It.bs])
  rcases ho.2 with ⟨e0, _⟩ | ⟨g', cap', cur, e0, _, hh, hnc, hm, hs, ht⟩
  · cases e0
  injection e0 with e1 _ e3
  injection e1 with e1
  injection e1 with e1
  subst e1 e3
  have hsz : (sortWorldK encV 3 W g 0 q d.toArray os).heap.size = W.heap.size + os.size := by simp [sortWorldK, putRowK, Sort.putRow, mapBlock, Sort.ahead]
  have hold : ∀ k, k < W.heap.size → k ≠ g → (sortWorldK encV 3 W g 0 q d.toArray os).heap[k]? = W.heap[k]? := fun k hk hne => by
    unfold sortWorldK
    rw [heap_grow_old _ _ (by simpa [putRowK, Sort.putRow, mapBlock, Sort.ahead] using hk)]
    simp [putRowK, Sort.putRow, mapBlock, Sort.ahead, Array.getElem?_modify, Ne.symm hne]
  refine h.turn (by omega) (fun k hk hne => hold k hk (fun e => hne (by simp [It.bs, e]))) ⟨h.bl.os, h.bl.tape, h.bl.output, by have := h.bl.size; omega, fun k hk => (hold k (by have := h.bl.size; omega) (by omega)).trans (h.bl.block k hk)⟩ ?_ (by simp [It.bs]) (fun k hk => .inl hk)
  have hgk : (sortWorldK encV 3 W g 0 q d.toArray os).heap[g]? = some (.cells (putCells id 0 (flatK encV 3 d.toArray) cur) 92 (0, 0)) := by
    unfold sortWorldK
    rw [heap_grow_old _ _ (by simpa [putRowK, Sort.putRow, mapBlock, Sort.ahead] using hg.2)]
    simp [putRowK, Sort.putRow, mapBlock, Sort.ahead, Array.getElem?_modify, hh, onCells]
  have hl1 : (c.map encSe).length = (d.map encSe).length := by simp [hd]
  refine ⟨d.flatMap encV, [], ?_, owr_of _ d, rfl⟩
  rw [hn]
  refine ⟨by rw [flatV_len]; simp, .inr ⟨g, cap, _, by simp [hd], Nat.zero_le _, hgk, by rw [← hl1]; exact hnc, hm, by simpa [putCells] using hs, ?_⟩⟩
  apply List.ext_getElem?
  intro t
  rw [List.getElem?_take, List.length_map]
  by_cases ht' : t < d.length * 3
  · have hcs : t < cur.size := by
      rw [hs]
      have : d.length * 3 ≤ cap * 3 := Nat.mul_le_mul_right 3 (by rw [hd]; simpa using hnc)
      omega
    rw [if_pos ht', flatK_at ht', Array.getElem?_toList]
    simp only [putCells, Array.getElem?_mapIdx, Array.getElem?_eq_getElem hcs, Option.map_some]
    rw [if_pos (by simp; omega)]
    rfl
  · rw [if_neg ht', List.getElem?_eq_none (by rw [flatV_len]; omega)]
end
/-- a sorted permutation of rows of different clients -/
theorem sorted_ord {c d : List Se} (h1 : OneSe c) (hp : PermIn 0 c.toArray.size c.toArray d.toArray) (hs : SortedIn (ltOf fun x y : Se => Lib.compareInt x.client y.client) 0 c.toArray.size d.toArray) : d.length = c.length ∧ d = ordSe c := by
  obtain ⟨p1, _, p3⟩ := hp
  have hl : d.length = c.length := by simpa using p1
  have hperm : d.Perm c := by
    have : (d.toArray.extract 0 c.toArray.size).toList = d := by simp [← hl]
    rw [this] at p3
    simpa using p3
  refine ⟨hl, one_ordered h1 hperm ?_⟩
  have hd1 : OneSe d := (hperm.map Se.client).nodup_iff.2 h1
  unfold AscSe
  rw [List.pairwise_iff_getElem]
  intro i j hi hj hij
  have h2 := hs i j (Nat.zero_le _) hij (by simp; omega)
  rw [getElem!_pos d.toArray i (by simpa using hi), getElem!_pos d.toArray j (by simpa using hj)] at h2
  have hne : ¬ d[i].client = d[j].client := fun e => by
    unfold OneSe List.Nodup at hd1
    rw [List.pairwise_map, List.pairwise_iff_getElem] at hd1
    exact hd1 i j hi hj hij e
  simp only [List.getElem_toArray, ltOf, Lib.compareInt] at h2
  by_cases h3 : d[j].client < d[i].client
  · rw [if_pos h3] at h2
    simp at h2
  · omega
theorem ltSe (x y : Se) : ltOf (fun x y : Se => Lib.compareInt x.client y.client) x y = decide (x.client < y.client) := by
  unfold ltOf Lib.compareInt
  by_cases h1 : x.client < y.client
  · simp [h1]
  · by_cases h2 : y.client < x.client <;> simp [h1, h2]
theorem swoSe : SWO (ltOf fun x y : Se => Lib.compareInt x.client y.client) where
  irrefl x := by rw [ltSe]; simp
  trans x y z h1 h2 := by rw [ltSe] at *; simp at *; omega
  ntrans x y z h1 h2 := by rw [ltSe] at *; simp at *; omega
end Go.Proofs.Ytninppjomdhnmaa.low

/-
  The library's contracts that this seat's proofs use, laid at this seat's translation by the guide's own tool in plain words; no conditions but those in each statement.
-/

namespace Go.Proofs
open Go.Shelf
end Go.Proofs


/-
  Contracts of impl.requestsOf and of a map's rows in order. Written by mkimp8.py.
-/
namespace Go.Proofs.Ytninppjomdhnmaa.low
open Go.RowKit Go.Sort
set_option linter.unusedVariables false

theorem rqK : Try.prog.underlying 3 = some (.int .i64) := by kernel_rfl
theorem rqZ (w : World) : (zeroValue 92).run Try.prog w = .ok (valSe ⟨0, 0, 0⟩) w := by kernel_rfl
/-- a map of one's own -/
def MapPost (l : List Se) (w : World) (e : Ending) (w' : World) : Prop := ∃ (g : Nat) (es : Array MapEntry) (c0 : Nat), e = .returned (.map (some g)) ∧ MapO l es c0 ∧ w'.heap[g]? = some (.map es c0) ∧ w.heap.size ≤ g ∧ Below w.heap.size w w'
theorem ord_perm {l c : List Se} (h : OneSe l) (hp : c.Perm l) : ordSe c = ordSe l := one_ordered h (ordSe_perm.trans hp) (ordSe_asc ((hp.map Se.client).nodup_iff.2 h))
theorem left_all {es : Array MapEntry} : (leftOf es #[]).size = es.size := by unfold leftOf; simp
end Go.Proofs.Ytninppjomdhnmaa.low


/-
  Contracts of impl.seenOk. Written by mkimp8b.py.
-/
namespace Go.Proofs.Ytninppjomdhnmaa.low
open Go.RowKit
set_option linter.unusedVariables false

theorem seens_len : ∀ {l m : List Se}, ¬ l.length = m.length → seensB l m = false
  | [], [], h => absurd rfl h
  | [], _ :: _, _ => rfl
  | _ :: _, [], _ => rfl
  | a :: l, b :: m, h => by
    rw [seensB, seens_len (l := l) (m := m) (by simpa using h), Bool.and_false]
set_option maxRecDepth 100000 in
set_option maxHeartbeats 3200000 in
theorem equalSe_d (v v' : Value) (l m : List Se) (w : World) (h : RdC w w.heap.size (encSes l) v) (h' : RdC w w.heap.size (encSes m) v') (hl : l.length ≤ 1048576) (hm : m.length ≤ 1048577) : Calls Try.prog 45 #[v, v'] w (Tells (seensB l m) w) := by
  obtain ⟨A, c, rfl⟩ := sliceSes h
  obtain ⟨A', c', rfl⟩ := sliceSes h'
  have HR := Lib.hid h
  have HR' := Lib.hid h'
  clear h h'
  by_cases hlen : l.length = m.length
  · have gl : (((l.length : Int)) != (m.length : Int)) = false := by simp [hlen]
    have HL := Lib.hid hlen
    clear hlen
    go_enter Try.func45, Try.ntmps45
    go_wp2
    go_loopw [13] (fun i wr => ∃ j : Nat, j ≤ l.length ∧ i = .int .i64 (j : Int) ∧ seensB l m = seensB (l.drop j) (m.drop j) ∧ Below w.heap.size w wr) (fun i _ => l.length - (intOf i).toNat)
    case atStart => exact ⟨0, Nat.zero_le _, rfl, by simp, Below.refl _ _⟩
    case round =>
      obtain ⟨j, hj, rfl, hi, hbel⟩ := hrel
      have HI := Lib.hid hi
      clear hi
      by_cases hlt : j < l.length
      · have hlt2 : j < m.length := by have := HL.out; omega
        obtain ⟨b, off, s, rfl, hbb, hp, x0, x1, x2⟩ := atSes (HR.out.below hbel) hlt
        obtain ⟨b', off', u, rfl, hbb', hp', y0, y1, y2⟩ := atSes (HR'.out.below hbel) hlt2
        have HS := Lib.hid (seensB_step hp hp')
        clear hp hp'
        by_cases h1 : s = u
        · subst h1
          have HS2 := Lib.hid (show seensB l m = seensB (l.drop (j + 1)) (m.drop (j + 1)) by rw [HI.out, HS.out, seSame_eq.2 rfl, Bool.true_and])
          go_wp2
          go_quiet (fail)
          go_wp2
          go_roundw
          case rel => exact ⟨j + 1, by omega, by go_num, HS2.out, hbel.trans ⟨rfl, rfl, rfl, Nat.le_refl _, fun _ _ => rfl⟩⟩
          case measure => simp [intOf]; omega
        · have HS2 := Lib.hid (show seensB l m = false by rw [HI.out, HS.out, Bool.eq_false_iff.2 (fun e => h1 (seSame_eq.1 e)), Bool.false_and])
          have h2 : ((s.client == u.client) && ((s.seq == u.seq) && (s.rev == u.rev))) = false := by rw [Bool.eq_false_iff]; intro e; simp at e; obtain ⟨s1, s2, s3⟩ := s; obtain ⟨u1, u2, u3⟩ := u; simp at e; obtain ⟨rfl, rfl, rfl⟩ := e; exact h1 rfl
          clear h1
          cases q1 : s.client == u.client
          · clear h2
            go_wp2
            go_quiet (fail)
            go_wp2
            go_ret
            exact ⟨ret_b HS2.out.symm, hbel.trans ⟨rfl, rfl, rfl, Nat.le_refl _, fun _ _ => rfl⟩⟩
          cases q2 : s.seq == u.seq
          · clear h2
            go_wp2
            go_quiet (fail)
            go_wp2
            go_ret
            exact ⟨ret_b HS2.out.symm, hbel.trans ⟨rfl, rfl, rfl, Nat.le_refl _, fun _ _ => rfl⟩⟩
          have q3 : (s.rev == u.rev) = false := by simpa [q1, q2] using h2
          clear h2
          go_wp2
          go_quiet (fail)
          go_wp2
          go_ret
          exact ⟨ret_b HS2.out.symm, hbel.trans ⟨rfl, rfl, rfl, Nat.le_refl _, fun _ _ => rfl⟩⟩
      · have h9 : l.drop j = [] := List.drop_eq_nil_of_le (by omega)
        have h8 : m.drop j = [] := List.drop_eq_nil_of_le (by have := HL.out; omega)
        have HS2 := Lib.hid (show seensB l m = true by rw [HI.out, h9, h8]; rfl)
        clear h9 h8
        go_wp2
        go_ret
        exact ⟨ret_b HS2.out.symm, hbel⟩
  · have gl : (((l.length : Int)) != (m.length : Int)) = true := by simp; omega
    have HS2 := Lib.hid (seens_len hlen)
    clear hlen
    go_enter Try.func45, Try.ntmps45
    go_wp2
    go_ret
    exact ⟨ret_b HS2.out.symm, Below.refl _ _⟩
end Go.Proofs.Ytninppjomdhnmaa.low


/-
  Contracts of impl.SeenOf and DocSame. Written by mkimp8e.py.
-/
namespace Go.Proofs.Ytninppjomdhnmaa.low
open Go.RowKit
set_option linter.unusedVariables false

theorem docSame_eq (x y : Do) : docSameB x y = ((x.name.toList == y.name.toList) && decide (x.from_ = y.from_) && sameB x.text y.text && entriesB x.list y.list && seensB x.seen y.seen) := by
  unfold docSameB
  by_cases h1 : x.list.length = y.list.length
  · by_cases h2 : x.seen.length = y.seen.length
    · rw [decide_eq_true h1, decide_eq_true h2, Bool.and_true, Bool.and_true]
    · rw [seens_len h2, Bool.and_false, Bool.and_false]
  · rw [entriesB_len h1, Bool.and_false, Bool.and_false, Bool.false_and]
theorem implSignsSame_r (v v' : Value) (t t' : List Int) (w : World) (h : RdC w w.heap.size (encInts t) v) (h' : RdC w w.heap.size (encInts t') v') (hs : SmI t) (hs' : SmI t') : Calls Try.prog 42 #[v, v'] w (Tells (sameB t t') w) := by
  obtain ⟨A, c, rfl, hr, _⟩ := ints_rd h
  obtain ⟨B, d, rfl, hr', _⟩ := ints_rd h'
  exact (implSignsSame_any A B c d t t' w hr hr' (by unfold SmI at hs; omega) (by unfold SmI at hs'; omega)).mono fun _ _ h9 => says_tells h9
set_option maxRecDepth 100000 in
set_option maxHeartbeats 3200000 in
theorem implDocSame_d (v v' : Value) (x y : Do) (w : World) (h : RdC w w.heap.size (datDo x) v) (h' : RdC w w.heap.size (datDo y) v') (hs : SmDo x) (hs' : SmDo y) : Calls Try.prog 27 #[v, v'] w (Tells (docSameB x y) w) := by
  have HR := Lib.hid h
  have HR' := Lib.hid h'
  obtain ⟨A2, c2, A3, c3, A4, c4, rfl, r2, r3, r4⟩ := aggDo h
  obtain ⟨B2, d2, B3, d3, B4, d4, rfl, s2, s3, s4⟩ := aggDo h'
  have R2 := Lib.hid r2
  have R3 := Lib.hid r3
  have R4 := Lib.hid r4
  have S2 := Lib.hid s2
  have S3 := Lib.hid s3
  have S4 := Lib.hid s4
  have HD := Lib.hid (docSame_eq x y)
  clear h h' r2 r3 r4 s2 s3 s4
  have HM := Lib.hid (Ms.start w)
  replace HM := Lib.hid (HM.out.new #[.string x.name, .int .i64 x.from_, .slice A2 x.text.length c2, .slice A3 x.list.length c3, .slice A4 x.seen.length c4] 44)
  have hm := HM.out.new #[.string y.name, .int .i64 y.from_, .slice B2 y.text.length d2, .slice B3 y.list.length d3, .slice B4 y.seen.length d4] 44
  simp only [World.size_alloc] at hm
  replace HM := Lib.hid hm
  clear hm
  cases h1 : x.name.toList == y.name.toList
  · go_enter Try.func27, Try.ntmps27
    go_wp2
    go_ret
    exact ⟨ret_b (by rw [HD.out, h1]; rfl), HM.out.bl⟩
  cases h2 : x.from_ == y.from_
  · have G2 := Lib.hid (show decide (x.from_ = y.from_) = false by simpa using h2)
    go_enter Try.func27, Try.ntmps27
    go_wp2
    go_ret
    exact ⟨ret_b (by rw [HD.out, h1, G2.out]; rfl), HM.out.bl⟩
  have G2 := Lib.hid (show decide (x.from_ = y.from_) = true by simpa using h2)
  go_enter Try.func27, Try.ntmps27
  go_wp2_with fail
  obtain ⟨W1, hW, hm⟩ := HM.out.name
  rw [← hW]
  replace HM := Lib.hid hm
  clear hm hW
  refine (implSignsSame_r _ _ x.text y.text _ (HM.out.arg R2.out) (HM.out.arg S2.out) hs.text hs'.text).mono ?_
  rintro e' W2 ⟨rfl, b'⟩
  replace HM := Lib.hid (HM.out.past b')
  clear b'
  cases h3 : sameB x.text y.text
  · obtain ⟨kx0, kx1, kx2, kx3, kx4⟩ := HM.out.c5 1 rfl
    obtain ⟨ky0, ky1, ky2, ky3, ky4⟩ := HM.out.c5 0 rfl
    go_wp2
    go_ret
    exact ⟨ret_b (by rw [HD.out, h1, G2.out, h3]; rfl), HM.out.bl⟩
  obtain ⟨kx0, kx1, kx2, kx3, kx4⟩ := HM.out.c5 1 rfl
  obtain ⟨ky0, ky1, ky2, ky3, ky4⟩ := HM.out.c5 0 rfl
  go_wp2_with fail
  clear kx0 kx1 kx2 kx3 kx4 ky0 ky1 ky2 ky3 ky4
  refine (equalEn_d _ _ x.list y.list _ (HM.out.arg R3.out) (HM.out.arg S3.out) hs.list hs'.list).mono ?_
  rintro e' W3 ⟨rfl, b'⟩
  replace HM := Lib.hid (HM.out.past b')
  clear b'
  cases h4 : entriesB x.list y.list
  · obtain ⟨kx0, kx1, kx2, kx3, kx4⟩ := HM.out.c5 1 rfl
    obtain ⟨ky0, ky1, ky2, ky3, ky4⟩ := HM.out.c5 0 rfl
    go_wp2
    go_ret
    exact ⟨ret_b (by rw [HD.out, h1, G2.out, h3, h4]; rfl), HM.out.bl⟩
  obtain ⟨kx0, kx1, kx2, kx3, kx4⟩ := HM.out.c5 1 rfl
  obtain ⟨ky0, ky1, ky2, ky3, ky4⟩ := HM.out.c5 0 rfl
  go_wp2_with fail
  clear kx0 kx1 kx2 kx3 kx4 ky0 ky1 ky2 ky3 ky4
  refine (equalSe_d _ _ x.seen y.seen _ (HM.out.arg R4.out) (HM.out.arg S4.out) hs.seen.len (by have := hs'.seen.len; omega)).mono ?_
  rintro e' W4 ⟨rfl, b'⟩
  replace HM := Lib.hid (HM.out.past b')
  clear b'
  go_wp2
  go_ret
  exact ⟨ret_b (by rw [HD.out, h1, G2.out, h3, h4]; rfl), HM.out.bl⟩
end Go.Proofs.Ytninppjomdhnmaa.low


/-
  Contracts of the program: registriesOf, document, subscriber, HubDoc, HubSub, subSame and HubSame. Written by mkhub2.py.
-/
namespace Go.Proofs.Ytninppjomdhnmaa.low
open Go.RowKit
set_option linter.unusedVariables false

set_option maxRecDepth 100000 in
set_option maxHeartbeats 3200000 in
theorem pickDo_any (v : Value) (y : Do) (s : ByteArray) (g : Nat) (w : World) (h : RdC w w.heap.size (datDo y) v) (hg : g < w.heap.size) (hc : w.cell? ⟨g, 0, none⟩ = some (.string s)) : Calls Try.prog 35 #[v, .pointer (some ⟨g, 0, none⟩)] w (Tells (eqSt y.name s) w) := by
  obtain ⟨C2, c2, C3, c3, C4, c4, rfl, -, -, -⟩ := aggDo h
  have hcx := hc
  have HM := Lib.hid (Ms.start w)
  replace HM := Lib.hid (HM.out.new #[.string y.name, .int .i64 y.from_, .slice C2 y.text.length c2, .slice C3 y.list.length c3, .slice C4 y.seen.length c4] 44)
  have hc1 := ((alloc_below w (.cells #[.string y.name, .int .i64 y.from_, .slice C2 y.text.length c2, .slice C3 y.list.length c3, .slice C4 y.seen.length c4] 44)).cell (p := ⟨g, 0, none⟩) hg).trans hc
  have HT := Lib.hid (show eqSt y.name s = (y.name.toList == s.toList) from rfl)
  clear hc hcx
  go_enter Try.func35, Try.ntmps35
  go_wp2
  go_ret
  exact ⟨ret_b (by rw [HT.out]), HM.out.bl⟩
set_option maxRecDepth 100000 in
set_option maxHeartbeats 3200000 in
theorem indexFDo_any (v : Value) (l : List Do) (s : ByteArray) (g : Nat) (w : World) (h : RdC w w.heap.size (encDos l) v) (hs : SmDos l) (hg : g < w.heap.size) (hc : w.cell? ⟨g, 0, none⟩ = some (.string s)) : Calls Try.prog 34 #[v, .func (.func 35) #[] #[.pointer (some ⟨g, 0, none⟩)]] w (Nums1 (ixInt (docIx l s)) w) := by
  obtain ⟨A, c, rfl⟩ := sliceDos h
  have hl := hs.len
  have HR := Lib.hid h
  have HC := Lib.hid hc
  have HG := Lib.hid hg
  clear h hc hg
  have HM := Lib.hid (Ms.start w)
  go_enter Try.func34, Try.ntmps34
  go_wp2
  go_loopw [8] (fun i wr => ∃ j : Nat, j ≤ l.length ∧ i = .int .i64 (j : Int) ∧ (∀ i, i < j → ∀ y, l[i]? = some y → eqSt y.name s = false) ∧ Ms w [] wr) (fun i _ => l.length - (intOf i).toNat)
  case atStart => exact ⟨0, Nat.zero_le _, rfl, fun i hi => absurd hi (Nat.not_lt_zero _), HM.out⟩
  case round =>
    obtain ⟨j, hj, rfl, hi, hm⟩ := hrel
    clear HM
    have HM := Lib.hid hm
    have HI := Lib.hid hi
    clear hm hi
    by_cases hlt : j < l.length
    · obtain ⟨b, off, y, C2, c2, C3, c3, C4, c4, rfl, hbb, hp, y0, y1, y2, y3, y4, q2, q3, q4⟩ := atDos HR.out hlt
      have x0 := (HM.out.bl.cell (p := ⟨b, off + j * 5, none⟩) hbb).trans y0
      have x1 := (HM.out.bl.cell (p := ⟨b, off + j * 5 + 1, none⟩) hbb).trans y1
      have x2 := (HM.out.bl.cell (p := ⟨b, off + j * 5 + 2, none⟩) hbb).trans y2
      have x3 := (HM.out.bl.cell (p := ⟨b, off + j * 5 + 3, none⟩) hbb).trans y3
      have x4 := (HM.out.bl.cell (p := ⟨b, off + j * 5 + 4, none⟩) hbb).trans y4
      clear y0 y1 y2 y3 y4
      have HP := Lib.hid hp
      clear hp
      have Q2h := Lib.hid q2
      clear q2
      have Q3h := Lib.hid q3
      clear q3
      have Q4h := Lib.hid q4
      clear q4
      go_wp2_with fail
      clear x0 x1 x2 x3 x4
      refine (pickDo_any _ y _ g _ (rdDo y (HM.out.arg Q2h.out) (HM.out.arg Q3h.out) (HM.out.arg Q4h.out)) (Nat.lt_of_lt_of_le HG.out HM.out.size) ((HM.out.bl.cell (p := ⟨g, 0, none⟩) HG.out).trans HC.out)).mono ?_
      rintro e' W1 ⟨rfl, b'⟩
      replace HM := Lib.hid (HM.out.past b')
      clear b'
      cases h1 : eqSt y.name s
      rotate_left
      · have HF := Lib.hid (show docIx l s = some j from ix_found (p := fun y : Do => eqSt y.name s) HP.out h1 HI.out)
        clear h1
        go_wp2
        go_ret
        exact ⟨ret_i (by rw [HF.out]; rfl), HM.out.bl⟩
      have HI2 := Lib.hid (ix_step (p := fun y : Do => eqSt y.name s) HP.out h1 HI.out)
      clear h1
      go_wp2
      go_roundw
      case rel => exact ⟨j + 1, by omega, by go_num, HI2.out, HM.out⟩
      case measure => simp [intOf]; omega
    · have HF := Lib.hid (show docIx l s = none from ix_none (p := fun y : Do => eqSt y.name s) (fun i hi y hy => HI.out i (by omega) y hy))
      go_wp2
      go_ret
      exact ⟨ret_i (by rw [HF.out]; rfl), HM.out.bl⟩
set_option maxRecDepth 100000 in
set_option maxHeartbeats 3200000 in
theorem document_any (v : Value) (l : List Do) (s : ByteArray) (g o : Nat) (w : World) (h : RdC w w.heap.size (encDos l) v) (hs : SmDos l) (hg : g < w.heap.size) (hc : w.cell? ⟨g, o, none⟩ = some v) : Calls Try.prog 20 #[.pointer (some ⟨g, o, none⟩), .string s] w (Nums1 (ixInt (docIx l s)) w) := by
  obtain ⟨A, c, rfl⟩ := sliceDos h
  have HR := Lib.hid h
  clear h
  have HM := Lib.hid (Ms.start w)
  replace HM := Lib.hid (HM.out.new #[.string s] 9)
  have hc1 := ((alloc_below w (.cells #[.string s] 9)).cell (p := ⟨g, o, none⟩) hg).trans hc
  clear hc hg
  have hmf : ∀ (fn : Fn) (first cap : Array Value) (w : World), (Instr.makeFunc fn first cap).run Try.prog w = .ok (.func fn first cap) w := fun _ _ _ _ => rfl
  go_enter Try.func20, Try.ntmps20
  go_wp2_with fail
  clear hc1
  obtain ⟨W1, hW, hm⟩ := HM.out.name
  rw [← hW]
  replace HM := Lib.hid hm
  clear hm hW
  refine (indexFDo_any _ l _ _ _ (HM.out.arg HR.out) hs (HM.out.glt (i := 0) rfl).2 (HM.out.cell (i := 0) (j := 0) rfl rfl)).mono ?_
  rintro e' W2 ⟨rfl, b'⟩
  replace HM := Lib.hid (HM.out.past b')
  clear b'
  go_wp2
  go_ret
  exact ⟨rfl, HM.out.bl⟩
set_option maxRecDepth 100000 in
set_option maxHeartbeats 3200000 in
theorem pickSu_any (v : Value) (y : Su) (z : Int) (g : Nat) (w : World) (h : RdC w w.heap.size (datSu y) v) (hg : g < w.heap.size) (hc : w.cell? ⟨g, 0, none⟩ = some (.int .i64 z)) : Calls Try.prog 39 #[v, .pointer (some ⟨g, 0, none⟩)] w (Tells (decide (y.id = z)) w) := by
  obtain ⟨C5, c5, rfl, -⟩ := aggSu h
  have hcx := hc
  have HM := Lib.hid (Ms.start w)
  replace HM := Lib.hid (HM.out.new #[.int .i64 y.id, .string y.doc, .int .i64 y.cap, .int .i64 y.next, .bool y.out, .slice C5 y.list.length c5] 61)
  have hc1 := ((alloc_below w (.cells #[.int .i64 y.id, .string y.doc, .int .i64 y.cap, .int .i64 y.next, .bool y.out, .slice C5 y.list.length c5] 61)).cell (p := ⟨g, 0, none⟩) hg).trans hc
  have HT := Lib.hid (show decide (y.id = z) = (y.id == z) from by rw [Bool.eq_iff_iff]; simp)
  clear hc hcx
  go_enter Try.func39, Try.ntmps39
  go_wp2
  go_ret
  exact ⟨ret_b (by rw [HT.out]), HM.out.bl⟩
set_option maxRecDepth 100000 in
set_option maxHeartbeats 3200000 in
theorem indexFSu_any (v : Value) (l : List Su) (z : Int) (g : Nat) (w : World) (h : RdC w w.heap.size (encSus l) v) (hs : SmSus l) (hg : g < w.heap.size) (hc : w.cell? ⟨g, 0, none⟩ = some (.int .i64 z)) : Calls Try.prog 38 #[v, .func (.func 39) #[] #[.pointer (some ⟨g, 0, none⟩)]] w (Nums1 (ixInt (subIx l z)) w) := by
  obtain ⟨A, c, rfl⟩ := sliceSus h
  have hl := hs.len
  have HR := Lib.hid h
  have HC := Lib.hid hc
  have HG := Lib.hid hg
  clear h hc hg
  have HM := Lib.hid (Ms.start w)
  go_enter Try.func38, Try.ntmps38
  go_wp2
  go_loopw [8] (fun i wr => ∃ j : Nat, j ≤ l.length ∧ i = .int .i64 (j : Int) ∧ (∀ i, i < j → ∀ y, l[i]? = some y → decide (y.id = z) = false) ∧ Ms w [] wr) (fun i _ => l.length - (intOf i).toNat)
  case atStart => exact ⟨0, Nat.zero_le _, rfl, fun i hi => absurd hi (Nat.not_lt_zero _), HM.out⟩
  case round =>
    obtain ⟨j, hj, rfl, hi, hm⟩ := hrel
    clear HM
    have HM := Lib.hid hm
    have HI := Lib.hid hi
    clear hm hi
    by_cases hlt : j < l.length
    · obtain ⟨b, off, y, C5, c5, rfl, hbb, hp, y0, y1, y2, y3, y4, y5, q5⟩ := atSus HR.out hlt
      have x0 := (HM.out.bl.cell (p := ⟨b, off + j * 6, none⟩) hbb).trans y0
      have x1 := (HM.out.bl.cell (p := ⟨b, off + j * 6 + 1, none⟩) hbb).trans y1
      have x2 := (HM.out.bl.cell (p := ⟨b, off + j * 6 + 2, none⟩) hbb).trans y2
      have x3 := (HM.out.bl.cell (p := ⟨b, off + j * 6 + 3, none⟩) hbb).trans y3
      have x4 := (HM.out.bl.cell (p := ⟨b, off + j * 6 + 4, none⟩) hbb).trans y4
      have x5 := (HM.out.bl.cell (p := ⟨b, off + j * 6 + 5, none⟩) hbb).trans y5
      clear y0 y1 y2 y3 y4 y5
      have HP := Lib.hid hp
      clear hp
      have Q5h := Lib.hid q5
      clear q5
      go_wp2_with fail
      clear x0 x1 x2 x3 x4 x5
      refine (pickSu_any _ y _ g _ (rdSu y (HM.out.arg Q5h.out)) (Nat.lt_of_lt_of_le HG.out HM.out.size) ((HM.out.bl.cell (p := ⟨g, 0, none⟩) HG.out).trans HC.out)).mono ?_
      rintro e' W1 ⟨rfl, b'⟩
      replace HM := Lib.hid (HM.out.past b')
      clear b'
      cases h1 : decide (y.id = z)
      rotate_left
      · have HF := Lib.hid (show subIx l z = some j from ix_found (p := fun y : Su => decide (y.id = z)) HP.out h1 HI.out)
        clear h1
        go_wp2
        go_ret
        exact ⟨ret_i (by rw [HF.out]; rfl), HM.out.bl⟩
      have HI2 := Lib.hid (ix_step (p := fun y : Su => decide (y.id = z)) HP.out h1 HI.out)
      clear h1
      go_wp2
      go_roundw
      case rel => exact ⟨j + 1, by omega, by go_num, HI2.out, HM.out⟩
      case measure => simp [intOf]; omega
    · have HF := Lib.hid (show subIx l z = none from ix_none (p := fun y : Su => decide (y.id = z)) (fun i hi y hy => HI.out i (by omega) y hy))
      go_wp2
      go_ret
      exact ⟨ret_i (by rw [HF.out]; rfl), HM.out.bl⟩
set_option maxRecDepth 100000 in
set_option maxHeartbeats 3200000 in
theorem subscriber_any (v : Value) (l : List Su) (z : Int) (g o : Nat) (w : World) (h : RdC w w.heap.size (encSus l) v) (hs : SmSus l) (hg : g < w.heap.size) (hc : w.cell? ⟨g, o, none⟩ = some v) : Calls Try.prog 23 #[.pointer (some ⟨g, o, none⟩), .int .i64 z] w (Nums1 (ixInt (subIx l z)) w) := by
  obtain ⟨A, c, rfl⟩ := sliceSus h
  have HR := Lib.hid h
  clear h
  have HM := Lib.hid (Ms.start w)
  replace HM := Lib.hid (HM.out.new #[.int .i64 z] 3)
  have hc1 := ((alloc_below w (.cells #[.int .i64 z] 3)).cell (p := ⟨g, o, none⟩) hg).trans hc
  clear hc hg
  have hmf : ∀ (fn : Fn) (first cap : Array Value) (w : World), (Instr.makeFunc fn first cap).run Try.prog w = .ok (.func fn first cap) w := fun _ _ _ _ => rfl
  go_enter Try.func23, Try.ntmps23
  go_wp2_with fail
  clear hc1
  obtain ⟨W1, hW, hm⟩ := HM.out.name
  rw [← hW]
  replace HM := Lib.hid hm
  clear hm hW
  refine (indexFSu_any _ l _ _ _ (HM.out.arg HR.out) hs (HM.out.glt (i := 0) rfl).2 (HM.out.cell (i := 0) (j := 0) rfl rfl)).mono ?_
  rintro e' W2 ⟨rfl, b'⟩
  replace HM := Lib.hid (HM.out.past b')
  clear b'
  go_wp2
  go_ret
  exact ⟨rfl, HM.out.bl⟩
set_option maxRecDepth 100000 in
set_option maxHeartbeats 3200000 in
theorem regs_any (sh : Bool) (A1 A2 : Option Addr) (n1 c1 n2 c2 : Nat) (la : Int) (w : World) : Calls Try.prog 19 #[.agg #[.bool sh, .slice A1 n1 c1, .slice A2 n2 c2, .int .i64 la]] w (fun e w' => ∃ g, e = .returned (.pointer (some ⟨g, 0, none⟩)) ∧ Ms w [.bx g (.cells #[.slice A1 n1 c1, .slice A2 n2 c2, .int .i64 la, .bool sh] 55 (0, 0))] w') := by
  have HM := Lib.hid (Ms.start w)
  replace HM := Lib.hid (HM.out.new #[.bool sh, .slice A1 n1 c1, .slice A2 n2 c2, .int .i64 la] 31)
  have hm := HM.out.new #[.slice A1 n1 c1, .slice A2 n2 c2, .int .i64 la, .bool sh] 55
  simp only [World.size_alloc] at hm
  replace HM := Lib.hid hm
  clear hm
  go_enter Try.func19, Try.ntmps19
  go_wp2
  go_ret
  exact ⟨_, rfl, HM.out.pick (ks := [0]) (by decide) rfl⟩
set_option maxRecDepth 100000 in
set_option maxHeartbeats 3200000 in
theorem implHubDoc_d (v : Value) (x : Hu) (s : ByteArray) (w : World) (h : RdC w w.heap.size (datHu x) v) (hs : SmHu x) : Calls Try.prog 9 #[v, .string s] w (Nums1 (hubDocT x s) w) := by
  have HR := Lib.hid h
  obtain ⟨A1, ca, A2, cb, rfl, r1, r2⟩ := aggHu h
  have R1 := Lib.hid r1
  have R2 := Lib.hid r2
  have hl1 := hs.docs.len
  have hl2 := hs.subs.len
  clear h r1 r2
  have HM := Lib.hid (Ms.start w)
  replace HM := Lib.hid (HM.out.new #[.bool x.shut, .slice A1 x.docs.length ca, .slice A2 x.subs.length cb, .int .i64 x.last] 31)
  go_enter Try.func9, Try.ntmps9
  go_wp2_with fail
  obtain ⟨W1, hW, hm⟩ := HM.out.name
  rw [← hW]
  replace HM := Lib.hid hm
  clear hm hW
  refine (regs_any _ _ _ _ _ _ _ _ _).mono ?_
  rintro e' w' ⟨g, rfl, hm9⟩
  have hm := Ms.joinH HM.out hm9
  have hg := (hm9.glt (i := 0) rfl).2
  have hc := hm9.cell (i := 0) (j := 0) rfl rfl
  clear hm9
  replace HM := Lib.hid hm
  clear hm
  go_wp2_with fail
  refine (document_any _ x.docs _ g 0 _ (HM.out.arg R1.out) hs.docs hg hc).mono ?_
  rintro e' w2 ⟨rfl, b'⟩
  replace HM := Lib.hid (HM.out.past b')
  go_wp2
  go_ret
  exact ⟨rfl, HM.out.bl⟩
set_option maxRecDepth 100000 in
set_option maxHeartbeats 3200000 in
theorem implHubSub_d (v : Value) (x : Hu) (z : Int) (w : World) (h : RdC w w.heap.size (datHu x) v) (hs : SmHu x) : Calls Try.prog 12 #[v, .int .i64 z] w (Nums1 (hubSubT x z) w) := by
  have HR := Lib.hid h
  obtain ⟨A1, ca, A2, cb, rfl, r1, r2⟩ := aggHu h
  have R1 := Lib.hid r1
  have R2 := Lib.hid r2
  have hl1 := hs.docs.len
  have hl2 := hs.subs.len
  clear h r1 r2
  have HM := Lib.hid (Ms.start w)
  replace HM := Lib.hid (HM.out.new #[.bool x.shut, .slice A1 x.docs.length ca, .slice A2 x.subs.length cb, .int .i64 x.last] 31)
  go_enter Try.func12, Try.ntmps12
  go_wp2_with fail
  obtain ⟨W1, hW, hm⟩ := HM.out.name
  rw [← hW]
  replace HM := Lib.hid hm
  clear hm hW
  refine (regs_any _ _ _ _ _ _ _ _ _).mono ?_
  rintro e' w' ⟨g, rfl, hm9⟩
  have hm := Ms.joinH HM.out hm9
  have hg := (hm9.glt (i := 0) rfl).2
  have hc := hm9.cell (i := 0) (j := 1) rfl rfl
  clear hm9
  replace HM := Lib.hid hm
  clear hm
  go_wp2_with fail
  refine (subscriber_any _ x.subs _ g 1 _ (HM.out.arg R2.out) hs.subs hg hc).mono ?_
  rintro e' w2 ⟨rfl, b'⟩
  replace HM := Lib.hid (HM.out.past b')
  go_wp2
  go_ret
  exact ⟨rfl, HM.out.bl⟩
set_option maxRecDepth 100000 in
set_option maxHeartbeats 3200000 in
theorem subSame_any (v v' : Value) (e u : Su) (w : World) (h : RdC w w.heap.size (datSu e) v) (h' : RdC w w.heap.size (datSu u) v') (hs : SmSu e) (hs2 : SmSu u) : Calls Try.prog 29 #[v, v'] w (Tells (suSameB e u) w) := by
  obtain ⟨C5, c5, rfl, q5⟩ := aggSu h
  obtain ⟨D5, d5, rfl, p5⟩ := aggSu h'
  clear h h'
  have Q5h := Lib.hid q5
  have P5h := Lib.hid p5
  clear q5 p5
  generalize hei : e.id = ei
  have HEI := Lib.hid hei
  clear hei
  generalize hed : e.doc = ed
  have HED := Lib.hid hed
  clear hed
  generalize hui : u.id = ui
  have HUI := Lib.hid hui
  clear hui
  generalize hud : u.doc = ud
  have HUD := Lib.hid hud
  clear hud
  have HU := Lib.hid (show suSameB e u = (decide (ei = ui) && (eqSt ed ud && ringSameB (ringSu e) (ringSu u))) by rw [← HEI.out, ← HED.out, ← HUI.out, ← HUD.out]; rfl)
  have HM := Lib.hid (Ms.start w)
  replace HM := Lib.hid (HM.out.new #[.int .i64 ei, .string ed, .int .i64 e.cap, .int .i64 e.next, .bool e.out, .slice C5 e.list.length c5] 61)
  have hm := HM.out.new #[.int .i64 ui, .string ud, .int .i64 u.cap, .int .i64 u.next, .bool u.out, .slice D5 u.list.length d5] 61
  simp only [World.size_alloc] at hm
  replace HM := Lib.hid hm
  clear hm
  go_enter Try.func29, Try.ntmps29
  by_cases f1 : ei = ui
  rotate_left
  · have HE := Lib.hid (show suSameB e u = false by rw [HU.out, decide_eq_false f1]; rfl)
    have g1 : (ei == ui) = false := by rw [beq_eq_false_iff_ne]; exact f1
    clear f1
    go_wp2
    go_ret
    exact ⟨ret_b HE.out.symm, HM.out.bl⟩
  subst f1
  have g1 : (ei == ei) = true := by simp
  cases f2 : eqSt ed ud
  · have HE := Lib.hid (show suSameB e u = false by rw [HU.out, f2]; simp)
    have g2 : (ed.toList == ud.toList) = false := f2
    clear f2
    go_wp2
    go_ret
    exact ⟨ret_b HE.out.symm, HM.out.bl⟩
  have g2 : (ed.toList == ud.toList) = true := f2
  have HE := Lib.hid (show suSameB e u = ringSameB (ringSu e) (ringSu u) by rw [HU.out, f2]; simp)
  clear f2
  go_wp2_with fail
  obtain ⟨W1, hW, hm⟩ := HM.out.name
  rw [← hW]
  replace HM := Lib.hid hm
  clear hm hW
  refine (implRingSame_d _ _ (ringSu e) (ringSu u) _ (rdRi (ringSu e) (HM.out.arg Q5h.out)) (rdRi (ringSu u) (HM.out.arg P5h.out)) (show SmRi (ringSu e) from hs.list) (show SmRi (ringSu u) from hs2.list)).mono ?_
  rintro e' W2 ⟨rfl, b'⟩
  replace HM := Lib.hid (HM.out.past b')
  clear b'
  go_wp2
  go_ret
  exact ⟨ret_b HE.out.symm, HM.out.bl⟩
theorem allDo_len : ∀ {l m : List Do}, ¬ l.length = m.length → allDo l m = false
  | [], [], h => absurd rfl h
  | [], _ :: _, _ => rfl
  | _ :: _, [], _ => rfl
  | x :: l, y :: m, h => by
    show (_ && allDo l m) = false
    rw [allDo_len (l := l) (m := m) (by simpa using h), Bool.and_false]
set_option maxRecDepth 100000 in
set_option maxHeartbeats 3200000 in
theorem equalDo_d (v v' : Value) (l m : List Do) (w : World) (h : RdC w w.heap.size (encDos l) v) (h' : RdC w w.heap.size (encDos m) v') (hs : SmDos l) (hs' : SmDos m) : Calls Try.prog 26 #[v, v', .func (.func 27) #[] #[]] w (Tells (allDo l m) w) := by
  obtain ⟨A, c, rfl⟩ := sliceDos h
  obtain ⟨A', c', rfl⟩ := sliceDos h'
  have hl := hs.len
  have hl2 := hs'.len
  have HR := Lib.hid h
  have HR' := Lib.hid h'
  clear h h'
  by_cases hlen : l.length = m.length
  · have HM := Lib.hid (Ms.start w)
    have gl : (((l.length : Int)) != (m.length : Int)) = false := by simp [hlen]
    have HL := Lib.hid hlen
    clear hlen
    go_enter Try.func26, Try.ntmps26
    go_wp2
    go_loopw [17] (fun i wr => ∃ j : Nat, j ≤ l.length ∧ i = .int .i64 (j : Int) ∧ allDo l m = allDo (l.drop j) (m.drop j) ∧ Ms w [] wr) (fun i _ => l.length - (intOf i).toNat)
    case atStart => exact ⟨0, Nat.zero_le _, rfl, by simp, HM.out⟩
    case round =>
      obtain ⟨j, hj, rfl, hi, hm⟩ := hrel
      clear HM
      have HM := Lib.hid hm
      have HI := Lib.hid hi
      clear hm hi
      by_cases hlt : j < l.length
      · have hlt2 : j < m.length := by have := HL.out; omega
        obtain ⟨b, off, e, C2, c2, C3, c3, C4, c4, rfl, hbb, hp, y0, y1, y2, y3, y4, q2, q3, q4⟩ := atDos HR.out hlt
        obtain ⟨b', off', u, D2, d2, D3, d3, D4, d4, rfl, hbb', hp', z0, z1, z2, z3, z4, p2, p3, p4⟩ := atDos HR'.out hlt2
        have x0 := (HM.out.bl.cell (p := ⟨b, off + j * 5, none⟩) hbb).trans y0
        have x1 := (HM.out.bl.cell (p := ⟨b, off + j * 5 + 1, none⟩) hbb).trans y1
        have x2 := (HM.out.bl.cell (p := ⟨b, off + j * 5 + 2, none⟩) hbb).trans y2
        have x3 := (HM.out.bl.cell (p := ⟨b, off + j * 5 + 3, none⟩) hbb).trans y3
        have x4 := (HM.out.bl.cell (p := ⟨b, off + j * 5 + 4, none⟩) hbb).trans y4
        clear y0 y1 y2 y3 y4
        have t0 := (HM.out.bl.cell (p := ⟨b', off' + j * 5, none⟩) hbb').trans z0
        have t1 := (HM.out.bl.cell (p := ⟨b', off' + j * 5 + 1, none⟩) hbb').trans z1
        have t2 := (HM.out.bl.cell (p := ⟨b', off' + j * 5 + 2, none⟩) hbb').trans z2
        have t3 := (HM.out.bl.cell (p := ⟨b', off' + j * 5 + 3, none⟩) hbb').trans z3
        have t4 := (HM.out.bl.cell (p := ⟨b', off' + j * 5 + 4, none⟩) hbb').trans z4
        have hbw' : b' < wr.heap.size := Nat.lt_of_lt_of_le hbb' HM.out.size
        have u0 := ((alloc_below wr (.cells #[.string e.name, .int .i64 e.from_, .slice C2 e.text.length c2, .slice C3 e.list.length c3, .slice C4 e.seen.length c4] 44)).cell (p := ⟨b', off' + j * 5, none⟩) hbw').trans t0
        have u1 := ((alloc_below wr (.cells #[.string e.name, .int .i64 e.from_, .slice C2 e.text.length c2, .slice C3 e.list.length c3, .slice C4 e.seen.length c4] 44)).cell (p := ⟨b', off' + j * 5 + 1, none⟩) hbw').trans t1
        have u2 := ((alloc_below wr (.cells #[.string e.name, .int .i64 e.from_, .slice C2 e.text.length c2, .slice C3 e.list.length c3, .slice C4 e.seen.length c4] 44)).cell (p := ⟨b', off' + j * 5 + 2, none⟩) hbw').trans t2
        have u3 := ((alloc_below wr (.cells #[.string e.name, .int .i64 e.from_, .slice C2 e.text.length c2, .slice C3 e.list.length c3, .slice C4 e.seen.length c4] 44)).cell (p := ⟨b', off' + j * 5 + 3, none⟩) hbw').trans t3
        have u4 := ((alloc_below wr (.cells #[.string e.name, .int .i64 e.from_, .slice C2 e.text.length c2, .slice C3 e.list.length c3, .slice C4 e.seen.length c4] 44)).cell (p := ⟨b', off' + j * 5 + 4, none⟩) hbw').trans t4
        clear t0 z0 t1 z1 t2 z2 t3 z3 t4 z4
        have hse := hs.at_ (List.mem_of_getElem? hp)
        have hsu := hs'.at_ (List.mem_of_getElem? hp')
        have HS := Lib.hid (allDo_step hp hp')
        clear hp hp'
        have Q2h := Lib.hid q2
        clear q2
        have Q3h := Lib.hid q3
        clear q3
        have Q4h := Lib.hid q4
        clear q4
        have P2h := Lib.hid p2
        clear p2
        have P3h := Lib.hid p3
        clear p3
        have P4h := Lib.hid p4
        clear p4
        replace HM := Lib.hid (HM.out.new #[.string e.name, .int .i64 e.from_, .slice C2 e.text.length c2, .slice C3 e.list.length c3, .slice C4 e.seen.length c4] 44)
        have hm := HM.out.new #[.string u.name, .int .i64 u.from_, .slice D2 u.text.length d2, .slice D3 u.list.length d3, .slice D4 u.seen.length d4] 44
        simp only [World.size_alloc] at hm
        replace HM := Lib.hid hm
        clear hm
        go_wp2_with fail
        obtain ⟨W1, hW, hm⟩ := HM.out.name
        rw [← hW]
        replace HM := Lib.hid hm
        clear hm hW
        refine (implDocSame_d _ _ e u _ (rdDo e (HM.out.arg Q2h.out) (HM.out.arg Q3h.out) (HM.out.arg Q4h.out)) (rdDo u (HM.out.arg P2h.out) (HM.out.arg P3h.out) (HM.out.arg P4h.out)) hse hsu).mono ?_
        rintro e' W2 ⟨rfl, b'⟩
        replace HM := Lib.hid (HM.out.past b')
        clear b'
        clear x0 u0 x1 u1 x2 u2 x3 u3 x4 u4 hbw'
        cases h1 : docSameB e u
        · have HE := Lib.hid (show allDo l m = false by rw [HI.out, HS.out, h1, Bool.false_and])
          go_wp2
          go_ret
          exact ⟨ret_b HE.out.symm, HM.out.bl⟩
        have HE := Lib.hid (show allDo l m = allDo (l.drop (j + 1)) (m.drop (j + 1)) by rw [HI.out, HS.out, h1, Bool.true_and])
        go_wp2
        go_roundw
        case rel => exact ⟨j + 1, by omega, by go_num, HE.out, HM.out.pick (ks := []) (by decide) rfl⟩
        case measure => simp [intOf]; omega
      · have h9 : l.drop j = [] := List.drop_eq_nil_of_le (by omega)
        have h8 : m.drop j = [] := List.drop_eq_nil_of_le (by have := HL.out; omega)
        have HE := Lib.hid (show allDo l m = true by rw [HI.out, h9, h8]; rfl)
        clear h9 h8
        go_wp2
        go_ret
        exact ⟨ret_b HE.out.symm, HM.out.bl⟩
  · have gl : (((l.length : Int)) != (m.length : Int)) = true := by simp; omega
    have HS2 := Lib.hid (allDo_len hlen)
    clear hlen
    go_enter Try.func26, Try.ntmps26
    go_wp2
    go_ret
    exact ⟨ret_b HS2.out.symm, Below.refl _ _⟩
theorem allSu_len : ∀ {l m : List Su}, ¬ l.length = m.length → allSu l m = false
  | [], [], h => absurd rfl h
  | [], _ :: _, _ => rfl
  | _ :: _, [], _ => rfl
  | x :: l, y :: m, h => by
    show (_ && allSu l m) = false
    rw [allSu_len (l := l) (m := m) (by simpa using h), Bool.and_false]
set_option maxRecDepth 100000 in
set_option maxHeartbeats 3200000 in
theorem equalSu_d (v v' : Value) (l m : List Su) (w : World) (h : RdC w w.heap.size (encSus l) v) (h' : RdC w w.heap.size (encSus m) v') (hs : SmSus l) (hs' : SmSus m) : Calls Try.prog 28 #[v, v', .func (.func 29) #[] #[]] w (Tells (allSu l m) w) := by
  obtain ⟨A, c, rfl⟩ := sliceSus h
  obtain ⟨A', c', rfl⟩ := sliceSus h'
  have hl := hs.len
  have hl2 := hs'.len
  have HR := Lib.hid h
  have HR' := Lib.hid h'
  clear h h'
  by_cases hlen : l.length = m.length
  · have HM := Lib.hid (Ms.start w)
    have gl : (((l.length : Int)) != (m.length : Int)) = false := by simp [hlen]
    have HL := Lib.hid hlen
    clear hlen
    go_enter Try.func28, Try.ntmps28
    go_wp2
    go_loopw [17] (fun i wr => ∃ j : Nat, j ≤ l.length ∧ i = .int .i64 (j : Int) ∧ allSu l m = allSu (l.drop j) (m.drop j) ∧ Ms w [] wr) (fun i _ => l.length - (intOf i).toNat)
    case atStart => exact ⟨0, Nat.zero_le _, rfl, by simp, HM.out⟩
    case round =>
      obtain ⟨j, hj, rfl, hi, hm⟩ := hrel
      clear HM
      have HM := Lib.hid hm
      have HI := Lib.hid hi
      clear hm hi
      by_cases hlt : j < l.length
      · have hlt2 : j < m.length := by have := HL.out; omega
        obtain ⟨b, off, e, C5, c5, rfl, hbb, hp, y0, y1, y2, y3, y4, y5, q5⟩ := atSus HR.out hlt
        obtain ⟨b', off', u, D5, d5, rfl, hbb', hp', z0, z1, z2, z3, z4, z5, p5⟩ := atSus HR'.out hlt2
        have x0 := (HM.out.bl.cell (p := ⟨b, off + j * 6, none⟩) hbb).trans y0
        have x1 := (HM.out.bl.cell (p := ⟨b, off + j * 6 + 1, none⟩) hbb).trans y1
        have x2 := (HM.out.bl.cell (p := ⟨b, off + j * 6 + 2, none⟩) hbb).trans y2
        have x3 := (HM.out.bl.cell (p := ⟨b, off + j * 6 + 3, none⟩) hbb).trans y3
        have x4 := (HM.out.bl.cell (p := ⟨b, off + j * 6 + 4, none⟩) hbb).trans y4
        have x5 := (HM.out.bl.cell (p := ⟨b, off + j * 6 + 5, none⟩) hbb).trans y5
        clear y0 y1 y2 y3 y4 y5
        have t0 := (HM.out.bl.cell (p := ⟨b', off' + j * 6, none⟩) hbb').trans z0
        have t1 := (HM.out.bl.cell (p := ⟨b', off' + j * 6 + 1, none⟩) hbb').trans z1
        have t2 := (HM.out.bl.cell (p := ⟨b', off' + j * 6 + 2, none⟩) hbb').trans z2
        have t3 := (HM.out.bl.cell (p := ⟨b', off' + j * 6 + 3, none⟩) hbb').trans z3
        have t4 := (HM.out.bl.cell (p := ⟨b', off' + j * 6 + 4, none⟩) hbb').trans z4
        have t5 := (HM.out.bl.cell (p := ⟨b', off' + j * 6 + 5, none⟩) hbb').trans z5
        have hbw' : b' < wr.heap.size := Nat.lt_of_lt_of_le hbb' HM.out.size
        have u0 := ((alloc_below wr (.cells #[.int .i64 e.id, .string e.doc, .int .i64 e.cap, .int .i64 e.next, .bool e.out, .slice C5 e.list.length c5] 61)).cell (p := ⟨b', off' + j * 6, none⟩) hbw').trans t0
        have u1 := ((alloc_below wr (.cells #[.int .i64 e.id, .string e.doc, .int .i64 e.cap, .int .i64 e.next, .bool e.out, .slice C5 e.list.length c5] 61)).cell (p := ⟨b', off' + j * 6 + 1, none⟩) hbw').trans t1
        have u2 := ((alloc_below wr (.cells #[.int .i64 e.id, .string e.doc, .int .i64 e.cap, .int .i64 e.next, .bool e.out, .slice C5 e.list.length c5] 61)).cell (p := ⟨b', off' + j * 6 + 2, none⟩) hbw').trans t2
        have u3 := ((alloc_below wr (.cells #[.int .i64 e.id, .string e.doc, .int .i64 e.cap, .int .i64 e.next, .bool e.out, .slice C5 e.list.length c5] 61)).cell (p := ⟨b', off' + j * 6 + 3, none⟩) hbw').trans t3
        have u4 := ((alloc_below wr (.cells #[.int .i64 e.id, .string e.doc, .int .i64 e.cap, .int .i64 e.next, .bool e.out, .slice C5 e.list.length c5] 61)).cell (p := ⟨b', off' + j * 6 + 4, none⟩) hbw').trans t4
        have u5 := ((alloc_below wr (.cells #[.int .i64 e.id, .string e.doc, .int .i64 e.cap, .int .i64 e.next, .bool e.out, .slice C5 e.list.length c5] 61)).cell (p := ⟨b', off' + j * 6 + 5, none⟩) hbw').trans t5
        clear t0 z0 t1 z1 t2 z2 t3 z3 t4 z4 t5 z5
        have hse := hs.at_ (List.mem_of_getElem? hp)
        have hsu := hs'.at_ (List.mem_of_getElem? hp')
        have HS := Lib.hid (allSu_step hp hp')
        clear hp hp'
        have Q5h := Lib.hid q5
        clear q5
        have P5h := Lib.hid p5
        clear p5
        replace HM := Lib.hid (HM.out.new #[.int .i64 e.id, .string e.doc, .int .i64 e.cap, .int .i64 e.next, .bool e.out, .slice C5 e.list.length c5] 61)
        have hm := HM.out.new #[.int .i64 u.id, .string u.doc, .int .i64 u.cap, .int .i64 u.next, .bool u.out, .slice D5 u.list.length d5] 61
        simp only [World.size_alloc] at hm
        replace HM := Lib.hid hm
        clear hm
        go_wp2_with fail
        obtain ⟨W1, hW, hm⟩ := HM.out.name
        rw [← hW]
        replace HM := Lib.hid hm
        clear hm hW
        refine (subSame_any _ _ e u _ (rdSu e (HM.out.arg Q5h.out)) (rdSu u (HM.out.arg P5h.out)) hse hsu).mono ?_
        rintro e' W2 ⟨rfl, b'⟩
        replace HM := Lib.hid (HM.out.past b')
        clear b'
        clear x0 u0 x1 u1 x2 u2 x3 u3 x4 u4 x5 u5 hbw'
        cases h1 : suSameB e u
        · have HE := Lib.hid (show allSu l m = false by rw [HI.out, HS.out, h1, Bool.false_and])
          go_wp2
          go_ret
          exact ⟨ret_b HE.out.symm, HM.out.bl⟩
        have HE := Lib.hid (show allSu l m = allSu (l.drop (j + 1)) (m.drop (j + 1)) by rw [HI.out, HS.out, h1, Bool.true_and])
        go_wp2
        go_roundw
        case rel => exact ⟨j + 1, by omega, by go_num, HE.out, HM.out.pick (ks := []) (by decide) rfl⟩
        case measure => simp [intOf]; omega
      · have h9 : l.drop j = [] := List.drop_eq_nil_of_le (by omega)
        have h8 : m.drop j = [] := List.drop_eq_nil_of_le (by have := HL.out; omega)
        have HE := Lib.hid (show allSu l m = true by rw [HI.out, h9, h8]; rfl)
        clear h9 h8
        go_wp2
        go_ret
        exact ⟨ret_b HE.out.symm, HM.out.bl⟩
  · have gl : (((l.length : Int)) != (m.length : Int)) = true := by simp; omega
    have HS2 := Lib.hid (allSu_len hlen)
    clear hlen
    go_enter Try.func28, Try.ntmps28
    go_wp2
    go_ret
    exact ⟨ret_b HS2.out.symm, Below.refl _ _⟩
theorem hubSame_short {x y : Hu} : hubSameB x y = ((x.shut == y.shut) && (decide (x.last = y.last) && (allDo x.docs y.docs && allSu x.subs y.subs))) := by
  unfold hubSameB
  by_cases h1 : x.docs.length = y.docs.length
  · by_cases h2 : x.subs.length = y.subs.length
    · rw [decide_eq_true h1, decide_eq_true h2, Bool.true_and, Bool.true_and]
    · rw [allSu_len h2]
      simp
  · rw [allDo_len h1]
    simp
set_option maxRecDepth 100000 in
set_option maxHeartbeats 3200000 in
theorem implHubSame_d (v v' : Value) (x y : Hu) (w : World) (h : RdC w w.heap.size (datHu x) v) (h' : RdC w w.heap.size (datHu y) v') (hs : SmHu x) (hs2 : SmHu y) : Calls Try.prog 14 #[v, v'] w (Tells (hubSameB x y) w) := by
  obtain ⟨A1, ca, A2, cb, rfl, r1, r2⟩ := aggHu h
  obtain ⟨B1, da, B2, db, rfl, s1, s2⟩ := aggHu h'
  have hl1 := hs.docs.len
  have hl2 := hs.subs.len
  have hl3 := hs2.docs.len
  have hl4 := hs2.subs.len
  clear h h'
  generalize hsx : x.shut = sx
  have HSX := Lib.hid hsx
  clear hsx
  generalize hsy : y.shut = sy
  have HSY := Lib.hid hsy
  clear hsy
  generalize hlx : x.last = lx
  have HLX := Lib.hid hlx
  clear hlx
  generalize hly : y.last = ly
  have HLY := Lib.hid hly
  clear hly
  generalize hnx : x.docs.length = nx at r1 hl1 ⊢
  have HNX := Lib.hid hnx
  clear hnx
  generalize hny : y.docs.length = ny at s1 hl3 ⊢
  have HNY := Lib.hid hny
  clear hny
  generalize hmx : x.subs.length = mx at r2 hl2 ⊢
  have HMX := Lib.hid hmx
  clear hmx
  generalize hmy : y.subs.length = my at s2 hl4 ⊢
  have HMY := Lib.hid hmy
  clear hmy
  have R1 := Lib.hid r1
  have R2 := Lib.hid r2
  have S1 := Lib.hid s1
  have S2 := Lib.hid s2
  clear r1 r2 s1 s2
  have HM := Lib.hid (Ms.start w)
  replace HM := Lib.hid (HM.out.new #[.bool sx, .slice A1 nx ca, .slice A2 mx cb, .int .i64 lx] 31)
  have hm := HM.out.new #[.bool sy, .slice B1 ny da, .slice B2 my db, .int .i64 ly] 31
  simp only [World.size_alloc] at hm
  replace HM := Lib.hid hm
  clear hm
  have HD := Lib.hid (show hubSameB x y = ((sx == sy) && (decide (lx = ly) && (allDo x.docs y.docs && allSu x.subs y.subs))) by rw [hubSame_short, ← HSX.out, ← HSY.out, ← HLX.out, ← HLY.out])
  go_enter Try.func14, Try.ntmps14
  by_cases e1 : sx = sy
  rotate_left
  · have HE := Lib.hid (show hubSameB x y = false by rw [HD.out, show (sx == sy) = false from by simpa using e1]; rfl)
    cases sx <;> cases sy
    all_goals first | exact absurd rfl e1 | skip
    all_goals
      clear e1
      go_wp2
      go_ret
      exact ⟨ret_b HE.out.symm, HM.out.bl⟩
  subst e1
  have g1 : (sx == sx) = true := by cases sx <;> rfl
  by_cases e2 : lx = ly
  rotate_left
  · have g2 : (lx == ly) = false := by rw [beq_eq_false_iff_ne]; exact e2
    have HE := Lib.hid (show hubSameB x y = false by rw [HD.out, show (sx == sx) = true from by simp, Bool.true_and, decide_eq_false e2]; rfl)
    clear e2
    go_wp2
    go_ret
    exact ⟨ret_b HE.out.symm, HM.out.bl⟩
  subst e2
  have g2 : (lx == lx) = true := by simp
  have HD2 := Lib.hid (show hubSameB x y = (allDo x.docs y.docs && allSu x.subs y.subs) by rw [HD.out]; simp)
  clear HD
  go_wp2_with fail
  obtain ⟨W1, hW, hm⟩ := HM.out.name
  rw [← hW]
  replace HM := Lib.hid hm
  clear hm hW
  refine (equalDo_d _ _ x.docs y.docs _ (HM.out.arg R1.out) (HM.out.arg S1.out) hs.docs hs2.docs).mono ?_
  rintro e' W2 ⟨rfl, b'⟩
  replace HM := Lib.hid (HM.out.past b')
  clear b'
  cases h1 : allDo x.docs y.docs
  · have HE := Lib.hid (show hubSameB x y = false by rw [HD2.out, h1]; rfl)
    go_wp2
    go_ret
    exact ⟨ret_b HE.out.symm, HM.out.bl⟩
  obtain ⟨kx0, kx1, kx2, kx3⟩ := HM.out.c4 1 rfl
  obtain ⟨ky0, ky1, ky2, ky3⟩ := HM.out.c4 0 rfl
  have HE := Lib.hid (show hubSameB x y = allSu x.subs y.subs by rw [HD2.out, h1]; rfl)
  go_wp2_with fail
  clear kx0 kx1 kx2 kx3 ky0 ky1 ky2 ky3
  refine (equalSu_d _ _ x.subs y.subs _ (HM.out.arg R2.out) (HM.out.arg S2.out) hs.subs hs2.subs).mono ?_
  rintro e' W3 ⟨rfl, b'⟩
  replace HM := Lib.hid (HM.out.past b')
  clear b'
  go_wp2
  go_ret
  exact ⟨ret_b HE.out.symm, HM.out.bl⟩
end Go.Proofs.Ytninppjomdhnmaa.low

