
/-
  Data in memory, of whatever shape: a datum is a number, a bool, a string, or a slice whose elements are rows of data. How a value reads as a datum (RdC), how it owns one (OwC: with the list of its blocks), and what writes elsewhere leave alone.
-/
import Derived.Test.YtemhhjagdfkmfaaPKeep
namespace Go.Proofs.Ytemhhjagdfkmfaa.low
open Go.RowKit
set_option linter.unusedVariables false

inductive Dat where
  | int (n : Int)
  | bool (b : Bool)
  | str (s : ByteArray)
  | rows (e : TypeId) (sz : Nat) (ds : List (List Dat))

mutual
/-- the value v reads as the datum; slices lie in blocks below B -/
def RdC (w : World) (B : Nat) : Dat → Value → Prop
  | .int n, v => v = .int .i64 n
  | .bool b, v => v = .bool b
  | .str s, v => v = .string s
  | .rows _ sz ds, v => ∃ A c, v = .slice A ds.length c ∧ ds.length ≤ c ∧ (0 < ds.length → ∃ ad : Addr, A = some ad ∧ ad.block < B ∧ (sz = 1 ∨ ad.spot = none) ∧ RdR w B sz ad 0 ds)
/-- the cells from o on read as the data -/
def RdL (w : World) (B : Nat) (ad : Addr) : Nat → List Dat → Prop
  | _, [] => True
  | o, d :: ds => (∃ v, w.cell? (ad.add o) = some v ∧ RdC w B d v) ∧ RdL w B ad (o + 1) ds
/-- the rows of sz cells each from o on -/
def RdR (w : World) (B : Nat) (sz : Nat) (ad : Addr) : Nat → List (List Dat) → Prop
  | _, [] => True
  | o, r :: rs => RdL w B ad o r ∧ RdR w B sz ad (o + sz) rs
end

mutual
theorem RdC.keep {w w' : World} {B : Nat} (hk : ∀ p : Addr, p.block < B → w'.cell? p = w.cell? p) : ∀ (d : Dat) (v : Value), RdC w B d v → RdC w' B d v
  | .int _, _, h => h
  | .bool _, _, h => h
  | .str _, _, h => h
  | .rows _ sz ds, _, h => by
    obtain ⟨A, c, hv, hc, h⟩ := h
    refine ⟨A, c, hv, hc, fun hn => ?_⟩
    obtain ⟨ad, hA, hb, hs, hr⟩ := h hn
    exact ⟨ad, hA, hb, hs, RdR.keep hk sz ad hb 0 ds hr⟩
theorem RdL.keep {w w' : World} {B : Nat} (hk : ∀ p : Addr, p.block < B → w'.cell? p = w.cell? p) (ad : Addr) (hb : ad.block < B) : ∀ (o : Nat) (ds : List Dat), RdL w B ad o ds → RdL w' B ad o ds
  | _, [], _ => trivial
  | o, d :: ds, h => by
    obtain ⟨⟨v, hv, hd⟩, h2⟩ := h
    exact ⟨⟨v, (hk _ (by rw [block_of_add]; exact hb)).trans hv, RdC.keep hk d v hd⟩, RdL.keep hk ad hb (o + 1) ds h2⟩
theorem RdR.keep {w w' : World} {B : Nat} (hk : ∀ p : Addr, p.block < B → w'.cell? p = w.cell? p) (sz : Nat) (ad : Addr) (hb : ad.block < B) : ∀ (o : Nat) (rs : List (List Dat)), RdR w B sz ad o rs → RdR w' B sz ad o rs
  | _, [], _ => trivial
  | o, r :: rs, h => ⟨RdL.keep hk ad hb o r h.1, RdR.keep hk sz ad hb (o + sz) rs h.2⟩
end
mutual
theorem RdC.more {w : World} {B B' : Nat} (hB : B ≤ B') : ∀ (d : Dat) (v : Value), RdC w B d v → RdC w B' d v
  | .int _, _, h => h
  | .bool _, _, h => h
  | .str _, _, h => h
  | .rows _ sz ds, _, h => by
    obtain ⟨A, c, hv, hc, h⟩ := h
    refine ⟨A, c, hv, hc, fun hn => ?_⟩
    obtain ⟨ad, hA, hb, hs, hr⟩ := h hn
    exact ⟨ad, hA, Nat.lt_of_lt_of_le hb hB, hs, RdR.more hB sz ad 0 ds hr⟩
theorem RdL.more {w : World} {B B' : Nat} (hB : B ≤ B') (ad : Addr) : ∀ (o : Nat) (ds : List Dat), RdL w B ad o ds → RdL w B' ad o ds
  | _, [], _ => trivial
  | o, d :: ds, h => by
    obtain ⟨⟨v, hv, hd⟩, h2⟩ := h
    exact ⟨⟨v, hv, RdC.more hB d v hd⟩, RdL.more hB ad (o + 1) ds h2⟩
theorem RdR.more {w : World} {B B' : Nat} (hB : B ≤ B') (sz : Nat) (ad : Addr) : ∀ (o : Nat) (rs : List (List Dat)), RdR w B sz ad o rs → RdR w B' sz ad o rs
  | _, [], _ => trivial
  | o, r :: rs, h => ⟨RdL.more hB ad o r h.1, RdR.more hB sz ad (o + sz) rs h.2⟩
end
theorem RdC.below {w w' : World} {B : Nat} {d : Dat} {v : Value} (h : RdC w B d v) (hb : Below B w w') : RdC w' B d v := RdC.keep (fun _ hp => hb.cell hp) d v h
theorem RdC.past {w w' : World} {d : Dat} {v : Value} (h : RdC w w.heap.size d v) (hb : Below w.heap.size w w') : RdC w' w'.heap.size d v := RdC.more hb.size d v (h.below hb)
theorem RdC.drew {w : World} {B : Nat} {d : Dat} {v : Value} (h : RdC w B d v) : RdC w.drew B d v := RdC.keep (w := w) (w' := w.drew) (fun _ _ => rfl) d v h
theorem RdC.drewS {w : World} {d : Dat} {v : Value} (h : RdC w w.heap.size d v) : RdC w.drew w.drew.heap.size d v := h.drew
theorem RdR.at_ {w : World} {B sz : Nat} {ad : Addr} : ∀ {rs : List (List Dat)} {o i : Nat} {r : List Dat}, RdR w B sz ad o rs → rs[i]? = some r → RdL w B ad (o + i * sz) r
  | [], _, _, _, _, h => by simp at h
  | r :: rs, o, 0, q, h, hq => by
    simp at hq
    subst hq
    simpa using h.1
  | r :: rs, o, i + 1, q, h, hq => by
    have := RdR.at_ (rs := rs) (o := o + sz) (i := i) (r := q) h.2 (by simpa using hq)
    rw [show o + (i + 1) * sz = o + sz + i * sz by rw [Nat.add_mul]; omega]
    exact this
/-- a slice's element -/
theorem RdC.at_ {w : World} {B sz : Nat} {e : TypeId} {ds : List (List Dat)} {A : Option Addr} {n c i : Nat} (h : RdC w B (.rows e sz ds) (.slice A n c)) (hi : i < ds.length) :
    ∃ ad r, A = some ad ∧ ad.block < B ∧ (sz = 1 ∨ ad.spot = none) ∧ ds[i]? = some r ∧ RdL w B ad (i * sz) r := by
  obtain ⟨A', c', hv, _, h⟩ := h
  injection hv with e1 e2 e3
  subst e1
  obtain ⟨ad, hA, hb, hs, hr⟩ := h (by omega)
  refine ⟨ad, ds[i], hA, hb, hs, List.getElem?_eq_getElem hi, ?_⟩
  have := hr.at_ (i := i) (List.getElem?_eq_getElem hi)
  simpa using this
theorem RdC.len {w : World} {B sz : Nat} {e : TypeId} {ds : List (List Dat)} {v : Value} (h : RdC w B (.rows e sz ds) v) : ∃ A c, v = .slice A ds.length c ∧ ds.length ≤ c := by
  obtain ⟨A, c, hv, hc, _⟩ := h
  exact ⟨A, c, hv, hc⟩

mutual
/-- the value v owns the datum; bs are its blocks -/
def OwC (w : World) : Dat → Value → List Nat → Prop
  | .int n, v, bs => v = .int .i64 n ∧ bs = []
  | .bool b, v, bs => v = .bool b ∧ bs = []
  | .str s, v, bs => v = .string s ∧ bs = []
  | .rows e sz ds, v, bs => ∃ xs cs, w.ownsRow 0 e sz v ds.length xs ∧ OwR w sz ds xs cs ∧ bs = v.ownBlock.toList ++ cs
def OwL (w : World) : List Dat → List Value → List Nat → Prop
  | [], xs, bs => xs = [] ∧ bs = []
  | d :: ds, xs, bs => ∃ x xs' b b', xs = x :: xs' ∧ bs = b ++ b' ∧ OwC w d x b ∧ OwL w ds xs' b'
def OwR (w : World) (sz : Nat) : List (List Dat) → List Value → List Nat → Prop
  | [], xs, bs => xs = [] ∧ bs = []
  | r :: rs, xs, bs => ∃ y ys b b', xs = y ++ ys ∧ y.length = sz ∧ bs = b ++ b' ∧ OwL w r y b ∧ OwR w sz rs ys b'
end

mutual
theorem OwC.keep {w w' : World} : ∀ (d : Dat) (v : Value) (bs : List Nat), OwC w d v bs → (∀ b ∈ bs, w'.heap[b]? = w.heap[b]?) → OwC w' d v bs
  | .int _, _, _, h, _ => h
  | .bool _, _, _, h, _ => h
  | .str _, _, _, h, _ => h
  | .rows e sz ds, v, bs, h, hk => by
    obtain ⟨xs, cs, ho, hr, hb⟩ := h
    refine ⟨xs, cs, own_keep ho (fun k hk1 _ => hk k (by rw [hb, hk1]; simp)), OwR.keep sz ds xs cs hr (fun b hb' => hk b (by rw [hb]; simp [hb'])), hb⟩
theorem OwL.keep {w w' : World} : ∀ (ds : List Dat) (xs : List Value) (bs : List Nat), OwL w ds xs bs → (∀ b ∈ bs, w'.heap[b]? = w.heap[b]?) → OwL w' ds xs bs
  | [], _, _, h, _ => h
  | d :: ds, xs, bs, h, hk => by
    obtain ⟨x, xs', b, b', hx, hb, h1, h2⟩ := h
    exact ⟨x, xs', b, b', hx, hb, OwC.keep d x b h1 (fun q hq => hk q (by rw [hb]; simp [hq])), OwL.keep ds xs' b' h2 (fun q hq => hk q (by rw [hb]; simp [hq]))⟩
theorem OwR.keep {w w' : World} (sz : Nat) : ∀ (rs : List (List Dat)) (xs : List Value) (bs : List Nat), OwR w sz rs xs bs → (∀ b ∈ bs, w'.heap[b]? = w.heap[b]?) → OwR w' sz rs xs bs
  | [], _, _, h, _ => h
  | r :: rs, xs, bs, h, hk => by
    obtain ⟨y, ys, b, b', hx, hl, hb, h1, h2⟩ := h
    exact ⟨y, ys, b, b', hx, hl, hb, OwL.keep r y b h1 (fun q hq => hk q (by rw [hb]; simp [hq])), OwR.keep sz rs ys b' h2 (fun q hq => hk q (by rw [hb]; simp [hq]))⟩
end

theorem own_cells {w : World} {e : TypeId} {size g n cap : Nat} {xs : List Value} (h : w.ownsRow 0 e size (.slice (some ⟨g, 0, none⟩) n cap) n xs) : ∀ (j : Nat) (x : Value), xs[j]? = some x → w.cell? ⟨g, j, none⟩ = some x := fun j x hx => by
  have hj : j < xs.length := idx_lt hx
  rw [h.cellAt j (by rw [← h.1]; exact hj), hx]

theorem own_blk0 {w : World} {base n size : Nat} {v : Value} {e : TypeId} {xs : List Value} (h : w.ownsRow base e size v n xs) {k : Nat} (hk : v.ownBlock = some k) : ∃ cur, w.heap[k]? = some (.cells cur e (0, 0)) := by
  rcases h.2 with ⟨rfl, _⟩ | ⟨g, cap, cur, rfl, hge, hh, _⟩
  · simp [Value.ownBlock] at hk
  · have : g = k := by simpa [Value.ownBlock] using hk
    subst this
    exact ⟨cur, hh⟩
theorem own_in {w : World} {base n size : Nat} {v : Value} {e : TypeId} {xs : List Value} (h : w.ownsRow base e size v n xs) {k : Nat} (hk : v.ownBlock = some k) : k < w.heap.size := by
  obtain ⟨cur, hh⟩ := own_blk0 h hk
  exact lt_of_some hh
theorem add_at (b off i : Nat) : (⟨b, off, none⟩ : Addr).add i = ⟨b, off + i, none⟩ := by
  unfold Addr.add
  split
  · rename_i h; subst h; rfl
  · rfl
theorem add_plain0 (g o : Nat) : (⟨g, 0, none⟩ : Addr).add o = ⟨g, o, none⟩ := by
  unfold Addr.add
  split
  · rename_i h; subst h; rfl
  · simp

mutual
theorem OwC.lt {w : World} : ∀ (d : Dat) (v : Value) (bs : List Nat), OwC w d v bs → ∀ b ∈ bs, b < w.heap.size
  | .int _, _, _, h, b, hb => by obtain ⟨_, h⟩ := h; subst h; simp at hb
  | .bool _, _, _, h, b, hb => by obtain ⟨_, h⟩ := h; subst h; simp at hb
  | .str _, _, _, h, b, hb => by obtain ⟨_, h⟩ := h; subst h; simp at hb
  | .rows e sz ds, v, bs, h, b, hb => by
    obtain ⟨xs, cs, ho, hr, hbs⟩ := h
    rw [hbs] at hb
    rcases List.mem_append.1 hb with hb | hb
    · obtain ⟨cur, hh⟩ := own_blk0 ho (by simpa using hb)
      exact lt_of_some hh
    · exact OwR.lt sz ds xs cs hr b hb
theorem OwL.lt {w : World} : ∀ (ds : List Dat) (xs : List Value) (bs : List Nat), OwL w ds xs bs → ∀ b ∈ bs, b < w.heap.size
  | [], _, _, h, b, hb => by obtain ⟨_, h⟩ := h; subst h; simp at hb
  | d :: ds, xs, bs, h, b, hb => by
    obtain ⟨x, xs', b1, b2, hx, hbs, h1, h2⟩ := h
    rw [hbs] at hb
    rcases List.mem_append.1 hb with hb | hb
    · exact OwC.lt d x b1 h1 b hb
    · exact OwL.lt ds xs' b2 h2 b hb
theorem OwR.lt {w : World} (sz : Nat) : ∀ (rs : List (List Dat)) (xs : List Value) (bs : List Nat), OwR w sz rs xs bs → ∀ b ∈ bs, b < w.heap.size
  | [], _, _, h, b, hb => by obtain ⟨_, h⟩ := h; subst h; simp at hb
  | r :: rs, xs, bs, h, b, hb => by
    obtain ⟨y, ys, b1, b2, hx, hl, hbs, h1, h2⟩ := h
    rw [hbs] at hb
    rcases List.mem_append.1 hb with hb | hb
    · exact OwL.lt r y b1 h1 b hb
    · exact OwR.lt sz rs ys b2 h2 b hb
end

mutual
/-- what is owned can be read -/
theorem OwC.read {w : World} {B : Nat} : ∀ (d : Dat) (v : Value) (bs : List Nat), OwC w d v bs → (∀ b ∈ bs, b < B) → RdC w B d v
  | .int _, _, _, h, _ => h.1
  | .bool _, _, _, h, _ => h.1
  | .str _, _, _, h, _ => h.1
  | .rows e sz ds, v, bs, h, hk => by
    obtain ⟨xs, cs, ho, hr, hb⟩ := h
    rcases ho.2 with ⟨rfl, h0⟩ | ⟨g, cap, cur, rfl, _, _, hnc, _⟩
    · exact ⟨none, 0, by rw [h0], by omega, fun hn => absurd h0 (by omega)⟩
    · refine ⟨_, cap, rfl, hnc, fun hn => ⟨_, rfl, hk g (by rw [hb]; simp [Value.ownBlock]), .inr rfl, ?_⟩⟩
      refine OwR.read sz g 0 ds xs cs hr (fun b hb' => hk b (by rw [hb]; simp [hb'])) (fun j x hx => ?_)
      rw [Nat.zero_add]
      exact own_cells ho j x hx
theorem OwL.read {w : World} {B : Nat} (g : Nat) : ∀ (o : Nat) (ds : List Dat) (xs : List Value) (bs : List Nat), OwL w ds xs bs → (∀ b ∈ bs, b < B) → (∀ (j : Nat) (x : Value), xs[j]? = some x → w.cell? ⟨g, o + j, none⟩ = some x) → RdL w B ⟨g, 0, none⟩ o ds
  | _, [], _, _, _, _, _ => trivial
  | o, d :: ds, xs, bs, h, hk, hc => by
    obtain ⟨x, xs', b, b', hx, hb, h1, h2⟩ := h
    refine ⟨⟨x, ?_, OwC.read d x b h1 (fun q hq => hk q (by rw [hb]; simp [hq]))⟩, OwL.read g (o + 1) ds xs' b' h2 (fun q hq => hk q (by rw [hb]; simp [hq])) (fun j y hy => ?_)⟩
    · rw [add_plain0]; exact hc 0 x (by rw [hx]; rfl)
    · have := hc (j + 1) y (by rw [hx]; simpa using hy)
      rwa [show o + (j + 1) = o + 1 + j by omega] at this
theorem OwR.read {w : World} {B : Nat} (sz g : Nat) : ∀ (o : Nat) (rs : List (List Dat)) (xs : List Value) (bs : List Nat), OwR w sz rs xs bs → (∀ b ∈ bs, b < B) → (∀ (j : Nat) (x : Value), xs[j]? = some x → w.cell? ⟨g, o + j, none⟩ = some x) → RdR w B sz ⟨g, 0, none⟩ o rs
  | _, [], _, _, _, _, _ => trivial
  | o, r :: rs, xs, bs, h, hk, hc => by
    obtain ⟨y, ys, b, b', hx, hl, hb, h1, h2⟩ := h
    refine ⟨OwL.read g o r y b h1 (fun q hq => hk q (by rw [hb]; simp [hq])) (fun j x hj => hc j x ?_), OwR.read sz g (o + sz) rs ys b' h2 (fun q hq => hk q (by rw [hb]; simp [hq])) (fun j x hj => ?_)⟩
    · rw [hx, List.getElem?_append_left (idx_lt hj)]; exact hj
    · have := hc (sz + j) x (by rw [hx, List.getElem?_append_right (by omega), hl]; simpa using hj)
      rwa [← Nat.add_assoc] at this
end

/-- v is a datum of the caller's own, in blocks from lo to below hi, all apart -/
def Own (lo hi : Nat) (w : World) (d : Dat) (v : Value) : Prop := ∃ bs, OwC w d v bs ∧ bs.Nodup ∧ (∀ b ∈ bs, lo ≤ b ∧ b < hi) ∧ hi ≤ w.heap.size ∧ lo ≤ hi
theorem Own.past {lo hi : Nat} {w w' : World} {d : Dat} {v : Value} (h : Own lo hi w d v) (hb : Below w.heap.size w w') : Own lo hi w' d v := by
  obtain ⟨bs, h1, h2, h3, h4, h5⟩ := h
  exact ⟨bs, OwC.keep d v bs h1 (fun b hb' => hb.block b (OwC.lt d v bs h1 b hb')), h2, h3, Nat.le_trans h4 hb.size, h5⟩
theorem Own.apart {lo hi : Nat} {w w' : World} {d : Dat} {v : Value} {T : Nat → Prop} (h : Own lo hi w d v) (ht : Touch T w w') (hT : ∀ b, lo ≤ b → b < hi → ¬ T b) : Own lo hi w' d v := by
  obtain ⟨bs, h1, h2, h3, h4, h5⟩ := h
  exact ⟨bs, OwC.keep d v bs h1 (fun b hb => ht.block b (hT b (h3 b hb).1 (h3 b hb).2)), h2, h3, by rw [ht.size]; exact h4, h5⟩
theorem Own.read {lo hi : Nat} {w : World} {d : Dat} {v : Value} (h : Own lo hi w d v) : RdC w w.heap.size d v := by
  obtain ⟨bs, h1, h2, h3, h4, h5⟩ := h
  exact OwC.read d v bs h1 (fun b hb => Nat.lt_of_lt_of_le (h3 b hb).2 h4)
theorem Own.wide {lo hi lo' hi' : Nat} {w : World} {d : Dat} {v : Value} (h : Own lo hi w d v) (h1 : lo' ≤ lo) (h2 : hi ≤ hi') (h3 : hi' ≤ w.heap.size) : Own lo' hi' w d v := by
  obtain ⟨bs, k1, k2, k3, k4, k5⟩ := h
  exact ⟨bs, k1, k2, fun b hb => by have := k3 b hb; omega, h3, by omega⟩
theorem Own.slice {lo hi sz : Nat} {w : World} {e : TypeId} {ds : List (List Dat)} {v : Value} (h : Own lo hi w (.rows e sz ds) v) : ∃ A c, v = .slice A ds.length c ∧ ds.length ≤ c := h.read.len
/-- it returns a datum of its own -/
def OwnPost (d : Dat) (w : World) (e : Ending) (w' : World) : Prop := ∃ v, e = .returned v ∧ Own w.heap.size w'.heap.size w' d v ∧ Below w.heap.size w w'
end Go.Proofs.Ytemhhjagdfkmfaa.low
