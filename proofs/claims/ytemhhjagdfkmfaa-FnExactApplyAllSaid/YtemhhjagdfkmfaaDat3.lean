
/-
  Data in memory: numbers, parts, lists of parts as data; the words of the earlier texts (Row, PRow, PBuf) and these words say the same.
-/
import Derived.Test.YtemhhjagdfkmfaaDat2
import Derived.Test.YtemhhjagdfkmfaaBuild
namespace Go.Proofs.Ytemhhjagdfkmfaa.low
open Go.RowKit
set_option linter.unusedVariables false

def encInts (zs : List Int) : Dat := .rows 3 1 (zs.map fun z => [.int z])
def encPt (p : Pt) : List Dat := [.int p.kind, .int p.n, encInts p.signs]
def encPs (ps : List Pt) : Dat := .rows 53 3 (ps.map encPt)

theorem rdR_of {α : Type} {w : World} {B sz : Nat} {ad : Addr} (f : α → List Dat) : ∀ (xs : List α) (o : Nat), (∀ i x, xs[i]? = some x → RdL w B ad (o + i * sz) (f x)) → RdR w B sz ad o (xs.map f)
  | [], _, _ => trivial
  | x :: xs, o, h => ⟨by have := h 0 x rfl; simpa using this, rdR_of f xs (o + sz) (fun i y hy => by
      have := h (i + 1) y (by simpa using hy)
      rwa [show o + (i + 1) * sz = o + sz + i * sz by rw [Nat.add_mul]; omega] at this)⟩

theorem rd_ints {w : World} {B : Nat} {A : Option Addr} {c : Nat} {zs : List Int} (h : Row (Value.int .i64) w B A zs) (hc : zs.length ≤ c) : RdC w B (encInts zs) (.slice A zs.length c) := by
  refine ⟨A, c, by simp, by simpa using hc, fun hn => ?_⟩
  obtain ⟨ad, hA, hb, hc⟩ := h (by simpa using hn)
  refine ⟨ad, hA, hb, .inl rfl, rdR_of _ zs 0 (fun i z hz => ⟨⟨_, ?_, rfl⟩, trivial⟩)⟩
  rw [Nat.zero_add, Nat.mul_one]
  exact hc i z hz
theorem ints_rd {w : World} {B : Nat} {v : Value} {zs : List Int} (h : RdC w B (encInts zs) v) : ∃ A c, v = .slice A zs.length c ∧ Row (Value.int .i64) w B A zs ∧ zs.length ≤ c := by
  obtain ⟨A, c, hv, hc, h⟩ := h
  refine ⟨A, c, by simpa using hv, fun hn => ?_, by simpa using hc⟩
  obtain ⟨ad, hA, hb, _, hr⟩ := h (by simpa using hn)
  refine ⟨ad, hA, hb, fun k z hz => ?_⟩
  have := hr.at_ (i := k) (r := [.int z]) (by rw [List.getElem?_map, hz]; rfl)
  obtain ⟨⟨v, hv, rfl⟩, _⟩ := this
  rwa [Nat.zero_add, Nat.mul_one] at hv
theorem parts_rd {w : World} {B : Nat} {v : Value} {ps : List Pt} (h : RdC w B (encPs ps) v) : ∃ A c, v = .slice A ps.length c ∧ PRow w B A ps ∧ ps.length ≤ c := by
  obtain ⟨A, c, hv, hc, h⟩ := h
  refine ⟨A, c, by simpa using hv, fun hn => ?_, by simpa using hc⟩
  obtain ⟨ad, hA, hb, hs, hr⟩ := h (by simpa using hn)
  obtain ⟨b, off, spot⟩ := ad
  obtain rfl : spot = none := by
    rcases hs with hs | hs
    · cases hs
    · exact hs
  refine ⟨b, off, hA, hb, fun i p hp => ?_⟩
  have := hr.at_ (i := i) (r := encPt p) (by rw [List.getElem?_map, hp]; rfl)
  obtain ⟨⟨v0, h0, rfl⟩, ⟨v1, h1, rfl⟩, ⟨v2, h2, r2⟩, _⟩ := this
  obtain ⟨A', c', rfl, r3, _⟩ := ints_rd r2
  rw [add_at] at h0 h1 h2
  refine ⟨?_, ?_, A', c', ?_, r3⟩
  · simpa using h0
  · simpa [Nat.add_assoc] using h1
  · simpa [Nat.add_assoc] using h2

theorem owR_ints {w : World} : ∀ {zs : List Int} {xs : List Value} {cs : List Nat}, OwR w 1 (zs.map fun z => [Dat.int z]) xs cs → xs = zs.map (Value.int .i64) ∧ cs = []
  | [], xs, cs, h => by obtain ⟨h1, h2⟩ := h; exact ⟨h1, h2⟩
  | z :: zs, xs, cs, h => by
    obtain ⟨y, ys, b, b', hx, hl, hb, ⟨x, xs', c, c', e1, e2, ⟨e3, e4⟩, e5, e6⟩, h2⟩ := h
    obtain ⟨k1, k2⟩ := owR_ints h2
    subst e1; subst e2; subst e3; subst e4; subst e5; subst e6
    refine ⟨by rw [hx, k1]; rfl, by rw [hb, k2]; rfl⟩
theorem ints_owR (w : World) : ∀ zs : List Int, OwR w 1 (zs.map fun z => [Dat.int z]) (zs.map (Value.int .i64)) []
  | [] => ⟨rfl, rfl⟩
  | z :: zs => ⟨[.int .i64 z], zs.map (Value.int .i64), [], [], rfl, rfl, rfl, ⟨_, [], [], [], rfl, rfl, ⟨rfl, rfl⟩, rfl, rfl⟩, ints_owR w zs⟩
theorem ow_ints {w : World} {base : Nat} {v : Value} {zs : List Int} (h : w.ownsRow base 3 1 v zs.length (zs.map (Value.int .i64))) : OwC w (encInts zs) v v.ownBlock.toList :=
  ⟨zs.map (Value.int .i64), [], by simpa using own_lower h (Nat.zero_le base), ints_owR w zs, by simp⟩
theorem ints_ow {w : World} {v : Value} {zs : List Int} {bs : List Nat} (h : OwC w (encInts zs) v bs) : w.ownsRow 0 3 1 v zs.length (zs.map (Value.int .i64)) ∧ bs = v.ownBlock.toList := by
  obtain ⟨xs, cs, ho, hr, hb⟩ := h
  obtain ⟨rfl, rfl⟩ := owR_ints hr
  exact ⟨by simpa using ho, by simpa using hb⟩
theorem own_up {w : World} {lo e size n : Nat} {v : Value} {xs : List Value} (h : w.ownsRow 0 e size v n xs) (hb : ∀ k, v.ownBlock = some k → lo ≤ k) : w.ownsRow lo e size v n xs := by
  refine ⟨h.1, ?_⟩
  rcases h.2 with hn | ⟨g, cap, cur, hv, hge, hr⟩
  · exact .inl hn
  · exact .inr ⟨g, cap, cur, hv, hb g (by rw [hv]; rfl), hr⟩

/-- the blocks of slices -/
def blksOf (us : List Value) : List Nat := us.flatMap fun u => u.ownBlock.toList
theorem mem_blks {us : List Value} {k : Nat} : k ∈ blksOf us ↔ ∃ (i : Nat) (u : Value), us[i]? = some u ∧ u.ownBlock = some k := by
  unfold blksOf
  rw [List.mem_flatMap]
  constructor
  · rintro ⟨u, hu, hk⟩
    obtain ⟨i, hi⟩ := List.getElem?_of_mem hu
    exact ⟨i, u, hi, by simpa using hk⟩
  · rintro ⟨i, u, hu, hk⟩
    exact ⟨u, List.mem_of_getElem? hu, by simpa using hk⟩
theorem nodup_blks : ∀ {us : List Value}, (∀ (i j k : Nat) (u v : Value), us[i]? = some u → us[j]? = some v → u.ownBlock = some k → v.ownBlock = some k → i = j) → (blksOf us).Nodup
  | [], _ => by simp [blksOf]
  | u :: us, h => by
    have ih : (blksOf us).Nodup := nodup_blks (fun i j k a b ha hb ka kb => by
      have := h (i + 1) (j + 1) k a b (by simpa using ha) (by simpa using hb) ka kb
      omega)
    show (u.ownBlock.toList ++ blksOf us).Nodup
    rw [List.nodup_append]
    refine ⟨by cases u.ownBlock <;> simp, ih, fun a ha b hb e => ?_⟩
    subst e
    obtain ⟨i, v, hv, hk⟩ := mem_blks.1 hb
    have := h 0 (i + 1) a u v rfl (by simpa using hv) (by simpa using ha) hk
    omega
theorem blks_inj : ∀ {us : List Value}, (blksOf us).Nodup → ∀ (i j k : Nat) (u v : Value), us[i]? = some u → us[j]? = some v → u.ownBlock = some k → v.ownBlock = some k → i = j
  | [], _, i, j, k, u, v, hu, _, _, _ => by simp at hu
  | x :: us, h, i, j, k, u, v, hu, hv, ku, kv => by
    have h' : (x.ownBlock.toList ++ blksOf us).Nodup := h
    rw [List.nodup_append] at h'
    obtain ⟨_, h2, h3⟩ := h'
    cases i with
    | zero =>
      cases j with
      | zero => rfl
      | succ j =>
        simp at hu
        subst hu
        exact absurd rfl (h3 k (by simp [ku]) k (mem_blks.2 ⟨j, v, by simpa using hv, kv⟩))
    | succ i =>
      cases j with
      | zero =>
        simp at hv
        subst hv
        exact absurd rfl (h3 k (by simp [kv]) k (mem_blks.2 ⟨i, u, by simpa using hu, ku⟩))
      | succ j =>
        have := blks_inj h2 i j k u v (by simpa using hu) (by simpa using hv) ku kv
        omega
theorem parts_owR {w : World} : ∀ {ps : List Pt} {us : List Value}, us.length = ps.length → (∀ (i : Nat) (p : Pt) (u : Value), ps[i]? = some p → us[i]? = some u → OwC w (encInts p.signs) u u.ownBlock.toList) → OwR w 3 (ps.map encPt) (cellsOf ps us) (blksOf us)
  | [], [], _, _ => ⟨rfl, rfl⟩
  | [], _ :: _, h, _ => by simp at h
  | _ :: _, [], h, _ => by simp at h
  | p :: ps, u :: us, hl, h => by
    refine ⟨[.int .i64 p.kind, .int .i64 p.n, u], cellsOf ps us, u.ownBlock.toList, blksOf us, rfl, rfl, rfl, ?_, parts_owR (by simpa using hl) (fun i q v hq hv => h (i + 1) q v (by simpa using hq) (by simpa using hv))⟩
    exact ⟨_, _, [], u.ownBlock.toList, rfl, rfl, ⟨rfl, rfl⟩, _, _, [], u.ownBlock.toList, rfl, rfl, ⟨rfl, rfl⟩, u, [], u.ownBlock.toList, [], rfl, by simp, h 0 p u rfl rfl, rfl, rfl⟩
theorem owR_parts {w : World} : ∀ {ps : List Pt} {xs : List Value} {cs : List Nat}, OwR w 3 (ps.map encPt) xs cs → ∃ us : List Value, us.length = ps.length ∧ xs = cellsOf ps us ∧ cs = blksOf us ∧ ∀ (i : Nat) (p : Pt) (u : Value), ps[i]? = some p → us[i]? = some u → OwC w (encInts p.signs) u u.ownBlock.toList
  | [], xs, cs, h => by obtain ⟨h1, h2⟩ := h; exact ⟨[], rfl, h1, h2, fun i p u hp => by simp at hp⟩
  | p :: ps, xs, cs, h => by
    obtain ⟨y, ys, b, b', hx, hl, hb, ⟨x0, r0, c0, d0, a1, a2, ⟨a3, a4⟩, x1, r1, c1, d1, a5, a6, ⟨a7, a8⟩, x2, r2, c2, d2, a9, a10, a11, a12, a13⟩, h2⟩ := h
    obtain ⟨us, k1, k2, k3, k4⟩ := owR_parts h2
    have hbs := (ints_ow a11).2
    subst a13; subst a12; subst a10; subst a9; subst a8; subst a7; subst a6; subst a5; subst a4; subst a3; subst a2; subst a1; subst hbs
    refine ⟨x2 :: us, by simp [k1], by rw [hx, k2]; rfl, by rw [hb, k3]; simp [blksOf], fun i q u hq hu => ?_⟩
    cases i with
    | zero =>
      simp at hq hu
      subst hq; subst hu
      exact a11
    | succ i => exact k4 i q u (by simpa using hq) (by simpa using hu)
theorem own_parts {lo hi : Nat} {w : World} {v : Value} {ps : List Pt} (h : PBuf lo hi w v ps) : Own lo hi w (encPs ps) v := by
  obtain ⟨us, ho, ⟨hl, hu, hap⟩, hv, hh, hlo⟩ := h
  refine ⟨v.ownBlock.toList ++ blksOf us, ⟨cellsOf ps us, blksOf us, by simpa using own_lower ho (Nat.zero_le lo), parts_owR hl (fun i p u hp hu' => ow_ints (hu i p u hp hu').1), rfl⟩, ?_, fun b hb => ?_, hh, hlo⟩
  · rw [List.nodup_append]
    refine ⟨by cases v.ownBlock <;> simp, nodup_blks hap, fun a ha b hb e => ?_⟩
    subst e
    obtain ⟨i, u, hui, hk⟩ := mem_blks.1 hb
    obtain ⟨p, hp⟩ := idx_some (l := ps) (i := i) (by rw [← hl]; exact idx_lt hui)
    obtain ⟨c1, e1⟩ := own_blk (hu i p u hp hui).1 hk
    exact own_far ho e1 (by decide) (by simpa using ha)
  · rcases List.mem_append.1 hb with hb | hb
    · have : v.ownBlock = some b := by simpa using hb
      exact ⟨own_ge ho b this, hv b this⟩
    · obtain ⟨i, u, hui, hk⟩ := mem_blks.1 hb
      obtain ⟨p, hp⟩ := idx_some (l := ps) (i := i) (by rw [← hl]; exact idx_lt hui)
      obtain ⟨o1, o2⟩ := hu i p u hp hui
      exact ⟨own_ge o1 b hk, o2 b hk⟩
theorem parts_own {lo hi : Nat} {w : World} {v : Value} {ps : List Pt} (h : Own lo hi w (encPs ps) v) : PBuf lo hi w v ps := by
  obtain ⟨bs, ⟨xs, cs, ho, hr, hb⟩, hnd, hin, hh, hlo⟩ := h
  obtain ⟨us, k1, rfl, rfl, k4⟩ := owR_parts hr
  have hv : ∀ k, v.ownBlock = some k → k ∈ bs := fun k hk => by rw [hb, hk]; simp
  have hus : ∀ (i k : Nat) (u : Value), us[i]? = some u → u.ownBlock = some k → k ∈ bs := fun i k u hu hk => by rw [hb]; exact List.mem_append_right _ (mem_blks.2 ⟨i, u, hu, hk⟩)
  rw [hb, List.nodup_append] at hnd
  refine ⟨us, by simpa using own_up ho (fun k hk => (hin k (hv k hk)).1), ⟨k1, fun i p u hp hu => ⟨own_up (ints_ow (k4 i p u hp hu)).1 (fun k hk => (hin k (hus i k u hu hk)).1), fun k hk => (hin k (hus i k u hu hk)).2⟩, blks_inj hnd.2.1⟩, fun k hk => (hin k (hv k hk)).2, hh, hlo⟩
end Go.Proofs.Ytemhhjagdfkmfaa.low
