/-
  Texts that the proofs over this seat rest on, one behind the other (4 of 5).
-/
import Derived.Test.YtfpjoncaccbnmaaM3
import Derived.Test.YtfpjoncaccbnmaaM2
import Derived.RangeFuncNested
import Derived.RangeFuncBound
import Derived.OrdersHeld
import Derived.OrdersIn
import Derived.TacticsIn
import Derived.RangeFuncLeaves
import Derived.OwnWalkIn
import Derived.TacticsInMore
import Derived.LoopNIn
import Derived.LoopIn
import Derived.Deep.RegionHeld3
import Derived.Deep.WholeRow
import Derived.Laws.EntriesVeiled
import Derived.Laws.CopyOwn
import Derived.IntWalk
import Derived.Test.YtfpjoncaccbnmaaM1
import Derived.Laws.BitsLemmas

/-
  The builder inside a larger struct in one word: Bld: at o in the block g it holds what the parts L, added one by one, have made of it.
-/
namespace Go.Proofs.Ytfpjoncaccbnmaa.low.xb
open Go.RowKit
set_option linter.unusedVariables false

/-- the builder's three cells at o of what D says hold what the parts L have made; O: its blocks -/
structure BdV (O : Nat → Prop) (lo g : Nat) (w : World) (D : Nat → Option Value) (o : Nat) (L : List Pt) : Prop where
  at_ : ∃ v u us, D o = some v ∧ D (o + 1) = some u ∧ D (o + 2) = some (.int .i64 (foldN L).2.2) ∧ w.ownsRow lo 66 3 v (foldN L).1.length (cellsOf (foldN L).1 us) ∧ us.length = (foldN L).1.length ∧ Apart lo w.heap.size w ((foldN L).1 ++ [⟨2, 0, (foldN L).2.1⟩]) (us ++ [u]) ∧ (∀ k, v.ownBlock = some k → O k) ∧ ∀ (i k : Nat) (x : Value), (us ++ [u])[i]? = some x → x.ownBlock = some k → O k
  sz : ∀ p ∈ L, szP_ p
  len : L.length ≤ 100000
  old : ∀ b, O b → b < w.heap.size
  ng : ¬ O g
/-- the builder at o in the block g; the block's other cells are as C says -/
structure Bld (O : Nat → Prop) (lo g o : Nat) (C : Nat → Option Value) (w : World) (L : List Pt) : Prop where
  box : ∃ D, Blk g 100 w D ∧ BdV O lo g w D o L ∧ ∀ i, i < o ∨ o + 3 ≤ i → D i = C i
  ge : lo ≤ g
/-- blocks outside O and g are as they were; O' is O and new blocks -/
structure GrewX (O O' : Nat → Prop) (g : Nat) (w w' : World) : Prop where
  size : w.heap.size ≤ w'.heap.size
  block : ∀ b, b < w.heap.size → ¬ O b → ¬ b = g → w'.heap[b]? = w.heap[b]?
  more : ∀ b, O' b → O b ∨ w.heap.size ≤ b
def BldP (O : Nat → Prop) (lo g o : Nat) (C : Nat → Option Value) (L : List Pt) (w : World) (e : Ending) (w' : World) : Prop := e = .returned (.tuple #[]) ∧ ∃ O', Bld O' lo g o C w' L ∧ Below lo w w' ∧ GrewX O O' g w w'
theorem BdV.keep {O : Nat → Prop} {lo g o : Nat} {w w' : World} {D D' : Nat → Option Value} {L : List Pt} (h : BdV O lo g w D o L) (hsz : w.heap.size ≤ w'.heap.size) (hk : ∀ b, b < w.heap.size → O b → w'.heap[b]? = w.heap[b]?) (hD : ∀ i, o ≤ i → i < o + 3 → D' i = D i) : BdV O lo g w' D' o L := by
  obtain ⟨v, u, us, h1, h2, h3, h4, h5, h6, h7, h8⟩ := h.at_
  exact ⟨⟨v, u, us, (hD _ (by omega) (by omega)).trans h1, (hD _ (by omega) (by omega)).trans h2, (hD _ (by omega) (by omega)).trans h3, own_keep h4 (fun k k1 k2 => hk k k2 (h7 k k1)), h5, h6.keep hsz (fun i x k hxi k1 k2 => hk k k2 (h8 i k x hxi k1)), h7, h8⟩, h.sz, h.len, fun b hb => Nat.lt_of_lt_of_le (h.old b hb) hsz, h.ng⟩
section
variable {O : Nat → Prop} {lo g o : Nat} {C : Nat → Option Value} {w w' : World} {L : List Pt} {p : Pt}
theorem Bld.lt (h : Bld O lo g o C w L) : g < w.heap.size := by obtain ⟨D, h1, _⟩ := h.box; exact h1.lt
theorem Bld.low (h : Bld O lo g o C w L) : lo ≤ w.heap.size := Nat.le_trans h.ge (Nat.le_of_lt h.lt)
theorem Bld.sz (h : Bld O lo g o C w L) : ∀ p ∈ L, szP_ p := by obtain ⟨D, _, h1, _⟩ := h.box; exact h1.sz
theorem Bld.len (h : Bld O lo g o C w L) : L.length ≤ 100000 := by obtain ⟨D, _, h1, _⟩ := h.box; exact h1.len
theorem Bld.fit (h : Bld O lo g o C w L) : Fit L.length (signsIn L) (foldN L) := foldN_fitZ h.sz
theorem Bld.past (h : Bld O lo g o C w L) (hb : Below w.heap.size w w') : Bld O lo g o C w' L := by
  obtain ⟨D, h1, h2, h3⟩ := h.box
  exact ⟨⟨D, h1.past hb, h2.keep hb.size (fun b hlt _ => hb.block b hlt) (fun _ _ _ => rfl), h3⟩, h.ge⟩
theorem Bld.at_ (h : Bld O lo g o C w L) : BAtS (fun b => (O b ∨ b = g) ∨ w.heap.size ≤ b) lo g o C 100 w (foldN L).1 (foldN L).2.1 (foldN L).2.2 := by
  obtain ⟨D, hD, h2, hC⟩ := h.box
  obtain ⟨v, u, us, h1, h2, h3, h4, h5, h6, h7, h8⟩ := h2.at_
  exact ⟨v, u, us, ⟨⟨D, hD, h1, h2, h3, hC⟩, h4, h5, h.ge⟩, h6, .inl (.inr rfl), fun k hk => .inl (.inl (h7 k hk)), fun i k x hx hk => .inl (.inl (h8 i k x hx hk))⟩
theorem Bld.add (h : Bld O lo g o C w L) (hl : L.length < 100000) (hp : szP_ p) (hb : Below lo w w') (hf : Fr (fun b => (O b ∨ b = g) ∨ w.heap.size ≤ b) w w') (ha : BAtS (fun b => (O b ∨ b = g) ∨ w.heap.size ≤ b) lo g o C 100 w' (stepN (foldN L) p).1 (stepN (foldN L) p).2.1 (stepN (foldN L) p).2.2) : ∃ O', Bld O' lo g o C w' (L ++ [p]) ∧ Below lo w w' ∧ GrewX O O' g w w' := by
  obtain ⟨v, u, us, hx, ap, ho⟩ := ha
  obtain ⟨D, hD, k1, k2, k3, hC⟩ := hx.box
  refine ⟨fun b => (O b ∨ w.heap.size ≤ b) ∧ b < w'.heap.size ∧ ¬ b = g, ⟨⟨D, hD, ⟨?_, fun q hq => ?_, by simp; omega, fun b hb => hb.2.1, fun hg => hg.2.2 rfl⟩, hC⟩, h.ge⟩, hb, hf.size, fun b hlt hn hg => hf.block b hlt (fun hs => ?_), fun b hb => hb.1⟩
  · rw [foldN_app]
    have str : ∀ k, k < w'.heap.size → ¬ k = g → ((O k ∨ k = g) ∨ w.heap.size ≤ k) → (O k ∨ w.heap.size ≤ k) ∧ k < w'.heap.size ∧ ¬ k = g := fun k h1 h2 h3 => ⟨by rcases h3 with (h3 | h3) | h3; exact .inl h3; exact absurd h3 h2; exact .inr h3, h1, h2⟩
    refine ⟨v, u, us, k1, k2, k3, hx.row, hx.len, ap, fun k hk => str k (own_in hx.row hk) (fun e => hD.far hx.row (by decide) (by rw [hk, e])) (ho.2.1 k hk), fun i k x hxi hk => ?_⟩
    obtain ⟨q, hq⟩ := idx_some (l := (stepN (foldN L) p).1 ++ [⟨2, 0, (stepN (foldN L) p).2.1⟩]) (i := i) (by rw [← ap.1]; exact idx_lt hxi)
    have hox := (ap.2.1 i q x hq hxi).1
    exact str k (own_in hox hk) (fun e => hD.far hox (by decide) (by rw [hk, e])) (ho.2.2 i k x hxi hk)
  · rcases List.mem_append.1 hq with hq | hq
    · exact h.sz q hq
    · simp at hq
      subst hq
      exact hp
  · rcases hs with (hs | hs) | hs
    · exact hn hs
    · exact hg hs
    · omega
theorem BldP.pre {w1 : World} {e : Ending} (hlo : lo ≤ w.heap.size) (hb : Below w.heap.size w w1) (h : BldP O lo g o C L w1 e w') : BldP O lo g o C L w e w' := by
  obtain ⟨h1, O', h2, h3, h4⟩ := h
  exact ⟨h1, O', h2, (hb.mono hlo).trans h3, Nat.le_trans hb.size h4.size, fun b hlt hn hg => (h4.block b (Nat.lt_of_lt_of_le hlt hb.size) hn hg).trans (hb.block b hlt), fun b ho => (h4.more b ho).imp id (fun h => Nat.le_trans hb.size h)⟩
end
theorem implKeepB (O : Nat → Prop) (lo g o : Nat) (C : Nat → Option Value) (L : List Pt) (n : Int) (w : World) (hb : Bld O lo g o C w L) (h0 : 0 ≤ n) (h1 : n ≤ 200) (hl : L.length < 100000) :
    Calls Try.prog 93 #[.pointer (some ⟨g, o, none⟩), .int .i64 n] w (BldP O lo g o C (L ++ [⟨1, n, []⟩]) w) := by
  have hz : szP_ ⟨1, n, []⟩ := ⟨.inl rfl, h0, h1, by simp⟩
  by_cases hn : n = 0
  · subst hn
    refine (implKeep_zero g o w).mono ?_
    rintro e w' ⟨rfl, rfl⟩
    exact ⟨rfl, hb.add hl hz (Below.refl _ _) (Fr.refl _ _) hb.at_⟩
  · have hf := hb.fit
    have hd := hf.done
    have hsg := signsIn_le hb.sz
    have f1 := hf.len
    have f2 := hf.signs
    have hlen := hb.len
    refine (implKeep_f (fun b => (O b ∨ b = g) ∨ w.heap.size ≤ b) lo g o C _ _ _ n w hb.at_ (fun b h => .inr h) (by omega) (by omega) hn h0 (by omega) (fun p hp => by have := hd.2.2 p hp; omega) (by have := hd.1; exact Nat.le_trans this (by omega))).mono ?_
    rintro e w' ⟨rfl, hn', b, fr⟩
    refine ⟨rfl, hb.add hl hz b fr ?_⟩
    simp only [stepN, if_neg hn]
    exact hn'.at_
theorem implPutB (O : Nat → Prop) (lo g o : Nat) (C : Nat → Option Value) (L : List Pt) (A : Option Addr) (c m : Nat) (zs : List Int) (w : World) (hb : Bld O lo g o C w L) (hr : Row (Value.int .i64) w w.heap.size A zs) (hm : zs.length = m) (h1 : zs.length ≤ 200) (hl : L.length < 100000) :
    Calls Try.prog 94 #[.pointer (some ⟨g, o, none⟩), .slice A m c] w (BldP O lo g o C (L ++ [⟨2, 0, zs⟩]) w) := by
  subst hm
  have hz : szP_ ⟨2, 0, zs⟩ := ⟨.inr (.inl rfl), by simp, by simp, h1⟩
  have hsg := signsIn_le hb.sz
  have f2 := hb.fit.signs
  have hlen := hb.len
  refine (implPut_f (fun b => (O b ∨ b = g) ∨ w.heap.size ≤ b) lo g o C _ _ _ A c zs w hb.at_ (fun b h => .inr h) hr (by omega) (by omega)).mono ?_
  rintro e w' ⟨rfl, ha, b, fr⟩
  exact ⟨rfl, hb.add hl hz b fr ha⟩
theorem implDropB (O : Nat → Prop) (lo g o : Nat) (C : Nat → Option Value) (L : List Pt) (n : Int) (w : World) (hb : Bld O lo g o C w L) (h0 : 0 ≤ n) (h1 : n ≤ 200) (hl : L.length < 100000) :
    Calls Try.prog 95 #[.pointer (some ⟨g, o, none⟩), .int .i64 n] w (BldP O lo g o C (L ++ [⟨3, n, []⟩]) w) := by
  have hz : szP_ ⟨3, n, []⟩ := ⟨.inr (.inr rfl), h0, h1, by simp⟩
  have f3 := hb.fit.d0
  have f4 := hb.fit.d1
  have hlen := hb.len
  refine (implDrop_f (fun b => (O b ∨ b = g) ∨ w.heap.size ≤ b) lo g o C _ _ _ n w hb.at_ (fun b h => .inr h) f3 (by omega) h0 (by omega)).mono ?_
  rintro e w' ⟨rfl, ha, b, fr⟩
  exact ⟨rfl, hb.add hl hz b fr ha⟩
theorem parts_far {g : Nat} {T : TypeId} {w : World} {D : Nat → Option Value} {ps : List Pt} {v : Value} {b : List Nat} (hD : Blk g T w D) (h1 : ¬ T = 3) (h2 : ¬ T = 66) (h : OwC w (encPs ps) v b) : ∀ x ∈ b, ¬ x = g := fun x hx e => by
  subst e
  obtain ⟨xs, cs, hox, hor, hb⟩ := h
  rw [hb] at hx
  rcases List.mem_append.1 hx with hx | hx
  · exact hD.far hox h2 (by simpa using hx)
  · obtain ⟨us2, k1, k2, k3, k4⟩ := owR_parts hor
    rw [k3] at hx
    obtain ⟨i, u, hui, hk⟩ := mem_blks.1 hx
    obtain ⟨q, hq⟩ := idx_some (l := ps) (i := i) (by rw [← k1]; exact idx_lt hui)
    exact hD.far (ints_ow (k4 i q u hq hui)).1 h1 hk
/-- it returns the built parts, in blocks of the builder or new ones; the block's other cells are as they were -/
def DoneX (O : Nat → Prop) (lo g o : Nat) (C : Nat → Option Value) (L : List Pt) (w : World) (e : Ending) (w' : World) : Prop := ∃ v b, e = .returned v ∧ OwB lo w'.heap.size w' (encPs (doneN (foldN L))) v b ∧ (∀ x ∈ b, (O x ∨ w.heap.size ≤ x) ∧ ¬ x = g) ∧ Below lo w w' ∧ GrewX O (fun x => x ∈ b) g w w' ∧ ∃ D, Blk g 100 w' D ∧ ∀ i, i < o ∨ o + 3 ≤ i → D i = C i
theorem implDoneB (O : Nat → Prop) (lo g o : Nat) (C : Nat → Option Value) (L : List Pt) (w : World) (hb : Bld O lo g o C w L) :
    Calls Try.prog 68 #[.pointer (some ⟨g, o, none⟩)] w (DoneX O lo g o C L w) := by
  have f1 := hb.fit.len
  have hlen := hb.len
  have hsg := signsIn_le hb.sz
  have f2 := hb.fit.signs
  refine (implDone_f (fun b => (O b ∨ b = g) ∨ w.heap.size ≤ b) lo g o C _ _ _ w hb.at_ (fun b h => .inr h) (by omega) (by omega)).mono ?_
  rintro e w' ⟨h, v1, u1, us1, hx⟩
  obtain ⟨v, b, h1, h2, h3, h4, h5⟩ := GoneS.done (O := fun b => O b ∨ b = g) h
  obtain ⟨D, hD, _, _, _, hC⟩ := hx.box
  have far := parts_far hD (by decide) (by decide) h2.ow
  have str : ∀ x ∈ b, (O x ∨ w.heap.size ≤ x) ∧ ¬ x = g := fun x hxb => ⟨by rcases h3 x hxb with (k | k) | k; exact .inl k; exact absurd k (far x hxb); exact .inr k, far x hxb⟩
  exact ⟨v, b, h1, h2, str, h4, ⟨h5.size, fun x hlt hn hg => h5.block x hlt (fun k => by rcases k with k | k; exact hn k; exact hg k), fun x hxb => (str x hxb).1⟩, D, hD, hC⟩
set_option maxRecDepth 100000 in
set_option maxHeartbeats 1600000 in
theorem implAddB (O : Nat → Prop) (lo g o : Nat) (C : Nat → Option Value) (L : List Pt) (p : Pt) (v : Value) (w : World) (hb : Bld O lo g o C w L) (hv : PtV lo w p v) (hp : Vp p) (hk : ¬ p.kind = 0) (hl : L.length < 100000) :
    Calls Try.prog 71 #[.pointer (some ⟨g, o, none⟩), v] w (BldP O lo g o C (L ++ [p]) w) := by
  obtain ⟨A, c, rfl, hr⟩ := hv
  have hlo := hb.low
  have hrow := rd_row hr
  obtain ⟨pk, pn, pz⟩ := p
  have hsz := hp.size
  simp only at hk hr hrow hsz ⊢
  have hat := hb.past (alloc_below w (.cells #[.int .i64 pk, .int .i64 pn, .slice A pz.length c] 66))
  have bel := alloc_below w (.cells #[.int .i64 pk, .int .i64 pn, .slice A pz.length c] 66)
  have hrow1 : Row (Value.int .i64) (w.alloc (.cells #[.int .i64 pk, .int .i64 pn, .slice A pz.length c] 66)) (w.alloc (.cells #[.int .i64 pk, .int .i64 pn, .slice A pz.length c] 66)).heap.size A pz := (rd_row (hr.below (bel.mono hlo))).more (by simp; omega)
  have HAT := Lib.hid hat
  have HROW := Lib.hid hrow1
  clear hat hrow hrow1 hr hb
  rcases hp with ⟨h1, h2, h3, h4⟩ | ⟨h1, h2, h3⟩ | ⟨h1, h2, h3⟩
  · simp only at h1 h2 h3 h4
    subst h4
    rcases h1 with rfl | rfl
    · go_enter Try.func71, Try.ntmps71
      go_wp2_with fail
      refine (implKeepB O lo g o C L pn _ HAT.out h2 h3 hl).mono ?_
      intro e w3 hq
      have HQ := Lib.hid (BldP.pre hlo bel hq)
      have he := hq.1
      clear hq
      subst he
      go_wp2
      go_end0
      exact HQ.out
    · go_enter Try.func71, Try.ntmps71
      go_wp2_with fail
      refine (implDropB O lo g o C L pn _ HAT.out h2 h3 hl).mono ?_
      intro e w3 hq
      have HQ := Lib.hid (BldP.pre hlo bel hq)
      have he := hq.1
      clear hq
      subst he
      go_wp2
      go_end0
      exact HQ.out
  · simp only at h1 h2 h3
    subst h1 h2
    go_enter Try.func71, Try.ntmps71
    go_wp2_with fail
    refine (implPutB O lo g o C L A c pz.length pz _ HAT.out HROW.out rfl h3 hl).mono ?_
    intro e w3 hq
    have HQ := Lib.hid (BldP.pre hlo bel hq)
    have he := hq.1
    clear hq
    subst he
    go_wp2
    go_end0
    exact HQ.out
  · exact absurd h1 hk
end Go.Proofs.Ytfpjoncaccbnmaa.low.xb


/-
  The program's transformation: its state (two readers and two builders in one block, blocks that stay), and the contracts of what it calls in the words of that state.
-/
namespace Go.Proofs.Ytfpjoncaccbnmaa.low.xb
open Go.RowKit
set_option linter.unusedVariables false

/-- what stays: the part of the memory that is the caller's, the block of the state, the world at the start -/
structure Fy where
  lo : Nat
  g : Nat
  w0 : World
/-- the state: the readers stand at p, ps and q, qs; the builders hold L and M; the blocks of KL hold what KL says -/
structure Xs (F : Fy) (KL : List (Nat × Obj)) (O P : Nat → Prop) (L M : List Pt) (w : World) (p : Pt) (ps : List Pt) (q : Pt) (qs : List Pt) : Prop where
  box : ∃ D, Blk F.g 100 w D ∧ RdV F.lo w D 0 p ps ∧ RdV F.lo w D 4 q qs ∧ BdV O F.lo F.g w D 8 L ∧ BdV P F.lo F.g w D 11 M
  ge : F.lo ≤ F.g
  dis : ∀ b, O b → ¬ P b
  kp : ∀ x ∈ KL, w.heap[x.1]? = some x.2 ∧ F.lo ≤ x.1 ∧ ¬ x.1 = F.g ∧ ¬ O x.1 ∧ ¬ P x.1
  bl : Below F.lo F.w0 w
section
variable {F : Fy} {KL : List (Nat × Obj)} {O O' P P' : Nat → Prop} {L L' M M' : List Pt} {w w' : World} {p p' : Pt} {ps ps' : List Pt} {q q' : Pt} {qs qs' : List Pt}
theorem Xs.lt (h : Xs F KL O P L M w p ps q qs) : F.g < w.heap.size := by obtain ⟨D, h1, _⟩ := h.box; exact h1.lt
theorem Xs.low (h : Xs F KL O P L M w p ps q qs) : F.lo ≤ w.heap.size := Nat.le_trans h.ge (Nat.le_of_lt h.lt)
theorem Xs.vp (h : Xs F KL O P L M w p ps q qs) : Vp p := by obtain ⟨D, _, h1, _⟩ := h.box; exact h1.2.1
theorem Xs.vq (h : Xs F KL O P L M w p ps q qs) : Vp q := by obtain ⟨D, _, _, h1, _⟩ := h.box; exact h1.2.1
theorem Xs.past (h : Xs F KL O P L M w p ps q qs) (hb : Below w.heap.size w w') : Xs F KL O P L M w' p ps q qs := by
  have hl := hb.mono h.low
  obtain ⟨D, h1, h2, h3, h4, h5⟩ := h.box
  exact ⟨⟨D, h1.past hb, h2.keep hl (fun _ _ _ => rfl), h3.keep hl (fun _ _ _ => rfl), h4.keep hb.size (fun b hlt _ => hb.block b hlt) (fun _ _ _ => rfl), h5.keep hb.size (fun b hlt _ => hb.block b hlt) (fun _ _ _ => rfl)⟩, h.ge, h.dis, fun x hx => let ⟨k1, k2⟩ := h.kp x hx; ⟨(hb.block _ (lt_of_some k1)).trans k1, k2⟩, h.bl.trans hl⟩
theorem Xs.drew (h : Xs F KL O P L M w p ps q qs) : Xs F KL O P L M w.drew p ps q qs := h.past ((Below.refl _ _).drew)
/-- a block more that stays: one that lies beyond all blocks that stood -/
theorem Xs.also (h : Xs F KL O P L M w p ps q qs) (hb : Below w.heap.size w w') {b : Nat} {x : Obj} (hbl : w.heap.size ≤ b) (ho : w'.heap[b]? = some x) : Xs F ((b, x) :: KL) O P L M w' p ps q qs := by
  have h' := h.past hb
  refine ⟨h'.box, h'.ge, h'.dis, fun y hy => ?_, h'.bl⟩
  obtain ⟨D, _, _, _, h4, h5⟩ := h.box
  rcases List.mem_cons.1 hy with rfl | hy
  · exact ⟨ho, Nat.le_trans h.low hbl, by have := h.lt; show ¬ b = F.g; omega, fun hO => by have := h4.old _ hO; simp at this; omega, fun hP => by have := h5.old _ hP; simp at this; omega⟩
  · exact h'.kp y hy
theorem Xs.less {KM : List (Nat × Obj)} (h : Xs F KL O P L M w p ps q qs) (hs : ∀ x ∈ KM, x ∈ KL) : Xs F KM O P L M w p ps q qs := ⟨h.box, h.ge, h.dis, fun x hx => h.kp x (hs x hx), h.bl⟩
theorem Xs.fresh {m : Nat} (h : Xs F KL O P L M w p ps q qs) (hm : w.heap.size ≤ m) : ∀ x ∈ KL, ¬ x.1 = m := fun x hx e => by
  have := lt_of_some (h.kp x hx).1
  omega
/-- a cell of a block that stays is written -/
theorem Xs.setK {m i : Nat} {cs : Array Value} {T : TypeId} (h : Xs F ((m, .cells cs T (0, 0)) :: KL) O P L M w p ps q qs) (hn : ∀ x ∈ KL, ¬ x.1 = m) (v : Value) : Xs F ((m, .cells (cs.setIfInBounds i v) T (0, 0)) :: KL) O P L M (w.setCell ⟨m, i, none⟩ v) p ps q qs := by
  obtain ⟨h1, h2, h3, h4, h5⟩ := h.kp (m, .cells cs T (0, 0)) (by simp)
  simp only at h1 h2 h3 h4 h5
  have hb : Below F.lo w (w.setCell ⟨m, i, none⟩ v) := (Below.refl F.lo w).setCell (p := ⟨m, i, none⟩) h2 _
  have other : ∀ b, ¬ b = m → (w.setCell ⟨m, i, none⟩ v).heap[b]? = w.heap[b]? := fun b hb => Below.heap_setCell _ _ _ _ hb
  obtain ⟨D, k1, k2, k3, k4, k5⟩ := h.box
  refine ⟨⟨D, k1.keep (other _ (fun e => h3 e.symm)), k2.keep hb (fun _ _ _ => rfl), k3.keep hb (fun _ _ _ => rfl), k4.keep hb.size (fun b _ ho => other b (fun e => h4 (by rw [← e]; exact ho))) (fun _ _ _ => rfl), k5.keep hb.size (fun b _ ho => other b (fun e => h5 (by rw [← e]; exact ho))) (fun _ _ _ => rfl)⟩, h.ge, h.dis, fun x hx => ?_, h.bl.trans hb⟩
  rcases List.mem_cons.1 hx with rfl | hx
  · exact ⟨heap_setCell_same _ _ _ _ _ _ h1, h2, h3, h4, h5⟩
  · obtain ⟨k1, k2⟩ := h.kp x (by simp [hx])
    exact ⟨(other _ (hn x hx)).trans k1, k2⟩
theorem Xs.cellK {m i : Nat} {cs : Array Value} {T : TypeId} {v : Value} (h : Xs F KL O P L M w p ps q qs) (hm : (m, Obj.cells cs T (0, 0)) ∈ KL) (hv : cs[i]? = some v) : w.cell? ⟨m, i, none⟩ = some v := (cell_of_row _ _ i _ _ _ (h.kp _ hm).1).trans hv
theorem Xs.freeK {m : Nat} {cs : Array Value} {T : TypeId} (h : Xs F KL O P L M w p ps q qs) (hm : (m, Obj.cells cs T (0, 0)) ∈ KL) (i : Nat) : w.frozen? ⟨m, i, none⟩ = false := by
  have := (h.kp _ hm).1
  simp only at this
  simp [World.frozen?, this]
/-- cells of the block at hand -/
theorem Xs.cellsA (h : Xs F KL O P L M w p ps q qs) : ∃ B cb, w.cell? ⟨F.g, 0, none⟩ = some (.int .i64 p.kind) ∧ w.cell? ⟨F.g, 1, none⟩ = some (.int .i64 p.n) ∧ w.cell? ⟨F.g, 2, none⟩ = some (.slice B p.signs.length cb) ∧ RdC w F.lo (encInts p.signs) (.slice B p.signs.length cb) := by
  obtain ⟨D, h1, ⟨⟨B, cb, A, c, d0, d1, d2, d3, h2, h3⟩, _⟩, _⟩ := h.box
  exact ⟨B, cb, (h1.cell 0).trans d0, (h1.cell 1).trans d1, (h1.cell 2).trans d2, h2⟩
theorem Xs.cellsB (h : Xs F KL O P L M w p ps q qs) : ∃ B cb, w.cell? ⟨F.g, 4, none⟩ = some (.int .i64 q.kind) ∧ w.cell? ⟨F.g, 5, none⟩ = some (.int .i64 q.n) ∧ w.cell? ⟨F.g, 6, none⟩ = some (.slice B q.signs.length cb) ∧ RdC w F.lo (encInts q.signs) (.slice B q.signs.length cb) := by
  obtain ⟨D, h1, _, ⟨⟨B, cb, A, c, d0, d1, d2, d3, h2, h3⟩, _⟩, _⟩ := h.box
  exact ⟨B, cb, (h1.cell 4).trans d0, (h1.cell 5).trans d1, (h1.cell 6).trans d2, h2⟩
theorem Xs.movA {D : Nat → Option Value} (h : Xs F KL O P L M w p ps q qs) (hrb : RdV F.lo w D 4 q qs) (hx : BdV O F.lo F.g w D 8 L) (hy : BdV P F.lo F.g w D 11 M) (ho : Orr F.lo F.g 0 D w' p' ps') (hb : Below F.lo w w') (hf : Fr (fun b => b = F.g) w w') : Xs F KL O P L M w' p' ps' q qs := by
  obtain ⟨D', k1, k2, k3⟩ := ho.box
  have ng := hx.ng
  have ng' := hy.ng
  exact ⟨⟨D', k1, k2, hrb.keep hb (fun i _ _ => k3 i (by omega)), hx.keep hf.size (fun b hlt ho => hf.block b hlt (fun e => ng (by have e' : b = F.g := e; rw [← e']; exact ho))) (fun i _ _ => k3 i (by omega)), hy.keep hf.size (fun b hlt ho => hf.block b hlt (fun e => ng' (by have e' : b = F.g := e; rw [← e']; exact ho))) (fun i _ _ => k3 i (by omega))⟩, h.ge, h.dis, fun x hx => let ⟨h1, h2, h3, h4⟩ := h.kp x hx; ⟨(hf.block _ (lt_of_some h1) h3).trans h1, h2, h3, h4⟩, h.bl.trans hb⟩
theorem Xs.movB {D : Nat → Option Value} (h : Xs F KL O P L M w p ps q qs) (hra : RdV F.lo w D 0 p ps) (hx : BdV O F.lo F.g w D 8 L) (hy : BdV P F.lo F.g w D 11 M) (ho : Orr F.lo F.g 4 D w' q' qs') (hb : Below F.lo w w') (hf : Fr (fun b => b = F.g) w w') : Xs F KL O P L M w' p ps q' qs' := by
  obtain ⟨D', k1, k2, k3⟩ := ho.box
  have ng := hx.ng
  have ng' := hy.ng
  exact ⟨⟨D', k1, hra.keep hb (fun i _ _ => k3 i (by omega)), k2, hx.keep hf.size (fun b hlt ho => hf.block b hlt (fun e => ng (by have e' : b = F.g := e; rw [← e']; exact ho))) (fun i _ _ => k3 i (by omega)), hy.keep hf.size (fun b hlt ho => hf.block b hlt (fun e => ng' (by have e' : b = F.g := e; rw [← e']; exact ho))) (fun i _ _ => k3 i (by omega))⟩, h.ge, h.dis, fun x hx => let ⟨h1, h2, h3, h4⟩ := h.kp x hx; ⟨(hf.block _ (lt_of_some h1) h3).trans h1, h2, h3, h4⟩, h.bl.trans hb⟩
theorem Xs.bldX {D : Nat → Option Value} (h : Xs F KL O P L M w p ps q qs) (hra : RdV F.lo w D 0 p ps) (hrb : RdV F.lo w D 4 q qs) (hx : BdV O F.lo F.g w D 8 L) (hy : BdV P F.lo F.g w D 11 M) (hd : Bld O' F.lo F.g 8 D w' L') (hb : Below F.lo w w') (hg : GrewX O O' F.g w w') : Xs F KL O' P L' M w' p ps q qs := by
  obtain ⟨D', k1, k2, k3⟩ := hd.box
  have out : ∀ b, b < w.heap.size → ¬ O b → ¬ O' b := fun b hlt hn ho => by
    rcases hg.more b ho with h1 | h1
    · exact hn h1
    · omega
  exact ⟨⟨D', k1, hra.keep hb (fun i _ _ => k3 i (by omega)), hrb.keep hb (fun i _ _ => k3 i (by omega)), k2, hy.keep hg.size (fun b hlt hp => hg.block b hlt (fun ho => h.dis b ho hp) (fun e => hy.ng (by rw [← e]; exact hp))) (fun i _ _ => k3 i (by omega))⟩, h.ge, fun b ho hp => out b (hy.old b hp) (fun ho' => h.dis b ho' hp) ho, fun x hx => let ⟨h1, h2, h3, h4, h5⟩ := h.kp x hx; ⟨(hg.block _ (lt_of_some h1) h4 h3).trans h1, h2, h3, out _ (lt_of_some h1) h4, h5⟩, h.bl.trans hb⟩
theorem Xs.bldY {D : Nat → Option Value} (h : Xs F KL O P L M w p ps q qs) (hra : RdV F.lo w D 0 p ps) (hrb : RdV F.lo w D 4 q qs) (hx : BdV O F.lo F.g w D 8 L) (hy : BdV P F.lo F.g w D 11 M) (hd : Bld P' F.lo F.g 11 D w' M') (hb : Below F.lo w w') (hg : GrewX P P' F.g w w') : Xs F KL O P' L M' w' p ps q qs := by
  obtain ⟨D', k1, k2, k3⟩ := hd.box
  have out : ∀ b, b < w.heap.size → ¬ P b → ¬ P' b := fun b hlt hn ho => by
    rcases hg.more b ho with h1 | h1
    · exact hn h1
    · omega
  exact ⟨⟨D', k1, hra.keep hb (fun i _ _ => k3 i (by omega)), hrb.keep hb (fun i _ _ => k3 i (by omega)), hx.keep hg.size (fun b hlt hp => hg.block b hlt (fun ho => h.dis b hp ho) (fun e => hx.ng (by rw [← e]; exact hp))) (fun i _ _ => k3 i (by omega)), k2⟩, h.ge, fun b ho hp => out b (hx.old b ho) (fun hp' => h.dis b ho hp') hp, fun x hx => let ⟨h1, h2, h3, h4, h5⟩ := h.kp x hx; ⟨(hg.block _ (lt_of_some h1) h5 h3).trans h1, h2, h3, h4, out _ (lt_of_some h1) h5⟩, h.bl.trans hb⟩
def KindA (F : Fy) (KL : List (Nat × Obj)) (O P : Nat → Prop) (L M : List Pt) (p : Pt) (ps : List Pt) (q : Pt) (qs : List Pt) (e : Ending) (w' : World) : Prop := ∃ p' ps', e = .returned (.int .i64 (kindP p')) ∧ Xs F KL O P L M w' p' ps' q qs ∧ unitsP p' ++ units ps' = unitsP p ++ units ps ∧ (sizeP p' = 0 → ps' = [])
theorem Xs.kindA (h : Xs F KL O P L M w p ps q qs) : Calls Try.prog 67 #[.pointer (some ⟨F.g, 0, none⟩)] w (KindA F KL O P L M p ps q qs) := by
  obtain ⟨D, hD, ra, rb, bx, by_⟩ := h.box
  refine (implKind F.lo F.g 0 D p ps w ⟨⟨D, hD, ra, fun _ _ => rfl⟩, h.ge⟩).mono ?_
  rintro e w' ⟨p', ps', h1, h2, h3, h4, h5, h6⟩
  exact ⟨p', ps', h1, h.movA rb bx by_ h2 h5 h6, h3, h4⟩
def KindB (F : Fy) (KL : List (Nat × Obj)) (O P : Nat → Prop) (L M : List Pt) (p : Pt) (ps : List Pt) (q : Pt) (qs : List Pt) (e : Ending) (w' : World) : Prop := ∃ q' qs', e = .returned (.int .i64 (kindP q')) ∧ Xs F KL O P L M w' p ps q' qs' ∧ unitsP q' ++ units qs' = unitsP q ++ units qs ∧ (sizeP q' = 0 → qs' = [])
theorem Xs.kindB (h : Xs F KL O P L M w p ps q qs) : Calls Try.prog 67 #[.pointer (some ⟨F.g, 4, none⟩)] w (KindB F KL O P L M p ps q qs) := by
  obtain ⟨D, hD, ra, rb, bx, by_⟩ := h.box
  refine (implKind F.lo F.g 4 D q qs w ⟨⟨D, hD, rb, fun _ _ => rfl⟩, h.ge⟩).mono ?_
  rintro e w' ⟨p', ps', h1, h2, h3, h4, h5, h6⟩
  exact ⟨p', ps', h1, h.movB ra bx by_ h2 h5 h6, h3, h4⟩
def TakeA (F : Fy) (KL : List (Nat × Obj)) (O P : Nat → Prop) (L M : List Pt) (p : Pt) (ps : List Pt) (q : Pt) (qs : List Pt) (n : Nat) (e : Ending) (w' : World) : Prop := ∃ v, e = .returned v ∧ PtV F.lo w' (cutL p n) v ∧ Xs F KL O P L M w' (cutR p n) ps q qs
theorem Xs.takeA {n : Nat} (h : Xs F KL O P L M w p ps q qs) (h0 : 0 < n) (hn : n ≤ sizeP p) : Calls Try.prog 98 #[.pointer (some ⟨F.g, 0, none⟩), .int .i64 (n : Int)] w (TakeA F KL O P L M p ps q qs n) := by
  obtain ⟨D, hD, ra, rb, bx, by_⟩ := h.box
  refine (implTake F.lo F.g 0 D p ps n w ⟨⟨D, hD, ra, fun _ _ => rfl⟩, h.ge⟩ h0 hn).mono ?_
  rintro e w' ⟨v, h1, h2, h3, h4, h5⟩
  exact ⟨v, h1, h2, h.movA rb bx by_ h3 h4 h5⟩
def TakeB (F : Fy) (KL : List (Nat × Obj)) (O P : Nat → Prop) (L M : List Pt) (p : Pt) (ps : List Pt) (q : Pt) (qs : List Pt) (n : Nat) (e : Ending) (w' : World) : Prop := ∃ v, e = .returned v ∧ PtV F.lo w' (cutL q n) v ∧ Xs F KL O P L M w' p ps (cutR q n) qs
theorem Xs.takeB {n : Nat} (h : Xs F KL O P L M w p ps q qs) (h0 : 0 < n) (hn : n ≤ sizeP q) : Calls Try.prog 98 #[.pointer (some ⟨F.g, 4, none⟩), .int .i64 (n : Int)] w (TakeB F KL O P L M p ps q qs n) := by
  obtain ⟨D, hD, ra, rb, bx, by_⟩ := h.box
  refine (implTake F.lo F.g 4 D q qs n w ⟨⟨D, hD, rb, fun _ _ => rfl⟩, h.ge⟩ h0 hn).mono ?_
  rintro e w' ⟨v, h1, h2, h3, h4, h5⟩
  exact ⟨v, h1, h2, h.movB ra bx by_ h3 h4 h5⟩
def AddX (F : Fy) (KL : List (Nat × Obj)) (L M : List Pt) (p : Pt) (ps : List Pt) (q : Pt) (qs : List Pt) (P : Nat → Prop) (e : Ending) (w' : World) : Prop := e = .returned (.tuple #[]) ∧ ∃ O, Xs F KL O P L M w' p ps q qs
def AddY (F : Fy) (KL : List (Nat × Obj)) (L M : List Pt) (p : Pt) (ps : List Pt) (q : Pt) (qs : List Pt) (O : Nat → Prop) (e : Ending) (w' : World) : Prop := e = .returned (.tuple #[]) ∧ ∃ P, Xs F KL O P L M w' p ps q qs
theorem Xs.addX {r : Pt} {v : Value} (h : Xs F KL O P L M w p ps q qs) (hv : PtV F.lo w r v) (hr : Vp r) (hk : ¬ r.kind = 0) (hl : L.length < 100000) : Calls Try.prog 71 #[.pointer (some ⟨F.g, 8, none⟩), v] w (AddX F KL (L ++ [r]) M p ps q qs P) := by
  obtain ⟨D, hD, ra, rb, bx, by_⟩ := h.box
  refine (implAddB O F.lo F.g 8 D L r v w ⟨⟨D, hD, bx, fun _ _ => rfl⟩, h.ge⟩ hv hr hk hl).mono ?_
  rintro e w' ⟨h1, O', h2, h3, h4⟩
  exact ⟨h1, O', h.bldX ra rb bx by_ h2 h3 h4⟩
theorem Xs.addY {r : Pt} {v : Value} (h : Xs F KL O P L M w p ps q qs) (hv : PtV F.lo w r v) (hr : Vp r) (hk : ¬ r.kind = 0) (hl : M.length < 100000) : Calls Try.prog 71 #[.pointer (some ⟨F.g, 11, none⟩), v] w (AddY F KL L (M ++ [r]) p ps q qs O) := by
  obtain ⟨D, hD, ra, rb, bx, by_⟩ := h.box
  refine (implAddB P F.lo F.g 11 D M r v w ⟨⟨D, hD, by_, fun _ _ => rfl⟩, h.ge⟩ hv hr hk hl).mono ?_
  rintro e w' ⟨h1, O', h2, h3, h4⟩
  exact ⟨h1, O', h.bldY ra rb bx by_ h2 h3 h4⟩
theorem Xs.keepX {n : Int} (h : Xs F KL O P L M w p ps q qs) (h0 : 0 ≤ n) (hn : n ≤ 200) (hl : L.length < 100000) : Calls Try.prog 93 #[.pointer (some ⟨F.g, 8, none⟩), .int .i64 n] w (AddX F KL (L ++ [⟨1, n, []⟩]) M p ps q qs P) := by
  obtain ⟨D, hD, ra, rb, bx, by_⟩ := h.box
  refine (implKeepB O F.lo F.g 8 D L n w ⟨⟨D, hD, bx, fun _ _ => rfl⟩, h.ge⟩ h0 hn hl).mono ?_
  rintro e w' ⟨h1, O', h2, h3, h4⟩
  exact ⟨h1, O', h.bldX ra rb bx by_ h2 h3 h4⟩
theorem Xs.keepY {n : Int} (h : Xs F KL O P L M w p ps q qs) (h0 : 0 ≤ n) (hn : n ≤ 200) (hl : M.length < 100000) : Calls Try.prog 93 #[.pointer (some ⟨F.g, 11, none⟩), .int .i64 n] w (AddY F KL L (M ++ [⟨1, n, []⟩]) p ps q qs O) := by
  obtain ⟨D, hD, ra, rb, bx, by_⟩ := h.box
  refine (implKeepB P F.lo F.g 11 D M n w ⟨⟨D, hD, by_, fun _ _ => rfl⟩, h.ge⟩ h0 hn hl).mono ?_
  rintro e w' ⟨h1, O', h2, h3, h4⟩
  exact ⟨h1, O', h.bldY ra rb bx by_ h2 h3 h4⟩
theorem Xs.dropX {n : Int} (h : Xs F KL O P L M w p ps q qs) (h0 : 0 ≤ n) (hn : n ≤ 200) (hl : L.length < 100000) : Calls Try.prog 95 #[.pointer (some ⟨F.g, 8, none⟩), .int .i64 n] w (AddX F KL (L ++ [⟨3, n, []⟩]) M p ps q qs P) := by
  obtain ⟨D, hD, ra, rb, bx, by_⟩ := h.box
  refine (implDropB O F.lo F.g 8 D L n w ⟨⟨D, hD, bx, fun _ _ => rfl⟩, h.ge⟩ h0 hn hl).mono ?_
  rintro e w' ⟨h1, O', h2, h3, h4⟩
  exact ⟨h1, O', h.bldX ra rb bx by_ h2 h3 h4⟩
theorem Xs.dropY {n : Int} (h : Xs F KL O P L M w p ps q qs) (h0 : 0 ≤ n) (hn : n ≤ 200) (hl : M.length < 100000) : Calls Try.prog 95 #[.pointer (some ⟨F.g, 11, none⟩), .int .i64 n] w (AddY F KL L (M ++ [⟨3, n, []⟩]) p ps q qs O) := by
  obtain ⟨D, hD, ra, rb, bx, by_⟩ := h.box
  refine (implDropB P F.lo F.g 11 D M n w ⟨⟨D, hD, by_, fun _ _ => rfl⟩, h.ge⟩ h0 hn hl).mono ?_
  rintro e w' ⟨h1, O', h2, h3, h4⟩
  exact ⟨h1, O', h.bldY ra rb bx by_ h2 h3 h4⟩
def SizeX (F : Fy) (KL : List (Nat × Obj)) (O P : Nat → Prop) (L M : List Pt) (p : Pt) (ps : List Pt) (q : Pt) (qs : List Pt) (n : Nat) (w : World) (e : Ending) (w' : World) : Prop := e = .returned (.int .i64 (n : Int)) ∧ Xs F KL O P L M w' p ps q qs ∧ Below w.heap.size w w'
theorem Xs.size {r : Pt} {A : Option Addr} {c : Nat} (h : Xs F KL O P L M w p ps q qs) (hr : Vp r) : Calls Try.prog 84 #[.agg #[.int .i64 r.kind, .int .i64 r.n, .slice A r.signs.length c]] w (SizeX F KL O P L M p ps q qs (sizeP r) w) := by
  have hz := hr.size
  refine (implSize_any r.kind r.n A r.signs.length c w (by omega) (by omega) (by omega)).mono ?_
  rintro e w' ⟨rfl, h2⟩
  exact ⟨by rw [hz.1], h.past h2, h2⟩
end
end Go.Proofs.Ytfpjoncaccbnmaa.low.xb


/-
  A range over a function whose iterator and body share memory: the statement's laws at the wide fence, in the words of the loop's record; a round out of its body's walk; a region that draws its order, in a round; a loop whose measure is said by its invariant.
-/
namespace Go.Proofs.Ytfpjoncaccbnmaa.low
open Go.RowKit
set_option linter.unusedVariables false

section
variable {P : Program} {ops : Array Oper} {Q : Exit → Act → World → Prop} {n l : Nat} {md : Region.Mode}

theorem rowsIn_wide {row : String} {args : Array Value} {w : World} {R : Value → World → Prop} (h : Rows P row args w R) : RowsIn (Fence.wide.inRound l) n P row args w R :=
  fun c cs _ => let ⟨v, w', r, s⟩ := h c cs; ⟨v, w', r, stepsIn_wide.2 s⟩
theorem callsIn_round {f : FuncId} {args : Array Value} {w : World} {R : Ending → World → Prop} (h : Calls P f args w R) : CallsIn (Fence.wide.inRound l) n P f args w R := CallsIn.inRound l (callsIn_wide.2 h)
/-- an operation's walk goes into a round as it is -/
theorem operIn_of {o : Oper} {a : Act} {w : World} {K : Act → World → Prop} (hd : ∀ c, o.op ≠ .defer c) (h : o.wp P a w K Q) : o.wpIn (Fence.wide.inRound l) n P a w K Q := by
  unfold Oper.wp at h
  refine ⟨fun _ _ => trivial, ?_⟩
  rw [Fence.inRound_round, Oper.semAt_some l a.eval o hd]
  generalize (execOp a.eval o).run P w = r at *
  cases r with
  | ok x w' =>
    cases x with
    | enter f args => exact ⟨(fun h => by cases h), callsIn_round h⟩
    | row r args => exact ⟨(fun h => by cases h), rowsIn_wide h⟩
    | value v => exact h
    | skip => exact h
    | defer d => exact h
    | _ => exact h.elim
  | halt x w' => cases x <;> first | exact h | exact h.elim
def NoDefer (ops : Array Oper) : Prop := ∀ (i : Nat) (o : Oper), ops[i]? = some o → ∀ c, o.op ≠ .defer c
theorem wpOpIn_of {i : Nat} {a : Act} {w : World} {K : Act → World → Prop} (hd : NoDefer ops) (hL : ¬ LetsOut Q) (h : wpOp P ops Q i K a w) : wpOpIn (Fence.wide.inRound l) n P ops Q i K a w := by
  unfold wpOp at h
  unfold wpOpIn
  cases ho : ops[i]? with
  | none => simp only [ho] at h; exact h
  | some o =>
    simp only [ho] at h
    split at h
    · rename_i hw
      simp only [hw, if_true]
      rcases h with h | h
      · exact operIn_of (hd i o ho) h
      · exact absurd h.2 hL
    · rename_i hw
      simp only [hw]
      exact ⟨fun _ _ => trivial, h⟩
theorem wpAnyIn_of (hd : NoDefer ops) (hL : ¬ LetsOut Q) : ∀ (fuel : Nat) (listed : Array Bool) (a : Act) (w : World), wpAny P md ops Q fuel listed a w → wpAnyIn (Fence.wide.inRound l) n P md ops Q fuel listed a w
  | 0, _, _, _, h => h
  | fuel + 1, _, _, _, h => ⟨h.1, fun i hi => wpOpIn_mono (fun a' w' h' => wpAnyIn_of hd hL fuel _ a' w' h') (wpOpIn_of hd hL (h.2 i hi))⟩
/-- a region that draws its order, in a round -/
theorem wpIn_region_held {S : World → Prop} {id : Nat} {a : Act} {w : World} (hm : P.follows .mixedOrders = true) (hd : NoDefer ops) (hL : ¬ LetsOut Q)
    (h : wpAnyH P .any ops Q S ops.size (Array.replicate ops.size false) a w.drew) : (Code.region id ops true).wpIn (Fence.wide.inRound l) n P Q a w :=
  wpIn_region_any hm (wpAnyIn_of hd hL _ _ _ _ (wpAny_of_held _ _ _ _ h))
end
/-- a post that lets nothing through but what falls off the end -/
def Fall (K : Act → World → Prop) : Exit → Act → World → Prop
  | .normal, a, w => K a w
  | _, _, _ => False
theorem Fall.out (K : Act → World → Prop) : ¬ LetsOut (Fall K) := fun ⟨_, _, h⟩ => h
theorem wpIn_fall {F : Fence} {n : Nat} {P : Program} {c : Code} {K : Act → World → Prop} {Q : Exit → Act → World → Prop} {a : Act} {w : World} (h : c.wpIn F n P (Fall K) a w) (hk : ∀ a w, K a w → Q .normal a w) : c.wpIn F n P Q a w :=
  wpIn_mono h fun e a w he => by cases e <;> first | exact hk _ _ he | exact he.elim
theorem wpIn_seq_fall {F : Fence} {n : Nat} {P : Program} {x y : Code} {K : Act → World → Prop} {Q : Exit → Act → World → Prop} {a : Act} {w : World} (h : x.wpIn F n P (Fall K) a w) (hk : ∀ a w, K a w → y.wpIn F n P Q a w) : (Code.seq x y).wpIn F n P Q a w :=
  wpIn_seq (wpIn_fall h hk)

/-- a loop whose measure is said by its invariant -/
theorem wpIn_loop_by {F : Fence} {n : Nat} {P : Program} {Q : Exit → Act → World → Prop} {a : Act} {w : World} {c : Code} (I : Nat → Act → World → Prop) (m : Nat) (h0 : I m a w)
    (round : ∀ m a w, I m a w → c.wpIn F n P (Exit.then (fun a' w' => ∃ m', m' < m ∧ I m' a' w') Q) a w) : (Code.loop c).wpIn F n P Q a w := by
  have ex : ∀ a w, ∃ k : Nat, (∃ m, I m a w) → I k a w ∧ ∀ m, I m a w → k ≤ m := fun a w => by
    by_cases h : ∃ m, I m a w
    · obtain ⟨m, hm⟩ := h
      induction m using Nat.strongRecOn with
      | _ m ih =>
        by_cases hs : ∃ m', m' < m ∧ I m' a w
        · obtain ⟨m', h1, h2⟩ := hs
          exact ih m' h1 h2
        · refine ⟨m, fun _ => ⟨hm, fun q hq => ?_⟩⟩
          rcases Nat.lt_or_ge q m with h | h
          · exact absurd ⟨q, h, hq⟩ hs
          · exact h
    · exact ⟨0, fun h' => absurd h' h⟩
  refine wpIn_loop (fun a w => ∃ m, I m a w) (fun a w => Classical.choose (ex a w)) ⟨m, h0⟩ (fun a w hI => ?_)
  have hs := Classical.choose_spec (ex a w) hI
  refine wpIn_mono (round _ a w hs.1) (fun e a' w' hq => ?_)
  cases e with
  | normal =>
    obtain ⟨m', hlt, hm'⟩ := hq
    exact ⟨⟨m', hm'⟩, Nat.lt_of_le_of_lt ((Classical.choose_spec (ex a' w') ⟨m', hm'⟩).2 m' hm') hlt⟩
  | _ => exact hq

section
variable {P : Program} {n : Nat} {w : World}
/-- what a round's body must come to -/
def RP (l : Nat) (r : Loop) (R : Ending → World → Prop) : Exit → Act → World → Prop
  | .normal, _, W => W.heap[l]? = some (.loop { r with state := .busy }) ∧ R (.returned (.bool true)) (W.putObj l (.loop { r with state := .ready, pending := none }))
  | .exit id, _, W => W.heap[l]? = some (.loop { r with state := .busy }) ∧ R (.returned (.bool false)) (W.putObj l (.loop { r with state := .done, pending := some (.exit id) }))
  | _, _, _ => False
/-- a call of yield, out of the walks of the assignment and of the body -/
theorem yield_of {l : Nat} {r : Loop} {args : Array Value} {R : Ending → World → Prop} {K : Act → World → Prop} (hl : w.heap[l]? = some (.loop r)) (hr : r.state = .ready) (hs : args.size = r.params.size)
    (hassign : r.assign.wpIn (Fence.wide.inRound l) n P (Exit.then K (fun _ _ _ => False)) { tmps := (r.params.zip args).foldl (fun t (p, v) => t.setIfInBounds p v) r.tmps, defers := [] } w)
    (hbody : ∀ a₁ w₁, K a₁ w₁ → w₁.heap[l]? = some (.loop r) ∧ r.body.wpIn (Fence.wide.inRound l) n P (RP l r R) a₁ (w₁.putObj l (.loop { r with state := .busy }))) :
    YieldAt Fence.wide n P l args w R := by
  refine ⟨r.fn, _, r.assign, r.body, run_yield hl hs, roundIn_of_wpIn trivial (wpIn_mono hassign (fun e a₁ w₁ hq => ?_))⟩
  cases e with
  | normal =>
    obtain ⟨h1, h2⟩ := hbody a₁ w₁ hq
    refine ⟨_, run_beginRound h1 hr, wpIn_mono h2 (fun e a₂ w₂ hp => ?_)⟩
    cases e with
    | normal => exact ⟨_, _, run_endRound none hp.1, hp.2⟩
    | exit id => exact ⟨_, _, run_endRound (some (.exit id)) hp.1, hp.2⟩
    | _ => exact hp.elim
  | _ => exact hq.elim
/-- the loop's record -/
def recOf (fn : FuncId) (tmps : Array Value) (ps : Array Tmp) (assign body : Code) (D : Nat) : Loop := { state := .ready, pending := none, fn := fn, tmps := tmps, params := ps, assign := assign, body := body, defers := D }
/-- behind the iterator: all have come, or a round has left -/
def Over (l : Nat) (r : Loop) (Jd : World → Prop) (Jx : Code → World → Prop) (e : Ending) (W : World) : Prop :=
  (∃ v, e = .returned v) ∧ ((W.heap[l]? = some (.loop r) ∧ Jd W) ∨ ∃ c, W.heap[l]? = some (.loop { r with state := .done, pending := some c }) ∧ Jx c W)
/-- the statement, outermost -/
theorem rf_outer {g : Operand} {ps : Array Tmp} {assign body : Code} {Q : Exit → Act → World → Prop} {a : Act} {gf : Nat} {b : Array Value} {Jd : World → Prop} {Jx : Code → World → Prop}
    (hg : a.eval g = .func (.func gf) b #[]) (eg : ∀ args w, (callFunc gf args).run P w = .ok (.enter gf args) w)
    (hcall : ∀ fn, CallsIn Fence.wide (n - 1) P gf (b ++ #[.func (.yield (w.heap.size + 1)) #[] #[]]) ((w.alloc (.deferred (some []))).alloc (.loop (recOf fn a.tmps ps assign body w.heap.size))) (Over (w.heap.size + 1) (recOf fn a.tmps ps assign body w.heap.size) Jd Jx))
    (hdone : ∀ fn W, W.heap[w.heap.size + 1]? = some (.loop (recOf fn a.tmps ps assign body w.heap.size)) → Jd W → Q .normal { a with defers := { target := .collected w.heap.size, args := #[] } :: a.defers } (W.putObj (w.heap.size + 1) (.loop { recOf fn a.tmps ps assign body w.heap.size with state := .exhausted })))
    (hx : ∀ c W, ¬ Jx c W) : (Code.rangeFunc g ps assign body).wpIn Fence.wide n P Q a w := by
  refine wpIn_rangeFunc ?_
  intro fn hfn
  obtain ⟨W1, hW1⟩ : ∃ W1, (w.alloc (.deferred (some []))).alloc (.loop (recOf fn a.tmps ps assign body w.heap.size)) = W1 := ⟨_, rfl⟩
  have hc := hcall fn
  rw [hW1] at hc
  refine ⟨w.heap.size + 1, [{ target := .collected w.heap.size, args := #[] }], W1, { target := .fn (.func gf) #[], args := b ++ #[.func (.yield (w.heap.size + 1)) #[] #[]] }, W1, gf, b ++ #[.func (.yield (w.heap.size + 1)) #[] #[]], W1, by rw [← hW1]; exact run_enterLoop_outer _ _ _ _ _, ?_, fun _ _ => trivial, ?_, (fun h => by cases h), ?_⟩
  · simp only [resolve, hg]
    simp [go_sem, Deferred.ofValue]
  · simp [invoke, go_sem, eg]
  · refine hc.mono ?_
    rintro e W ⟨⟨v, rfl⟩, (⟨h1, h2⟩ | ⟨c, h1, h2⟩)⟩
    · exact ⟨none, _, run_endLoop h1 (by simp [recOf]), hdone fn W h1 h2⟩
    · exact absurd h2 (hx c W)
/-- the statement in a round -/
theorem rf_inner {l₀ : Nat} {r₀ : Loop} {g : Operand} {ps : Array Tmp} {assign body : Code} {Q : Exit → Act → World → Prop} {a : Act} {gf : Nat} {b : Array Value} {Jd : World → Prop} {Jx : Code → World → Prop}
    (hl₀ : w.heap[l₀]? = some (.loop r₀)) (hg : a.eval g = .func (.func gf) b #[]) (eg : ∀ args w, (callFunc gf args).run P w = .ok (.enter gf args) w)
    (hcall : ∀ fn, CallsIn Fence.wide (n - 1) P gf (b ++ #[.func (.yield w.heap.size) #[] #[]]) (w.alloc (.loop (recOf fn a.tmps ps assign body r₀.defers))) (Over w.heap.size (recOf fn a.tmps ps assign body r₀.defers) Jd Jx))
    (hdone : ∀ W, ¬ Jd W)
    (hx : ∀ fn c W, W.heap[w.heap.size]? = some (.loop { recOf fn a.tmps ps assign body r₀.defers with state := .done, pending := some c }) → Jx c W → c.wpIn (Fence.wide.inRound l₀) n P Q a (W.putObj w.heap.size (.loop { recOf fn a.tmps ps assign body r₀.defers with state := .exhausted, pending := some c }))) :
    (Code.rangeFunc g ps assign body).wpIn (Fence.wide.inRound l₀) n P Q a w := by
  refine wpIn_rangeFunc ?_
  intro fn hfn
  obtain ⟨W1, hW1⟩ : ∃ W1, w.alloc (.loop (recOf fn a.tmps ps assign body r₀.defers)) = W1 := ⟨_, rfl⟩
  have hc := hcall fn
  rw [hW1] at hc
  refine ⟨w.heap.size, [], W1, { target := .fn (.func gf) #[], args := b ++ #[.func (.yield w.heap.size) #[] #[]] }, W1, gf, b ++ #[.func (.yield w.heap.size) #[] #[]], W1, by rw [← hW1]; exact run_enterLoop_inner hl₀ _ _ _ _ _, ?_, fun _ _ => trivial, ?_, (fun h => by cases h), ?_⟩
  · simp only [resolve, hg]
    simp [go_sem, Deferred.ofValue]
  · simp [invoke, go_sem, eg]
  · refine CallsIn.inRound l₀ (hc.mono ?_)
    rintro e W ⟨⟨v, rfl⟩, (⟨h1, h2⟩ | ⟨c, h1, h2⟩)⟩
    · exact absurd h2 (hdone W)
    · exact ⟨some c, _, run_endLoop h1 (by simp), hx fn c W h1 h2⟩
end
end Go.Proofs.Ytfpjoncaccbnmaa.low


/-
  The program's iterator over what is left of an operation: opReader.remaining, for whatever body; a call in a region that draws its order.
-/
namespace Go.Proofs.Ytfpjoncaccbnmaa.low
open Go.RowKit
set_option linter.unusedVariables false
attribute [local go_sem] Oper.semAt_some

/-- the least number that a family of conditions bears at a world -/
theorem least_ex (J : Nat → World → Prop) (w : World) : ∃ k : Nat, (∃ m, J m w) → J k w ∧ ∀ m, J m w → k ≤ m := by
  by_cases h : ∃ m, J m w
  · obtain ⟨m, hm⟩ := h
    induction m using Nat.strongRecOn with
    | _ m ih =>
      by_cases hs : ∃ m', m' < m ∧ J m' w
      · obtain ⟨m', h1, h2⟩ := hs
        exact ih m' h1 h2
      · refine ⟨m, fun _ => ⟨hm, fun q hq => ?_⟩⟩
        rcases Nat.lt_or_ge q m with h | h
        · exact absurd ⟨q, h, hq⟩ hs
        · exact h
  · exact ⟨0, fun h' => absurd h' h⟩
noncomputable def leastOf (J : Nat → World → Prop) (w : World) : Nat := Classical.choose (least_ex J w)
theorem leastOf_at {J : Nat → World → Prop} {w : World} (h : ∃ m, J m w) : J (leastOf J w) w := (Classical.choose_spec (least_ex J w) h).1
theorem leastOf_le {J : Nat → World → Prop} {w : World} {m : Nat} (h : J m w) : leastOf J w ≤ m := (Classical.choose_spec (least_ex J w) ⟨m, h⟩).2 m h
/-- there is a round of the loop to be had: the number is hidden -/
def SomeM (J : Nat → World → Prop) (w : World) : Prop := ∃ m, J m w

/-- behind a look for more, in a body's words -/
def MoreJ (g : Nat) (JY : Pt → Value → World → Prop) (Jd : World → Prop) (e : Ending) (w' : World) : Prop :=
  (∃ p A c, e = .returned (.bool true) ∧ w'.cell? ⟨g, 0, none⟩ = some (.int .i64 p.kind) ∧ w'.cell? ⟨g, 1, none⟩ = some (.int .i64 p.n) ∧ w'.cell? ⟨g, 2, none⟩ = some (.slice A p.signs.length c) ∧ JY p (.agg #[.int .i64 p.kind, .int .i64 p.n, .slice A p.signs.length c]) w') ∨ (e = .returned (.bool false) ∧ Jd w')
/-- behind a round -/
def RoundJ (J : Nat → World → Prop) (m : Nat) (Jx : World → Prop) (e : Ending) (w' : World) : Prop :=
  (e = .returned (.bool true) ∧ ∃ m', m' < m ∧ J m' w') ∨ (e = .returned (.bool false) ∧ Jx w')
/-- behind the iterator -/
def OverJ (Jd Jx : World → Prop) (e : Ending) (w' : World) : Prop := (∃ v, e = .returned v) ∧ (Jd w' ∨ Jx w')

end Go.Proofs.Ytfpjoncaccbnmaa.low


/-
  The program's composition: its state (two readers, a builder, blocks that stay), and the contracts of what it calls in the words of that state; a region that draws its order, in a round: a call that alone may come up.
-/
namespace Go.Proofs.Ytfpjoncaccbnmaa.low
open Go.RowKit
set_option linter.unusedVariables false

/-- what stays: the readers' blocks, the builder's, the world at the start, the part of the memory that is the caller's -/
structure Fz where
  lo : Nat
  gx : Nat
  gy : Nat
  go : Nat
  w0 : World
/-- the state: the readers stand at p, ps and q, qs; the builder holds L; the blocks of KL hold what KL says -/
structure Co (F : Fz) (KL : List (Nat × Obj)) (O : Nat → Prop) (L : List Pt) (w : World) (p : Pt) (ps : List Pt) (q : Pt) (qs : List Pt) : Prop where
  ox : Orr F.lo F.gx w p ps
  oy : Orr F.lo F.gy w q qs
  bd : Bld O F.lo F.go 98 w L
  ne : ¬ F.gx = F.gy
  nx : ¬ O F.gx
  ny : ¬ O F.gy
  kp : ∀ x ∈ KL, w.heap[x.1]? = some x.2 ∧ F.lo ≤ x.1 ∧ ¬ x.1 = F.gx ∧ ¬ x.1 = F.gy ∧ ¬ O x.1
  bl : Below F.lo F.w0 w
section
variable {F : Fz} {KL : List (Nat × Obj)} {O O' : Nat → Prop} {L L' : List Pt} {w w' : World} {p p' : Pt} {ps ps' : List Pt} {q q' : Pt} {qs qs' : List Pt}
theorem Co.low (h : Co F KL O L w p ps q qs) : F.lo ≤ w.heap.size := h.bd.low
theorem Co.past (h : Co F KL O L w p ps q qs) (hb : Below w.heap.size w w') : Co F KL O L w' p ps q qs :=
  ⟨h.ox.past hb, h.oy.past hb, h.bd.past hb, h.ne, h.nx, h.ny, fun x hx => let ⟨h1, h2⟩ := h.kp x hx; ⟨(hb.block _ (lt_of_some h1)).trans h1, h2⟩, h.bl.trans (hb.mono h.low)⟩
theorem Co.drew (h : Co F KL O L w p ps q qs) : Co F KL O L w.drew p ps q qs := h.past ((Below.refl _ _).drew)
theorem Co.movx (h : Co F KL O L w p ps q qs) (ho : Orr F.lo F.gx w' p' ps') (hb : Below F.lo w w') (hf : Fr (fun b => b = F.gx) w w') : Co F KL O L w' p' ps' q qs :=
  ⟨ho, h.oy.keep (hf.block _ h.oy.lt (fun e => h.ne e.symm)) hb, h.bd.keep hf.size (fun b hlt ho => hf.block b hlt (fun e => h.nx (by have e' : b = F.gx := e; rw [← e']; exact ho))), h.ne, h.nx, h.ny, fun x hx => let ⟨h1, h2, h3, h4⟩ := h.kp x hx; ⟨(hf.block _ (lt_of_some h1) h3).trans h1, h2, h3, h4⟩, h.bl.trans hb⟩
theorem Co.movy (h : Co F KL O L w p ps q qs) (ho : Orr F.lo F.gy w' q' qs') (hb : Below F.lo w w') (hf : Fr (fun b => b = F.gy) w w') : Co F KL O L w' p ps q' qs' :=
  ⟨h.ox.keep (hf.block _ h.ox.lt h.ne) hb, ho, h.bd.keep hf.size (fun b hlt ho => hf.block b hlt (fun e => h.ny (by have e' : b = F.gy := e; rw [← e']; exact ho))), h.ne, h.nx, h.ny, fun x hx => let ⟨h1, h2, h3, h4, h5⟩ := h.kp x hx; ⟨(hf.block _ (lt_of_some h1) h4).trans h1, h2, h3, h4, h5⟩, h.bl.trans hb⟩
theorem Co.bldr (h : Co F KL O L w p ps q qs) (hd : Bld O' F.lo F.go 98 w' L') (hb : Below F.lo w w') (hg : Grew O O' w w') : Co F KL O' L' w' p ps q qs := by
  have out : ∀ b, b < w.heap.size → ¬ O b → ¬ O' b := fun b hlt hn ho => by
    rcases hg.more b ho with h1 | h1
    · exact hn h1
    · omega
  exact ⟨h.ox.keep (hg.block _ h.ox.lt h.nx) hb, h.oy.keep (hg.block _ h.oy.lt h.ny) hb, hd, h.ne, out _ h.ox.lt h.nx, out _ h.oy.lt h.ny, fun x hx => let ⟨h1, h2, h3, h4, h5⟩ := h.kp x hx; ⟨(hg.block _ (lt_of_some h1) h5).trans h1, h2, h3, h4, out _ (lt_of_some h1) h5⟩, h.bl.trans hb⟩
/-- a block more that stays: one that lies beyond all blocks that stood -/
theorem Co.also (h : Co F KL O L w p ps q qs) (hb : Below w.heap.size w w') {b : Nat} {o : Obj} (hbl : w.heap.size ≤ b) (ho : w'.heap[b]? = some o) : Co F ((b, o) :: KL) O L w' p ps q qs := by
  have h' := h.past hb
  refine ⟨h'.ox, h'.oy, h'.bd, h'.ne, h'.nx, h'.ny, fun x hx => ?_, h'.bl⟩
  rcases List.mem_cons.1 hx with rfl | hx
  · exact ⟨ho, Nat.le_trans h.low hbl, by have := h.ox.lt; show ¬ b = F.gx; omega, by have := h.oy.lt; show ¬ b = F.gy; omega, fun hO => by have := h.bd.old _ hO; simp at this; omega⟩
  · exact h'.kp x hx
theorem Co.less {KM : List (Nat × Obj)} (h : Co F KL O L w p ps q qs) (hs : ∀ x ∈ KM, x ∈ KL) : Co F KM O L w p ps q qs := ⟨h.ox, h.oy, h.bd, h.ne, h.nx, h.ny, fun x hx => h.kp x (hs x hx), h.bl⟩
theorem put_below {lo l : Nat} {o : Obj} (hl : lo ≤ l) (hz : l < w.heap.size) : Below lo w (w.putObj l o) :=
  (Below.refl lo w).grown (grownBy_putObj' w l o) (by omega) (fun k e => by cases e; exact hl)
/-- a block that stays is written whole -/
theorem Co.put {l : Nat} {o o' : Obj} (h : Co F ((l, o) :: KL) O L w p ps q qs) (hn : ∀ x ∈ KL, ¬ x.1 = l) : Co F ((l, o') :: KL) O L (w.putObj l o') p ps q qs := by
  obtain ⟨h1, h2, h3, h4, h5⟩ := h.kp (l, o) (by simp)
  simp only at h1 h2 h3 h4 h5
  have hz := lt_of_some h1
  have hb := put_below (o := o') h2 hz
  have other : ∀ b, ¬ b = l → (w.putObj l o').heap[b]? = w.heap[b]? := fun b hb => World.putObj_heap_other hb
  refine ⟨h.ox.keep (other _ (fun e => h3 e.symm)) hb, h.oy.keep (other _ (fun e => h4 e.symm)) hb, h.bd.keep (by simp) (fun b _ ho => other b (fun e => h5 (by rw [← e]; exact ho))), h.ne, h.nx, h.ny, fun x hx => ?_, h.bl.trans hb⟩
  rcases List.mem_cons.1 hx with rfl | hx
  · exact ⟨World.putObj_heap_same hz, h2, h3, h4, h5⟩
  · obtain ⟨k1, k2⟩ := h.kp x (by simp [hx])
    exact ⟨(other _ (hn x hx)).trans k1, k2⟩
/-- a look for more -/
theorem Co.morex (h : Co F KL O L w p ps q qs) : Calls Try.prog 91 #[.pointer (some ⟨F.gx, 0, none⟩)] w (fun e w' => ∃ p' ps', e = .returned (.bool (decide (0 < sizeP p'))) ∧ Co F KL O L w' p' ps' q qs ∧ unitsP p' ++ units ps' = unitsP p ++ units ps ∧ (sizeP p' = 0 → ps' = [])) := by
  refine (implMore F.lo F.gx p ps w h.ox).mono ?_
  rintro e w' ⟨p', ps', h1, h2, h3, h4, h5, h6⟩
  exact ⟨p', ps', h1, h.movx h2 h5 h6, h3, h4⟩
theorem Co.morey (h : Co F KL O L w p ps q qs) : Calls Try.prog 91 #[.pointer (some ⟨F.gy, 0, none⟩)] w (fun e w' => ∃ q' qs', e = .returned (.bool (decide (0 < sizeP q'))) ∧ Co F KL O L w' p ps q' qs' ∧ unitsP q' ++ units qs' = unitsP q ++ units qs ∧ (sizeP q' = 0 → qs' = [])) := by
  refine (implMore F.lo F.gy q qs w h.oy).mono ?_
  rintro e w' ⟨p', ps', h1, h2, h3, h4, h5, h6⟩
  exact ⟨p', ps', h1, h.movy h2 h5 h6, h3, h4⟩
def TakeX (F : Fz) (KL : List (Nat × Obj)) (O : Nat → Prop) (L : List Pt) (p : Pt) (ps : List Pt) (q : Pt) (qs : List Pt) (n : Nat) (e : Ending) (w' : World) : Prop := ∃ v, e = .returned v ∧ PtV F.lo w' (cutL p n) v ∧ Co F KL O L w' (cutR p n) ps q qs
def TakeY (F : Fz) (KL : List (Nat × Obj)) (O : Nat → Prop) (L : List Pt) (p : Pt) (ps : List Pt) (q : Pt) (qs : List Pt) (n : Nat) (e : Ending) (w' : World) : Prop := ∃ v, e = .returned v ∧ PtV F.lo w' (cutL q n) v ∧ Co F KL O L w' p ps (cutR q n) qs
theorem Co.takex {n : Nat} (h : Co F KL O L w p ps q qs) (h0 : 0 < n) (hn : n ≤ sizeP p) : Calls Try.prog 98 #[.pointer (some ⟨F.gx, 0, none⟩), .int .i64 (n : Int)] w (TakeX F KL O L p ps q qs n) := by
  refine (implTake F.lo F.gx p ps n w h.ox h0 hn).mono ?_
  rintro e w' ⟨v, h1, h2, h3, h4, h5⟩
  exact ⟨v, h1, h2, h.movx h3 h4 h5⟩
theorem Co.takey {n : Nat} (h : Co F KL O L w p ps q qs) (h0 : 0 < n) (hn : n ≤ sizeP q) : Calls Try.prog 98 #[.pointer (some ⟨F.gy, 0, none⟩), .int .i64 (n : Int)] w (TakeY F KL O L p ps q qs n) := by
  refine (implTake F.lo F.gy q qs n w h.oy h0 hn).mono ?_
  rintro e w' ⟨v, h1, h2, h3, h4, h5⟩
  exact ⟨v, h1, h2, h.movy h3 h4 h5⟩
theorem Co.takeyb {n : Nat} (h : Co F KL O L w p ps q qs) (h0 : 0 < n) (hn : n ≤ sizeP q) : Calls Try.prog 98 #[.pointer (some ⟨F.gy, 0, none⟩), .int .i64 (n : Int)] w (fun e w' => ∃ v, e = .returned v ∧ PtV F.lo w' (cutL q n) v ∧ Co F KL O L w' p ps (cutR q n) qs ∧ Below F.lo w w') := by
  refine (implTake F.lo F.gy q qs n w h.oy h0 hn).mono ?_
  rintro e w' ⟨v, h1, h2, h3, h4, h5⟩
  exact ⟨v, h1, h2, h.movy h3 h4 h5, h4⟩
theorem cutL_kind {n : Nat} (h : ¬ p.kind = 0) : ¬ (cutL p n).kind = 0 := by
  unfold cutL
  split
  · simp
  · exact h
def AddC (F : Fz) (KL : List (Nat × Obj)) (L : List Pt) (p : Pt) (ps : List Pt) (q : Pt) (qs : List Pt) (e : Ending) (w' : World) : Prop := e = .returned (.tuple #[]) ∧ ∃ O, Co F KL O L w' p ps q qs
theorem Co.add {r : Pt} {v : Value} (h : Co F KL O L w p ps q qs) (hv : PtV F.lo w r v) (hr : Vp r) (hk : ¬ r.kind = 0) (hl : L.length < 100000) : Calls Try.prog 71 #[.pointer (some ⟨F.go, 0, none⟩), v] w (AddC F KL (L ++ [r]) p ps q qs) := by
  refine (implAddB O F.lo F.go L r v w h.bd hv hr hk hl).mono ?_
  rintro e w' ⟨h1, O', h2, h3, h4⟩
  exact ⟨h1, O', h.bldr h2 h3 h4⟩
def SizeC (F : Fz) (KL : List (Nat × Obj)) (O : Nat → Prop) (L : List Pt) (p : Pt) (ps : List Pt) (q : Pt) (qs : List Pt) (n : Nat) (w : World) (e : Ending) (w' : World) : Prop := e = .returned (.int .i64 (n : Int)) ∧ Co F KL O L w' p ps q qs ∧ Below w.heap.size w w'
theorem Co.size {r : Pt} {v : Value} (h : Co F KL O L w p ps q qs) (hv : PtV F.lo w r v) (hr : Vp r) : Calls Try.prog 84 #[v] w (SizeC F KL O L p ps q qs (sizeP r) w) := by
  obtain ⟨A, c, rfl, _⟩ := hv
  have hz := hr.size
  refine (implSize_any r.kind r.n A r.signs.length c w (by omega) (by omega) (by omega)).mono ?_
  rintro e w' ⟨rfl, h2⟩
  exact ⟨by rw [hz.1], h.past h2, h2⟩
end

/-- the blocks of KL, in the world at hand -/
def Ks (KL : List (Nat × Obj)) (w : World) : Prop := ∀ x ∈ KL, w.heap[x.1]? = some x.2
theorem Co.ks {F : Fz} {KL : List (Nat × Obj)} {O : Nat → Prop} {L : List Pt} {w : World} {p : Pt} {ps : List Pt} {q : Pt} {qs : List Pt} (h : Co F KL O L w p ps q qs) : Ks KL w := fun x hx => (h.kp x hx).1
theorem Ks.cell {KL : List (Nat × Obj)} {w : World} {b : Nat} {xs : Array Value} {T : TypeId} {i : Nat} {v : Value} (h : Ks KL w) (hm : (b, Obj.cells xs T (0, 0)) ∈ KL) (hv : xs[i]? = some v) : w.cell? ⟨b, i, none⟩ = some v := (cell_of_row _ _ i _ _ _ (h _ hm)).trans hv

section
variable {P : Program} {ops : Array Oper} {Q : Exit → Act → World → Prop} {md : Region.Mode} {S : World → Prop}
/-- in a region that draws its order: a call of a function that alone may come up -/
theorem wpAnyH_call {i : Nat} {o : Oper} {fuel : Nat} {listed : Array Bool} {a : Act} {w : World} {f : FuncId} {args : Array Value} (hi : ops[i]? = some o) (hr : Region.ready md ops listed = [i]) (hw : Region.wanted o (yielded ops a.tmps) = true)
    (hrun : (execOp a.eval o).run P w = .ok (.enter f args) w) (hc : Calls P f args w (fun e w' => ∃ v, e = .returned v ∧ S w' ∧ wpAnyH P md ops Q S fuel (listed.setIfInBounds i true) (a.put o.dst v) w')) : wpAnyH P md ops Q S (fuel + 1) listed a w := by
  refine wpAnyH_all hr (by simp) (fun j hj => ?_)
  obtain rfl : j = i := by simpa using hj
  unfold wpOp
  simp only [hi, hw, if_true, Oper.wp, hrun, Oper.upon]
  refine .inl (hc.mono ?_)
  rintro e w' ⟨v, rfl, h1, h2⟩
  exact ⟨h1, h2⟩
theorem fall_n {K : Act → World → Prop} {a : Act} {w : World} (h : K a w) : Fall K .normal a w := h
def noDeferB (ops : Array Oper) : Bool := ops.toList.all (fun o => match o.op with | .defer _ => false | _ => true)
theorem noDefer_of {ops : Array Oper} (h : noDeferB ops = true) : NoDefer ops := fun i o ho c e => by
  have := List.all_eq_true.1 h o (by rw [← Array.getElem?_toList] at ho; exact List.mem_of_getElem? ho)
  rw [e] at this
  simp at this
end
end Go.Proofs.Ytfpjoncaccbnmaa.low


/-
  The program's composition: what its rounds do to the units that are left (the composition's invariant).
-/
namespace Go.Proofs.Ytfpjoncaccbnmaa.low
open Go.RowKit
set_option linter.unusedVariables false

theorem Vp.form {p : Pt} (h : Vp p) (h0 : 0 < sizeP p) : (p.kind = 1 ∧ p = ⟨1, (sizeP p : Int), []⟩ ∧ unitsP p = List.replicate (sizeP p) .k) ∨ (p.kind = 3 ∧ p = ⟨3, (sizeP p : Int), []⟩ ∧ unitsP p = List.replicate (sizeP p) .d) ∨ (p.kind = 2 ∧ p = ⟨2, 0, p.signs⟩ ∧ sizeP p = p.signs.length ∧ unitsP p = p.signs.map .p) := by
  obtain ⟨k, m, zs⟩ := p
  rcases h with ⟨h1, h2, h3, h4⟩ | ⟨h1, h2, h3⟩ | ⟨h1, h2, h3⟩ <;> simp only at * <;> subst_vars
  · rcases h1 with rfl | rfl
    · exact .inl ⟨rfl, by simp [sizeP, Int.toNat_of_nonneg h2], by simp [sizeP, unitsP]⟩
    · exact .inr (.inl ⟨rfl, by simp [sizeP, Int.toNat_of_nonneg h2], by simp [sizeP, unitsP]⟩)
  · exact .inr (.inr ⟨rfl, rfl, by simp [sizeP], by simp [unitsP]⟩)
  · simp [sizeP] at h0
theorem Vp.kind_ne {p : Pt} (h : Vp p) (h0 : 0 < sizeP p) : ¬ p.kind = 0 := by
  rcases h.form h0 with h | h | h <;> omega
theorem units_cut {p : Pt} {n : Nat} (h : Vp p) (hn : n ≤ sizeP p) : unitsP p = unitsP (cutL p n) ++ unitsP (cutR p n) := by
  obtain ⟨k, m, zs⟩ := p
  rcases h with ⟨h1, h2, h3, h4⟩ | ⟨h1, h2, h3⟩ | ⟨h1, h2, h3⟩ <;> simp only at * <;> subst_vars
  · rcases h1 with rfl | rfl
    · simp [sizeP] at hn
      simp [unitsP, cutL, cutR]
      congr 1
      omega
    · simp [sizeP] at hn
      simp [unitsP, cutL, cutR]
      congr 1
      omega
  · simp [unitsP, cutL, cutR]
  · simp [sizeP] at hn
    subst hn
    simp [unitsP, cutL, cutR]
theorem units_cutR_all {p : Pt} (h : Vp p) : unitsP (cutR p (sizeP p)) = [] := by
  have e := congrArg List.length (units_cut h (Nat.le_refl (sizeP p)))
  rw [List.length_append, unitsP_len, unitsP_len (cutL p (sizeP p))] at e
  have : sizeP (cutL p (sizeP p)) = sizeP p := by
    obtain ⟨k, m, zs⟩ := p
    rcases h with ⟨h1, h2, h3, h4⟩ | ⟨h1, h2, h3⟩ | ⟨h1, h2, h3⟩ <;> simp only at * <;> subst_vars
    · have hk : ¬ k = 2 := by omega
      simp [sizeP, cutL, hk]
      omega
    · simp [sizeP, cutL]
    · simp [sizeP, cutL]
  exact List.eq_nil_of_length_eq_zero (by omega)
theorem sizeP_nil {p : Pt} (h : sizeP p = 0) : unitsP p = [] := List.eq_nil_of_length_eq_zero (by rw [unitsP_len, h])
theorem noD_of {p : Pt} {R : List U} (h : Vp p) (h0 : 0 < sizeP p) (hk : ¬ p.kind = 3) : noD (unitsP p ++ R) := by
  rcases h.form h0 with ⟨_, _, e⟩ | ⟨k, _⟩ | ⟨_, _, l, e⟩
  · rw [e]
    obtain ⟨m, hm⟩ : ∃ m, sizeP p = m + 1 := ⟨sizeP p - 1, by omega⟩
    rw [hm, List.replicate_succ]
    trivial
  · exact absurd k hk
  · rw [e]
    cases hz : p.signs with
    | nil => rw [hz] at l; simp at l; omega
    | cons z zs => trivial
theorem tgt_pos {p : Pt} {R : List U} (h : Vp p) (h0 : 0 < sizeP p) (hk : ¬ p.kind = 3) : 0 < tgt (unitsP p ++ R) := by
  rw [tgt_app]
  rcases h.form h0 with ⟨_, _, e⟩ | ⟨k, _⟩ | ⟨_, _, l, e⟩
  · rw [e, (src_rk _).2]; omega
  · exact absurd k hk
  · rw [e, (src_mp _).2]; omega
theorem src_pos {p : Pt} {R : List U} (h : Vp p) (h0 : 0 < sizeP p) (hk : ¬ p.kind = 2) : 0 < src (unitsP p ++ R) := by
  rw [src_app]
  rcases h.form h0 with ⟨_, _, e⟩ | ⟨k, _, e⟩ | ⟨k, _⟩
  · rw [e, (src_rk _).1]; omega
  · rw [e, (src_rd _).1]; omega
  · exact absurd k hk
section
variable {a b L : List Pt} {p q : Pt} {R S RX RY : List U}
theorem CInv.eD (h : CInv a b (unitsP p ++ R) RY L) (hv : Vp p) (h0 : 0 < sizeP p) (hk : p.kind = 3) : CInv a b (unitsP (cutR p (sizeP p)) ++ R) RY (L ++ [p]) := by
  rw [units_cutR_all hv, List.nil_append]
  rcases hv.form h0 with ⟨k, _⟩ | ⟨_, e1, e2⟩ | ⟨k, _⟩
  · omega
  · rw [e2] at h
    rw [e1]
    exact h.drop h0
  · omega
theorem CInv.eP (h : CInv a b RX (unitsP q ++ S) L) (hd : noD RX) (hv : Vp q) (h0 : 0 < sizeP q) (hk : q.kind = 2) : CInv a b RX (unitsP (cutR q (sizeP q)) ++ S) (L ++ [q]) := by
  rw [units_cutR_all hv, List.nil_append]
  rcases hv.form h0 with ⟨k, _⟩ | ⟨k, _⟩ | ⟨_, e1, l, e2⟩
  · omega
  · omega
  · rw [e2] at h
    rw [e1]
    exact h.put hd (by omega)
theorem cutL_n {n : Nat} (hk : ¬ p.kind = 2) : cutL p n = ⟨p.kind, (n : Int), []⟩ := by simp [cutL, hk]
theorem cutL_p {n : Nat} (hk : p.kind = 2) : cutL p n = ⟨2, 0, p.signs.take n⟩ := by simp [cutL, hk]
theorem CInv.eB {m : Nat} (h : CInv a b (unitsP p ++ R) (unitsP q ++ S) L) (hv : Vp p) (hw : Vp q) (h0 : 0 < m) (h1 : m ≤ sizeP p) (h2 : m ≤ sizeP q) (hk : ¬ p.kind = 3) (hk' : ¬ q.kind = 2) : CInv a b (unitsP (cutR p m) ++ R) (unitsP (cutR q m) ++ S) (bothL L (cutL p m) (cutL q m)) := by
  rw [units_cut hv h1, units_cut hw h2, List.append_assoc, List.append_assoc] at h
  rcases hv.form (by omega) with ⟨kp, _⟩ | ⟨kp, _⟩ | ⟨kp, _, lp, _⟩
  · have ep := cutL_n (p := p) (n := m) (by omega)
    rw [kp] at ep
    have up : unitsP (cutL p m) = List.replicate m .k := by rw [ep]; simp [unitsP]
    rcases hw.form (by omega) with ⟨kq, _⟩ | ⟨kq, _⟩ | ⟨kq, _⟩
    · have eq := cutL_n (p := q) (n := m) (by omega)
      rw [kq] at eq
      have uq : unitsP (cutL q m) = List.replicate m .k := by rw [eq]; simp [unitsP]
      rw [up, uq] at h
      rw [ep, eq]
      simpa [bothL] using h.kk h0
    · have eq := cutL_n (p := q) (n := m) (by omega)
      rw [kq] at eq
      have uq : unitsP (cutL q m) = List.replicate m .d := by rw [eq]; simp [unitsP]
      rw [up, uq] at h
      rw [ep, eq]
      simpa [bothL] using h.kd h0
    · omega
  · omega
  · have ep := cutL_p (p := p) (n := m) kp
    have lz : (p.signs.take m).length = m := by rw [List.length_take]; omega
    have up : unitsP (cutL p m) = (p.signs.take m).map .p := by rw [ep]; simp [unitsP]
    rcases hw.form (by omega) with ⟨kq, _⟩ | ⟨kq, _⟩ | ⟨kq, _⟩
    · have eq := cutL_n (p := q) (n := m) (by omega)
      rw [kq] at eq
      have uq : unitsP (cutL q m) = List.replicate (p.signs.take m).length .k := by rw [eq, lz]; simp [unitsP]
      rw [up, uq] at h
      rw [ep, eq]
      simpa [bothL] using h.pk (by omega)
    · have eq := cutL_n (p := q) (n := m) (by omega)
      rw [kq] at eq
      have uq : unitsP (cutL q m) = List.replicate (p.signs.take m).length .d := by rw [eq, lz]; simp [unitsP]
      rw [up, uq] at h
      rw [ep, eq]
      simpa [bothL] using h.pd
    · omega
end
theorem cutR_len {p : Pt} {n : Nat} (h : Vp p) (hn : n ≤ sizeP p) (h0 : 0 < n) : (unitsP (cutR p n)).length < (unitsP p).length := by
  have e := congrArg List.length (units_cut h hn)
  have l : (unitsP (cutL p n)).length = n := by
    obtain ⟨k, m, zs⟩ := p
    rcases h with ⟨h1, h2, h3, h4⟩ | ⟨h1, h2, h3⟩ | ⟨h1, h2, h3⟩ <;> simp only at * <;> subst_vars
    · have hk : ¬ k = 2 := by omega
      rw [unitsP_len]
      simp [sizeP, cutL, hk]
    · simp [sizeP] at hn
      rw [unitsP_len]
      simp [sizeP, cutL]
      omega
    · simp [sizeP] at hn
      omega
  rw [List.length_append, l] at e
  omega
/-- what lies below F.lo reads the same in two worlds of the state -/
theorem Co.rd {F : Fz} {KL KM : List (Nat × Obj)} {O O' : Nat → Prop} {L L' : List Pt} {w w' : World} {p p' : Pt} {ps ps' : List Pt} {q q' : Pt} {qs qs' : List Pt} (h : Co F KL O L w p ps q qs) (h' : Co F KM O' L' w' p' ps' q' qs') {d : Dat} {v : Value} (hr : RdC w F.lo d v) : RdC w' F.lo d v :=
  RdC.keep (fun _ hp => (h'.bl.cell hp).trans (h.bl.cell hp).symm) d v hr
end Go.Proofs.Ytfpjoncaccbnmaa.low


/-
  The rounds of impl.composed's ranges over functions: their codes, taken out of the translation; each round a theorem over the frame.
-/
namespace Go.Proofs.Ytfpjoncaccbnmaa.low
open Go.RowKit
set_option linter.unusedVariables false
attribute [local go_sem] Oper.semAt_some

/-- the ranges over functions in a piece of code: what is assigned, and the body -/
def rfs : Code → List (Code × Code)
  | .rangeFunc _ _ a b => (a, b) :: rfs b
  | .seq a b => rfs a ++ rfs b
  | .cond _ a b => rfs a ++ rfs b
  | .block _ c => rfs c
  | .scope c => rfs c
  | _ => []
theorem cutL_all {p : Pt} (h : Vp p) (hk : ¬ p.kind = 0) : cutL p (sizeP p) = p := by
  obtain ⟨k, m, zs⟩ := p
  rcases h with ⟨h1, h2, h3, h4⟩ | ⟨h1, h2, h3⟩ | ⟨h1, h2, h3⟩ <;> simp only at * <;> subst_vars
  · have hk : ¬ k = 2 := by omega
    simp only [cutL, sizeP, if_neg hk]
    rw [Int.toNat_of_nonneg h2]
  · simp [cutL, sizeP]
  · exact absurd rfl hk
end Go.Proofs.Ytfpjoncaccbnmaa.low


/-
  The program's transformation: pass, and the effects of each kind on each other kind.
-/
namespace Go.Proofs.Ytfpjoncaccbnmaa.low.xb
open Go.RowKit
set_option linter.unusedVariables false

theorem szD (r : Pt) (A : Option Addr) (c : Nat) (w : World) (hr : Vp r) : Calls Try.prog 84 #[.agg #[.int .i64 r.kind, .int .i64 r.n, .slice A r.signs.length c]] w (fun e w' => e = .returned (.int .i64 (sizeP r : Int)) ∧ Below w.heap.size w w') := by
  have hz := hr.size
  refine (implSize_any r.kind r.n A r.signs.length c w (by omega) (by omega) (by omega)).mono ?_
  rintro e w' ⟨rfl, h2⟩
  exact ⟨by rw [hz.1], h2⟩
theorem s_past {F : Fy} {KL : List (Nat × Obj)} {O P : Nat → Prop} {L M : List Pt} {W W' : World} {p : Pt} {ps : List Pt} {q : Pt} {qs : List Pt} {v0 v1 v2 u0 u1 u2 : Value}
    (h : W.cell? ⟨F.g, 0, none⟩ = some v0 ∧ W.cell? ⟨F.g, 1, none⟩ = some v1 ∧ W.cell? ⟨F.g, 2, none⟩ = some v2 ∧ W.cell? ⟨F.g, 4, none⟩ = some u0 ∧ W.cell? ⟨F.g, 5, none⟩ = some u1 ∧ W.cell? ⟨F.g, 6, none⟩ = some u2 ∧ Xs F KL O P L M W p ps q qs) (h2 : Below W.heap.size W W') :
    W'.cell? ⟨F.g, 0, none⟩ = some v0 ∧ W'.cell? ⟨F.g, 1, none⟩ = some v1 ∧ W'.cell? ⟨F.g, 2, none⟩ = some v2 ∧ W'.cell? ⟨F.g, 4, none⟩ = some u0 ∧ W'.cell? ⟨F.g, 5, none⟩ = some u1 ∧ W'.cell? ⟨F.g, 6, none⟩ = some u2 ∧ Xs F KL O P L M W' p ps q qs := by
  obtain ⟨a0, a1, a2, c0, c1, c2, hk⟩ := h
  have g' := hk.lt
  exact ⟨(h2.cell (p := ⟨F.g, 0, none⟩) g').trans a0, (h2.cell (p := ⟨F.g, 1, none⟩) g').trans a1, (h2.cell (p := ⟨F.g, 2, none⟩) g').trans a2, (h2.cell (p := ⟨F.g, 4, none⟩) g').trans c0, (h2.cell (p := ⟨F.g, 5, none⟩) g').trans c1, (h2.cell (p := ⟨F.g, 6, none⟩) g').trans c2, hk.past h2⟩
def PassP (F : Fy) (KL : List (Nat × Obj)) (O P : Nat → Prop) (L M : List Pt) (p : Pt) (ps : List Pt) (q : Pt) (qs : List Pt) (m : Nat) (e : Ending) (w' : World) : Prop := e = .returned (.int .i64 (m : Int)) ∧ Xs F KL O P L M w' (cutR p m) ps (cutR q m) qs
section
variable {F : Fy} {KL : List (Nat × Obj)} {O P : Nat → Prop} {L M : List Pt} {w : World} {p : Pt} {ps : List Pt} {q : Pt} {qs : List Pt} {m : Nat}
set_option maxRecDepth 100000 in
set_option maxHeartbeats 1600000 in
theorem Xs.pass (h : Xs F KL O P L M w p ps q qs) (h0 : 0 < m) (hp : m ≤ sizeP p) (hq : m ≤ sizeP q) (hm : m = sizeP p ∨ m = sizeP q) : Calls Try.prog 99 #[.pointer (some ⟨F.g, 0, none⟩)] w (PassP F KL O P L M p ps q qs m) := by
  have hvp := h.vp
  have hvq := h.vq
  obtain ⟨A, ca, a0, a1, a2, ra⟩ := h.drew.cellsA
  obtain ⟨B, cb, c0, c1, c2, rb⟩ := h.drew.cellsB
  have hS0 := And.intro a0 (And.intro a1 (And.intro a2 (And.intro c0 (And.intro c1 (And.intro c2 h.drew)))))
  have HM := Lib.hid hm
  have HMm := Lib.hid (show (if sizeP q < sizeP p then ((sizeP q : Nat) : Int) else ((sizeP p : Nat) : Int)) = (m : Int) by split <;> omega)
  clear h ra rb hm a0 a1 a2 c0 c1 c2
  go_enter Try.func99, Try.ntmps99
  go_wp2
  go_region_held3 (fun W => W.cell? ⟨F.g, 0, none⟩ = some (.int .i64 p.kind) ∧ W.cell? ⟨F.g, 1, none⟩ = some (.int .i64 p.n) ∧ W.cell? ⟨F.g, 2, none⟩ = some (.slice A p.signs.length ca) ∧ W.cell? ⟨F.g, 4, none⟩ = some (.int .i64 q.kind) ∧ W.cell? ⟨F.g, 5, none⟩ = some (.int .i64 q.n) ∧ W.cell? ⟨F.g, 6, none⟩ = some (.slice B q.signs.length cb) ∧ Xs F KL O P L M W p ps q qs)
    (first | assumption | exact hS0 | (exact s_past (by assumption) b2))
    (first | (go_at_call 84; ((with_reducible refine (szD p A ca _ hvp).mono ?_); rintro e w2 ⟨rfl, b2⟩)) | (go_at_call 84; ((with_reducible refine (szD q B cb _ hvq).mono ?_); rintro e w2 ⟨rfl, b2⟩)))
  rename_i hS2
  have HS := Lib.hid hS2.2.2.2.2.2.2
  clear hS2 hS0
  rw [HMm.out]
  clear HMm
  go_wp2_with fail
  refine (HS.out.takeA h0 hp).mono ?_
  rintro e w3 ⟨v3, rfl, _, h3⟩
  have HS3 := Lib.hid h3
  clear h3
  go_wp2_with fail
  refine (HS3.out.takeB h0 hq).mono ?_
  rintro e w4 ⟨v4, rfl, _, h4⟩
  have HS4 := Lib.hid h4
  clear h4
  go_wp2
  go_ret
  exact ⟨rfl, HS4.out⟩
def EffP (F : Fy) (KL : List (Nat × Obj)) (L M : List Pt) (p : Pt) (ps : List Pt) (q : Pt) (qs : List Pt) (e : Ending) (w' : World) : Prop := e = .returned (.tuple #[]) ∧ ∃ O P, Xs F KL O P L M w' p ps q qs
set_option maxRecDepth 100000 in
set_option maxHeartbeats 1600000 in
theorem Xs.keepBoth (h : Xs F KL O P L M w p ps q qs) (h0 : 0 < m) (hp : m ≤ sizeP p) (hq : m ≤ sizeP q) (hm : m = sizeP p ∨ m = sizeP q) (hL : L.length < 100000) (hM : M.length < 100000) : Calls Try.prog 86 #[.pointer (some ⟨F.g, 0, none⟩)] w (EffP F KL (L ++ [⟨1, (m : Int), []⟩]) (M ++ [⟨1, (m : Int), []⟩]) (cutR p m) ps (cutR q m) qs) := by
  have hs := h.vp.size
  go_enter Try.func86, Try.ntmps86
  go_wp2_with fail
  refine (h.pass h0 hp hq hm).mono ?_
  rintro e w1 ⟨rfl, h1⟩
  have H1 := Lib.hid h1
  clear h1 h
  go_wp2_with fail
  refine (H1.out.keepX (by omega) (by omega) hL).mono ?_
  rintro e w2 ⟨rfl, O2, h2⟩
  have H2 := Lib.hid h2
  clear h2 H1
  go_wp2_with fail
  refine (H2.out.keepY (by omega) (by omega) hM).mono ?_
  rintro e w3 ⟨rfl, P3, h3⟩
  have H3 := Lib.hid h3
  clear h3 H2
  go_wp2
  go_end0
  exact ⟨rfl, _, _, H3.out⟩
set_option maxRecDepth 100000 in
set_option maxHeartbeats 1600000 in
theorem Xs.dropBoth (h : Xs F KL O P L M w p ps q qs) (h0 : 0 < m) (hp : m ≤ sizeP p) (hq : m ≤ sizeP q) (hm : m = sizeP p ∨ m = sizeP q) : Calls Try.prog 90 #[.pointer (some ⟨F.g, 0, none⟩)] w (EffP F KL L M (cutR p m) ps (cutR q m) qs) := by
  go_enter Try.func90, Try.ntmps90
  go_wp2_with fail
  refine (h.pass h0 hp hq hm).mono ?_
  rintro e w1 ⟨rfl, h1⟩
  have H1 := Lib.hid h1
  clear h1 h
  go_wp2
  go_end0
  exact ⟨rfl, _, _, H1.out⟩
set_option maxRecDepth 100000 in
set_option maxHeartbeats 1600000 in
theorem Xs.dropFirst (h : Xs F KL O P L M w p ps q qs) (h0 : 0 < m) (hp : m ≤ sizeP p) (hq : m ≤ sizeP q) (hm : m = sizeP p ∨ m = sizeP q) (hL : L.length < 100000) : Calls Try.prog 89 #[.pointer (some ⟨F.g, 0, none⟩)] w (EffP F KL (L ++ [⟨3, (m : Int), []⟩]) M (cutR p m) ps (cutR q m) qs) := by
  have hs := h.vp.size
  have HS := Lib.hid h.drew
  have HM := Lib.hid hm
  clear h hm
  go_enter Try.func89, Try.ntmps89
  go_wp2
  go_region_held3 (fun _ => True) (trivial)
    (first | (go_at_call 99; ((refine (HS.out.pass h0 hp hq HM.out).mono ?_); rintro e w1 ⟨rfl, h1⟩; have H1 := Lib.hid h1; clear h1)) | (go_at_call 95; ((refine (H1.out.dropX (by omega) (by omega) hL).mono ?_); rintro e w2 ⟨rfl, O2, h2⟩; have H2 := Lib.hid h2; clear h2)))
  go_wp2
  go_end0
  exact ⟨rfl, _, _, H2.out⟩
set_option maxRecDepth 100000 in
set_option maxHeartbeats 1600000 in
theorem Xs.dropSecond (h : Xs F KL O P L M w p ps q qs) (h0 : 0 < m) (hp : m ≤ sizeP p) (hq : m ≤ sizeP q) (hm : m = sizeP p ∨ m = sizeP q) (hM : M.length < 100000) : Calls Try.prog 87 #[.pointer (some ⟨F.g, 0, none⟩)] w (EffP F KL L (M ++ [⟨3, (m : Int), []⟩]) (cutR p m) ps (cutR q m) qs) := by
  have hs := h.vp.size
  have HS := Lib.hid h.drew
  have HM := Lib.hid hm
  clear h hm
  go_enter Try.func87, Try.ntmps87
  go_wp2
  go_region_held3 (fun _ => True) (trivial)
    (first | (go_at_call 99; ((refine (HS.out.pass h0 hp hq HM.out).mono ?_); rintro e w1 ⟨rfl, h1⟩; have H1 := Lib.hid h1; clear h1)) | (go_at_call 95; ((refine (H1.out.dropY (by omega) (by omega) hM).mono ?_); rintro e w2 ⟨rfl, O2, h2⟩; have H2 := Lib.hid h2; clear h2)))
  go_wp2
  go_end0
  exact ⟨rfl, _, _, H2.out⟩
end
end Go.Proofs.Ytfpjoncaccbnmaa.low.xb


/-
  The program's transformation: the effects of an insertion (putFirst, putSecond).
-/
namespace Go.Proofs.Ytfpjoncaccbnmaa.low.xb
open Go.RowKit
set_option linter.unusedVariables false

section
variable {F : Fy} {KL : List (Nat × Obj)} {O P : Nat → Prop} {L M : List Pt} {w : World} {p : Pt} {ps : List Pt} {q : Pt} {qs : List Pt}
def slA (w : World) (g i : Nat) : Option Addr := match w.cell? ⟨g, i, none⟩ with
  | some (.slice A _ _) => A
  | _ => none
def slC (w : World) (g i : Nat) : Nat := match w.cell? ⟨g, i, none⟩ with
  | some (.slice _ _ c) => c
  | _ => 0
theorem sl_of {w : World} {g i n c : Nat} {A : Option Addr} (h : w.cell? ⟨g, i, none⟩ = some (.slice A n c)) : w.cell? ⟨g, i, none⟩ = some (.slice (slA w g i) n (slC w g i)) := by
  unfold slA slC
  rw [h]
theorem Xs.cellsA0 (h : Xs F KL O P L M w p ps q qs) : w.cell? ⟨F.g, 0, none⟩ = some (.int .i64 p.kind) := by obtain ⟨_, _, h1, _⟩ := h.cellsA; exact h1
theorem Xs.cellsA1 (h : Xs F KL O P L M w p ps q qs) : w.cell? ⟨F.g, 1, none⟩ = some (.int .i64 p.n) := by obtain ⟨_, _, _, h1, _⟩ := h.cellsA; exact h1
theorem Xs.cellsA2 (h : Xs F KL O P L M w p ps q qs) : w.cell? ⟨F.g, 2, none⟩ = some (.slice (slA w F.g 2) p.signs.length (slC w F.g 2)) := by obtain ⟨_, _, _, _, h1, _⟩ := h.cellsA; exact sl_of h1
theorem Xs.cellsB0 (h : Xs F KL O P L M w p ps q qs) : w.cell? ⟨F.g, 4, none⟩ = some (.int .i64 q.kind) := by obtain ⟨_, _, h1, _⟩ := h.cellsB; exact h1
theorem Xs.cellsB1 (h : Xs F KL O P L M w p ps q qs) : w.cell? ⟨F.g, 5, none⟩ = some (.int .i64 q.n) := by obtain ⟨_, _, _, h1, _⟩ := h.cellsB; exact h1
theorem Xs.cellsB2 (h : Xs F KL O P L M w p ps q qs) : w.cell? ⟨F.g, 6, none⟩ = some (.slice (slA w F.g 6) q.signs.length (slC w F.g 6)) := by obtain ⟨_, _, _, _, h1, _⟩ := h.cellsB; exact sl_of h1
theorem Xs.c3 {m : Nat} {v0 v1 v2 : Value} {T : TypeId} (h : Xs F ((m, .cells #[v0, v1, v2] T (0, 0)) :: KL) O P L M w p ps q qs) : w.cell? ⟨m, 0, none⟩ = some v0 ∧ w.cell? ⟨m, 1, none⟩ = some v1 ∧ w.cell? ⟨m, 2, none⟩ = some v2 :=
  ⟨h.cellK (List.mem_cons_self) rfl, h.cellK (List.mem_cons_self) rfl, h.cellK (List.mem_cons_self) rfl⟩
theorem Xs.f3 {m : Nat} {v0 v1 v2 : Value} {T : TypeId} (h : Xs F ((m, .cells #[v0, v1, v2] T (0, 0)) :: KL) O P L M w p ps q qs) : w.frozen? ⟨m, 0, none⟩ = false ∧ w.frozen? ⟨m, 1, none⟩ = false ∧ w.frozen? ⟨m, 2, none⟩ = false :=
  ⟨h.freeK (List.mem_cons_self) 0, h.freeK (List.mem_cons_self) 1, h.freeK (List.mem_cons_self) 2⟩
theorem Xs.set3 {m : Nat} {v0 v1 v2 : Value} {T : TypeId} (h : Xs F ((m, .cells #[v0, v1, v2] T (0, 0)) :: KL) O P L M w p ps q qs) (hn : ∀ x ∈ KL, ¬ x.1 = m) (x0 x1 x2 : Value) : Xs F ((m, .cells #[x0, x1, x2] T (0, 0)) :: KL) O P L M (((w.setCell ⟨m, 0, none⟩ x0).setCell ⟨m, 1, none⟩ x1).setCell ⟨m, 2, none⟩ x2) p ps q qs :=
  ((h.setK (i := 0) hn x0).setK (i := 1) hn x1).setK (i := 2) hn x2
/-- a part's block, made -/
theorem Xs.made (h : Xs F KL O P L M w p ps q qs) (o : Obj) : Xs F ((w.heap.size, o) :: KL) O P L M (w.alloc o) p ps q qs ∧ ∀ x ∈ KL, ¬ x.1 = w.heap.size :=
  ⟨h.also (alloc_below w o) (Nat.le_refl _) (heap_alloc_new w o), h.fresh (Nat.le_refl _)⟩
theorem Xs.to0 {d : Dat} {v : Value} (h : Xs F KL O P L M w p ps q qs) (hr : RdC w F.lo d v) : RdC F.w0 F.lo d v := RdC.keep (fun _ hp => (h.bl.cell hp).symm) d v hr
theorem Xs.of0 {d : Dat} {v : Value} (h : Xs F KL O P L M w p ps q qs) (hr : RdC F.w0 F.lo d v) : RdC w F.lo d v := RdC.keep (fun _ hp => h.bl.cell hp) d v hr
theorem Xs.tail {x : Nat × Obj} (h : Xs F (x :: KL) O P L M w p ps q qs) : Xs F KL O P L M w p ps q qs := h.less (fun y hy => List.mem_cons_of_mem _ hy)
set_option maxRecDepth 100000 in
set_option maxHeartbeats 1600000 in
theorem Xs.putFirst (h : Xs F KL O P L M w p ps q qs) (h0 : 0 < sizeP p) (hL : L.length < 100000) (hM : M.length < 100000) : Calls Try.prog 88 #[.pointer (some ⟨F.g, 0, none⟩)] w (EffP F KL (L ++ [p]) (M ++ [⟨1, (sizeP p : Int), []⟩]) (cutR p (sizeP p)) ps q qs) := by
  have hv := h.vp
  have hs := hv.size
  have hk0 := hv.kind_ne h0
  have HS := Lib.hid h.drew
  clear h
  go_enter Try.func88, Try.ntmps88
  go_wp2
  refine wp_region_held_drew (S := fun _ => True) (by kernel_rfl) trivial (fun _ => ?_)
  generalize w.drew = wd at *
  refine wpAnyH_take (i := 0) (v := .pointer (some ⟨F.g, 0, none⟩)) rfl (by kernel_rfl) (by kernel_rfl) (by kernel_rfl) (fun _ _ _ h => h) (Or.inl ⟨by rfl, fun w' hS => ?_⟩) trivial ?_
  · clear HS; go_simp
  try simp only [Act.put]
  refine wpAnyH_take (i := 1) (v := .pointer (some ⟨F.g, 0, none⟩)) rfl (by kernel_rfl) (by kernel_rfl) (by kernel_rfl) (fun _ _ _ h => h) (Or.inl ⟨by rfl, fun w' hS => ?_⟩) trivial ?_
  · clear HS; go_simp
  try simp only [Act.put]
  refine wpAnyH_take (i := 2) (v := .pointer (some ⟨F.g, 0, none⟩)) rfl (by kernel_rfl) (by kernel_rfl) (by kernel_rfl) (fun _ _ _ h => h) (Or.inl ⟨by rfl, fun w' hS => ?_⟩) trivial ?_
  · clear HS; go_simp
  try simp only [Act.put]
  refine wpAnyH_take (i := 3) (v := .pointer (some ⟨F.g, 0, none⟩)) rfl (by kernel_rfl) (by kernel_rfl) (by kernel_rfl) (fun _ _ _ h => h) (Or.inl ⟨by rfl, fun w' hS => ?_⟩) trivial ?_
  · clear HS; go_simp
  try simp only [Act.put]
  refine wpAnyH_take (i := 4) (v := .pointer (some ⟨F.g, 0, none⟩)) rfl (by kernel_rfl) (by kernel_rfl) (by kernel_rfl) (fun _ _ _ h => h) (Or.inl ⟨by rfl, fun w' hS => ?_⟩) trivial ?_
  · clear HS; go_simp
  try simp only [Act.put]
  refine wpAnyH_take (i := 5) (v := .pointer (some ⟨F.g, 0, none⟩)) rfl (by kernel_rfl) (by kernel_rfl) (by kernel_rfl) (fun _ _ _ h => h) (Or.inl ⟨by rfl, fun w' hS => ?_⟩) trivial ?_
  · clear HS; go_simp
  try simp only [Act.put]
  refine wpAnyH_take (i := 6) (v := .pointer (some ⟨F.g, 0, none⟩)) rfl (by kernel_rfl) (by kernel_rfl) (by kernel_rfl) (fun _ _ _ h => h) (Or.inl ⟨by rfl, fun w' hS => ?_⟩) trivial ?_
  · clear HS; go_simp
  try simp only [Act.put]
  refine wpAnyH_ready (rs := [7, 10]) (by kernel_rfl) (by simp) ?_
  refine AllReadyH.cons rfl (fun K hK => ?_) (AllReadyH.cons rfl (fun K hK => ?_) AllReadyH.nil)
  · have a0 := HS.out.cellsA0
    have a1 := HS.out.cellsA1
    have a2 := HS.out.cellsA2
    go_simp
    refine hK.out _ _ trivial (fun _ => ?_)
    clear hK K a0 a1 a2
    try simp only [Act.put, List.setIfInBounds_toArray, List.set_cons_zero, List.set_cons_succ]
    refine wpAnyH_ready (rs := [8, 10]) (by kernel_rfl) (by simp) ?_
    refine AllReadyH.cons rfl (fun K hK => ?_) (AllReadyH.cons rfl (fun K hK => ?_) AllReadyH.nil)
    · go_simp
      refine (HS.out.size (r := p) hv).mono ?_
      rintro e w1 ⟨rfl, h1, b1⟩
      refine hK.out _ _ trivial (fun _ => ?_)
      clear hK K b1
      try simp only [Act.put, List.setIfInBounds_toArray, List.set_cons_zero, List.set_cons_succ]
      replace HS := Lib.hid h1
      clear h1
      refine wpAnyH_ready (rs := [9, 10]) (by kernel_rfl) (by simp) ?_
      refine AllReadyH.cons rfl (fun K hK => ?_) (AllReadyH.cons rfl (fun K hK => ?_) AllReadyH.nil)
      · go_simp
        refine (HS.out.takeA h0 (Nat.le_refl _)).mono ?_
        rintro e w2 ⟨v2, rfl, pv2, h2⟩
        rw [cutL_all hv hk0] at pv2
        obtain ⟨A2, c2, rfl, r2⟩ := pv2
        have HR := Lib.hid (h2.to0 r2)
        clear r2
        refine hK.out _ _ trivial (fun _ => ?_)
        clear hK K
        try simp only [Act.put, List.setIfInBounds_toArray, List.set_cons_zero, List.set_cons_succ]
        replace HS := Lib.hid h2
        clear h2
        refine wpAnyH_ready (rs := [10]) (by kernel_rfl) (by simp) ?_
        refine AllReadyH.cons rfl (fun K hK => ?_) AllReadyH.nil
        go_simp
        refine hK.out _ _ trivial (fun _ => ?_)
        clear hK K
        try simp only [Act.put, List.setIfInBounds_toArray, List.set_cons_zero, List.set_cons_succ]
        have HF := Lib.hid (HS.out.made (.cells #[.int .i64 0, .int .i64 0, .slice none 0 0] 66)).2
        replace HS := Lib.hid (HS.out.made (.cells #[.int .i64 0, .int .i64 0, .slice none 0 0] 66)).1
        generalize w2.heap.size = mm at *
        generalize w2.alloc (.cells #[.int .i64 0, .int .i64 0, .slice none 0 0] 66) = wa at *
        refine wpAnyH_ready (rs := [11]) (by kernel_rfl) (by simp) ?_
        refine AllReadyH.cons rfl (fun K hK => ?_) AllReadyH.nil
        have m0 := HS.out.c3.1
        have m1 := HS.out.c3.2.1
        have m2 := HS.out.c3.2.2
        have n0 := HS.out.f3.1
        have n1 := HS.out.f3.2.1
        have n2 := HS.out.f3.2.2
        go_simp
        refine hK.out _ _ trivial (fun _ => ?_)
        clear hK K m0 m1 m2 n0 n1 n2
        try simp only [Act.put, List.setIfInBounds_toArray, List.set_cons_zero, List.set_cons_succ]
        refine wpAnyH_done (by kernel_rfl) ?_ _
        replace HS := Lib.hid (HS.out.set3 HF.out (.int .i64 p.kind) (.int .i64 p.n) (.slice A2 p.signs.length c2))
        generalize (((wa.setCell ⟨mm, 0, none⟩ (.int .i64 p.kind)).setCell ⟨mm, 1, none⟩ (.int .i64 p.n)).setCell ⟨mm, 2, none⟩ (.slice A2 p.signs.length c2)) = ws at *
        clear HF
        have hS1 := HS.out.drew.c3
        go_wp2
        go_region_held3 (fun W => W.cell? ⟨mm, 0, none⟩ = some (.int .i64 p.kind) ∧ W.cell? ⟨mm, 1, none⟩ = some (.int .i64 p.n) ∧ W.cell? ⟨mm, 2, none⟩ = some (.slice A2 p.signs.length c2))
          (first | assumption | exact hS1 | exact H1.out.c3)
          (first | (go_at_call 71; ((refine (HS.out.drew.addX ⟨A2, c2, rfl, HS.out.drew.of0 HR.out⟩ hv hk0 hL).mono ?_); rintro e w3 ⟨rfl, O3, h3⟩; have H1 := Lib.hid h3; clear h3)))
        clear hS1
        have hS2 := H1.out.drew.c3
        go_wp2
        go_region_held3 (fun W => W.cell? ⟨mm, 0, none⟩ = some (.int .i64 p.kind) ∧ W.cell? ⟨mm, 1, none⟩ = some (.int .i64 p.n) ∧ W.cell? ⟨mm, 2, none⟩ = some (.slice A2 p.signs.length c2))
          (first | assumption | exact hS2 | exact H3.out.c3 | exact H2.out.c3)
          (first | (go_at_call 84; ((refine (H1.out.drew.size (r := p) hv).mono ?_); rintro e w4 ⟨rfl, h4, b4⟩; have H2 := Lib.hid h4; clear h4 b4)) | (go_at_call 93; ((refine (H2.out.keepY (by omega) (by omega) hM).mono ?_); rintro e w5 ⟨rfl, P5, h5⟩; have H3 := Lib.hid h5; clear h5)))
        clear hS2
        go_wp2
        go_end0
        exact ⟨rfl, _, _, H3.out.tail⟩
      · go_simp
        refine hK.out _ _ trivial (fun _ => ?_)
        clear hK K
        try simp only [Act.put, List.setIfInBounds_toArray, List.set_cons_zero, List.set_cons_succ]
        have HF := Lib.hid (HS.out.made (.cells #[.int .i64 0, .int .i64 0, .slice none 0 0] 66)).2
        replace HS := Lib.hid (HS.out.made (.cells #[.int .i64 0, .int .i64 0, .slice none 0 0] 66)).1
        generalize w1.heap.size = mm at *
        generalize w1.alloc (.cells #[.int .i64 0, .int .i64 0, .slice none 0 0] 66) = wa at *
        refine wpAnyH_ready (rs := [9]) (by kernel_rfl) (by simp) ?_
        refine AllReadyH.cons rfl (fun K hK => ?_) AllReadyH.nil
        go_simp
        refine (HS.out.takeA h0 (Nat.le_refl _)).mono ?_
        rintro e w2 ⟨v2, rfl, pv2, h2⟩
        rw [cutL_all hv hk0] at pv2
        obtain ⟨A2, c2, rfl, r2⟩ := pv2
        have HR := Lib.hid (h2.to0 r2)
        clear r2
        refine hK.out _ _ trivial (fun _ => ?_)
        clear hK K
        try simp only [Act.put, List.setIfInBounds_toArray, List.set_cons_zero, List.set_cons_succ]
        replace HS := Lib.hid h2
        clear h2
        refine wpAnyH_ready (rs := [11]) (by kernel_rfl) (by simp) ?_
        refine AllReadyH.cons rfl (fun K hK => ?_) AllReadyH.nil
        have m0 := HS.out.c3.1
        have m1 := HS.out.c3.2.1
        have m2 := HS.out.c3.2.2
        have n0 := HS.out.f3.1
        have n1 := HS.out.f3.2.1
        have n2 := HS.out.f3.2.2
        go_simp
        refine hK.out _ _ trivial (fun _ => ?_)
        clear hK K m0 m1 m2 n0 n1 n2
        try simp only [Act.put, List.setIfInBounds_toArray, List.set_cons_zero, List.set_cons_succ]
        refine wpAnyH_done (by kernel_rfl) ?_ _
        replace HS := Lib.hid (HS.out.set3 HF.out (.int .i64 p.kind) (.int .i64 p.n) (.slice A2 p.signs.length c2))
        generalize (((w2.setCell ⟨mm, 0, none⟩ (.int .i64 p.kind)).setCell ⟨mm, 1, none⟩ (.int .i64 p.n)).setCell ⟨mm, 2, none⟩ (.slice A2 p.signs.length c2)) = ws at *
        clear HF
        have hS1 := HS.out.drew.c3
        go_wp2
        go_region_held3 (fun W => W.cell? ⟨mm, 0, none⟩ = some (.int .i64 p.kind) ∧ W.cell? ⟨mm, 1, none⟩ = some (.int .i64 p.n) ∧ W.cell? ⟨mm, 2, none⟩ = some (.slice A2 p.signs.length c2))
          (first | assumption | exact hS1 | exact H1.out.c3)
          (first | (go_at_call 71; ((refine (HS.out.drew.addX ⟨A2, c2, rfl, HS.out.drew.of0 HR.out⟩ hv hk0 hL).mono ?_); rintro e w3 ⟨rfl, O3, h3⟩; have H1 := Lib.hid h3; clear h3)))
        clear hS1
        have hS2 := H1.out.drew.c3
        go_wp2
        go_region_held3 (fun W => W.cell? ⟨mm, 0, none⟩ = some (.int .i64 p.kind) ∧ W.cell? ⟨mm, 1, none⟩ = some (.int .i64 p.n) ∧ W.cell? ⟨mm, 2, none⟩ = some (.slice A2 p.signs.length c2))
          (first | assumption | exact hS2 | exact H3.out.c3 | exact H2.out.c3)
          (first | (go_at_call 84; ((refine (H1.out.drew.size (r := p) hv).mono ?_); rintro e w4 ⟨rfl, h4, b4⟩; have H2 := Lib.hid h4; clear h4 b4)) | (go_at_call 93; ((refine (H2.out.keepY (by omega) (by omega) hM).mono ?_); rintro e w5 ⟨rfl, P5, h5⟩; have H3 := Lib.hid h5; clear h5)))
        clear hS2
        go_wp2
        go_end0
        exact ⟨rfl, _, _, H3.out.tail⟩
    · go_simp
      refine hK.out _ _ trivial (fun _ => ?_)
      clear hK K
      try simp only [Act.put, List.setIfInBounds_toArray, List.set_cons_zero, List.set_cons_succ]
      have HF := Lib.hid (HS.out.made (.cells #[.int .i64 0, .int .i64 0, .slice none 0 0] 66)).2
      replace HS := Lib.hid (HS.out.made (.cells #[.int .i64 0, .int .i64 0, .slice none 0 0] 66)).1
      generalize wd.heap.size = mm at *
      generalize wd.alloc (.cells #[.int .i64 0, .int .i64 0, .slice none 0 0] 66) = wa at *
      refine wpAnyH_ready (rs := [8]) (by kernel_rfl) (by simp) ?_
      refine AllReadyH.cons rfl (fun K hK => ?_) AllReadyH.nil
      go_simp
      refine (HS.out.size (r := p) hv).mono ?_
      rintro e w1 ⟨rfl, h1, b1⟩
      refine hK.out _ _ trivial (fun _ => ?_)
      clear hK K b1
      try simp only [Act.put, List.setIfInBounds_toArray, List.set_cons_zero, List.set_cons_succ]
      replace HS := Lib.hid h1
      clear h1
      refine wpAnyH_ready (rs := [9]) (by kernel_rfl) (by simp) ?_
      refine AllReadyH.cons rfl (fun K hK => ?_) AllReadyH.nil
      go_simp
      refine (HS.out.takeA h0 (Nat.le_refl _)).mono ?_
      rintro e w2 ⟨v2, rfl, pv2, h2⟩
      rw [cutL_all hv hk0] at pv2
      obtain ⟨A2, c2, rfl, r2⟩ := pv2
      have HR := Lib.hid (h2.to0 r2)
      clear r2
      refine hK.out _ _ trivial (fun _ => ?_)
      clear hK K
      try simp only [Act.put, List.setIfInBounds_toArray, List.set_cons_zero, List.set_cons_succ]
      replace HS := Lib.hid h2
      clear h2
      refine wpAnyH_ready (rs := [11]) (by kernel_rfl) (by simp) ?_
      refine AllReadyH.cons rfl (fun K hK => ?_) AllReadyH.nil
      have m0 := HS.out.c3.1
      have m1 := HS.out.c3.2.1
      have m2 := HS.out.c3.2.2
      have n0 := HS.out.f3.1
      have n1 := HS.out.f3.2.1
      have n2 := HS.out.f3.2.2
      go_simp
      refine hK.out _ _ trivial (fun _ => ?_)
      clear hK K m0 m1 m2 n0 n1 n2
      try simp only [Act.put, List.setIfInBounds_toArray, List.set_cons_zero, List.set_cons_succ]
      refine wpAnyH_done (by kernel_rfl) ?_ _
      replace HS := Lib.hid (HS.out.set3 HF.out (.int .i64 p.kind) (.int .i64 p.n) (.slice A2 p.signs.length c2))
      generalize (((w2.setCell ⟨mm, 0, none⟩ (.int .i64 p.kind)).setCell ⟨mm, 1, none⟩ (.int .i64 p.n)).setCell ⟨mm, 2, none⟩ (.slice A2 p.signs.length c2)) = ws at *
      clear HF
      have hS1 := HS.out.drew.c3
      go_wp2
      go_region_held3 (fun W => W.cell? ⟨mm, 0, none⟩ = some (.int .i64 p.kind) ∧ W.cell? ⟨mm, 1, none⟩ = some (.int .i64 p.n) ∧ W.cell? ⟨mm, 2, none⟩ = some (.slice A2 p.signs.length c2))
        (first | assumption | exact hS1 | exact H1.out.c3)
        (first | (go_at_call 71; ((refine (HS.out.drew.addX ⟨A2, c2, rfl, HS.out.drew.of0 HR.out⟩ hv hk0 hL).mono ?_); rintro e w3 ⟨rfl, O3, h3⟩; have H1 := Lib.hid h3; clear h3)))
      clear hS1
      have hS2 := H1.out.drew.c3
      go_wp2
      go_region_held3 (fun W => W.cell? ⟨mm, 0, none⟩ = some (.int .i64 p.kind) ∧ W.cell? ⟨mm, 1, none⟩ = some (.int .i64 p.n) ∧ W.cell? ⟨mm, 2, none⟩ = some (.slice A2 p.signs.length c2))
        (first | assumption | exact hS2 | exact H3.out.c3 | exact H2.out.c3)
        (first | (go_at_call 84; ((refine (H1.out.drew.size (r := p) hv).mono ?_); rintro e w4 ⟨rfl, h4, b4⟩; have H2 := Lib.hid h4; clear h4 b4)) | (go_at_call 93; ((refine (H2.out.keepY (by omega) (by omega) hM).mono ?_); rintro e w5 ⟨rfl, P5, h5⟩; have H3 := Lib.hid h5; clear h5)))
      clear hS2
      go_wp2
      go_end0
      exact ⟨rfl, _, _, H3.out.tail⟩
  · go_simp
    refine hK.out _ _ trivial (fun _ => ?_)
    clear hK K
    try simp only [Act.put, List.setIfInBounds_toArray, List.set_cons_zero, List.set_cons_succ]
    have HF := Lib.hid (HS.out.made (.cells #[.int .i64 0, .int .i64 0, .slice none 0 0] 66)).2
    replace HS := Lib.hid (HS.out.made (.cells #[.int .i64 0, .int .i64 0, .slice none 0 0] 66)).1
    generalize wd.heap.size = mm at *
    generalize wd.alloc (.cells #[.int .i64 0, .int .i64 0, .slice none 0 0] 66) = wa at *
    refine wpAnyH_ready (rs := [7]) (by kernel_rfl) (by simp) ?_
    refine AllReadyH.cons rfl (fun K hK => ?_) AllReadyH.nil
    have a0 := HS.out.cellsA0
    have a1 := HS.out.cellsA1
    have a2 := HS.out.cellsA2
    go_simp
    refine hK.out _ _ trivial (fun _ => ?_)
    clear hK K a0 a1 a2
    try simp only [Act.put, List.setIfInBounds_toArray, List.set_cons_zero, List.set_cons_succ]
    refine wpAnyH_ready (rs := [8]) (by kernel_rfl) (by simp) ?_
    refine AllReadyH.cons rfl (fun K hK => ?_) AllReadyH.nil
    go_simp
    refine (HS.out.size (r := p) hv).mono ?_
    rintro e w1 ⟨rfl, h1, b1⟩
    refine hK.out _ _ trivial (fun _ => ?_)
    clear hK K b1
    try simp only [Act.put, List.setIfInBounds_toArray, List.set_cons_zero, List.set_cons_succ]
    replace HS := Lib.hid h1
    clear h1
    refine wpAnyH_ready (rs := [9]) (by kernel_rfl) (by simp) ?_
    refine AllReadyH.cons rfl (fun K hK => ?_) AllReadyH.nil
    go_simp
    refine (HS.out.takeA h0 (Nat.le_refl _)).mono ?_
    rintro e w2 ⟨v2, rfl, pv2, h2⟩
    rw [cutL_all hv hk0] at pv2
    obtain ⟨A2, c2, rfl, r2⟩ := pv2
    have HR := Lib.hid (h2.to0 r2)
    clear r2
    refine hK.out _ _ trivial (fun _ => ?_)
    clear hK K
    try simp only [Act.put, List.setIfInBounds_toArray, List.set_cons_zero, List.set_cons_succ]
    replace HS := Lib.hid h2
    clear h2
    refine wpAnyH_ready (rs := [11]) (by kernel_rfl) (by simp) ?_
    refine AllReadyH.cons rfl (fun K hK => ?_) AllReadyH.nil
    have m0 := HS.out.c3.1
    have m1 := HS.out.c3.2.1
    have m2 := HS.out.c3.2.2
    have n0 := HS.out.f3.1
    have n1 := HS.out.f3.2.1
    have n2 := HS.out.f3.2.2
    go_simp
    refine hK.out _ _ trivial (fun _ => ?_)
    clear hK K m0 m1 m2 n0 n1 n2
    try simp only [Act.put, List.setIfInBounds_toArray, List.set_cons_zero, List.set_cons_succ]
    refine wpAnyH_done (by kernel_rfl) ?_ _
    replace HS := Lib.hid (HS.out.set3 HF.out (.int .i64 p.kind) (.int .i64 p.n) (.slice A2 p.signs.length c2))
    generalize (((w2.setCell ⟨mm, 0, none⟩ (.int .i64 p.kind)).setCell ⟨mm, 1, none⟩ (.int .i64 p.n)).setCell ⟨mm, 2, none⟩ (.slice A2 p.signs.length c2)) = ws at *
    clear HF
    have hS1 := HS.out.drew.c3
    go_wp2
    go_region_held3 (fun W => W.cell? ⟨mm, 0, none⟩ = some (.int .i64 p.kind) ∧ W.cell? ⟨mm, 1, none⟩ = some (.int .i64 p.n) ∧ W.cell? ⟨mm, 2, none⟩ = some (.slice A2 p.signs.length c2))
      (first | assumption | exact hS1 | exact H1.out.c3)
      (first | (go_at_call 71; ((refine (HS.out.drew.addX ⟨A2, c2, rfl, HS.out.drew.of0 HR.out⟩ hv hk0 hL).mono ?_); rintro e w3 ⟨rfl, O3, h3⟩; have H1 := Lib.hid h3; clear h3)))
    clear hS1
    have hS2 := H1.out.drew.c3
    go_wp2
    go_region_held3 (fun W => W.cell? ⟨mm, 0, none⟩ = some (.int .i64 p.kind) ∧ W.cell? ⟨mm, 1, none⟩ = some (.int .i64 p.n) ∧ W.cell? ⟨mm, 2, none⟩ = some (.slice A2 p.signs.length c2))
      (first | assumption | exact hS2 | exact H3.out.c3 | exact H2.out.c3)
      (first | (go_at_call 84; ((refine (H1.out.drew.size (r := p) hv).mono ?_); rintro e w4 ⟨rfl, h4, b4⟩; have H2 := Lib.hid h4; clear h4 b4)) | (go_at_call 93; ((refine (H2.out.keepY (by omega) (by omega) hM).mono ?_); rintro e w5 ⟨rfl, P5, h5⟩; have H3 := Lib.hid h5; clear h5)))
    clear hS2
    go_wp2
    go_end0
    exact ⟨rfl, _, _, H3.out.tail⟩
set_option maxRecDepth 100000 in
set_option maxHeartbeats 1600000 in
theorem Xs.putSecond (h : Xs F KL O P L M w p ps q qs) (h0 : 0 < sizeP q) (hL : L.length < 100000) (hM : M.length < 100000) : Calls Try.prog 85 #[.pointer (some ⟨F.g, 0, none⟩)] w (EffP F KL (L ++ [⟨1, (sizeP q : Int), []⟩]) (M ++ [q]) p ps (cutR q (sizeP q)) qs) := by
  have hv := h.vq
  have hs := hv.size
  have hk0 := hv.kind_ne h0
  have HS := Lib.hid h.drew
  clear h
  go_enter Try.func85, Try.ntmps85
  go_wp2
  refine wp_region_held_drew (S := fun _ => True) (by kernel_rfl) trivial (fun _ => ?_)
  generalize w.drew = wd at *
  refine wpAnyH_take (i := 0) (v := .pointer (some ⟨F.g, 0, none⟩)) rfl (by kernel_rfl) (by kernel_rfl) (by kernel_rfl) (fun _ _ _ h => h) (Or.inl ⟨by rfl, fun w' hS => ?_⟩) trivial ?_
  · clear HS; go_simp
  try simp only [Act.put]
  refine wpAnyH_take (i := 1) (v := .pointer (some ⟨F.g, 0, none⟩)) rfl (by kernel_rfl) (by kernel_rfl) (by kernel_rfl) (fun _ _ _ h => h) (Or.inl ⟨by rfl, fun w' hS => ?_⟩) trivial ?_
  · clear HS; go_simp
  try simp only [Act.put]
  refine wpAnyH_take (i := 2) (v := .pointer (some ⟨F.g, 4, none⟩)) rfl (by kernel_rfl) (by kernel_rfl) (by kernel_rfl) (fun _ _ _ h => h) (Or.inl ⟨by rfl, fun w' hS => ?_⟩) trivial ?_
  · clear HS; go_simp
  try simp only [Act.put]
  refine wpAnyH_take (i := 3) (v := .pointer (some ⟨F.g, 0, none⟩)) rfl (by kernel_rfl) (by kernel_rfl) (by kernel_rfl) (fun _ _ _ h => h) (Or.inl ⟨by rfl, fun w' hS => ?_⟩) trivial ?_
  · clear HS; go_simp
  try simp only [Act.put]
  refine wpAnyH_take (i := 4) (v := .pointer (some ⟨F.g, 0, none⟩)) rfl (by kernel_rfl) (by kernel_rfl) (by kernel_rfl) (fun _ _ _ h => h) (Or.inl ⟨by rfl, fun w' hS => ?_⟩) trivial ?_
  · clear HS; go_simp
  try simp only [Act.put]
  refine wpAnyH_take (i := 5) (v := .pointer (some ⟨F.g, 4, none⟩)) rfl (by kernel_rfl) (by kernel_rfl) (by kernel_rfl) (fun _ _ _ h => h) (Or.inl ⟨by rfl, fun w' hS => ?_⟩) trivial ?_
  · clear HS; go_simp
  try simp only [Act.put]
  refine wpAnyH_take (i := 6) (v := .pointer (some ⟨F.g, 4, none⟩)) rfl (by kernel_rfl) (by kernel_rfl) (by kernel_rfl) (fun _ _ _ h => h) (Or.inl ⟨by rfl, fun w' hS => ?_⟩) trivial ?_
  · clear HS; go_simp
  try simp only [Act.put]
  refine wpAnyH_ready (rs := [7, 10]) (by kernel_rfl) (by simp) ?_
  refine AllReadyH.cons rfl (fun K hK => ?_) (AllReadyH.cons rfl (fun K hK => ?_) AllReadyH.nil)
  · have a0 := HS.out.cellsB0
    have a1 := HS.out.cellsB1
    have a2 := HS.out.cellsB2
    go_simp
    refine hK.out _ _ trivial (fun _ => ?_)
    clear hK K a0 a1 a2
    try simp only [Act.put, List.setIfInBounds_toArray, List.set_cons_zero, List.set_cons_succ]
    refine wpAnyH_ready (rs := [8, 10]) (by kernel_rfl) (by simp) ?_
    refine AllReadyH.cons rfl (fun K hK => ?_) (AllReadyH.cons rfl (fun K hK => ?_) AllReadyH.nil)
    · go_simp
      refine (HS.out.size (r := q) hv).mono ?_
      rintro e w1 ⟨rfl, h1, b1⟩
      refine hK.out _ _ trivial (fun _ => ?_)
      clear hK K b1
      try simp only [Act.put, List.setIfInBounds_toArray, List.set_cons_zero, List.set_cons_succ]
      replace HS := Lib.hid h1
      clear h1
      refine wpAnyH_ready (rs := [9, 10]) (by kernel_rfl) (by simp) ?_
      refine AllReadyH.cons rfl (fun K hK => ?_) (AllReadyH.cons rfl (fun K hK => ?_) AllReadyH.nil)
      · go_simp
        refine (HS.out.takeB h0 (Nat.le_refl _)).mono ?_
        rintro e w2 ⟨v2, rfl, pv2, h2⟩
        rw [cutL_all hv hk0] at pv2
        obtain ⟨A2, c2, rfl, r2⟩ := pv2
        have HR := Lib.hid (h2.to0 r2)
        clear r2
        refine hK.out _ _ trivial (fun _ => ?_)
        clear hK K
        try simp only [Act.put, List.setIfInBounds_toArray, List.set_cons_zero, List.set_cons_succ]
        replace HS := Lib.hid h2
        clear h2
        refine wpAnyH_ready (rs := [10]) (by kernel_rfl) (by simp) ?_
        refine AllReadyH.cons rfl (fun K hK => ?_) AllReadyH.nil
        go_simp
        refine hK.out _ _ trivial (fun _ => ?_)
        clear hK K
        try simp only [Act.put, List.setIfInBounds_toArray, List.set_cons_zero, List.set_cons_succ]
        have HF := Lib.hid (HS.out.made (.cells #[.int .i64 0, .int .i64 0, .slice none 0 0] 66)).2
        replace HS := Lib.hid (HS.out.made (.cells #[.int .i64 0, .int .i64 0, .slice none 0 0] 66)).1
        generalize w2.heap.size = mm at *
        generalize w2.alloc (.cells #[.int .i64 0, .int .i64 0, .slice none 0 0] 66) = wa at *
        refine wpAnyH_ready (rs := [11]) (by kernel_rfl) (by simp) ?_
        refine AllReadyH.cons rfl (fun K hK => ?_) AllReadyH.nil
        have m0 := HS.out.c3.1
        have m1 := HS.out.c3.2.1
        have m2 := HS.out.c3.2.2
        have n0 := HS.out.f3.1
        have n1 := HS.out.f3.2.1
        have n2 := HS.out.f3.2.2
        go_simp
        refine hK.out _ _ trivial (fun _ => ?_)
        clear hK K m0 m1 m2 n0 n1 n2
        try simp only [Act.put, List.setIfInBounds_toArray, List.set_cons_zero, List.set_cons_succ]
        refine wpAnyH_done (by kernel_rfl) ?_ _
        replace HS := Lib.hid (HS.out.set3 HF.out (.int .i64 q.kind) (.int .i64 q.n) (.slice A2 q.signs.length c2))
        generalize (((wa.setCell ⟨mm, 0, none⟩ (.int .i64 q.kind)).setCell ⟨mm, 1, none⟩ (.int .i64 q.n)).setCell ⟨mm, 2, none⟩ (.slice A2 q.signs.length c2)) = ws at *
        clear HF
        have hS2 := HS.out.drew.c3
        go_wp2
        go_region_held3 (fun W => W.cell? ⟨mm, 0, none⟩ = some (.int .i64 q.kind) ∧ W.cell? ⟨mm, 1, none⟩ = some (.int .i64 q.n) ∧ W.cell? ⟨mm, 2, none⟩ = some (.slice A2 q.signs.length c2))
          (first | assumption | exact hS2 | exact H3.out.c3 | exact H2.out.c3)
          (first | (go_at_call 84; ((refine (HS.out.drew.size (r := q) hv).mono ?_); rintro e w4 ⟨rfl, h4, b4⟩; have H2 := Lib.hid h4; clear h4 b4)) | (go_at_call 93; ((refine (H2.out.keepX (by omega) (by omega) hL).mono ?_); rintro e w5 ⟨rfl, P5, h5⟩; have H3 := Lib.hid h5; clear h5)))
        clear hS2
        have hS1 := H3.out.drew.c3
        go_wp2
        go_region_held3 (fun W => W.cell? ⟨mm, 0, none⟩ = some (.int .i64 q.kind) ∧ W.cell? ⟨mm, 1, none⟩ = some (.int .i64 q.n) ∧ W.cell? ⟨mm, 2, none⟩ = some (.slice A2 q.signs.length c2))
          (first | assumption | exact hS1 | exact H1.out.c3)
          (first | (go_at_call 71; ((refine (H3.out.drew.addY ⟨A2, c2, rfl, H3.out.drew.of0 HR.out⟩ hv hk0 hM).mono ?_); rintro e w3 ⟨rfl, O3, h3⟩; have H1 := Lib.hid h3; clear h3)))
        clear hS1
        go_wp2
        go_end0
        exact ⟨rfl, _, _, H1.out.tail⟩
      · go_simp
        refine hK.out _ _ trivial (fun _ => ?_)
        clear hK K
        try simp only [Act.put, List.setIfInBounds_toArray, List.set_cons_zero, List.set_cons_succ]
        have HF := Lib.hid (HS.out.made (.cells #[.int .i64 0, .int .i64 0, .slice none 0 0] 66)).2
        replace HS := Lib.hid (HS.out.made (.cells #[.int .i64 0, .int .i64 0, .slice none 0 0] 66)).1
        generalize w1.heap.size = mm at *
        generalize w1.alloc (.cells #[.int .i64 0, .int .i64 0, .slice none 0 0] 66) = wa at *
        refine wpAnyH_ready (rs := [9]) (by kernel_rfl) (by simp) ?_
        refine AllReadyH.cons rfl (fun K hK => ?_) AllReadyH.nil
        go_simp
        refine (HS.out.takeB h0 (Nat.le_refl _)).mono ?_
        rintro e w2 ⟨v2, rfl, pv2, h2⟩
        rw [cutL_all hv hk0] at pv2
        obtain ⟨A2, c2, rfl, r2⟩ := pv2
        have HR := Lib.hid (h2.to0 r2)
        clear r2
        refine hK.out _ _ trivial (fun _ => ?_)
        clear hK K
        try simp only [Act.put, List.setIfInBounds_toArray, List.set_cons_zero, List.set_cons_succ]
        replace HS := Lib.hid h2
        clear h2
        refine wpAnyH_ready (rs := [11]) (by kernel_rfl) (by simp) ?_
        refine AllReadyH.cons rfl (fun K hK => ?_) AllReadyH.nil
        have m0 := HS.out.c3.1
        have m1 := HS.out.c3.2.1
        have m2 := HS.out.c3.2.2
        have n0 := HS.out.f3.1
        have n1 := HS.out.f3.2.1
        have n2 := HS.out.f3.2.2
        go_simp
        refine hK.out _ _ trivial (fun _ => ?_)
        clear hK K m0 m1 m2 n0 n1 n2
        try simp only [Act.put, List.setIfInBounds_toArray, List.set_cons_zero, List.set_cons_succ]
        refine wpAnyH_done (by kernel_rfl) ?_ _
        replace HS := Lib.hid (HS.out.set3 HF.out (.int .i64 q.kind) (.int .i64 q.n) (.slice A2 q.signs.length c2))
        generalize (((w2.setCell ⟨mm, 0, none⟩ (.int .i64 q.kind)).setCell ⟨mm, 1, none⟩ (.int .i64 q.n)).setCell ⟨mm, 2, none⟩ (.slice A2 q.signs.length c2)) = ws at *
        clear HF
        have hS2 := HS.out.drew.c3
        go_wp2
        go_region_held3 (fun W => W.cell? ⟨mm, 0, none⟩ = some (.int .i64 q.kind) ∧ W.cell? ⟨mm, 1, none⟩ = some (.int .i64 q.n) ∧ W.cell? ⟨mm, 2, none⟩ = some (.slice A2 q.signs.length c2))
          (first | assumption | exact hS2 | exact H3.out.c3 | exact H2.out.c3)
          (first | (go_at_call 84; ((refine (HS.out.drew.size (r := q) hv).mono ?_); rintro e w4 ⟨rfl, h4, b4⟩; have H2 := Lib.hid h4; clear h4 b4)) | (go_at_call 93; ((refine (H2.out.keepX (by omega) (by omega) hL).mono ?_); rintro e w5 ⟨rfl, P5, h5⟩; have H3 := Lib.hid h5; clear h5)))
        clear hS2
        have hS1 := H3.out.drew.c3
        go_wp2
        go_region_held3 (fun W => W.cell? ⟨mm, 0, none⟩ = some (.int .i64 q.kind) ∧ W.cell? ⟨mm, 1, none⟩ = some (.int .i64 q.n) ∧ W.cell? ⟨mm, 2, none⟩ = some (.slice A2 q.signs.length c2))
          (first | assumption | exact hS1 | exact H1.out.c3)
          (first | (go_at_call 71; ((refine (H3.out.drew.addY ⟨A2, c2, rfl, H3.out.drew.of0 HR.out⟩ hv hk0 hM).mono ?_); rintro e w3 ⟨rfl, O3, h3⟩; have H1 := Lib.hid h3; clear h3)))
        clear hS1
        go_wp2
        go_end0
        exact ⟨rfl, _, _, H1.out.tail⟩
    · go_simp
      refine hK.out _ _ trivial (fun _ => ?_)
      clear hK K
      try simp only [Act.put, List.setIfInBounds_toArray, List.set_cons_zero, List.set_cons_succ]
      have HF := Lib.hid (HS.out.made (.cells #[.int .i64 0, .int .i64 0, .slice none 0 0] 66)).2
      replace HS := Lib.hid (HS.out.made (.cells #[.int .i64 0, .int .i64 0, .slice none 0 0] 66)).1
      generalize wd.heap.size = mm at *
      generalize wd.alloc (.cells #[.int .i64 0, .int .i64 0, .slice none 0 0] 66) = wa at *
      refine wpAnyH_ready (rs := [8]) (by kernel_rfl) (by simp) ?_
      refine AllReadyH.cons rfl (fun K hK => ?_) AllReadyH.nil
      go_simp
      refine (HS.out.size (r := q) hv).mono ?_
      rintro e w1 ⟨rfl, h1, b1⟩
      refine hK.out _ _ trivial (fun _ => ?_)
      clear hK K b1
      try simp only [Act.put, List.setIfInBounds_toArray, List.set_cons_zero, List.set_cons_succ]
      replace HS := Lib.hid h1
      clear h1
      refine wpAnyH_ready (rs := [9]) (by kernel_rfl) (by simp) ?_
      refine AllReadyH.cons rfl (fun K hK => ?_) AllReadyH.nil
      go_simp
      refine (HS.out.takeB h0 (Nat.le_refl _)).mono ?_
      rintro e w2 ⟨v2, rfl, pv2, h2⟩
      rw [cutL_all hv hk0] at pv2
      obtain ⟨A2, c2, rfl, r2⟩ := pv2
      have HR := Lib.hid (h2.to0 r2)
      clear r2
      refine hK.out _ _ trivial (fun _ => ?_)
      clear hK K
      try simp only [Act.put, List.setIfInBounds_toArray, List.set_cons_zero, List.set_cons_succ]
      replace HS := Lib.hid h2
      clear h2
      refine wpAnyH_ready (rs := [11]) (by kernel_rfl) (by simp) ?_
      refine AllReadyH.cons rfl (fun K hK => ?_) AllReadyH.nil
      have m0 := HS.out.c3.1
      have m1 := HS.out.c3.2.1
      have m2 := HS.out.c3.2.2
      have n0 := HS.out.f3.1
      have n1 := HS.out.f3.2.1
      have n2 := HS.out.f3.2.2
      go_simp
      refine hK.out _ _ trivial (fun _ => ?_)
      clear hK K m0 m1 m2 n0 n1 n2
      try simp only [Act.put, List.setIfInBounds_toArray, List.set_cons_zero, List.set_cons_succ]
      refine wpAnyH_done (by kernel_rfl) ?_ _
      replace HS := Lib.hid (HS.out.set3 HF.out (.int .i64 q.kind) (.int .i64 q.n) (.slice A2 q.signs.length c2))
      generalize (((w2.setCell ⟨mm, 0, none⟩ (.int .i64 q.kind)).setCell ⟨mm, 1, none⟩ (.int .i64 q.n)).setCell ⟨mm, 2, none⟩ (.slice A2 q.signs.length c2)) = ws at *
      clear HF
      have hS2 := HS.out.drew.c3
      go_wp2
      go_region_held3 (fun W => W.cell? ⟨mm, 0, none⟩ = some (.int .i64 q.kind) ∧ W.cell? ⟨mm, 1, none⟩ = some (.int .i64 q.n) ∧ W.cell? ⟨mm, 2, none⟩ = some (.slice A2 q.signs.length c2))
        (first | assumption | exact hS2 | exact H3.out.c3 | exact H2.out.c3)
        (first | (go_at_call 84; ((refine (HS.out.drew.size (r := q) hv).mono ?_); rintro e w4 ⟨rfl, h4, b4⟩; have H2 := Lib.hid h4; clear h4 b4)) | (go_at_call 93; ((refine (H2.out.keepX (by omega) (by omega) hL).mono ?_); rintro e w5 ⟨rfl, P5, h5⟩; have H3 := Lib.hid h5; clear h5)))
      clear hS2
      have hS1 := H3.out.drew.c3
      go_wp2
      go_region_held3 (fun W => W.cell? ⟨mm, 0, none⟩ = some (.int .i64 q.kind) ∧ W.cell? ⟨mm, 1, none⟩ = some (.int .i64 q.n) ∧ W.cell? ⟨mm, 2, none⟩ = some (.slice A2 q.signs.length c2))
        (first | assumption | exact hS1 | exact H1.out.c3)
        (first | (go_at_call 71; ((refine (H3.out.drew.addY ⟨A2, c2, rfl, H3.out.drew.of0 HR.out⟩ hv hk0 hM).mono ?_); rintro e w3 ⟨rfl, O3, h3⟩; have H1 := Lib.hid h3; clear h3)))
      clear hS1
      go_wp2
      go_end0
      exact ⟨rfl, _, _, H1.out.tail⟩
  · go_simp
    refine hK.out _ _ trivial (fun _ => ?_)
    clear hK K
    try simp only [Act.put, List.setIfInBounds_toArray, List.set_cons_zero, List.set_cons_succ]
    have HF := Lib.hid (HS.out.made (.cells #[.int .i64 0, .int .i64 0, .slice none 0 0] 66)).2
    replace HS := Lib.hid (HS.out.made (.cells #[.int .i64 0, .int .i64 0, .slice none 0 0] 66)).1
    generalize wd.heap.size = mm at *
    generalize wd.alloc (.cells #[.int .i64 0, .int .i64 0, .slice none 0 0] 66) = wa at *
    refine wpAnyH_ready (rs := [7]) (by kernel_rfl) (by simp) ?_
    refine AllReadyH.cons rfl (fun K hK => ?_) AllReadyH.nil
    have a0 := HS.out.cellsB0
    have a1 := HS.out.cellsB1
    have a2 := HS.out.cellsB2
    go_simp
    refine hK.out _ _ trivial (fun _ => ?_)
    clear hK K a0 a1 a2
    try simp only [Act.put, List.setIfInBounds_toArray, List.set_cons_zero, List.set_cons_succ]
    refine wpAnyH_ready (rs := [8]) (by kernel_rfl) (by simp) ?_
    refine AllReadyH.cons rfl (fun K hK => ?_) AllReadyH.nil
    go_simp
    refine (HS.out.size (r := q) hv).mono ?_
    rintro e w1 ⟨rfl, h1, b1⟩
    refine hK.out _ _ trivial (fun _ => ?_)
    clear hK K b1
    try simp only [Act.put, List.setIfInBounds_toArray, List.set_cons_zero, List.set_cons_succ]
    replace HS := Lib.hid h1
    clear h1
    refine wpAnyH_ready (rs := [9]) (by kernel_rfl) (by simp) ?_
    refine AllReadyH.cons rfl (fun K hK => ?_) AllReadyH.nil
    go_simp
    refine (HS.out.takeB h0 (Nat.le_refl _)).mono ?_
    rintro e w2 ⟨v2, rfl, pv2, h2⟩
    rw [cutL_all hv hk0] at pv2
    obtain ⟨A2, c2, rfl, r2⟩ := pv2
    have HR := Lib.hid (h2.to0 r2)
    clear r2
    refine hK.out _ _ trivial (fun _ => ?_)
    clear hK K
    try simp only [Act.put, List.setIfInBounds_toArray, List.set_cons_zero, List.set_cons_succ]
    replace HS := Lib.hid h2
    clear h2
    refine wpAnyH_ready (rs := [11]) (by kernel_rfl) (by simp) ?_
    refine AllReadyH.cons rfl (fun K hK => ?_) AllReadyH.nil
    have m0 := HS.out.c3.1
    have m1 := HS.out.c3.2.1
    have m2 := HS.out.c3.2.2
    have n0 := HS.out.f3.1
    have n1 := HS.out.f3.2.1
    have n2 := HS.out.f3.2.2
    go_simp
    refine hK.out _ _ trivial (fun _ => ?_)
    clear hK K m0 m1 m2 n0 n1 n2
    try simp only [Act.put, List.setIfInBounds_toArray, List.set_cons_zero, List.set_cons_succ]
    refine wpAnyH_done (by kernel_rfl) ?_ _
    replace HS := Lib.hid (HS.out.set3 HF.out (.int .i64 q.kind) (.int .i64 q.n) (.slice A2 q.signs.length c2))
    generalize (((w2.setCell ⟨mm, 0, none⟩ (.int .i64 q.kind)).setCell ⟨mm, 1, none⟩ (.int .i64 q.n)).setCell ⟨mm, 2, none⟩ (.slice A2 q.signs.length c2)) = ws at *
    clear HF
    have hS2 := HS.out.drew.c3
    go_wp2
    go_region_held3 (fun W => W.cell? ⟨mm, 0, none⟩ = some (.int .i64 q.kind) ∧ W.cell? ⟨mm, 1, none⟩ = some (.int .i64 q.n) ∧ W.cell? ⟨mm, 2, none⟩ = some (.slice A2 q.signs.length c2))
      (first | assumption | exact hS2 | exact H3.out.c3 | exact H2.out.c3)
      (first | (go_at_call 84; ((refine (HS.out.drew.size (r := q) hv).mono ?_); rintro e w4 ⟨rfl, h4, b4⟩; have H2 := Lib.hid h4; clear h4 b4)) | (go_at_call 93; ((refine (H2.out.keepX (by omega) (by omega) hL).mono ?_); rintro e w5 ⟨rfl, P5, h5⟩; have H3 := Lib.hid h5; clear h5)))
    clear hS2
    have hS1 := H3.out.drew.c3
    go_wp2
    go_region_held3 (fun W => W.cell? ⟨mm, 0, none⟩ = some (.int .i64 q.kind) ∧ W.cell? ⟨mm, 1, none⟩ = some (.int .i64 q.n) ∧ W.cell? ⟨mm, 2, none⟩ = some (.slice A2 q.signs.length c2))
      (first | assumption | exact hS1 | exact H1.out.c3)
      (first | (go_at_call 71; ((refine (H3.out.drew.addY ⟨A2, c2, rfl, H3.out.drew.of0 HR.out⟩ hv hk0 hM).mono ?_); rintro e w3 ⟨rfl, O3, h3⟩; have H1 := Lib.hid h3; clear h3)))
    clear hS1
    go_wp2
    go_end0
    exact ⟨rfl, _, _, H1.out.tail⟩
end
end Go.Proofs.Ytfpjoncaccbnmaa.low.xb


/-
  The program's table of effects.
-/
namespace Go.Proofs.Ytfpjoncaccbnmaa.low.xb
open Go.RowKit
set_option linter.unusedVariables false
/-- the table, row by row -/
abbrev tabC : Array Value := #[.nilFunc, .nilFunc, .func (.func 85) #[] #[], .nilFunc,
  .nilFunc, .func (.func 86) #[] #[], .func (.func 85) #[] #[], .func (.func 87) #[] #[],
  .func (.func 88) #[] #[], .func (.func 88) #[] #[], .func (.func 88) #[] #[], .func (.func 88) #[] #[],
  .nilFunc, .func (.func 89) #[] #[], .func (.func 85) #[] #[], .func (.func 90) #[] #[]]
set_option maxRecDepth 100000 in
set_option maxHeartbeats 800000 in
theorem implEffects (w : World) : Calls Try.prog 66 #[] w (fun e w' => e = .returned (.agg tabC) ∧ Below w.heap.size w w') := by
  go_enter Try.func66, Try.ntmps66
  go_wp2
  exact bodyPost_ret (results_cell_row (by rfl) _ _ w.heap.size 104 tabC (0, 0) (.array 4 102) (by rfl) (heap_alloc_new w _) (by kernel_rfl) (by rfl) (by kernel_rfl)) rfl ⟨rfl, alloc_below w _⟩

/-- the state at the start -/
theorem Xs.new {w : World} {A B : Option Addr} {ca cb : Nat} {a b : List Pt} (ra : RdC w w.heap.size (encPs a) (.slice A a.length ca)) (rb : RdC w w.heap.size (encPs b) (.slice B b.length cb)) (oa : ∀ x ∈ a, okPt x = true) (ob : ∀ x ∈ b, okPt x = true) (la : a.length ≤ 1048576) (lb : b.length ≤ 1048576) :
    Xs ⟨w.heap.size, w.heap.size, w⟩ [] (fun _ => False) (fun _ => False) [] [] (w.alloc (.cells #[.int .i64 0, .int .i64 0, .slice none 0 0, .slice A a.length ca, .int .i64 0, .int .i64 0, .slice none 0 0, .slice B b.length cb, .slice none 0 0, .slice none 0 0, .int .i64 0, .slice none 0 0, .slice none 0 0, .int .i64 0] 100)) ⟨0, 0, []⟩ a ⟨0, 0, []⟩ b := by
  have hb := alloc_below w (.cells #[.int .i64 0, .int .i64 0, .slice none 0 0, .slice A a.length ca, .int .i64 0, .int .i64 0, .slice none 0 0, .slice B b.length cb, .slice none 0 0, .slice none 0 0, .int .i64 0, .slice none 0 0, .slice none 0 0, .int .i64 0] 100)
  have hn := heap_alloc_new w (.cells #[.int .i64 0, .int .i64 0, .slice none 0 0, .slice A a.length ca, .int .i64 0, .int .i64 0, .slice none 0 0, .slice B b.length cb, .slice none 0 0, .slice none 0 0, .int .i64 0, .slice none 0 0, .slice none 0 0, .int .i64 0] 100)
  generalize w.alloc _ = w1 at *
  have v0 : Vp ⟨0, 0, []⟩ := .inr (.inr ⟨rfl, rfl, rfl⟩)
  have bd : ∀ o D, D o = some (.slice none 0 0) → D (o + 1) = some (.slice none 0 0) → D (o + 2) = some (.int .i64 0) → BdV (fun _ => False) w.heap.size w.heap.size w1 D o [] := fun o D h1 h2 h3 =>
    ⟨⟨.slice none 0 0, .slice none 0 0, [], h1, h2, h3, World.ownsRow_nil _ _ _ _, rfl, Apart.bare 2 0 ⟨rfl, fun i p u hp _ => by simp [foldN] at hp, fun i j k u v hu _ _ _ => by simp at hu⟩, fun k hk => by simp [Value.ownBlock] at hk, fun i k x hx hk => by
      cases i with
      | zero => simp at hx; subst hx; simp [Value.ownBlock] at hk
      | succ i => simp at hx⟩, fun p hp => by simp at hp, by simp, fun b hb => hb.elim, fun h => h⟩
  exact ⟨⟨_, ⟨_, hn, fun i => rfl⟩, ⟨⟨none, 0, A, ca, rfl, rfl, rfl, rfl, ints_none, ra.below hb⟩, v0, oa, la⟩, ⟨⟨none, 0, B, cb, rfl, rfl, rfl, rfl, ints_none, rb.below hb⟩, v0, ob, lb⟩, bd 8 _ rfl rfl rfl, bd 11 _ rfl rfl rfl⟩, Nat.le_refl _, fun _ h => h.elim, fun x hx => by simp at hx, hb⟩
theorem least_ex {Q : Nat → Prop} : ∀ n, Q n → ∃ m, Q m ∧ ∀ k, Q k → m ≤ k := by
  intro n
  induction n using Nat.strongRecOn with
  | ind n ih =>
    intro h
    by_cases hk : ∃ k, k < n ∧ Q k
    · obtain ⟨k, h1, h2⟩ := hk
      exact ih k h1 h2
    · exact ⟨n, h, fun k hq => by
        rcases Nat.lt_or_ge k n with h1 | h1
        · exact absurd ⟨k, h1, hq⟩ hk
        · exact h1⟩
/-- the least number that fits -/
noncomputable def leastOf (St : World → Nat → Prop) (w : World) : Nat := Classical.epsilon (fun m => St w m ∧ ∀ k, St w k → m ≤ k)
theorem leastOf_at {St : World → Nat → Prop} {w : World} {n : Nat} (h : St w n) : St w (leastOf St w) ∧ leastOf St w ≤ n := by
  have := Classical.epsilon_spec (least_ex n h)
  exact ⟨this.1, this.2 n h⟩
end Go.Proofs.Ytfpjoncaccbnmaa.low.xb


/-
  The program's transformation: the loop (impl.crossed).
-/
namespace Go.Proofs.Ytfpjoncaccbnmaa.low.xb
open Go.RowKit
set_option linter.unusedVariables false

section
variable {a b L M : List Pt} {p q : Pt} {R S RX RY : List U} {m : Nat}
theorem ePx (h : XInv a b (unitsP p ++ R) RY L M) (hv : Vp p) (h0 : 0 < sizeP p) (hk : p.kind = 2) : XInv a b (unitsP (cutR p (sizeP p)) ++ R) RY (L ++ [p]) (M ++ [⟨1, (sizeP p : Int), []⟩]) := by
  rw [units_cutR_all hv, List.nil_append]
  rcases hv.form h0 with ⟨k, _⟩ | ⟨k, _⟩ | ⟨_, e1, l, e2⟩
  · omega
  · omega
  · rw [e2] at h
    rw [l]
    have := h.px (by omega)
    rw [e1]
    exact this
theorem ePy (h : XInv a b RX (unitsP q ++ S) L M) (hn : noP RX) (hv : Vp q) (h0 : 0 < sizeP q) (hk : q.kind = 2) : XInv a b RX (unitsP (cutR q (sizeP q)) ++ S) (L ++ [⟨1, (sizeP q : Int), []⟩]) (M ++ [q]) := by
  rw [units_cutR_all hv, List.nil_append]
  rcases hv.form h0 with ⟨k, _⟩ | ⟨k, _⟩ | ⟨_, e1, l, e2⟩
  · omega
  · omega
  · rw [e2] at h
    rw [l]
    have := h.py hn (by omega)
    rw [e1]
    exact this
theorem cutL_u (hk : p.kind = 1 ∨ p.kind = 3) : unitsP (cutL p m) = if p.kind = 1 then List.replicate m .k else List.replicate m .d := by
  rw [cutL_n (by omega)]
  rcases hk with hk | hk <;> simp [hk, unitsP]
theorem eM (h : XInv a b (unitsP p ++ R) (unitsP q ++ S) L M) (hv : Vp p) (hw : Vp q) (h0 : 0 < m) (h1 : m ≤ sizeP p) (h2 : m ≤ sizeP q) (hk : p.kind = 1 ∨ p.kind = 3) (hk' : q.kind = 1 ∨ q.kind = 3) :
    (p.kind = 1 → q.kind = 1 → XInv a b (unitsP (cutR p m) ++ R) (unitsP (cutR q m) ++ S) (L ++ [⟨1, (m : Int), []⟩]) (M ++ [⟨1, (m : Int), []⟩])) ∧
    (p.kind = 1 → q.kind = 3 → XInv a b (unitsP (cutR p m) ++ R) (unitsP (cutR q m) ++ S) L (M ++ [⟨3, (m : Int), []⟩])) ∧
    (p.kind = 3 → q.kind = 1 → XInv a b (unitsP (cutR p m) ++ R) (unitsP (cutR q m) ++ S) (L ++ [⟨3, (m : Int), []⟩]) M) ∧
    (p.kind = 3 → q.kind = 3 → XInv a b (unitsP (cutR p m) ++ R) (unitsP (cutR q m) ++ S) L M) := by
  rw [units_cut hv h1, units_cut hw h2, List.append_assoc, List.append_assoc, cutL_u hk, cutL_u hk'] at h
  refine ⟨fun e e' => ?_, fun e e' => ?_, fun e e' => ?_, fun e e' => ?_⟩ <;> rw [e, e'] at h <;> simp only [if_true, show ¬ ((3 : Int) = 1) by decide, if_false] at h
  · exact h.kk h0
  · exact h.kd h0
  · exact h.dk h0
  · exact h.dd
theorem noP_of (hv : Vp p) (h0 : 0 < sizeP p) (hk : ¬ p.kind = 2) : noP (unitsP p ++ R) := by
  obtain ⟨m, hm⟩ : ∃ m, sizeP p = m + 1 := ⟨sizeP p - 1, by omega⟩
  rcases hv.form h0 with ⟨_, _, e⟩ | ⟨_, _, e⟩ | ⟨k, _⟩
  · rw [e, hm, List.replicate_succ]; trivial
  · rw [e, hm, List.replicate_succ]; trivial
  · exact absurd k hk
end
/-- the kinds of the two parts at hand, as the table's places -/
theorem kindP_nat {p : Pt} (hv : Vp p) : ∃ k : Nat, kindP p = (k : Int) ∧ k < 4 ∧ (sizeP p = 0 → k = 0) ∧ (0 < sizeP p → (k = 1 ∧ p.kind = 1) ∨ (k = 2 ∧ p.kind = 2) ∨ (k = 3 ∧ p.kind = 3)) := by
  by_cases h0 : 0 < sizeP p
  · have e : kindP p = p.kind := by simp [kindP, h0]
    rcases hv.form h0 with ⟨k, _⟩ | ⟨k, _⟩ | ⟨k, _⟩
    · exact ⟨1, by rw [e, k]; rfl, by omega, by omega, fun _ => .inl ⟨rfl, k⟩⟩
    · exact ⟨3, by rw [e, k]; rfl, by omega, by omega, fun _ => .inr (.inr ⟨rfl, k⟩)⟩
    · exact ⟨2, by rw [e, k]; rfl, by omega, by omega, fun _ => .inr (.inl ⟨rfl, k⟩)⟩
  · exact ⟨0, by simp [kindP, h0], by omega, fun _ => rfl, fun h => absurd h h0⟩
/-- which effect a round has -/
theorem xcases {a b L M : List Pt} {p q : Pt} {ps qs : List Pt} {k1 k2 : Nat} {tv : Value} (ht : tabC.getD (k1 * 4 + k2) .nilFunc = tv) (hi : XInv a b (unitsP p ++ units ps) (unitsP q ++ units qs) L M) (hv : Vp p) (hw : Vp q) (l2 : k2 < 4)
    (hp : (sizeP p = 0 → ps = []) ∧ (sizeP p = 0 → k1 = 0) ∧ (0 < sizeP p → (k1 = 1 ∧ p.kind = 1) ∨ (k1 = 2 ∧ p.kind = 2) ∨ (k1 = 3 ∧ p.kind = 3))) (hq : (sizeP q = 0 → qs = []) ∧ (sizeP q = 0 → k2 = 0) ∧ (0 < sizeP q → (k2 = 1 ∧ q.kind = 1) ∨ (k2 = 2 ∧ q.kind = 2) ∨ (k2 = 3 ∧ q.kind = 3))) :
    (tv = .nilFunc ∧ unitsP p ++ units ps = [] ∧ unitsP q ++ units qs = []) ∨
    (tv = .func (.func 88) #[] #[] ∧ 0 < sizeP p ∧ p.kind = 2) ∨
    (tv = .func (.func 85) #[] #[] ∧ 0 < sizeP q ∧ q.kind = 2 ∧ noP (unitsP p ++ units ps)) ∨
    (0 < sizeP p ∧ 0 < sizeP q ∧ ((tv = .func (.func 86) #[] #[] ∧ p.kind = 1 ∧ q.kind = 1) ∨ (tv = .func (.func 87) #[] #[] ∧ p.kind = 1 ∧ q.kind = 3) ∨ (tv = .func (.func 89) #[] #[] ∧ p.kind = 3 ∧ q.kind = 1) ∨ (tv = .func (.func 90) #[] #[] ∧ p.kind = 3 ∧ q.kind = 3))) := by
  have bal := hi.bal
  have nil : ∀ {r : Pt} {rs : List Pt}, sizeP r = 0 → rs = [] → unitsP r ++ units rs = [] := fun h e => by rw [sizeP_nil h, e, units_nil]; rfl
  by_cases h0 : sizeP p = 0
  · have e1 := nil h0 (hp.1 h0)
    have ek := hp.2.1 h0
    subst ek
    by_cases h1 : sizeP q = 0
    · have ek := hq.2.1 h1
      subst ek
      exact .inl ⟨ht.symm, e1, nil h1 (hq.1 h1)⟩
    · have h1' : 0 < sizeP q := by omega
      rcases hq.2.2 h1' with ⟨ek, hk⟩ | ⟨ek, hk⟩ | ⟨ek, hk⟩
      · have := src_pos (R := units qs) hw h1' (by omega)
        rw [← bal, e1] at this
        simp [src] at this
      · subst ek
        exact .inr (.inr (.inl ⟨ht.symm, h1', hk, by rw [e1]; trivial⟩))
      · have := src_pos (R := units qs) hw h1' (by omega)
        rw [← bal, e1] at this
        simp [src] at this
  · have h0' : 0 < sizeP p := by omega
    rcases hp.2.2 h0' with ⟨ek, hk⟩ | ⟨ek, hk⟩ | ⟨ek, hk⟩
    all_goals subst ek
    · by_cases h1 : sizeP q = 0
      · have := src_pos (R := units ps) hv h0' (by omega)
        rw [bal, nil h1 (hq.1 h1)] at this
        simp [src] at this
      · have h1' : 0 < sizeP q := by omega
        rcases hq.2.2 h1' with ⟨ek, hk2⟩ | ⟨ek, hk2⟩ | ⟨ek, hk2⟩
        all_goals subst ek
        · exact .inr (.inr (.inr ⟨h0', h1', .inl ⟨ht.symm, hk, hk2⟩⟩))
        · exact .inr (.inr (.inl ⟨ht.symm, h1', hk2, noP_of hv h0' (by omega)⟩))
        · exact .inr (.inr (.inr ⟨h0', h1', .inr (.inl ⟨ht.symm, hk, hk2⟩)⟩))
    · refine .inr (.inl ⟨?_, h0', hk⟩)
      rcases (show k2 = 0 ∨ k2 = 1 ∨ k2 = 2 ∨ k2 = 3 by omega) with rfl | rfl | rfl | rfl <;> exact ht.symm
    · by_cases h1 : sizeP q = 0
      · have := src_pos (R := units ps) hv h0' (by omega)
        rw [bal, nil h1 (hq.1 h1)] at this
        simp [src] at this
      · have h1' : 0 < sizeP q := by omega
        rcases hq.2.2 h1' with ⟨ek, hk2⟩ | ⟨ek, hk2⟩ | ⟨ek, hk2⟩
        all_goals subst ek
        · exact .inr (.inr (.inr ⟨h0', h1', .inr (.inr (.inl ⟨ht.symm, hk, hk2⟩))⟩))
        · exact .inr (.inr (.inl ⟨ht.symm, h1', hk2, noP_of hv h0' (by omega)⟩))
        · exact .inr (.inr (.inr ⟨h0', h1', .inr (.inr (.inr ⟨ht.symm, hk, hk2⟩))⟩))
section
variable {P : Program} {w : World} {t : TypeId} {ps rs : Array TypeId} {v : Bool}
theorem eqlIn_fn (d f : Nat) (h : P.underlying t = some (.func ps rs v)) : (Op.equalIn (d + 1) t (.func (.func f) #[] #[]) .nilFunc).run P w = .ok false w := by
  simp [Op.equalIn, run_underlying h]
theorem eqlIn_nil (d : Nat) (h : P.underlying t = some (.func ps rs v)) : (Op.equalIn (d + 1) t .nilFunc .nilFunc).run P w = .ok true w := by
  simp [Op.equalIn, run_underlying h]
theorem eql_fn (f : Nat) (h : P.underlying t = some (.func ps rs v)) : Sem.run P (binOp .eql t (.func (.func f) #[] #[]) .nilFunc) w = .ok (.bool false) w := by
  have h1 : (Op.equal t (.func (.func f) #[] #[]) .nilFunc).run P w = .ok false w := eqlIn_fn 9999 f h
  simp only [binOp]
  simp [h1]
theorem eql_nil (h : P.underlying t = some (.func ps rs v)) : Sem.run P (binOp .eql t .nilFunc .nilFunc) w = .ok (.bool true) w := by
  have h1 : (Op.equal t .nilFunc .nilFunc).run P w = .ok true w := eqlIn_nil 9999 h
  simp only [binOp]
  simp [h1]
end
def DoneXP (F : Fy) (P : Nat → Prop) (L M : List Pt) (w : World) (e : Ending) (w' : World) : Prop := ∃ v c D, e = .returned v ∧ OwB F.lo w'.heap.size w' (encPs (doneN (foldN L))) v c ∧ Bld P F.lo F.g 11 D w' M ∧ (∀ x ∈ c, ¬ P x ∧ ¬ x = F.g) ∧ Below F.lo w w'
theorem Xs.doneX {F : Fy} {KL : List (Nat × Obj)} {O P : Nat → Prop} {L M : List Pt} {w : World} {p : Pt} {ps : List Pt} {q : Pt} {qs : List Pt} (h : Xs F KL O P L M w p ps q qs) : Calls Try.prog 68 #[.pointer (some ⟨F.g, 8, none⟩)] w (DoneXP F P L M w) := by
  obtain ⟨D, hD, ra, rb, bx, by_⟩ := h.box
  refine (implDoneB O F.lo F.g 8 D L w ⟨⟨D, hD, bx, fun _ _ => rfl⟩, h.ge⟩).mono ?_
  rintro e w' ⟨v, c, h1, h2, h3, h4, h5, D', hD', hC'⟩
  refine ⟨v, c, D', h1, h2, ⟨⟨D', hD', by_.keep h5.size (fun b hlt hp => h5.block b hlt (fun ho => h.dis b ho hp) (fun e => by_.ng (by rw [← e]; exact hp))) (fun i _ _ => hC' i (by omega)), fun _ _ => rfl⟩, h.ge⟩, fun x hx => ⟨fun hp => ?_, (h3 x hx).2⟩, h4⟩
  rcases (h3 x hx).1 with k | k
  · exact h.dis x k hp
  · have := by_.old x hp; omega
theorem OwB.grewX {O O' : Nat → Prop} {g lo hi : Nat} {w w' : World} {d : Dat} {v : Value} {b : List Nat} (h : OwB lo hi w d v b) (hg : GrewX O O' g w w') (hO : ∀ x ∈ b, ¬ O x ∧ ¬ x = g) : OwB lo hi w' d v b :=
  ⟨OwC.keep d v b h.ow (fun x hx => hg.block x (OwC.lt d v b h.ow x hx) (hO x hx).1 (hO x hx).2), h.nd, h.rng, Nat.le_trans h.top hg.size, h.le⟩
/-- the loop's invariant, with the number of units that are left -/
def StX (F : Fy) (KL : List (Nat × Obj)) (a b : List Pt) (w : World) (n : Nat) : Prop := ∃ O P L M p ps q qs, Xs F KL O P L M w p ps q qs ∧ XInv a b (unitsP p ++ units ps) (unitsP q ++ units qs) L M ∧ n = (unitsP p ++ units ps).length + (unitsP q ++ units qs).length
theorem StX.next {F : Fy} {KL : List (Nat × Obj)} {a b : List Pt} {w w' : World} {O P : Nat → Prop} {L M : List Pt} {p : Pt} {ps : List Pt} {q : Pt} {qs : List Pt} {n : Nat} (h : Xs F KL O P L M w' p ps q qs) (hi : XInv a b (unitsP p ++ units ps) (unitsP q ++ units qs) L M) (hn : leastOf (StX F KL a b) w = n) (hl : (unitsP p ++ units ps).length + (unitsP q ++ units qs).length < n) : StX F KL a b w' ((unitsP p ++ units ps).length + (unitsP q ++ units qs).length) ∧ leastOf (StX F KL a b) w' < leastOf (StX F KL a b) w := by
  have st : StX F KL a b w' ((unitsP p ++ units ps).length + (unitsP q ++ units qs).length) := ⟨O, P, L, M, p, ps, q, qs, h, hi, rfl⟩
  have := (leastOf_at st).2
  exact ⟨st, by omega⟩
/-- what it returns -/
def CrossP (a b : List Pt) (w : World) (e : Ending) (w' : World) : Prop :=
  ∃ v v' c c', e = .returned (.tuple #[v, v']) ∧ OwB w.heap.size w'.heap.size w' (encPs (xfA a b)) v c ∧ OwB w.heap.size w'.heap.size w' (encPs (xfB a b)) v' c' ∧ (∀ x ∈ c, x ∉ c') ∧ Below w.heap.size w w' ∧ SmP (xfA a b) ∧ SmP (xfB a b)
set_option maxRecDepth 100000 in
set_option maxHeartbeats 1600000 in
theorem implCrossed (A B : Option Addr) (ca cb : Nat) (a b : List Pt) (w : World) (ra : RdC w w.heap.size (encPs a) (.slice A a.length ca)) (rb : RdC w w.heap.size (encPs b) (.slice B b.length cb)) (oa : ∀ x ∈ a, okPt x = true) (ob : ∀ x ∈ b, okPt x = true) (la : a.length ≤ 1048576) (lb : b.length ≤ 1048576) (hi : XInv a b (units a) (units b) [] []) :
    Calls Try.prog 35 #[.slice A a.length ca, .slice B b.length cb] w (CrossP a b w) := by
  have HX := Lib.hid (Xs.new ra rb oa ob la lb)
  have HI := Lib.hid hi
  clear ra rb oa ob la lb hi
  go_enter Try.func35, Try.ntmps35
  go_wp2_with fail
  refine (implEffects _).mono ?_
  rintro e w1 ⟨rfl, b1⟩
  have H1 := Lib.hid ((HX.out.past b1).made (.cells tabC 104)).1
  clear b1 HX
  go_wp2
  change Code.wp _ _ _ _ (w1.alloc (.cells tabC 104))
  generalize w1.alloc (.cells tabC 104) = W0 at *
  generalize w1.heap.size = lt at *
  obtain ⟨F, hF⟩ : ∃ F : Fy, F = ⟨w.heap.size, w.heap.size, w⟩ := ⟨_, rfl⟩
  rw [← hF] at H1
  have hg : w.heap.size = F.g := by rw [hF]
  have HF := Lib.hid hF
  clear hF
  rw [hg]
  clear hg
  go_loopw [8] (fun t wr => ∃ n, StX F [(lt, .cells tabC 104 (0, 0))] a b wr n) (fun _ wr => leastOf (StX F [(lt, .cells tabC 104 (0, 0))] a b) wr)
  case atStart => exact ⟨_, _, _, _, _, _, _, _, _, H1.out, HI.out, rfl⟩
  case round =>
    clear H1 HI
    obtain ⟨n, hn⟩ := hrel
    obtain ⟨O, P, L, M, p, ps, q, qs, hx, hi, hlen⟩ := (leastOf_at hn).1
    have HS := Lib.hid hx.drew
    have HI := Lib.hid hi
    have HLEN := Lib.hid hlen
    clear hn hx hi hlen
    go_wp2
    refine wp_region_held_drew (S := fun _ => True) (by kernel_rfl) trivial (fun _ => ?_)
    generalize wr.drew = wd at *
    refine wpAnyH_take (i := 0) (v := .pointer (some ⟨F.g, 0, none⟩)) rfl (by kernel_rfl) (by kernel_rfl) (by kernel_rfl) (fun _ _ _ h => h) (Or.inl ⟨by rfl, fun w' hS => ?_⟩) trivial ?_
    · clear HS HI HLEN; go_simp
    try simp only [Act.put]
    refine wpAnyH_take (i := 1) (v := .pointer (some ⟨F.g, 0, none⟩)) rfl (by kernel_rfl) (by kernel_rfl) (by kernel_rfl) (fun _ _ _ h => h) (Or.inl ⟨by rfl, fun w' hS => ?_⟩) trivial ?_
    · clear HS HI HLEN; go_simp
    try simp only [Act.put]
    refine wpAnyH_take (i := 2) (v := .pointer (some ⟨F.g, 0, none⟩)) rfl (by kernel_rfl) (by kernel_rfl) (by kernel_rfl) (fun _ _ _ h => h) (Or.inl ⟨by rfl, fun w' hS => ?_⟩) trivial ?_
    · clear HS HI HLEN; go_simp
    try simp only [Act.put]
    refine wpAnyH_take (i := 4) (v := .pointer (some ⟨F.g, 0, none⟩)) rfl (by kernel_rfl) (by kernel_rfl) (by kernel_rfl) (fun _ _ _ h => h) (Or.inl ⟨by rfl, fun w' hS => ?_⟩) trivial ?_
    · clear HS HI HLEN; go_simp
    try simp only [Act.put]
    refine wpAnyH_take (i := 5) (v := .pointer (some ⟨F.g, 0, none⟩)) rfl (by kernel_rfl) (by kernel_rfl) (by kernel_rfl) (fun _ _ _ h => h) (Or.inl ⟨by rfl, fun w' hS => ?_⟩) trivial ?_
    · clear HS HI HLEN; go_simp
    try simp only [Act.put]
    refine wpAnyH_take (i := 6) (v := .pointer (some ⟨F.g, 4, none⟩)) rfl (by kernel_rfl) (by kernel_rfl) (by kernel_rfl) (fun _ _ _ h => h) (Or.inl ⟨by rfl, fun w' hS => ?_⟩) trivial ?_
    · clear HS HI HLEN; go_simp
    try simp only [Act.put]
    refine wpAnyH_ready (rs := [3]) (by kernel_rfl) (by simp) ?_
    refine AllReadyH.cons rfl (fun K hK => ?_) AllReadyH.nil
    go_simp
    refine HS.out.kindA.mono ?_
    rintro e w2 ⟨p1, ps1, rfl, h2, u2, z2⟩
    obtain ⟨k1, hk1, hk1l, hk1z, hk1p⟩ := kindP_nat h2.vp
    rw [hk1]
    have hk1i : (k1 : Int) < 4 := by omega
    refine hK.out _ _ trivial (fun _ => ?_)
    clear hK K
    try simp only [Act.put, List.setIfInBounds_toArray, List.set_cons_zero, List.set_cons_succ]
    replace HI := Lib.hid (show XInv a b (unitsP p1 ++ units ps1) (unitsP q ++ units qs) L M by rw [u2]; exact HI.out)
    replace HLEN := Lib.hid (show leastOf (StX F [(lt, .cells tabC 104 (0, 0))] a b) wr = (unitsP p1 ++ units ps1).length + (unitsP q ++ units qs).length by rw [u2]; exact HLEN.out)
    have HZ := Lib.hid (And.intro z2 (And.intro hk1z hk1p))
    have H2 := Lib.hid h2
    clear HS h2 u2 z2 hk1z hk1p hk1
    refine wpAnyH_take (i := 8) (v := .pointer (some ⟨lt, k1 * 4, none⟩)) rfl (by kernel_rfl) (by kernel_rfl) (by kernel_rfl) (fun _ _ _ h => h) (Or.inl ⟨by rfl, fun w' hS => ?_⟩) trivial ?_
    · clear H2 HI HLEN HZ
      go_simp
    try simp only [Act.put]
    refine wpAnyH_ready (rs := [7]) (by kernel_rfl) (by simp) ?_
    refine AllReadyH.cons rfl (fun K hK => ?_) AllReadyH.nil
    go_simp
    refine H2.out.kindB.mono ?_
    rintro e w3 ⟨q1, qs1, rfl, h3, u3, z3⟩
    obtain ⟨k2, hk2, hk2l, hk2z, hk2p⟩ := kindP_nat h3.vq
    rw [hk2]
    have hk2i : (k2 : Int) < 4 := by omega
    refine hK.out _ _ trivial (fun _ => ?_)
    clear hK K
    try simp only [Act.put, List.setIfInBounds_toArray, List.set_cons_zero, List.set_cons_succ]
    replace HI := Lib.hid (show XInv a b (unitsP p1 ++ units ps1) (unitsP q1 ++ units qs1) L M by rw [u3]; exact HI.out)
    replace HLEN := Lib.hid (show leastOf (StX F [(lt, .cells tabC 104 (0, 0))] a b) wr = (unitsP p1 ++ units ps1).length + (unitsP q1 ++ units qs1).length by rw [u3]; exact HLEN.out)
    have HZ2 := Lib.hid (And.intro z3 (And.intro hk2z hk2p))
    have H3 := Lib.hid h3
    clear H2 h3 u3 z3 hk2z hk2p hk2
    refine wpAnyH_take (i := 9) (v := .pointer (some ⟨lt, k1 * 4 + k2, none⟩)) rfl (by kernel_rfl) (by kernel_rfl) (by kernel_rfl) (fun _ _ _ h => h) (Or.inl ⟨by rfl, fun w' hS => ?_⟩) trivial ?_
    · clear H3 HI HLEN HZ HZ2
      go_simp
    try simp only [Act.put]
    have ht : tabC[k1 * 4 + k2]? = some (tabC.getD (k1 * 4 + k2) .nilFunc) := by
      have : k1 * 4 + k2 < tabC.size := by show k1 * 4 + k2 < 16; omega
      rw [Array.getElem?_eq_getElem this, Array.getD]
      simp only [this, dif_pos]
      rfl
    have c0 := H3.out.cellK List.mem_cons_self ht
    clear ht
    generalize htv : tabC.getD (k1 * 4 + k2) .nilFunc = tv at *
    have HTV := Lib.hid htv
    clear htv
    refine wpAnyH_ready (rs := [10]) (by kernel_rfl) (by simp) ?_
    refine AllReadyH.cons rfl (fun K hK => ?_) AllReadyH.nil
    go_simp
    refine hK.out _ _ trivial (fun _ => ?_)
    clear hK K c0
    try simp only [Act.put, List.setIfInBounds_toArray, List.set_cons_zero, List.set_cons_succ]
    refine wpAnyH_take (i := 11) (v := tv) rfl (by kernel_rfl) (by kernel_rfl) (by kernel_rfl) (fun _ _ _ h => h) (Or.inl ⟨by rfl, fun w' hS => ?_⟩) trivial ?_
    · clear H3 HI HLEN HZ HZ2 HTV
      go_simp
    try simp only [Act.put]
    refine wpAnyH_done (by kernel_rfl) ?_ _
    have hLM := HI.out.len
    have hvp := H3.out.vp
    have hvq := H3.out.vq
    rcases xcases HTV.out HI.out hvp hvq hk2l HZ.out HZ2.out with ⟨htv, e1, e2⟩ | ⟨htv, h0, hk⟩ | ⟨htv, h0, hk, hnp⟩ | ⟨h0, h0', hc⟩
    · clear hk1l hk2l hk1i hk2i HTV
      subst htv
      have hsx : ∀ r ∈ L, szP_ r := by obtain ⟨D, _, _, _, h1, _⟩ := H3.out.box; exact h1.sz
      have hsy : ∀ r ∈ M, szP_ r := by obtain ⟨D, _, _, _, _, h1⟩ := H3.out.box; exact h1.sz
      have q1 : doneN (foldN L) = xfA a b := by
        have h1 := HI.out.eq1
        rw [e1, e2, xf_nil, List.append_nil] at h1
        unfold xfA
        rw [foldN_units hsx, h1]
      have q2 : doneN (foldN M) = xfB a b := by
        have h1 := HI.out.eq2
        rw [e1, e2, xf_nil, List.append_nil] at h1
        unfold xfB
        rw [foldN_units hsy, h1]
      have HS1 := Lib.hid (show SmP (xfA a b) by rw [← q1]; exact built_small hsx (by omega))
      have HS2 := Lib.hid (show SmP (xfB a b) by rw [← q2]; exact built_small hsy (by omega))
      have HQ1 := Lib.hid q1
      have HQ2 := Lib.hid q2
      have hq : ∀ w, Sem.run Try.prog (binOp .eql 101 .nilFunc .nilFunc) w = .ok (.bool true) w := fun w => eql_nil Try.underlying101
      clear q1 q2 hsx hsy e1 e2 HLEN HZ HZ2 hLM hvp hvq HI
      go_wp2
      clear hq
      have H3d := Lib.hid H3.out.drew
      clear H3
      go_region_held3 (fun _ => True) (trivial)
        (first | (go_at_call 68; ((with_reducible refine (Xs.doneX H3d.out).mono ?_); rintro e w4 ⟨v4, c4, D4, rfl, o4, bd4, ds4, bl4⟩; have H4 := Lib.hid (And.intro o4 (And.intro ds4 (H3d.out.bl.trans bl4))); have HB4 := Lib.hid bd4; clear o4 bd4 ds4 bl4)) | (go_at_call 68; ((with_reducible refine (implDoneB P F.lo F.g 11 D4 M _ HB4.out).mono ?_); rintro e w5 ⟨v5, c5, rfl, o5, in5, bl5, gr5, _⟩; have H5 := Lib.hid (And.intro o5 (And.intro in5 (And.intro bl5 gr5))); clear o5 in5 bl5 gr5)))
      go_wp2
      go_ret2
      obtain ⟨o4, ds4, bl4⟩ := H4.out
      obtain ⟨o5, in5, bl5, gr5⟩ := H5.out
      rw [HQ1.out] at o4
      rw [HQ2.out] at o5
      have o4' := OwB.grewX o4 gr5 ds4
      have bl := bl4.trans bl5
      have eF := HF.out
      subst eF
      exact ⟨v4, v5, c4, c5, rfl, o4'.upto gr5.size (Nat.le_refl _), o5, fun x h1 h2 => by
        rcases (in5 x h2).1 with k | k
        · exact (ds4 x h1).1 k
        · have := OwC.lt _ _ _ o4.ow x h1; omega, bl, HS1.out, HS2.out⟩
    · clear hk1l hk2l hk1i hk2i HTV
      have HD := Lib.hid (show (unitsP (cutR p1 (sizeP p1)) ++ units ps1).length + (unitsP q1 ++ units qs1).length < (unitsP p1 ++ units ps1).length + (unitsP q1 ++ units qs1).length by
        have := cutR_len hvp (Nat.le_refl _) h0
        simp only [List.length_append]
        omega)
      subst htv
      have hq : ∀ w, Sem.run Try.prog (binOp .eql 101 (.func (.func 88) #[] #[]) .nilFunc) w = .ok (.bool false) w := fun w => eql_fn _ Try.underlying101
      go_wp2_with fail
      clear hq
      refine (H3.out.putFirst h0 (by omega) (by omega)).mono ?_
      rintro e w4 ⟨rfl, O4, P4, h4⟩
      obtain ⟨st, lt4⟩ := StX.next (w := wr) h4 (ePx HI.out hvp h0 hk) HLEN.out HD.out
      have HST := Lib.hid st
      have HLT := Lib.hid lt4
      clear st lt4 h4 H3 HI HLEN HZ HZ2 h0 HD hLM
      go_wp2
      go_roundw
      case rel => exact ⟨_, HST.out⟩
      case measure => exact HLT.out
    · clear hk1l hk2l hk1i hk2i HTV
      have HD := Lib.hid (show (unitsP p1 ++ units ps1).length + (unitsP (cutR q1 (sizeP q1)) ++ units qs1).length < (unitsP p1 ++ units ps1).length + (unitsP q1 ++ units qs1).length by
        have := cutR_len hvq (Nat.le_refl _) h0
        simp only [List.length_append]
        omega)
      subst htv
      have hq : ∀ w, Sem.run Try.prog (binOp .eql 101 (.func (.func 85) #[] #[]) .nilFunc) w = .ok (.bool false) w := fun w => eql_fn _ Try.underlying101
      go_wp2_with fail
      clear hq
      refine (H3.out.putSecond h0 (by omega) (by omega)).mono ?_
      rintro e w4 ⟨rfl, O4, P4, h4⟩
      obtain ⟨st, lt4⟩ := StX.next (w := wr) h4 (ePy HI.out hnp hvq h0 hk) HLEN.out HD.out
      have HST := Lib.hid st
      have HLT := Lib.hid lt4
      clear st lt4 h4 H3 HI HLEN HZ HZ2 h0 HD hLM
      go_wp2
      go_roundw
      case rel => exact ⟨_, HST.out⟩
      case measure => exact HLT.out
    · clear hk1l hk2l hk1i hk2i HTV
      obtain ⟨m, hm0, hm1, hm2, hm⟩ : ∃ m, 0 < m ∧ m ≤ sizeP p1 ∧ m ≤ sizeP q1 ∧ (m = sizeP p1 ∨ m = sizeP q1) := ⟨min (sizeP p1) (sizeP q1), by omega, by omega, by omega, by omega⟩
      have HM := Lib.hid hm
      have HD := Lib.hid (show (unitsP (cutR p1 m) ++ units ps1).length + (unitsP (cutR q1 m) ++ units qs1).length < (unitsP p1 ++ units ps1).length + (unitsP q1 ++ units qs1).length by
        have h1 := cutR_len hvp hm1 hm0
        have h2 := cutR_len hvq hm2 hm0
        simp only [List.length_append]
        omega)
      clear hm
      rcases hc with ⟨htv, hk, hk'⟩ | ⟨htv, hk, hk'⟩ | ⟨htv, hk, hk'⟩ | ⟨htv, hk, hk'⟩
      · subst htv
        have hq : ∀ w, Sem.run Try.prog (binOp .eql 101 (.func (.func 86) #[] #[]) .nilFunc) w = .ok (.bool false) w := fun w => eql_fn _ Try.underlying101
        go_wp2_with fail
        clear hq
        refine (H3.out.keepBoth hm0 hm1 hm2 HM.out (by omega) (by omega)).mono ?_
        rintro e w4 ⟨rfl, O4, P4, h4⟩
        obtain ⟨st, lt4⟩ := StX.next (w := wr) h4 ((eM HI.out hvp hvq hm0 hm1 hm2 (.inl hk) (.inl hk')).1 hk hk') HLEN.out HD.out
        have HST := Lib.hid st
        have HLT := Lib.hid lt4
        clear st lt4 h4 H3 HI HLEN HZ HZ2 h0 HD hLM
        go_wp2
        go_roundw
        case rel => exact ⟨_, HST.out⟩
        case measure => exact HLT.out
      · subst htv
        have hq : ∀ w, Sem.run Try.prog (binOp .eql 101 (.func (.func 87) #[] #[]) .nilFunc) w = .ok (.bool false) w := fun w => eql_fn _ Try.underlying101
        go_wp2_with fail
        clear hq
        refine (H3.out.dropSecond hm0 hm1 hm2 HM.out (by omega)).mono ?_
        rintro e w4 ⟨rfl, O4, P4, h4⟩
        obtain ⟨st, lt4⟩ := StX.next (w := wr) h4 ((eM HI.out hvp hvq hm0 hm1 hm2 (.inl hk) (.inr hk')).2.1 hk hk') HLEN.out HD.out
        have HST := Lib.hid st
        have HLT := Lib.hid lt4
        clear st lt4 h4 H3 HI HLEN HZ HZ2 h0 HD hLM
        go_wp2
        go_roundw
        case rel => exact ⟨_, HST.out⟩
        case measure => exact HLT.out
      · subst htv
        have hq : ∀ w, Sem.run Try.prog (binOp .eql 101 (.func (.func 89) #[] #[]) .nilFunc) w = .ok (.bool false) w := fun w => eql_fn _ Try.underlying101
        go_wp2_with fail
        clear hq
        refine (H3.out.dropFirst hm0 hm1 hm2 HM.out (by omega)).mono ?_
        rintro e w4 ⟨rfl, O4, P4, h4⟩
        obtain ⟨st, lt4⟩ := StX.next (w := wr) h4 ((eM HI.out hvp hvq hm0 hm1 hm2 (.inr hk) (.inl hk')).2.2.1 hk hk') HLEN.out HD.out
        have HST := Lib.hid st
        have HLT := Lib.hid lt4
        clear st lt4 h4 H3 HI HLEN HZ HZ2 h0 HD hLM
        go_wp2
        go_roundw
        case rel => exact ⟨_, HST.out⟩
        case measure => exact HLT.out
      · subst htv
        have hq : ∀ w, Sem.run Try.prog (binOp .eql 101 (.func (.func 90) #[] #[]) .nilFunc) w = .ok (.bool false) w := fun w => eql_fn _ Try.underlying101
        go_wp2_with fail
        clear hq
        refine (H3.out.dropBoth hm0 hm1 hm2 HM.out).mono ?_
        rintro e w4 ⟨rfl, O4, P4, h4⟩
        obtain ⟨st, lt4⟩ := StX.next (w := wr) h4 ((eM HI.out hvp hvq hm0 hm1 hm2 (.inr hk) (.inr hk')).2.2.2 hk hk') HLEN.out HD.out
        have HST := Lib.hid st
        have HLT := Lib.hid lt4
        clear st lt4 h4 H3 HI HLEN HZ HZ2 h0 HD hLM
        go_wp2
        go_roundw
        case rel => exact ⟨_, HST.out⟩
        case measure => exact HLT.out
end Go.Proofs.Ytfpjoncaccbnmaa.low.xb


/-
  Applying: the lengths; a row that is filled from the front by copies.
-/
namespace Go.Proofs.Ytfpjoncaccbnmaa.low
open Go.RowKit
set_option linter.unusedVariables false

theorem foldA_len {t : List Int} {ps : List Pt} (h : fitsB ps t = true) : ∀ k, k ≤ ps.length → ((foldA t (ps.take k)).2.length : Int) = sumOf keepOf (ps.take k) + sumOf putOf (ps.take k)
  | 0, _ => by simp [foldA, sumOf]
  | k + 1, hk => by
    obtain ⟨p, hp⟩ := idx_some (l := ps) (i := k) (by omega)
    have i2 := foldA_len h k (by omega)
    have hok := (fits_of h).1
    have hp' := of_okPt (okPs_at hp hok)
    have hin := foldA_in h hp
    rw [foldA_snoc hp, sumOf_snoc hp, sumOf_snoc hp]
    generalize foldA t (ps.take k) = s at *
    generalize sumOf keepOf (ps.take k) = q1 at *
    generalize sumOf putOf (ps.take k) = q2 at *
    unfold stepA keepOf putOf
    rcases (show p.kind = 1 ∨ p.kind = 2 ∨ p.kind = 3 by omega) with e | e | e
    · have hin := hin (.inl e)
      simp only [e, if_true]
      rw [List.length_append, List.length_take, List.length_drop]
      simp
      omega
    · simp only [e]
      simp
      omega
    · simp only [e]
      simp
      omega
theorem foldA_upto {t : List Int} {ps : List Pt} {n : Nat} (h : fitsB ps t = true) (hn : sumK ps + sumP ps = (n : Int)) (k : Nat) (hk : k ≤ ps.length) : (foldA t (ps.take k)).2.length ≤ n := by
  have h1 := foldA_len h k hk
  obtain ⟨hok, _, _, _, _, _, ho⟩ := fits_of h
  have hp : partsB ps = true := by unfold okOp at ho; rw [Bool.and_eq_true, Bool.and_eq_true] at ho; exact ho.1.1
  obtain ⟨t1, t2, t3⟩ := sum_t hp
  rw [t1, t2] at hn
  have a1 := sumOf_take (f := keepOf) (ps := ps) (fun q hq => (ok_bd (okPs_mem' hok hq)).1.1) k
  have a2 := sumOf_take (f := putOf) (ps := ps) (fun q hq => (ok_bd (okPs_mem' hok hq)).2.1.1) k
  omega
theorem foldA_all {t : List Int} {ps : List Pt} {n : Nat} (h : fitsB ps t = true) (hn : sumK ps + sumP ps = (n : Int)) : (foldA t ps).2.length = n := by
  have h1 := foldA_len h ps.length (Nat.le_refl _)
  rw [List.take_length] at h1
  obtain ⟨hok, _, _, _, _, _, ho⟩ := fits_of h
  have hp : partsB ps = true := by unfold okOp at ho; rw [Bool.and_eq_true, Bool.and_eq_true] at ho; exact ho.1.1
  obtain ⟨t1, t2, t3⟩ := sum_t hp
  rw [t1, t2] at hn
  omega
theorem fits_n {t : List Int} {ps : List Pt} (h : fitsB ps t = true) : ∃ n : Nat, sumK ps + sumP ps = (n : Int) ∧ n ≤ 200 := by
  obtain ⟨hok, _, _, h4, _, _, ho⟩ := fits_of h
  have hp : partsB ps = true := by unfold okOp at ho; rw [Bool.and_eq_true, Bool.and_eq_true] at ho; exact ho.1.1
  obtain ⟨t1, t2, t3⟩ := sum_t hp
  have h1 := foldA_len h ps.length (Nat.le_refl _)
  rw [List.take_length] at h1
  exact ⟨(foldA t ps).2.length, by rw [t1, t2]; omega, by omega⟩
/-- a row of n cells of which the first are filled -/
def fillR (n : Nat) (out : List Int) : List Value := out.map (Value.int .i64) ++ List.replicate (n - out.length) (Value.int .i64 0)
theorem fill_len (n : Nat) (out : List Int) (h : out.length ≤ n) : (fillR n out).length = n := by unfold fillR; simp; omega
theorem fill_splice (n : Nat) (out ys : List Int) (h : out.length + ys.length ≤ n) : splice (fillR n out) out.length (ys.map (Value.int .i64)) = fillR n (out ++ ys) := by
  unfold splice fillR
  have e1 : (out.map (Value.int .i64) ++ List.replicate (n - out.length) (Value.int .i64 0)).take out.length = out.map (Value.int .i64) := by
    rw [List.take_append_of_le_length (by simp), List.take_of_length_le (by simp)]
  have e2 : (out.map (Value.int .i64) ++ List.replicate (n - out.length) (Value.int .i64 0)).drop (out.length + (ys.map (Value.int .i64)).length) = List.replicate (n - (out ++ ys).length) (Value.int .i64 0) := by
    rw [List.drop_append, List.drop_eq_nil_of_le (by simp), List.nil_append, List.drop_replicate]
    congr 1
    simp
    omega
  rw [e1, e2, List.map_append, List.append_assoc]
theorem fill_all (n : Nat) (out : List Int) (h : out.length = n) : fillR n out = out.map (Value.int .i64) := by
  unfold fillR
  rw [h]
  simp
theorem own_full {w : World} {base r n : Nat} {e : TypeId} {xs : List Value} (h : w.ownsRow base e 1 (.slice (some ⟨r, 0, none⟩) n n) n xs) : w.heap[r]? = some (.cells xs.toArray e (0, 0)) ∧ base ≤ r ∧ xs.length = n := by
  have hl := h.1
  rcases h.2 with ⟨h1, _⟩ | ⟨g, cap, cur, hv, hge, hh, h4, h5, h6, h7⟩
  · cases h1
  · injection hv with q1 q2 q3
    injection q1 with q1
    injection q1 with q1
    subst q1
    subst q3
    have : cur = xs.toArray := by
      rw [← h7, List.take_of_length_le (by simp; omega)]
    subst this
    exact ⟨hh, hge, by simpa using hl⟩
theorem full_own {w : World} {base r n : Nat} {e : TypeId} {xs : List Value} (h : w.heap[r]? = some (.cells xs.toArray e (0, 0))) (hb : base ≤ r) (hl : xs.length = n) (hn : n ≤ 4294967296) : w.ownsRow base e 1 (.slice (some ⟨r, 0, none⟩) n n) n xs := by
  refine ⟨by simpa using hl, .inr ⟨r, n, xs.toArray, rfl, hb, h, Nat.le_refl _, by unfold maxLen; omega, by simp [hl], ?_⟩⟩
  rw [List.take_of_length_le (by simp [hl])]
end Go.Proofs.Ytfpjoncaccbnmaa.low


/-
  The program's side: contract of impl.Apply.
-/
namespace Go.Proofs.Ytfpjoncaccbnmaa.low
open Go.RowKit
set_option linter.unusedVariables false

theorem Rdr.drew {B g : Nat} {w : World} {zs : List Int} (h : Rdr B g w zs) : Rdr B g w.drew zs := h.keep rfl (fun _ _ => rfl)
theorem int_size : (Try.prog.info? 3).map (·.size) = some 1 := by kernel_rfl
theorem made_zero (n : Nat) : (madeCells (Value.cells (Value.int .i64 0)) (n * 1)).toList = fillR n [] := by
  unfold fillR
  simp [madeCells, Value.cells, Nat.mod_one, List.map_const']
theorem Row.src {w : World} {B : Nat} {A : Option Addr} {ys : List Int} (h : Row (Value.int .i64) w B A ys) (hp : 0 < (ys.map (Value.int .i64)).length) : ∃ ad, A = some ad ∧ ∀ j v, (ys.map (Value.int .i64))[j]? = some v → w.cell? (ad.add j) = some v := by
  obtain ⟨ad, e, _, hc⟩ := h (by simpa using hp)
  refine ⟨ad, e, fun j v hv => ?_⟩
  rw [List.getElem?_map] at hv
  obtain ⟨z, hz, rfl⟩ := Option.map_eq_some_iff.1 hv
  exact hc j z hz
theorem ints_one (ys : List Int) : ∀ v ∈ ys.map (Value.int .i64), v.oneCell' = true := by
  intro v hv
  obtain ⟨z, _, rfl⟩ := List.mem_map.1 hv
  rfl

set_option maxRecDepth 100000 in
set_option maxHeartbeats 3200000 in
theorem implApply_d (v v' : Value) (ps : List Pt) (t : List Int) (w : World) (h : RdC w w.heap.size (encPs ps) v) (h' : RdC w w.heap.size (encInts t) v') (hs : SmP ps) (hs' : SmI t) : Calls Try.prog 10 #[v, v'] w (ResB (encInts (applyT ps t)) (fitsB ps t) w) := by
  obtain ⟨A, c, rfl, hr, _⟩ := parts_rd h
  obtain ⟨A', c', rfl, hr', hcap⟩ := ints_rd h'
  obtain ⟨i0, hi0, hz0, hz1, hz2⟩ := info_parts ints_info
  cases hf : fitsB ps t
  · have e1 : applyT ps t = [] := by simp [applyT, hf]
    rw [e1]
    go_enter Try.func10, Try.ntmps10
    go_wp2_with fail
    refine (implFits_d _ _ ps t _ h h' hs hs').mono ?_
    rintro e w1 ⟨rfl, b1⟩
    rw [hf]
    go_wp2
    go_ret2
    exact ⟨_, rfl, ⟨[], ⟨[], [], World.ownsRow_nil _ _ _ _, ⟨rfl, rfl⟩, rfl⟩, by simp, fun b hb => by simp at hb, Nat.le_refl _, b1.size⟩, b1⟩
  · have e1 : applyT ps t = (foldA t ps).2 := by simp [applyT, hf]
    rw [e1]
    have HF := Lib.hid hf
    have HFO := Lib.hid (fits_of hf)
    have hl := HFO.out.2.1
    have ht := HFO.out.2.2.2.2.2.1
    obtain ⟨n, hn, hn2⟩ := fits_n hf
    have HN := Lib.hid hn
    clear hn
    have hl1 := hs.1
    go_enter Try.func10, Try.ntmps10
    go_wp2_with fail
    refine (implFits_d _ _ ps t _ h h' hs hs').mono ?_
    rintro e w1 ⟨rfl, b1⟩
    rw [hf]
    clear hf e1
    go_wp2_with fail
    have hrd : Rdr w.heap.size w1.heap.size (w1.alloc (.cells #[.slice A' t.length c'] 64)) t := ⟨A', c', heap_alloc_new w1 _, hcap, (hr'.below b1).keep (fun p hp => (alloc_below w1 _).cell (Nat.lt_of_lt_of_le hp b1.size)), b1.size⟩
    have hb2 := b1.trans ((alloc_below w1 (.cells #[.slice A' t.length c'] 64)).mono b1.size)
    generalize w1.alloc (.cells #[.slice A' t.length c'] 64) = w2 at *
    have hwg := b1.size
    generalize w1.heap.size = g at *
    clear b1
    refine (implOpTo_any A c ps w2 (hr.past hb2) (by omega) hs.all4).mono ?_
    rintro e w3 ⟨rfl, b3⟩
    rw [HN.out]
    have hrd3 := hrd.past b3
    have hb3 := hb2.trans (b3.mono hb2.size)
    clear hrd hb2 b3
    go_wp2_with (at_make; refine wpList_make_full _ rfl _ _ 23 rfl w3.heap.size 3 i0 (.int .i64 0) 1 Try.underlying23 hi0 hz0 hz1 _ _ _ _ n rfl rfl (by omega) (by omega) (by rw [hz2]; omega) (by unfold maxLen; omega) (Nat.le_refl _) ?_; intro w4 hown hg4)
    have hb4 := (Below.refl w3.heap.size w3).grown hg4 (Nat.le_refl _) (fun _ h => by cases h)
    rw [made_zero] at hown
    have hrow := (own_full hown).1
    have hrd4 := hrd3.past hb4
    have hgr := hrd3.lt
    have hbw := hb3.trans (hb4.mono hb3.size)
    have hwr := hb3.size
    generalize w3.heap.size = r at *
    have HRW := Lib.hid hrow
    have HRD := Lib.hid hrd4
    clear hown hg4 hb4 hrow hrd4 hrd3 hb3
    go_loopw [8, 23] (fun a i wr => ∃ k : Nat, k ≤ ps.length ∧ i = .int .i64 k ∧ a = .int .i64 ((foldA t (ps.take k)).2.length : Int) ∧ wr.heap[r]? = some (.cells (fillR n (foldA t (ps.take k)).2).toArray 3 (0, 0)) ∧ Rdr w.heap.size g wr (t.drop (foldA t (ps.take k)).1) ∧ Below w.heap.size w wr) (fun _ i _ => ps.length - (intOf i).toNat)
    case atStart => exact ⟨0, Nat.zero_le _, rfl, rfl, HRW.out, HRD.out, hbw⟩
    case round =>
      obtain ⟨k, hk, rfl, rfl, hrow, hrd, hbel⟩ := hrel
      clear HRW HRD hbw
      have hout := foldA_upto HF.out HN.out k hk
      have hfit := Lib.hid (foldA_fit (t := t) HFO.out.1 k hk)
      by_cases hlt : k < ps.length
      · obtain ⟨b, off, p, rfl, hb, hp, hc⟩ := hr.at_ hlt
        obtain ⟨x0, x1, A1, e1, x2, r1⟩ := hc.keep (w' := wr) hb (fun _ hq => hbel.cell hq)
        have hokp := okPs_at hp HFO.out.1
        have hok := of_okPt hokp
        have hout1 := foldA_upto HF.out HN.out (k + 1) hlt
        have hin := foldA_in HF.out hp
        rw [foldA_snoc (t := t) hp] at hout1
        have K1 := Lib.hid (foldA_snoc (t := t) hp)
        have hsl := hs.all p (List.mem_of_getElem? hp)
        clear hp hc
        have hat : (foldA t (ps.take k)).1 ≤ 200 := by
          have f := hfit.out
          have a1 := sumOf_take (f := keepOf) (ps := ps) (fun q hq => (ok_bd (okPs_mem' HFO.out.1 hq)).1.1) k
          have a3 := sumOf_take (f := dropOf) (ps := ps) (fun q hq => (ok_bd (okPs_mem' HFO.out.1 hq)).2.2.1) k
          have g1 := HFO.out.2.2.1
          omega
        generalize foldA t (ps.take k) = st at *
        obtain ⟨at_, out⟩ := st
        obtain ⟨pk, pn, pz⟩ := p
        simp only at x0 x1 x2 hok r1 hin hrow hrd hat hout
        rcases (show pk = 1 ∨ pk = 2 ∨ pk = 3 by omega) with rfl | rfl | rfl
        · have hn1 : 0 ≤ pn := by omega
          have hn2 : pn ≤ 200 := by omega
          have hin' := hin (.inl rfl)
          obtain ⟨m, rfl⟩ := Int.eq_ofNat_of_zero_le hn1
          have hlen : ((t.drop at_).take m).length = m := piece_len (by omega)
          have K2 := Lib.hid (show stepA t (at_, out) ⟨1, (m : Int), pz⟩ = (at_ + m, out ++ (t.drop at_).take m) by simp [stepA])
          rw [K2.out] at hout1
          have HY := Lib.hid (show (t.drop at_).take ((t.drop at_).take m).length = (t.drop at_).take m by rw [hlen])
          generalize (t.drop at_).take m = ys at *
          obtain rfl : ys.length = m := hlen
          have hn3 : out.length + ys.length ≤ n := by simpa using hout1
          clear hok hin hout1
          have bA := alloc_below wr (.cells #[.int .i64 1, .int .i64 (ys.length : Int), .slice A1 pz.length e1] 66)
          have HRD := Lib.hid (hrd.past bA)
          have hrl := lt_of_some hrow
          have HRW := Lib.hid ((bA.block r hrl).trans hrow)
          clear hrd hrow r1
          have hb0 := hbel.trans (bA.mono hbel.size)
          clear bA
          have hfl : (ys.map (Value.int .i64)).length = Nat.min ys.length (n - out.length) := by rw [List.length_map]; exact (Nat.min_eq_left (by omega)).symm
          have HFL := Lib.hid hfl
          clear hfl
          have hdst : 0 < (ys.map (Value.int .i64)).length → (if n = out.length then some (⟨r, 0, none⟩ : Addr) else some ⟨r, out.length, none⟩) = some ⟨r, out.length, none⟩ := fun hp => if_neg (by rw [List.length_map] at hp; omega)
          have HDST := Lib.hid hdst
          clear hdst
          have hz1 : ys.length ≤ (t.drop at_).length := by rw [List.length_drop]; omega
          have hz2' : (t.drop at_).length ≤ 1000000 := by rw [List.length_drop]; omega
          have HZ1 := Lib.hid hz1
          have HZ2 := Lib.hid hz2'
          clear hz1 hz2'
          have hw1 : IntKind.i64.wrap ((out.length : Int) + (ys.length : Int)) = (out.length : Int) + (ys.length : Int) := IntWalk.i64_in _ (by omega)
          go_wp2
          go_region_law (first | (refine step_copy_splice rfl (.tmp 34) (.tmp 38) 23 23 rfl 3 Try.underlying23 int_size (if n = out.length then some (⟨r, 0, none⟩ : Addr) else some ⟨r, out.length, none⟩) A4 (n - out.length) (n - out.length) ys.length ys.length rfl rfl r out.length (fillR n out) 3 (by exact hrw4.out) (ys.map (Value.int .i64)) (by exact HFL.out) (fun hp => ⟨HDST.out hp, r4.out.src hp⟩) (by rw [fill_len _ _ hout]; simpa using hn3) (ints_one _) r _ (Below.refl _ _) (Nat.le_refl _) ?_; intro w5 hg5 hb5) | (go_simp; go_at_call 38; refine (implNext w.heap.size g ys.length (t.drop at_) _ (by exact HRD.out.drew) (by exact HZ1.out) (by exact HZ2.out)).mono ?_; rintro e w4 ⟨A4, rfl, r4, rd4, t4⟩; rw [HY.out] at r4; replace r4 := Lib.hid r4; have HR4 := Lib.hid rd4; have hrw4 := Lib.hid ((t4.block r (by omega)).trans HRW.out); clear rd4))
          have hb4' : Below w.heap.size w w4 := hb0.drew.trans (t4.below (fun b hb => by have hb' : b = g := hb; omega))
          have hb5' : Below w.heap.size w w5 := hb4'.trans (hb5.mono hwr)
          have HR5 := Lib.hid (show w5.heap[r]? = some (.cells (fillR n (out ++ ys)).toArray 3 (0, 0)) by rw [hg5.out, fill_splice _ _ _ hn3])
          have HD5 := Lib.hid (HR4.out.keep (hb5.block g hgr) (fun p hp => hb5.cell (by omega)))
          clear hg5 hb5 HDST HFL hb4' t4
          go_wp2
          go_roundw
          case rel => exact ⟨k + 1, by omega, by go_num, by rw [K1.out, K2.out]; simp, by rw [K1.out, K2.out]; exact HR5.out, by rw [K1.out, K2.out]; have := HD5.out; rw [List.drop_drop] at this; exact this, hb5'⟩
          case measure => simp [intOf]; omega
        · have hn3 : out.length + pz.length ≤ n := by
            have := hout1
            simp [stepA] at this
            exact this
          clear hok hin hout1
          have bA := alloc_below wr (.cells #[.int .i64 2, .int .i64 pn, .slice A1 pz.length e1] 66)
          have HRD := Lib.hid (hrd.past bA)
          have hrl := lt_of_some hrow
          have HRW := Lib.hid ((bA.block r hrl).trans hrow)
          have hpc := Lib.hid (Row.past_alloc (r1.more hbel.size) (.cells #[.int .i64 2, .int .i64 pn, .slice A1 pz.length e1] 66))
          clear hrd hrow r1
          have hb0 := hbel.trans (bA.mono hbel.size)
          clear bA
          have hfl : (pz.map (Value.int .i64)).length = Nat.min pz.length (n - out.length) := by rw [List.length_map]; exact (Nat.min_eq_left (by omega)).symm
          have HFL := Lib.hid hfl
          clear hfl
          have hw1 : IntKind.i64.wrap ((out.length : Int) + (pz.length : Int)) = (out.length : Int) + (pz.length : Int) := IntWalk.i64_in _ (by omega)
          have hdst : 0 < (pz.map (Value.int .i64)).length → (if n = out.length then some (⟨r, 0, none⟩ : Addr) else some ⟨r, out.length, none⟩) = some ⟨r, out.length, none⟩ := fun hp => if_neg (by rw [List.length_map] at hp; omega)
          have HDST := Lib.hid hdst
          clear hdst
          go_wp2
          go_region_law (refine step_copy_splice rfl (.tmp 46) (.tmp 48) 23 23 rfl 3 Try.underlying23 int_size (if n = out.length then some (⟨r, 0, none⟩ : Addr) else some ⟨r, out.length, none⟩) A1 (n - out.length) (n - out.length) pz.length e1 rfl rfl r out.length (fillR n out) 3 (by exact HRW.out) (pz.map (Value.int .i64)) (by exact HFL.out) (fun hp => ⟨HDST.out hp, hpc.out.src hp⟩) (by rw [fill_len _ _ hout]; simpa using hn3) (ints_one _) r _ (Below.refl _ _) (Nat.le_refl _) ?_; intro w5 hg5 hb5)
          have hb5' : Below w.heap.size w w5 := hb0.drew.trans (hb5.mono hwr)
          have HR5 := Lib.hid (show w5.heap[r]? = some (.cells (fillR n (out ++ pz)).toArray 3 (0, 0)) by rw [hg5.out, fill_splice _ _ _ hn3])
          have HD5 := Lib.hid (HRD.out.drew.keep (hb5.block g hgr) (fun p hp => hb5.cell (by omega)))
          clear hg5 hb5 HDST HFL
          go_wp2
          go_roundw
          case rel => exact ⟨k + 1, by omega, by go_num, by rw [K1.out]; simp [stepA], by rw [K1.out]; exact HR5.out, by rw [K1.out]; exact HD5.out, hb5'⟩
          case measure => simp [intOf]; omega
        · have hn1 : 0 ≤ pn := by omega
          have hn2 : pn ≤ 200 := by omega
          have hin' := hin (.inr rfl)
          clear hok hin hout1
          obtain ⟨m, rfl⟩ := Int.eq_ofNat_of_zero_le hn1
          have bA := alloc_below wr (.cells #[.int .i64 3, .int .i64 (m : Int), .slice A1 pz.length e1] 66)
          have HRD := Lib.hid (hrd.past bA)
          have hrl := lt_of_some hrow
          have HRW := Lib.hid ((bA.block r hrl).trans hrow)
          clear hrd hrow
          have hb0 := hbel.trans (bA.mono hbel.size)
          clear bA
          go_wp2_with fail
          refine (implNext w.heap.size g m (t.drop at_) _ HRD.out (by rw [List.length_drop]; omega) (by rw [List.length_drop]; omega)).mono ?_
          rintro e w4 ⟨A4, rfl, r4, rd4, t4⟩
          have HR4 := Lib.hid rd4
          have hrw4 := Lib.hid ((t4.block r (by omega)).trans HRW.out)
          have hb4 := hb0.trans (t4.below (fun b hb => by have := hb; omega))
          clear r4 rd4 t4
          go_wp2
          go_roundw
          case rel => exact ⟨k + 1, by omega, by go_num, by rw [K1.out]; rfl, by rw [K1.out]; exact hrw4.out, by rw [K1.out]; have := HR4.out; rw [List.drop_drop] at this; simpa [stepA] using this, hb4⟩
          case measure => simp [intOf]; omega
      · have hke : ps.take k = ps := List.take_of_length_le (by omega)
        rw [hke] at hrow hrd ⊢
        have hall := foldA_all HF.out HN.out
        rw [fill_all _ _ hall] at hrow
        have HO := Lib.hid (full_own (base := w.heap.size) hrow hwr (by simpa using hall) (by omega))
        have HL := Lib.hid hall
        clear hrow hrd hall hke hout
        generalize (foldA t ps).2 = out at *
        go_wp2
        go_ret2
        have HO2 := HO.out
        rw [← HL.out] at HO2 ⊢
        exact ⟨_, rfl, ⟨_, ow_ints HO2, by simp [Value.ownBlock], fun b hb => by
          have hb' : b = r := by simpa [Value.ownBlock] using hb
          subst hb'
          exact ⟨hwr, own_in HO2 rfl⟩, Nat.le_refl _, hbel.size⟩, hbel⟩
end Go.Proofs.Ytfpjoncaccbnmaa.low


/-
  The program's side: contracts of impl.ApplyAll and impl.Idle.
-/
namespace Go.Proofs.Ytfpjoncaccbnmaa.low
open Go.RowKit
set_option linter.unusedVariables false

set_option maxRecDepth 100000 in
set_option maxHeartbeats 3200000 in
theorem implApplyAll_d (v v' : Value) (l : List (List Pt)) (t : List Int) (w : World) (h : RdC w w.heap.size (encPss l) v) (h' : RdC w w.heap.size (encInts t) v') (hs : SmPP l) (hs' : SmI t) : Calls Try.prog 16 #[v, v'] w (ResB (encInts (applyAllT l t)) (applyAllB l t) w) := by
  obtain ⟨A, c, rfl⟩ := pss_len h
  obtain ⟨A', c', rfl, hr', _⟩ := ints_rd h'
  obtain ⟨i0, hi0, hz0, hz1, hz2⟩ := info_parts ints_info
  have hl := hs.1
  have ht : t.length ≤ 1048576 := hs'
  cases htx : okText t
  · have HN := Lib.hid (show applyAllB l t = false ∧ applyAllT l t = [] by
      have e1 : applyAllB l t = false := by unfold applyAllB; rw [htx, Bool.and_false]
      exact ⟨e1, by unfold applyAllT; rw [e1]; rfl⟩)
    go_enter Try.func16, Try.ntmps16
    go_wp2_with fail
    refine (implTextOk_d _ t _ h' hs').mono ?_
    rintro e w1 ⟨rfl, b1⟩
    rw [htx]
    go_wp2
    go_ret2
    rw [HN.out.1, HN.out.2]
    exact ⟨_, rfl, nilOwn _ _ rfl b1.size, b1⟩
  · have HTX := Lib.hid htx
    have hsrc : Nat.min t.length t.length = t.length := Nat.min_self _
    have hfl : (t.map (Value.int .i64)).length = Nat.min t.length t.length := by rw [List.length_map, hsrc]
    have HFL := Lib.hid hfl
    clear hfl hsrc
    go_enter Try.func16, Try.ntmps16
    go_wp2_with fail
    refine (implTextOk_d _ t _ h' hs').mono ?_
    rintro e w1 ⟨rfl, b1⟩
    rw [htx]
    clear htx
    go_wp2_with (first | (at_make; refine wpList_make_full _ rfl _ _ 23 rfl w1.heap.size 3 i0 (.int .i64 0) 1 Try.underlying23 hi0 hz0 hz1 _ _ _ _ t.length rfl rfl (by omega) (by omega) (by rw [hz2]; omega) (by unfold maxLen; omega) (Nat.le_refl _) ?_; intro w2 hown hg2; rw [made_zero] at hown; have HROW := Lib.hid (own_full hown).1; have hb2 := (Below.refl w1.heap.size w1).grown hg2 (Nat.le_refl _) (fun _ h => by cases h); have hsr := Lib.hid ((hr'.past b1).past hb2); clear hown hg2) | (refine wpList_copy_splice (o := ⟨some 19, _, _, _, _, _⟩) rfl (.tmp 17) (.tmp 18) 23 23 rfl 3 Try.underlying23 int_size (some ⟨w1.heap.size, 0, none⟩) A' t.length t.length t.length c' rfl rfl w1.heap.size 0 (fillR t.length []) 3 HROW.out (t.map (Value.int .i64)) HFL.out (fun hp => ⟨rfl, hsr.out.src hp⟩) (by rw [fill_len _ _ (Nat.zero_le _)]; simp) (ints_one _) w1.heap.size _ (Below.refl _ _) (Nat.le_refl _) ?_; intro w3 hg3 hb3))
    have hbn := b1.trans ((hb2.trans hb3).mono b1.size)
    have hrow3 : w3.heap[w1.heap.size]? = some (.cells (t.map (Value.int .i64)).toArray 3 (0, 0)) := by
      have e := fill_splice t.length [] t (by simp)
      rw [List.nil_append, List.length_nil] at e
      rw [hg3.out, e, fill_all _ _ rfl]
    have HON := Lib.hid (ownInts (full_own (base := w.heap.size) hrow3 b1.size (by simp) (by omega)) hbn.size)
    clear hrow3 hg3 hb3 hb2 b1 HROW hsr HFL
    generalize w1.heap.size = r at *
    go_loopw [6, 22] (fun o i wr => ∃ (k : Nat) (cur : List Int), k ≤ l.length ∧ i = .int .i64 k ∧ foldAll (l.take k) t = some cur ∧ Own w.heap.size wr.heap.size wr (encInts cur) o ∧ Below w.heap.size w wr) (fun _ i _ => l.length - (intOf i).toNat)
    case atStart => exact ⟨0, t, Nat.zero_le _, rfl, rfl, HON.out, hbn⟩
    case round =>
      obtain ⟨k, cur, hk, rfl, hf, ho, hbel⟩ := hrel
      clear HON hbn
      have HF := Lib.hid hf
      have hcl := foldAll_len hk hf
      clear hf
      by_cases hlt : k < l.length
      · obtain ⟨ad, ps, A1, c1, rfl, hb, hp, hc, hpr⟩ := pss_at (h.below hbel) hlt
        have K1 := Lib.hid (foldAll_snoc (t := t) hp)
        rw [HF.out] at K1
        have hsp := hs.all ps (List.mem_of_getElem? hp)
        clear hp
        obtain ⟨Ao, co, rfl⟩ := sliceI ho.read
        have HO := Lib.hid ho
        have HPR := Lib.hid (RdC.more hbel.size _ _ hpr)
        clear ho hpr
        have hsc : SmI cur := by unfold SmI; omega
        go_wp2_with fail
        refine (implApply_d _ _ ps cur _ HPR.out HO.out.read hsp hsc).mono ?_
        rintro e w1 ⟨v1, rfl, o1, b1⟩
        obtain ⟨A3, c3, rfl⟩ := sliceI o1.read
        have HO1 := Lib.hid o1
        clear o1
        cases hfit : fitsB ps cur
        · have HN := Lib.hid (show applyAllB l t = false ∧ applyAllT l t = [] by
            have : foldAll l t = none := foldAll_none (k := k + 1) (by rw [K1.out]; simp [stepAll, hfit])
            have e1 : applyAllB l t = false := by unfold applyAllB; rw [this]; rfl
            exact ⟨e1, by unfold applyAllT; rw [e1]; rfl⟩)
          go_wp2
          go_ret2
          rw [HN.out.1, HN.out.2]
          exact ⟨_, rfl, nilOwn _ _ rfl (hbel.trans (b1.mono hbel.size)).size, hbel.trans (b1.mono hbel.size)⟩
        · have K2 := Lib.hid (show foldAll (l.take (k + 1)) t = some (applyT ps cur) by rw [K1.out]; simp [stepAll, hfit])
          go_wp2
          go_roundw
          case rel => exact ⟨k + 1, applyT ps cur, by omega, by go_num, K2.out, HO1.out.wide hbel.size (Nat.le_refl _) (Nat.le_refl _), hbel.trans (b1.mono hbel.size)⟩
          case measure => simp [intOf]; omega

      · have hke : l.take k = l := List.take_of_length_le (by omega)
        have HF2 := Lib.hid (show foldAll l t = some cur by rw [← HF.out, hke])
        obtain ⟨Ao, co, rfl⟩ := sliceI ho.read
        have HO := Lib.hid ho
        clear ho
        have HN := Lib.hid (show applyAllB l t = true ∧ applyAllT l t = cur by
          have e1 : applyAllB l t = true := by unfold applyAllB; rw [HTX.out, HF2.out]; rfl
          exact ⟨e1, by unfold applyAllT; rw [if_pos e1, HF2.out]; rfl⟩)
        go_wp2
        go_ret2
        rw [HN.out.1, HN.out.2]
        exact ⟨_, rfl, HO.out, hbel⟩
end Go.Proofs.Ytfpjoncaccbnmaa.low


/-
  The program's side: contract of impl.Invert.
-/
namespace Go.Proofs.Ytfpjoncaccbnmaa.low
open Go.RowKit
set_option linter.unusedVariables false

theorem implOpNorm_d (v : Value) (ps : List Pt) (w : World) (h : RdC w w.heap.size (encPs ps) v) (hs : SmP ps) : Calls Try.prog 41 #[v] w (OwnPost (encPs (normL ps)) w) := by
  obtain ⟨A, c, rfl, hr, _⟩ := parts_rd h
  have hl := hs.1
  refine (implOpNorm_any A c ps w hr (by omega) hs.all4 hs.2).mono ?_
  rintro e w1 ⟨v1, rfl, p1, b1⟩
  exact ⟨v1, rfl, own_parts p1, b1⟩

/-- the state of Invert's loop: the reader at gr, the builder at g with its blocks O, the normal form in blocks from z2 to z3 -/
structure InvS (B gr g z2 z3 : Nat) (t : List Int) (qs : List Pt) (Qv : Value) (bq : List Nat) (O : Nat → Prop) (at_ : Nat) (L : List Pt) (w0 wr : World) : Prop where
  rd : Rdr B gr wr (t.drop at_)
  bd : Bld O B g 98 wr L
  far : ∀ x, O x → (x < z2 ∨ z3 ≤ x) ∧ ¬ x = gr
  ow : OwB z2 z3 wr (encPs qs) Qv bq
  low : gr < z2
  bel : Below B w0 wr
theorem InvS.base {B gr g z2 z3 : Nat} {t : List Int} {qs : List Pt} {Qv : Value} {bq : List Nat} {O : Nat → Prop} {at_ : Nat} {L : List Pt} {w0 wr : World} (h : InvS B gr g z2 z3 t qs Qv bq O at_ L w0 wr) : B ≤ gr := by
  obtain ⟨_, _, _, _, _, h4⟩ := h.rd
  exact h4
theorem InvS.past {B gr g z2 z3 : Nat} {t : List Int} {qs : List Pt} {Qv : Value} {bq : List Nat} {O : Nat → Prop} {at_ : Nat} {L : List Pt} {w0 wr w' : World} (h : InvS B gr g z2 z3 t qs Qv bq O at_ L w0 wr) (hb : Below wr.heap.size wr w') (hB : B ≤ wr.heap.size) : InvS B gr g z2 z3 t qs Qv bq O at_ L w0 w' :=
  ⟨h.rd.past hb, h.bd.past hb, h.far, h.ow.past hb, h.low, h.bel.trans (hb.mono hB)⟩
/-- the reader goes on -/
theorem InvS.next {B gr g z2 z3 : Nat} {t : List Int} {qs : List Pt} {Qv : Value} {bq : List Nat} {O : Nat → Prop} {at_ m : Nat} {L : List Pt} {w0 wr w' : World} (h : InvS B gr g z2 z3 t qs Qv bq O at_ L w0 wr) (hr : Rdr B gr w' ((t.drop at_).drop m)) (ht : Touch (fun b => b = gr) wr w') : InvS B gr g z2 z3 t qs Qv bq O (at_ + m) L w0 w' := by
  have hB := h.base
  have hl := h.low
  exact ⟨by rw [List.drop_drop] at hr; exact hr, h.bd.keep (by rw [ht.size]; exact Nat.le_refl _) (fun b _ hO => ht.block b (h.far b hO).2), h.far, h.ow.touch ht (fun x hx e => by have := h.ow.rng x hx; have e' : x = gr := e; omega), h.low, h.bel.trans (ht.below (fun b hb => by have e' : b = gr := hb; omega))⟩
/-- the builder has grown -/
theorem InvS.grow {B gr g z2 z3 : Nat} {t : List Int} {qs : List Pt} {Qv : Value} {bq : List Nat} {O O' : Nat → Prop} {at_ : Nat} {L L' : List Pt} {w0 wr w' : World} (h : InvS B gr g z2 z3 t qs Qv bq O at_ L w0 wr) (hb : Bld O' B g 98 w' L') (b : Below B wr w') (hg : Grew O O' wr w') : InvS B gr g z2 z3 t qs Qv bq O' at_ L' w0 w' := by
  have hlt := h.rd.lt
  refine ⟨h.rd.keep (hg.block gr hlt (fun ho => (h.far gr ho).2 rfl)) (fun p hp => b.cell hp), hb, fun x hx => ?_, h.ow.grew hg (fun x hx => (h.far x hx).1), h.low, h.bel.trans b⟩
  rcases hg.more x hx with h1 | h1
  · exact h.far x h1
  · exact ⟨.inr (Nat.le_trans h.ow.top h1), by omega⟩

end Go.Proofs.Ytfpjoncaccbnmaa.low


/-
  append(out, x) where out is an owned slice of whatever rows and x is one row of data of the caller's own.
-/
namespace Go.Proofs.Ytfpjoncaccbnmaa.low
open Go.RowKit
set_option linter.unusedVariables false

theorem wpList_append_row {w : World} {ops : Array Oper} {rest : List Oper} {o : Oper} {a : Act} {Q : Exit → Act → World → Prop} (hgd : o.guard = none) (s x : Operand) (t : TypeId)
    (ho : o.op = .call { callee := .builtin .append, args := #[s, x], argTypes := #[t, t] }) (e : TypeId) (i : TypeInfo) (z : Value) (sz bytes : Nat) (ht : Try.prog.underlying t = some (.slice e)) (hi : Try.prog.info? e = some i) (hz : i.zero = some z) (hsize : i.size = sz) (hby : i.bytes = bytes) (hzs : z.cells.size = sz) (hsz : 0 < sz) (hbm : bytes ≤ 100000)
    (lo hi' : Nat) (v : Value) (ds : List (List Dat)) (b : List Nat) (h : OwB lo hi' w (.rows e sz ds) v b) (hs : a.eval s = v) (hlen : ds.length ≤ 2000000)
    (ad : Addr) (c0 : Nat) (ys : List Value) (hx : a.eval x = .slice (some ad) 1 c0) (hl : ys.length = sz) (hnews : ∀ j u, ys[j]? = some u → w.cell? (ad.add j) = some u) (h1 : ∀ u ∈ ys, u.oneCell' = true)
    (r : List Dat) (c : List Nat) (hr : OwL w r ys c) (hcn : c.Nodup) (hbc : ∀ q ∈ b, q ∉ c) (hcr : ∀ q ∈ c, lo ≤ q)
    (K : ∀ A' c' w' b', OwB lo w'.heap.size w' (.rows e sz (ds ++ [r])) (.slice A' (ds.length + 1) c') b' → (∀ q ∈ b', q ∈ b ∨ q ∈ c ∨ w.heap.size ≤ q) → Grew (fun q => q ∈ b) (fun q => q ∈ b ∨ w.heap.size ≤ q) w w' → Below lo w w' → wpList Try.prog ops Q rest (a.put o.dst (.slice A' (ds.length + 1) c')) w') : wpList Try.prog ops Q (o :: rest) a w := by
  have hnd := h.nd
  have hrg := h.rng
  obtain ⟨xs, cs, ho', hor, hb⟩ := h.ow
  refine wpList_append_lies _ hgd s x t ho 0 e i z sz bytes ht hi hz hsize hby hzs hsz v ds.length xs hs ho' ad 1 c0 ys hx (by simp [hl]) hnews h1 (by omega) (by unfold maxLen; omega) ?_ (Nat.zero_le _) _ rfl ?_
  · have : (ds.length + 1) * bytes ≤ 2000001 * 100000 := Nat.mul_le_mul (by omega) hbm
    omega
  intro g cap w' hown hg hat hlt
  rw [hb] at hnd
  obtain ⟨n1, n2, n3⟩ := List.nodup_append.1 hnd
  have own_mem : ∀ q, v.ownBlock = some q → q ∈ b := fun q hq => by rw [hb, hq]; simp
  have hcs : ∀ q ∈ cs, w'.heap[q]? = w.heap[q]? := fun q hq => hg.block q (OwR.lt sz _ _ _ hor q hq) (fun e => n3 q (by rw [← e]; simp) q hq rfl)
  have hcc : ∀ q ∈ c, w'.heap[q]? = w.heap[q]? := fun q hq => hg.block q (OwL.lt _ _ _ hr q hq) (fun e => hbc q (own_mem q e.symm) hq)
  have hor' := (OwR.keep sz _ _ _ hor hcs).append (OwR.one (OwL.keep _ _ _ hr hcc) hl)
  have g1 : g ∉ cs := fun hq => by
    rcases hat with e | e
    · exact n3 g (by rw [e]; simp) g hq rfl
    · have := OwR.lt sz _ _ _ hor g hq; omega
  have g2 : g ∉ c := fun hq => by
    rcases hat with e | e
    · exact hbc g (own_mem g e) hq
    · have := OwL.lt _ _ _ hr g hq; omega
  have g3 : lo ≤ g ∧ (g ∈ b ∨ w.heap.size ≤ g) := by
    rcases hat with e | e
    · exact ⟨(hrg g (own_mem g e)).1, .inl (own_mem g e)⟩
    · have := h.top; have := h.le; exact ⟨by omega, .inr (by omega)⟩
  have hsz' := hg.size
  have ht' := h.top
  refine K _ cap w' (g :: (cs ++ c)) ⟨⟨xs ++ ys, cs ++ c, by rw [List.length_append]; exact hown, hor', rfl⟩, ?_, ?_, Nat.le_refl _, by have := h.le; omega⟩ ?_ ⟨hg.size, fun q hq hn => hg.block q hq (fun e => hn (own_mem q e.symm)), fun q hq => hq⟩ ?_
  · refine List.nodup_cons.2 ⟨fun hq => ?_, List.nodup_append.2 ⟨n2, hcn, fun q hq q' hq' e => ?_⟩⟩
    · rcases List.mem_append.1 hq with hq | hq
      · exact g1 hq
      · exact g2 hq
    · subst e
      exact hbc q (by rw [hb]; simp [hq]) hq'
  · intro q hq
    rcases List.mem_cons.1 hq with rfl | hq
    · exact ⟨g3.1, hlt⟩
    · rcases List.mem_append.1 hq with hq | hq
      · have := hrg q (by rw [hb]; simp [hq]); exact ⟨this.1, by omega⟩
      · have := OwL.lt _ _ _ hr q hq; exact ⟨hcr q hq, by omega⟩
  · intro q hq
    rcases List.mem_cons.1 hq with rfl | hq
    · rcases g3.2 with h | h
      · exact .inl h
      · exact .inr (.inr h)
    · rcases List.mem_append.1 hq with hq | hq
      · exact .inl (by rw [hb]; simp [hq])
      · exact .inr (.inl hq)
  · exact (Below.refl lo w).grown hg (by have := h.le; omega) (fun k hk => (hrg k (own_mem k hk)).1)
/-- one cell that owns a datum -/
theorem OwC.row1 {w : World} {d : Dat} {v : Value} {b : List Nat} (h : OwC w d v b) : OwL w [d] [v] b := ⟨v, [], b, [], rfl, by simp, h, rfl, rfl⟩
end Go.Proofs.Ytfpjoncaccbnmaa.low


/-
  Leading an operation past several: the functions on lists, and the contracts of spec.l05Past, spec.Past and spec.PastAll.
-/
namespace Go.Proofs.Ytfpjoncaccbnmaa.low
open Go.RowKit
set_option linter.unusedVariables false

def stepPast (s : Option (List (List Pt) × List Pt)) (o : List Pt) : Option (List (List Pt) × List Pt) := match s with
  | none => none
  | some (xs, q) => if xformOk o q = true then some (xs ++ [xformA o q], xformB o q) else none
def foldPast (l : List (List Pt)) (b : List Pt) : Option (List (List Pt) × List Pt) := l.foldl stepPast (some ([], normL b))
def pastS (l : List (List Pt)) (b : List Pt) : Option (List (List Pt) × List Pt) := if okOp b = true then foldPast l b else none
def pastB (l : List (List Pt)) (b : List Pt) : Bool := (pastS l b).isSome
def pastAllT (l : List (List Pt)) (b : List Pt) : List (List Pt) := ((pastS l b).map (·.1)).getD []
def pastT (l : List (List Pt)) (b : List Pt) : List Pt := ((pastS l b).map (·.2)).getD []
theorem foldPast_snoc {l : List (List Pt)} {b : List Pt} {k : Nat} {ps : List Pt} (h : l[k]? = some ps) : foldPast (l.take (k + 1)) b = stepPast (foldPast (l.take k) b) ps := by
  unfold foldPast
  rw [List.take_add_one, h]
  simp
theorem foldlPast_none (l : List (List Pt)) : l.foldl stepPast none = none := by
  induction l with
  | nil => rfl
  | cons p l ih => exact ih
theorem foldPast_none {l : List (List Pt)} {b : List Pt} {k : Nat} (h : foldPast (l.take k) b = none) : foldPast l b = none := by
  have e : foldPast l b = (l.drop k).foldl stepPast (foldPast (l.take k) b) := by
    unfold foldPast
    rw [← List.foldl_append, List.take_append_drop]
  rw [e, h, foldlPast_none]
theorem normL_small {ps : List Pt} (h : okOp ps = true) : SmP (normL ps) := by
  obtain ⟨n1, _, _⟩ := norm_ok h
  obtain ⟨_, h1, h2⟩ := okOp_units n1
  have := signsIn_le h1
  exact ⟨by omega, by omega⟩
/-- what stands behind k operations is small -/
theorem foldPast_small {l : List (List Pt)} {b : List Pt} (hb : okOp b = true) : ∀ {k : Nat} {xs : List (List Pt)} {q : List Pt}, k ≤ l.length → foldPast (l.take k) b = some (xs, q) → SmP q ∧ xs.length = k ∧ ∀ x ∈ xs, x.length ≤ 600 ∧ signsIn x ≤ 120000
  | 0, xs, q, _, h => by
    have : xs = [] ∧ q = normL b := by simpa [foldPast, and_comm, eq_comm] using h
    obtain ⟨rfl, rfl⟩ := this
    exact ⟨normL_small hb, rfl, by simp⟩
  | k + 1, xs, q, hk, h => by
    obtain ⟨ps, hp⟩ := idx_some (l := l) (i := k) (by omega)
    rw [foldPast_snoc hp] at h
    cases hq : foldPast (l.take k) b with
    | none => rw [hq] at h; cases h
    | some u =>
      obtain ⟨ys, r⟩ := u
      obtain ⟨i1, i2, i3⟩ := foldPast_small hb (by omega) hq
      rw [hq] at h
      unfold stepPast at h
      simp only at h
      split at h
      · rename_i hx
        injection h with h
        injection h with h1 h2
        subst h1
        subst h2
        refine ⟨xformB_sm _ _, by simp [i2], fun x hx' => ?_⟩
        rcases List.mem_append.1 hx' with hx' | hx'
        · exact i3 x hx'
        · simp at hx'
          subst hx'
          unfold xformA
          rw [if_pos hx]
          unfold xformOk at hx
          rw [Bool.and_eq_true, Bool.and_eq_true] at hx
          obtain ⟨_, h1, h2⟩ := okOp_units hx.1.2
          have := signsIn_le h1
          exact ⟨by omega, by omega⟩
      · cases h
theorem past_f {l : List (List Pt)} {b : List Pt} (h : pastS l b = none) : pastB l b = false ∧ pastAllT l b = [] ∧ pastT l b = [] := by
  unfold pastB pastAllT pastT
  rw [h]
  exact ⟨rfl, rfl, rfl⟩
theorem past_t {l : List (List Pt)} {b : List Pt} {xs : List (List Pt)} {q : List Pt} (h : pastS l b = some (xs, q)) : pastB l b = true ∧ pastAllT l b = xs ∧ pastT l b = q := by
  unfold pastB pastAllT pastT
  rw [h]
  exact ⟨rfl, rfl, rfl⟩
theorem pastT_sm (l : List (List Pt)) (b : List Pt) : SmP (pastT l b) := by
  cases h : pastS l b with
  | none => rw [(past_f h).2.2]; exact smP_nil
  | some u =>
    obtain ⟨xs, q⟩ := u
    rw [(past_t h).2.2]
    unfold pastS at h
    split at h
    · rename_i hb
      exact (foldPast_small hb (Nat.le_refl l.length) (by rw [List.take_length]; exact h)).1
    · cases h
theorem pastAllT_sm (l : List (List Pt)) (b : List Pt) : (pastAllT l b).length ≤ l.length ∧ ∀ x ∈ pastAllT l b, x.length ≤ 600 ∧ signsIn x ≤ 120000 := by
  cases h : pastS l b with
  | none => rw [(past_f h).2.1]; simp
  | some u =>
    obtain ⟨xs, q⟩ := u
    rw [(past_t h).2.1]
    unfold pastS at h
    split at h
    · rename_i hb
      have := foldPast_small hb (Nat.le_refl l.length) (by rw [List.take_length]; exact h)
      exact ⟨by omega, this.2.2⟩
    · cases h

theorem pastAll_small {l : List (List Pt)} {b : List Pt} (h0 : SmPP l) (h1 : SmP b) : SmQ (pastAllT l b) := by
  obtain ⟨k1, k2⟩ := pastAllT_sm l b
  have := h0.1
  exact ⟨by omega, fun x hx => by have := k2 x hx; exact ⟨by omega, by omega⟩⟩
theorem past_small {l : List (List Pt)} {b : List Pt} (h0 : SmPP l) (h1 : SmP b) : SmP (pastT l b) := pastT_sm l b

theorem nilPP {w w' : World} (hb : Below w.heap.size w w') : Res2B (encPss []) (encPs []) false w (.returned (.tuple #[.slice none 0 0, .slice none 0 0, .bool false])) w' := by
  obtain ⟨b1, o1⟩ := (nilOwn (encPss []) w' rfl hb.size).blocks
  obtain ⟨b2, o2⟩ := (nilOwn (encPs []) w' rfl hb.size).blocks
  have e : b1 = [] := by obtain ⟨_, _, ho, hr, he⟩ := o1.ow; obtain ⟨_, hc⟩ := hr; rw [he, hc]; rfl
  subst e
  exact ⟨_, _, [], b2, rfl, o1, o2, by simp, hb⟩
/-- the state of the loop: the list, and the operation so far -/
def PastR (lo : Nat) (w : World) (o q : Value) (xs : List (List Pt)) (cur : List Pt) : Prop := ∃ b1 b2, OwB lo w.heap.size w (encPss xs) o b1 ∧ OwB lo w.heap.size w (encPs cur) q b2 ∧ ∀ x ∈ b1, x ∉ b2

set_option maxRecDepth 100000 in
set_option maxHeartbeats 3200000 in
theorem specPast5_d (v v' : Value) (l : List (List Pt)) (b : List Pt) (w : World) (h : RdC w w.heap.size (encPss l) v) (h' : RdC w w.heap.size (encPs b) v') (hs : SmPP l) (hs' : SmP b) : Calls Try.prog 61 #[v, v'] w (Res2B (encPss (pastAllT l b)) (encPs (pastT l b)) (pastB l b) w) := by
  obtain ⟨A, c, rfl⟩ := pss_len h
  obtain ⟨B, cb, rfl, hrb, _⟩ := parts_rd h'
  obtain ⟨i0, hi0, hz0, hz1, hz2⟩ := info_parts pss_info
  have hl := hs.1
  have hlb := hs'.1
  cases hob : okOp b
  · have HN := Lib.hid (past_f (l := l) (b := b) (by unfold pastS; rw [hob]; rfl))
    go_enter Try.func61, Try.ntmps61
    go_wp2_with fail
    refine (specOpOk_any B cb b _ hrb (by omega) hs'.all4).mono ?_
    rintro e w1 ⟨rfl, b1⟩
    rw [hob]
    go_wp2
    go_ret3
    rw [HN.out.1, HN.out.2.1, HN.out.2.2]
    exact nilPP b1
  · have HOB := Lib.hid hob
    go_enter Try.func61, Try.ntmps61
    go_wp2_with fail
    refine (specOpOk_any B cb b _ hrb (by omega) hs'.all4).mono ?_
    rintro e w1 ⟨rfl, b1⟩
    rw [hob]
    clear hob
    go_wp2_with fail
    have hbn := b1.trans ((alloc_below w1 (.cells #[] 24)).mono b1.size)
    have hib : OwB w.heap.size (w1.alloc (.cells #[] 24)).heap.size (w1.alloc (.cells #[] 24)) (encPss []) (.slice (some ⟨w1.heap.size, 0, none⟩) 0 0) [w1.heap.size] :=
      ⟨⟨[], [], ⟨rfl, .inr ⟨w1.heap.size, 0, #[], rfl, Nat.zero_le _, heap_alloc_new w1 _, Nat.le_refl _, by unfold maxLen; omega, rfl, rfl⟩⟩, ⟨rfl, rfl⟩, rfl⟩, by simp, fun x hx => by obtain rfl : x = w1.heap.size := (by simpa using hx); exact ⟨b1.size, lt_of_some (heap_alloc_new w1 _)⟩, Nat.le_refl _, hbn.size⟩
    generalize w1.alloc (.cells #[] 24) = w2 at *
    generalize (Value.slice (some ⟨w1.heap.size, 0, none⟩) 0 0) = v0 at *
    refine (specOpNorm_d _ b w2 (h'.past hbn) hs').mono ?_
    rintro e w3 ⟨v3, rfl, o3, b3⟩
    obtain ⟨k3, o3⟩ := o3.blocks
    have HR0 := Lib.hid (show PastR w.heap.size w3 v0 v3 [] (normL b) from ⟨_, _, (hib.past b3).upto b3.size (Nat.le_refl _), ⟨o3.ow, o3.nd, fun x hx => ⟨Nat.le_trans hbn.size (o3.rng x hx).1, (o3.rng x hx).2⟩, o3.top, Nat.le_trans hbn.size o3.le⟩, fun x hx hx' => by have q1 := (hib.rng x hx).2; have q2 := (o3.rng x hx').1; omega⟩)
    have D := hbn.trans (b3.mono hbn.size)
    clear o3 b3 hib hbn b1
    obtain ⟨A0, c0, rfl⟩ : ∃ A0 c0, v0 = .slice A0 0 c0 := by obtain ⟨_, _, h1, _⟩ := HR0.out; exact pss_len h1.read
    obtain ⟨A3, c3, rfl⟩ : ∃ A3 c3, v3 = .slice A3 (normL b).length c3 := by obtain ⟨_, _, _, h1, _⟩ := HR0.out; exact sliceP h1.read
    go_wp2
    go_loopw [7, 8, 22] (fun o q i wr => ∃ (k : Nat) (xs : List (List Pt)) (cur : List Pt), k ≤ l.length ∧ i = .int .i64 k ∧ foldPast (l.take k) b = some (xs, cur) ∧ PastR w.heap.size wr o q xs cur ∧ Below w.heap.size w wr) (fun _ _ i _ => l.length - (intOf i).toNat)
    case atStart => exact ⟨0, [], normL b, Nat.zero_le _, rfl, rfl, HR0.out, D⟩
    case round =>
      obtain ⟨k, xs, cur, hk, rfl, hf, hpr, hbel⟩ := hrel
      clear HR0 D
      have HF := Lib.hid hf
      obtain ⟨hsc, hxl, hxs⟩ := foldPast_small HOB.out hk hf
      have HXL := Lib.hid hxl
      clear hf hxs hxl
      obtain ⟨b1, b2, o1, o2, dis⟩ := hpr
      obtain ⟨A1, c1, rfl⟩ := pss_len o1.read
      obtain ⟨A2, c2, rfl⟩ := sliceP o2.read
      have HO1 := Lib.hid o1
      have HO2 := Lib.hid o2
      have HDS := Lib.hid dis
      clear o1 o2 dis
      by_cases hlt : k < l.length
      · obtain ⟨ad, ps, A4, c4, rfl, hb, hp, hc, hprd⟩ := pss_at (h.below hbel) hlt
        have K1 := Lib.hid (foldPast_snoc (b := b) hp)
        rw [HF.out] at K1
        have hsp := hs.all ps (List.mem_of_getElem? hp)
        clear hp
        have HPR := Lib.hid (RdC.more hbel.size _ _ hprd)
        clear hprd
        have hxl2 : xs.length ≤ 1048576 := by rw [HXL.out]; omega
        go_wp2_with fail
        refine (specTransform_d _ _ ps cur _ HPR.out HO2.out.read hsp hsc).mono ?_
        rintro e w4 ⟨x4, y4, kx, ky, rfl, ox, oy, ds4, b4⟩
        obtain ⟨A5, c5, rfl⟩ := sliceP ox.read
        obtain ⟨A6, c6, rfl⟩ := sliceP oy.read
        have hz4 := b4.size
        have HX := Lib.hid ox
        have HY := Lib.hid oy
        have HDS4 := Lib.hid ds4
        have D4 := hbel.trans (b4.mono hbel.size)
        clear ox oy ds4
        cases hfit : xformOk ps cur
        · have HN := Lib.hid (past_f (l := l) (b := b) (by
            have : foldPast l b = none := foldPast_none (k := k + 1) (by rw [K1.out]; simp [stepPast, hfit])
            unfold pastS; rw [this]; simp))
          go_wp2
          go_ret3
          rw [HN.out.1, HN.out.2.1, HN.out.2.2]
          exact nilPP D4
        · have K2 := Lib.hid (show foldPast (l.take (k + 1)) b = some (xs ++ [xformA ps cur], xformB ps cur) by rw [K1.out]; simp [stepPast, hfit])
          have bA := alloc_below w4 (.cells #[.slice A5 (xformA ps cur).length c5] 24)
          have HO1' := Lib.hid ((HO1.out.past b4).past bA)
          have HX' := Lib.hid (HX.out.past bA)
          have HY' := Lib.hid (HY.out.past bA)
          have hnews : ∀ (j : Nat) (u : Value), [Value.slice A5 (xformA ps cur).length c5][j]? = some u → (w4.alloc (.cells #[.slice A5 (xformA ps cur).length c5] 24)).cell? ((⟨w4.heap.size, 0, none⟩ : Addr).add j) = some u := fun j u hu => by
            cases j with
            | zero =>
              simp at hu
              subst hu
              exact cell_of_row _ _ 0 _ _ _ (heap_alloc_new w4 _)
            | succ j => simp at hu
          have HNW := Lib.hid hnews
          have hlx : (xs.map fun ps => [encPs ps]).length ≤ 2000000 := by rw [List.length_map]; omega
          have DA := D4.trans (bA.mono D4.size)
          have hlo := hbel.size
          clear hnews bA
          go_wp2_with (at_builtin; refine wpList_append_row rfl (.tmp 35) (.tmp 37) 34 rfl 24 i0 (.slice none 0 0) 1 24 Try.underlying34 hi0 hz0 hz1 hz2 rfl (by decide) (by decide) w.heap.size _ (.slice A1 xs.length c1) (xs.map fun ps => [encPs ps]) b1 HO1'.out rfl hlx ⟨w4.heap.size, 0, none⟩ _ [.slice A5 (xformA ps cur).length c5] rfl rfl HNW.out (by simp [Value.oneCell']) [encPs (xformA ps cur)] kx HX'.out.ow.row1 HX.out.nd (fun q hq hq' => by have q1 := (HO1.out.rng q hq).2; have q2 := (HX.out.rng q hq').1; omega) (fun q hq => by have q2 := (HX.out.rng q hq).1; omega) ?_; intro A7 c7 w7 b7 o7 in7 g7 bl7)
          have o7' : OwB w.heap.size w7.heap.size w7 (encPss (xs ++ [xformA ps cur])) (.slice A7 (xs.length + 1) c7) b7 := by
            have e : encPss (xs ++ [xformA ps cur]) = .rows 24 1 ((xs.map fun ps => [encPs ps]) ++ [[encPs (xformA ps cur)]]) := by unfold encPss; rw [List.map_append]; rfl
            rw [e]
            simpa using o7
          have HPR7 := Lib.hid (show PastR w.heap.size w7 (.slice A7 (xs.length + 1) c7) (.slice A6 (xformB ps cur).length c6) (xs ++ [xformA ps cur]) (xformB ps cur) from by
            have oy7 := HY'.out.grew2 g7 (fun q hq hq' => by have q1 := (HO1.out.rng q hq').2; have q2 := (HY.out.rng q hq).1; omega)
            refine ⟨b7, ky, o7', ⟨oy7.ow, oy7.nd, fun q hq => ⟨by have q2 := (HY.out.rng q hq).1; omega, ?_⟩, Nat.le_refl _, (DA.trans bl7).size⟩, fun q hq hq' => ?_⟩
            · exact OwC.lt _ _ _ oy7.ow q hq
            · rcases in7 q hq with h1 | h1 | h1
              · have q1 := (HO1.out.rng q h1).2; have q2 := (HY.out.rng q hq').1; omega
              · exact HDS4.out q h1 hq'
              · have q1 := (HY.out.rng q hq').2
                have q3 : w4.heap.size ≤ q := by simp at h1; omega
                omega)
          have D7 := DA.trans bl7
          clear o7 o7' in7 g7 bl7 HO1' HX' HY' HNW
          go_wp2
          go_roundw
          case rel => exact ⟨k + 1, _, _, by omega, by go_num, K2.out, by simpa using HPR7.out, D7⟩
          case measure => simp [intOf]; omega
      · have hke : l.take k = l := List.take_of_length_le (by omega)
        have HN := Lib.hid (past_t (l := l) (b := b) (xs := xs) (q := cur) (by unfold pastS; rw [if_pos HOB.out, ← HF.out, hke]))
        go_wp2
        go_ret3
        rw [HN.out.1, HN.out.2.1, HN.out.2.2]
        exact ⟨_, _, b1, b2, rfl, HO1.out, HO2.out, HDS.out, hbel⟩

set_option maxHeartbeats 800000 in
theorem specPast_d (v v' : Value) (l : List (List Pt)) (b : List Pt) (w : World) (h : RdC w w.heap.size (encPss l) v) (h' : RdC w w.heap.size (encPs b) v') (hs : SmPP l) (hs' : SmP b) : Calls Try.prog 24 #[v, v'] w (ResB (encPs (pastT l b)) (pastB l b) w) := by
  obtain ⟨A, c, rfl⟩ := pss_len h
  obtain ⟨B, cb, rfl⟩ := sliceP h'
  go_enter Try.func24, Try.ntmps24
  go_wp2_with fail
  refine (specPast5_d _ _ l b _ h h' hs hs').mono ?_
  rintro e w1 ⟨x, y, kx, ky, rfl, ox, oy, ds, b1⟩
  obtain ⟨A1, c1, rfl⟩ := pss_len ox.read
  obtain ⟨A2, c2, rfl⟩ := sliceP oy.read
  have HY := Lib.hid oy
  clear ox oy ds
  generalize pastB l b = q at *
  go_wp2
  go_ret2
  exact ⟨_, rfl, ⟨ky, HY.out.ow, HY.out.nd, HY.out.rng, HY.out.top, HY.out.le⟩, b1⟩
set_option maxHeartbeats 800000 in
theorem specPastAll_d (v v' : Value) (l : List (List Pt)) (b : List Pt) (w : World) (h : RdC w w.heap.size (encPss l) v) (h' : RdC w w.heap.size (encPs b) v') (hs : SmPP l) (hs' : SmP b) : Calls Try.prog 28 #[v, v'] w (ResB (encPss (pastAllT l b)) (pastB l b) w) := by
  obtain ⟨A, c, rfl⟩ := pss_len h
  obtain ⟨B, cb, rfl⟩ := sliceP h'
  go_enter Try.func28, Try.ntmps28
  go_wp2_with fail
  refine (specPast5_d _ _ l b _ h h' hs hs').mono ?_
  rintro e w1 ⟨x, y, kx, ky, rfl, ox, oy, ds, b1⟩
  obtain ⟨A1, c1, rfl⟩ := pss_len ox.read
  obtain ⟨A2, c2, rfl⟩ := sliceP oy.read
  have HX := Lib.hid ox
  clear ox oy ds
  generalize pastB l b = q at *
  go_wp2
  go_ret2
  exact ⟨_, rfl, ⟨kx, HX.out.ow, HX.out.nd, HX.out.rng, HX.out.top, HX.out.le⟩, b1⟩
end Go.Proofs.Ytfpjoncaccbnmaa.low


/-
  Contracts of impl.Transform, impl.passed, impl.Past and impl.PastAll.
-/
namespace Go.Proofs.Ytfpjoncaccbnmaa.low
open Go.RowKit
set_option linter.unusedVariables false

theorem partsB_all {ps : List Pt} (h : okOp ps = true) : ∀ x ∈ ps, okPt x = true := by
  have h1 := okOp_partsB h
  unfold partsB okPs at h1
  rw [Bool.and_eq_true] at h1
  exact List.all_eq_true.1 h1.1

set_option maxRecDepth 1000000 in
set_option maxHeartbeats 6400000 in
theorem implTransform_t (A B : Option Addr) (ca cb : Nat) (a b : List Pt) (w : World) (h : RdC w w.heap.size (encPs a) (.slice A a.length ca)) (h' : RdC w w.heap.size (encPs b) (.slice B b.length cb)) (hs : SmP a) (hs' : SmP b) (hoa : okOp a = true) (hob : okOp b = true) (hbal : sumK a + sumD a = sumK b + sumD b) :
    Calls Try.prog 9 #[.slice A a.length ca, .slice B b.length cb] w (Res2B (encPs (xformA a b)) (encPs (xformB a b)) (xformOk a b) w) := by
  obtain ⟨A_, ca_, eA, hra, _⟩ := parts_rd h
  obtain ⟨rfl, rfl⟩ : A = A_ ∧ ca = ca_ := by injection eA with e1 _ e3; exact ⟨e1, e3⟩
  obtain ⟨B_, cb_, eB, hrb, _⟩ := parts_rd h'
  obtain ⟨rfl, rfl⟩ : B = B_ ∧ cb = cb_ := by injection eB with e1 _ e3; exact ⟨e1, e3⟩
  clear eA eB
  have hlA := hs.1
  have hlB := hs'.1
  have hne : ((sumK a + sumD a) != (sumK b + sumD b)) = false := by simp [hbal]
  have HI := Lib.hid (xinv0 hoa hob hbal)
  have HOA := Lib.hid hoa
  have HOB := Lib.hid hob
  have HBAL := Lib.hid hbal
  clear hbal
  go_enter Try.func9, Try.ntmps9
  go_wp2_with fail
  refine (implOpOk_any A ca a _ hra (by omega) hs.all4).mono ?_
  rintro e w1 ⟨rfl, b1⟩
  rw [hoa]
  go_wp2_with fail
  refine (implOpOk_any B cb b _ (hrb.past b1) (by omega) hs'.all4).mono ?_
  rintro e w2 ⟨rfl, b2⟩
  rw [hob]
  have d2 := b1.trans (b2.mono b1.size)
  go_wp2_with fail
  refine (implOpFrom_any A ca a _ (hra.past d2) (by omega) hs.all4).mono ?_
  rintro e w3 ⟨rfl, b3⟩
  have d3 := d2.trans (b3.mono d2.size)
  go_wp2_with fail
  refine (implOpFrom_any B cb b _ (hrb.past d3) (by omega) hs'.all4).mono ?_
  rintro e w4 ⟨rfl, b4⟩
  have d4 := d3.trans (b4.mono d3.size)
  clear hoa hob b1 b2 d2 b3 d3 b4
  go_wp2_with fail
  refine (xb.implCrossed A B ca cb a b w4 (h.past d4) (h'.past d4) (partsB_all HOA.out) (partsB_all HOB.out) hlA hlB HI.out).mono ?_
  rintro e w10 ⟨v9, v10, k9, k10, rfl, o9, o10, ds, b10, hs1, hs2⟩
  have D := d4.trans (b10.mono d4.size)
  have HB2 := Lib.hid (show xformOk a b = (okOp (xfA a b) && okOp (xfB a b)) by unfold xformOk; rw [HOA.out, HOB.out, HBAL.out]; simp)
  clear HBAL HI
  have l1 := hs1.1
  have l2 := hs2.1
  generalize hUA : xfA a b = UA at *
  generalize hUB : xfB a b = UB at *
  have HUA := Lib.hid hUA
  have HUB := Lib.hid hUB
  clear hUA hUB
  obtain ⟨A9, c9, rfl, r9, _⟩ := parts_rd o9.read
  obtain ⟨A10, c10, rfl, r10, _⟩ := parts_rd o10.read
  have lw := d4.size
  have H9' := Lib.hid (show OwB w.heap.size w10.heap.size w10 (encPs UA) (.slice A9 UA.length c9) k9 from ⟨o9.ow, o9.nd, fun x hx => ⟨Nat.le_trans lw (o9.rng x hx).1, (o9.rng x hx).2⟩, o9.top, Nat.le_trans lw o9.le⟩)
  have H10 := Lib.hid (show OwB w.heap.size w10.heap.size w10 (encPs UB) (.slice A10 UB.length c10) k10 from ⟨o10.ow, o10.nd, fun x hx => ⟨Nat.le_trans lw (o10.rng x hx).1, (o10.rng x hx).2⟩, o10.top, Nat.le_trans lw o10.le⟩)
  have HDS := Lib.hid ds
  have hz10 := Nat.le_refl w10.heap.size
  clear o9 o10 ds b10 d4 lw hne
  go_wp2_with fail
  refine (implOpOk_any A9 c9 UA _ r9 (by omega) hs1.all4).mono ?_
  rintro e w11 ⟨rfl, b11⟩
  replace D := D.trans (b11.mono D.size)
  cases ho1 : okOp UA
  · have HN := Lib.hid (xform_f (a := a) (b := b) (by rw [HB2.out, ho1]; rfl))
    clear HB2
    go_wp2
    go_ret3
    rw [HN.out.1, HN.out.2.1, HN.out.2.2]
    exact nil2 D
  · go_wp2_with fail
    refine (implOpOk_any A10 c10 UB _ (r10.past b11) (by omega) hs2.all4).mono ?_
    rintro e w12 ⟨rfl, b12⟩
    replace D := D.trans (b12.mono D.size)
    have HP9 := Lib.hid ((H9'.out.past b11).past b12)
    have HP10 := Lib.hid ((H10.out.past b11).past b12)
    have hzz := Nat.le_trans b11.size b12.size
    clear H9' H10 r9 r10 b11 b12
    cases ho2 : okOp UB
    · have HN := Lib.hid (xform_f (a := a) (b := b) (by rw [HB2.out, ho1, ho2]; rfl))
      clear HB2
      go_wp2
      go_ret3
      rw [HN.out.1, HN.out.2.1, HN.out.2.2]
      exact nil2 D
    · have HN := Lib.hid (show xformOk a b = true ∧ xformA a b = UA ∧ xformB a b = UB by
        have e : xformOk a b = true := by rw [HB2.out, ho1, ho2]; rfl
        exact ⟨e, by unfold xformA; rw [if_pos e, HUA.out], by unfold xformB; rw [if_pos e, HUB.out]⟩)
      clear HB2
      go_wp2
      go_ret3
      rw [HN.out.1, HN.out.2.1, HN.out.2.2]
      exact ⟨_, _, k9, k10, rfl, HP9.out.upto (Nat.le_trans hz10 hzz) (Nat.le_refl _), HP10.out.upto hzz (Nat.le_refl _), HDS.out, D⟩

set_option maxHeartbeats 1600000 in
theorem implTransform_d (v v' : Value) (a b : List Pt) (w : World) (h : RdC w w.heap.size (encPs a) v) (h' : RdC w w.heap.size (encPs b) v') (hs : SmP a) (hs' : SmP b) : Calls Try.prog 9 #[v, v'] w (Res2B (encPs (xformA a b)) (encPs (xformB a b)) (xformOk a b) w) := by
  obtain ⟨A, ca, rfl, hra, _⟩ := parts_rd h
  obtain ⟨B, cb, rfl, hrb, _⟩ := parts_rd h'
  have hlA := hs.1
  have hlB := hs'.1
  cases hoa : okOp a
  · have HN := Lib.hid (xform_f (a := a) (b := b) (by unfold xformOk; rw [hoa]; rfl))
    go_enter Try.func9, Try.ntmps9
    go_wp2_with fail
    refine (implOpOk_any A ca a _ hra (by omega) hs.all4).mono ?_
    rintro e w1 ⟨rfl, b1⟩
    rw [hoa]
    go_wp2
    go_ret3
    rw [HN.out.1, HN.out.2.1, HN.out.2.2]
    exact nil2 b1
  cases hob : okOp b
  · have HN := Lib.hid (xform_f (a := a) (b := b) (by unfold xformOk; rw [hoa, hob]; rfl))
    go_enter Try.func9, Try.ntmps9
    go_wp2_with fail
    refine (implOpOk_any A ca a _ hra (by omega) hs.all4).mono ?_
    rintro e w1 ⟨rfl, b1⟩
    rw [hoa]
    go_wp2_with fail
    refine (implOpOk_any B cb b _ (hrb.past b1) (by omega) hs'.all4).mono ?_
    rintro e w2 ⟨rfl, b2⟩
    rw [hob]
    have d2 := b1.trans (b2.mono b1.size)
    go_wp2
    go_ret3
    rw [HN.out.1, HN.out.2.1, HN.out.2.2]
    exact nil2 d2
  by_cases hbal : sumK a + sumD a = sumK b + sumD b
  · exact implTransform_t A B ca cb a b w h h' hs hs' hoa hob hbal
  · have hne : ((sumK a + sumD a) != (sumK b + sumD b)) = true := by simp [hbal]
    have HN := Lib.hid (xform_f (a := a) (b := b) (by unfold xformOk; rw [hoa, hob]; simp [hbal]))
    clear hbal
    go_enter Try.func9, Try.ntmps9
    go_wp2_with fail
    refine (implOpOk_any A ca a _ hra (by omega) hs.all4).mono ?_
    rintro e w1 ⟨rfl, b1⟩
    rw [hoa]
    go_wp2_with fail
    refine (implOpOk_any B cb b _ (hrb.past b1) (by omega) hs'.all4).mono ?_
    rintro e w2 ⟨rfl, b2⟩
    rw [hob]
    have d2 := b1.trans (b2.mono b1.size)
    go_wp2_with fail
    refine (implOpFrom_any A ca a _ (hra.past d2) (by omega) hs.all4).mono ?_
    rintro e w3 ⟨rfl, b3⟩
    have d3 := d2.trans (b3.mono d2.size)
    go_wp2_with fail
    refine (implOpFrom_any B cb b _ (hrb.past d3) (by omega) hs'.all4).mono ?_
    rintro e w4 ⟨rfl, b4⟩
    have d4 := d3.trans (b4.mono d3.size)
    go_wp2
    go_ret3
    rw [HN.out.1, HN.out.2.1, HN.out.2.2]
    exact nil2 d4

set_option maxRecDepth 100000 in
set_option maxHeartbeats 3200000 in
theorem implPassed_d (v v' : Value) (l : List (List Pt)) (b : List Pt) (w : World) (h : RdC w w.heap.size (encPss l) v) (h' : RdC w w.heap.size (encPs b) v') (hs : SmPP l) (hs' : SmP b) : Calls Try.prog 44 #[v, v'] w (Res2B (encPss (pastAllT l b)) (encPs (pastT l b)) (pastB l b) w) := by
  obtain ⟨A, c, rfl⟩ := pss_len h
  obtain ⟨B, cb, rfl, hrb, _⟩ := parts_rd h'
  obtain ⟨i0, hi0, hz0, hz1, hz2⟩ := info_parts pss_info
  have hl := hs.1
  have hlb := hs'.1
  cases hob : okOp b
  · have HN := Lib.hid (past_f (l := l) (b := b) (by unfold pastS; rw [hob]; rfl))
    go_enter Try.func44, Try.ntmps44
    go_wp2_with fail
    refine (implOpOk_any B cb b _ hrb (by omega) hs'.all4).mono ?_
    rintro e w1 ⟨rfl, b1⟩
    rw [hob]
    go_wp2
    go_ret3
    rw [HN.out.1, HN.out.2.1, HN.out.2.2]
    exact nilPP b1
  · have HOB := Lib.hid hob
    go_enter Try.func44, Try.ntmps44
    go_wp2_with fail
    refine (implOpOk_any B cb b _ hrb (by omega) hs'.all4).mono ?_
    rintro e w1 ⟨rfl, b1⟩
    rw [hob]
    clear hob
    go_wp2_with fail
    refine (implOpNorm_d _ b w1 (h'.past b1) hs').mono ?_
    rintro e w3 ⟨v3, rfl, o3, b3⟩
    obtain ⟨k3, o3⟩ := o3.blocks
    obtain ⟨k0, i0'⟩ := (nilOwn (lo := w.heap.size) (encPss []) w3 rfl (Nat.le_trans b1.size b3.size)).blocks
    have e0 : k0 = [] := by obtain ⟨_, _, ho, hr, he⟩ := i0'.ow; obtain ⟨_, hc⟩ := hr; rw [he, hc]; rfl
    subst e0
    have HR0 := Lib.hid (show PastR w.heap.size w3 (.slice none 0 0) v3 [] (normL b) from ⟨_, _, i0', ⟨o3.ow, o3.nd, fun x hx => ⟨Nat.le_trans b1.size (o3.rng x hx).1, (o3.rng x hx).2⟩, o3.top, Nat.le_trans b1.size o3.le⟩, by simp⟩)
    have D := b1.trans (b3.mono b1.size)
    clear o3 b3 b1 i0'
    obtain ⟨A3, c3, rfl⟩ : ∃ A3 c3, v3 = .slice A3 (normL b).length c3 := by obtain ⟨_, _, _, h1, _⟩ := HR0.out; exact sliceP h1.read
    go_wp2
    go_loopw [7, 8, 21] (fun o q i wr => ∃ (k : Nat) (xs : List (List Pt)) (cur : List Pt), k ≤ l.length ∧ i = .int .i64 k ∧ foldPast (l.take k) b = some (xs, cur) ∧ PastR w.heap.size wr o q xs cur ∧ Below w.heap.size w wr) (fun _ _ i _ => l.length - (intOf i).toNat)
    case atStart => exact ⟨0, [], normL b, Nat.zero_le _, rfl, rfl, HR0.out, D⟩
    case round =>
      obtain ⟨k, xs, cur, hk, rfl, hf, hpr, hbel⟩ := hrel
      clear HR0 D
      have HF := Lib.hid hf
      obtain ⟨hsc, hxl, hxs⟩ := foldPast_small HOB.out hk hf
      have HXL := Lib.hid hxl
      clear hf hxs hxl
      obtain ⟨b1, b2, o1, o2, dis⟩ := hpr
      obtain ⟨A1, c1, rfl⟩ := pss_len o1.read
      obtain ⟨A2, c2, rfl⟩ := sliceP o2.read
      have HO1 := Lib.hid o1
      have HO2 := Lib.hid o2
      have HDS := Lib.hid dis
      clear o1 o2 dis
      by_cases hlt : k < l.length
      · obtain ⟨ad, ps, A4, c4, rfl, hb, hp, hc, hprd⟩ := pss_at (h.below hbel) hlt
        have K1 := Lib.hid (foldPast_snoc (b := b) hp)
        rw [HF.out] at K1
        have hsp := hs.all ps (List.mem_of_getElem? hp)
        clear hp
        have HPR := Lib.hid (RdC.more hbel.size _ _ hprd)
        clear hprd
        have hxl2 : xs.length ≤ 1048576 := by rw [HXL.out]; omega
        go_wp2_with fail
        refine (implTransform_d _ _ ps cur _ HPR.out HO2.out.read hsp hsc).mono ?_
        rintro e w4 ⟨x4, y4, kx, ky, rfl, ox, oy, ds4, b4⟩
        obtain ⟨A5, c5, rfl⟩ := sliceP ox.read
        obtain ⟨A6, c6, rfl⟩ := sliceP oy.read
        have hz4 := b4.size
        have HX := Lib.hid ox
        have HY := Lib.hid oy
        have HDS4 := Lib.hid ds4
        have D4 := hbel.trans (b4.mono hbel.size)
        clear ox oy ds4
        cases hfit : xformOk ps cur
        · have HN := Lib.hid (past_f (l := l) (b := b) (by
            have : foldPast l b = none := foldPast_none (k := k + 1) (by rw [K1.out]; simp [stepPast, hfit])
            unfold pastS; rw [this]; simp))
          go_wp2
          go_ret3
          rw [HN.out.1, HN.out.2.1, HN.out.2.2]
          exact nilPP D4
        · have K2 := Lib.hid (show foldPast (l.take (k + 1)) b = some (xs ++ [xformA ps cur], xformB ps cur) by rw [K1.out]; simp [stepPast, hfit])
          have bA := alloc_below w4 (.cells #[.slice A5 (xformA ps cur).length c5] 24)
          have HO1' := Lib.hid ((HO1.out.past b4).past bA)
          have HX' := Lib.hid (HX.out.past bA)
          have HY' := Lib.hid (HY.out.past bA)
          have hnews : ∀ (j : Nat) (u : Value), [Value.slice A5 (xformA ps cur).length c5][j]? = some u → (w4.alloc (.cells #[.slice A5 (xformA ps cur).length c5] 24)).cell? ((⟨w4.heap.size, 0, none⟩ : Addr).add j) = some u := fun j u hu => by
            cases j with
            | zero =>
              simp at hu
              subst hu
              exact cell_of_row _ _ 0 _ _ _ (heap_alloc_new w4 _)
            | succ j => simp at hu
          have HNW := Lib.hid hnews
          have hlx : (xs.map fun ps => [encPs ps]).length ≤ 2000000 := by rw [List.length_map]; omega
          have DA := D4.trans (bA.mono D4.size)
          have hlo := hbel.size
          clear hnews bA
          go_wp2_with (at_builtin; refine wpList_append_row rfl (.tmp 34) (.tmp 36) 34 rfl 24 i0 (.slice none 0 0) 1 24 Try.underlying34 hi0 hz0 hz1 hz2 rfl (by decide) (by decide) w.heap.size _ (.slice A1 xs.length c1) (xs.map fun ps => [encPs ps]) b1 HO1'.out rfl hlx ⟨w4.heap.size, 0, none⟩ _ [.slice A5 (xformA ps cur).length c5] rfl rfl HNW.out (by simp [Value.oneCell']) [encPs (xformA ps cur)] kx HX'.out.ow.row1 HX.out.nd (fun q hq hq' => by have q1 := (HO1.out.rng q hq).2; have q2 := (HX.out.rng q hq').1; omega) (fun q hq => by have q2 := (HX.out.rng q hq).1; omega) ?_; intro A7 c7 w7 b7 o7 in7 g7 bl7)
          have o7' : OwB w.heap.size w7.heap.size w7 (encPss (xs ++ [xformA ps cur])) (.slice A7 (xs.length + 1) c7) b7 := by
            have e : encPss (xs ++ [xformA ps cur]) = .rows 24 1 ((xs.map fun ps => [encPs ps]) ++ [[encPs (xformA ps cur)]]) := by unfold encPss; rw [List.map_append]; rfl
            rw [e]
            simpa using o7
          have HPR7 := Lib.hid (show PastR w.heap.size w7 (.slice A7 (xs.length + 1) c7) (.slice A6 (xformB ps cur).length c6) (xs ++ [xformA ps cur]) (xformB ps cur) from by
            have oy7 := HY'.out.grew2 g7 (fun q hq hq' => by have q1 := (HO1.out.rng q hq').2; have q2 := (HY.out.rng q hq).1; omega)
            refine ⟨b7, ky, o7', ⟨oy7.ow, oy7.nd, fun q hq => ⟨by have q2 := (HY.out.rng q hq).1; omega, ?_⟩, Nat.le_refl _, (DA.trans bl7).size⟩, fun q hq hq' => ?_⟩
            · exact OwC.lt _ _ _ oy7.ow q hq
            · rcases in7 q hq with h1 | h1 | h1
              · have q1 := (HO1.out.rng q h1).2; have q2 := (HY.out.rng q hq').1; omega
              · exact HDS4.out q h1 hq'
              · have q1 := (HY.out.rng q hq').2
                have q3 : w4.heap.size ≤ q := by simp at h1; omega
                omega)
          have D7 := DA.trans bl7
          clear o7 o7' in7 g7 bl7 HO1' HX' HY' HNW
          go_wp2
          go_roundw
          case rel => exact ⟨k + 1, _, _, by omega, by go_num, K2.out, by simpa using HPR7.out, D7⟩
          case measure => simp [intOf]; omega
      · have hke : l.take k = l := List.take_of_length_le (by omega)
        have HN := Lib.hid (past_t (l := l) (b := b) (xs := xs) (q := cur) (by unfold pastS; rw [if_pos HOB.out, ← HF.out, hke]))
        go_wp2
        go_ret3
        rw [HN.out.1, HN.out.2.1, HN.out.2.2]
        exact ⟨_, _, b1, b2, rfl, HO1.out, HO2.out, HDS.out, hbel⟩

set_option maxHeartbeats 800000 in
theorem implPast_d (v v' : Value) (l : List (List Pt)) (b : List Pt) (w : World) (h : RdC w w.heap.size (encPss l) v) (h' : RdC w w.heap.size (encPs b) v') (hs : SmPP l) (hs' : SmP b) : Calls Try.prog 14 #[v, v'] w (ResB (encPs (pastT l b)) (pastB l b) w) := by
  obtain ⟨A, c, rfl⟩ := pss_len h
  obtain ⟨B, cb, rfl⟩ := sliceP h'
  go_enter Try.func14, Try.ntmps14
  go_wp2_with fail
  refine (implPassed_d _ _ l b _ h h' hs hs').mono ?_
  rintro e w1 ⟨x, y, kx, ky, rfl, ox, oy, ds, b1⟩
  obtain ⟨A1, c1, rfl⟩ := pss_len ox.read
  obtain ⟨A2, c2, rfl⟩ := sliceP oy.read
  have HY := Lib.hid oy
  clear ox oy ds
  generalize pastB l b = q at *
  go_wp2
  go_ret2
  exact ⟨_, rfl, ⟨ky, HY.out.ow, HY.out.nd, HY.out.rng, HY.out.top, HY.out.le⟩, b1⟩

set_option maxHeartbeats 800000 in
theorem implPastAll_d (v v' : Value) (l : List (List Pt)) (b : List Pt) (w : World) (h : RdC w w.heap.size (encPss l) v) (h' : RdC w w.heap.size (encPs b) v') (hs : SmPP l) (hs' : SmP b) : Calls Try.prog 15 #[v, v'] w (ResB (encPss (pastAllT l b)) (pastB l b) w) := by
  obtain ⟨A, c, rfl⟩ := pss_len h
  obtain ⟨B, cb, rfl⟩ := sliceP h'
  go_enter Try.func15, Try.ntmps15
  go_wp2_with fail
  refine (implPassed_d _ _ l b _ h h' hs hs').mono ?_
  rintro e w1 ⟨x, y, kx, ky, rfl, ox, oy, ds, b1⟩
  obtain ⟨A1, c1, rfl⟩ := pss_len ox.read
  obtain ⟨A2, c2, rfl⟩ := sliceP oy.read
  have HX := Lib.hid ox
  clear ox oy ds
  generalize pastB l b = q at *
  go_wp2
  go_ret2
  exact ⟨_, rfl, ⟨kx, HX.out.ow, HX.out.nd, HX.out.rng, HX.out.top, HX.out.le⟩, b1⟩
end Go.Proofs.Ytfpjoncaccbnmaa.low


/-
  The algebra of operations: what is made of units is valid and normal; applying, composing, inverting and transforming valid operations, in the words of the contracts.
-/
namespace Go.Proofs.Ytfpjoncaccbnmaa.low
open Go.RowKit
set_option linter.unusedVariables false

/-- all that is inserted are characters -/
def goodU (us : List U) : Prop := ∀ x, U.p x ∈ us → signB x = true
def part1 : U → Pt
  | .k => ⟨1, 1, []⟩
  | .p x => ⟨2, 0, [x]⟩
  | .d => ⟨3, 1, []⟩
def made (us : List U) : List Pt := doneN (foldU us)
theorem units_part1 : ∀ us : List U, units (us.map part1) = us
  | [] => rfl
  | u :: us => by
    rw [List.map_cons, units_cons, units_part1 us]
    cases u <;> rfl
theorem part1_sz (us : List U) : ∀ p ∈ us.map part1, szP_ p := fun p hp => by
  obtain ⟨u, _, rfl⟩ := List.mem_map.1 hp
  cases u
  · exact ⟨.inl rfl, by simp [part1], by simp [part1], by simp [part1]⟩
  · exact ⟨.inr (.inl rfl), by simp [part1], by simp [part1], by simp [part1]⟩
  · exact ⟨.inr (.inr rfl), by simp [part1], by simp [part1], by simp [part1]⟩
theorem made_eq (us : List U) : made us = doneN (foldN (us.map part1)) := by unfold made; rw [foldN_units (part1_sz us), units_part1]
theorem units_made (us : List U) : units (made us) = nfU us := units_norm us
theorem len_st : ∀ us : List U, us.length ≤ src us + tgt us
  | [] => by simp
  | u :: us => by
    have := len_st us
    cases u <;> simp [src, tgt] <;> omega
/-- what is made of few good units is valid and normal -/
theorem made_ok {us : List U} (hs : src us ≤ 200) (ht : tgt us ≤ 200) (hz : goodU us) : okOp (made us) = true ∧ normal (made us) ∧ sumK (made us) + sumD (made us) = (src us : Int) ∧ sumK (made us) + sumP (made us) = (tgt us : Int) := by
  have hsz := part1_sz us
  have hn : normal (made us) := by rw [made_eq]; exact normal_fold hsz
  obtain ⟨s1, s2, s3⟩ := sum_norm hsz
  rw [← made_eq] at s1 s2 s3
  obtain ⟨u1, u2⟩ := src_units hsz
  rw [units_part1] at u1 u2
  have hall : ∀ p ∈ made us, allB p.signs = true := by
    rw [made_eq]
    refine norm_allB (fun p hp => ?_)
    obtain ⟨u, hu, rfl⟩ := List.mem_map.1 hp
    cases u
    · rfl
    · rename_i x
      simp [part1, allB, hz x hu]
    · rfl
  have n1 : ∀ f : Pt → Int, (∀ p, tidy p → 0 ≤ f p) → 0 ≤ sumOf f (made us) := fun f hf => by
    unfold sumOf
    have : ∀ (L : List Pt), (∀ p ∈ L, tidy p) → 0 ≤ (L.map f).sum := by
      intro L
      induction L with
      | nil => simp
      | cons p L ih =>
        intro h
        have a := hf p (h p (by simp))
        have b := ih (fun q hq => h q (by simp [hq]))
        simp
        omega
    exact this _ hn.1
  have k1 := n1 keepOf (fun p h => (tidy_nonneg h).1)
  have k2 := n1 putOf (fun p h => (tidy_nonneg h).2.1)
  have k3 := n1 dropOf (fun p h => (tidy_nonneg h).2.2)
  have hok : okPs (made us) = true := tidy_ok hn.1 hall (by omega) (by omega) (by omega)
  have hlen : (made us).length ≤ 600 := by
    have h1 := norm_length hsz
    rw [← made_eq, List.length_map] at h1
    have := len_st us
    omega
  have hop : okOp (made us) = true := of_okOp hok hlen (by omega) (by omega)
  obtain ⟨t1, t2, t3⟩ := sum_t (okOp_partsB hop)
  exact ⟨hop, hn, by rw [t1, t3]; omega, by rw [t1, t2]; omega⟩
theorem nf_of_fold (us : List U) : doneN (foldU (nfU us)) = doneN (foldU us) := by
  have key : ∀ (us : List U) (q : List Pt) (ps : List Int) (n : Nat) (qs : List Pt × List Int × Int), qs = (q, [], 0) → doneN ((nfGo us ps n).foldl stepU qs) = doneN (us.foldl stepU (q, ps, (n : Int))) := by
    intro us
    induction us with
    | nil =>
      intro q ps n qs e
      subst e
      rw [nfGo, List.foldl_append, fold_p, fold_d]
      simp
    | cons u us ih =>
      intro q ps n qs e
      subst e
      cases u with
      | k =>
        rw [nfGo, List.foldl_append, fold_p, List.foldl_append, fold_d, List.foldl_cons]
        have := ih (stepU (q, ps, (n : Int)) .k).1 [] 0 (stepU (q, ps, (n : Int)) .k) (by simp [stepU])
        simpa [stepU] using this
      | p x => rw [nfGo]; have := ih q (ps ++ [x]) n (q, [], 0) rfl; simpa [stepU] using this
      | d => rw [nfGo]; have := ih q ps (n + 1) (q, [], 0) rfl; simpa [stepU] using this
  have := key us [] [] 0 ([], [], 0) rfl
  simpa [foldU, nfU] using this
theorem made_nf (us : List U) : made (nfU us) = made us := nf_of_fold us
theorem made_ext {us vs : List U} (h : nfU us = nfU vs) : made us = made vs := by rw [← made_nf us, h, made_nf]
theorem norm_made {a : List Pt} (h : okOp a = true) : normL a = made (units a) := by
  unfold normL made
  rw [if_pos h, foldN_units (okOp_units h).2.1]
theorem normal_same {us : List U} (hs : src us ≤ 200) (ht : tgt us ≤ 200) (hz : goodU us) : normL (made us) = made us := by
  obtain ⟨h1, h2, _⟩ := made_ok hs ht hz
  exact norm_normal h2 h1
/-- a valid operation's units -/
theorem op_units {a : List Pt} (h : okOp a = true) : (src (units a) : Int) = sumK a + sumD a ∧ (tgt (units a) : Int) = sumK a + sumP a ∧ src (units a) ≤ 200 ∧ tgt (units a) ≤ 200 ∧ goodU (units a) := by
  obtain ⟨h1, h2, h3, h4, h5, h6, h7⟩ := okOp_of h
  obtain ⟨t1, t2, t3⟩ := sum_t (okOp_partsB h)
  obtain ⟨s1, s2⟩ := src_units (okPs_sz h1)
  refine ⟨by rw [t1, t3]; exact s1, by rw [t1, t2]; exact s2, by omega, by omega, fun x hx => ?_⟩
  unfold units at hx
  obtain ⟨p, hp, hx⟩ := List.mem_flatMap.1 hx
  have ha := okPs_allB h1 p hp
  unfold unitsP at hx
  split at hx
  · have := List.eq_of_mem_replicate hx; cases this
  · split at hx
    · obtain ⟨z, hz, e⟩ := List.mem_map.1 hx
      injection e with e
      subst e
      unfold allB at ha
      exact List.all_eq_true.1 ha z hz
    · have := List.eq_of_mem_replicate hx; cases this
theorem apply_mem : ∀ (us : List U) (t : List Int) (x : Int), x ∈ applyU us t → x ∈ t ∨ U.p x ∈ us
  | [], t, x, h => by simp [applyU] at h
  | .k :: us, t, x, h => by
    rw [applyU] at h
    rcases List.mem_append.1 h with h | h
    · exact .inl (List.mem_of_mem_take h)
    · rcases apply_mem us _ x h with h | h
      · exact .inl (List.mem_of_mem_drop h)
      · exact .inr (by simp [h])
  | .p y :: us, t, x, h => by
    rw [applyU] at h
    rcases List.mem_cons.1 h with rfl | h
    · exact .inr (by simp)
    · rcases apply_mem us _ x h with h | h
      · exact .inl h
      · exact .inr (by simp [h])
  | .d :: us, t, x, h => by
    rw [applyU] at h
    rcases apply_mem us _ x h with h | h
    · exact .inl (List.mem_of_mem_drop h)
    · exact .inr (by simp [h])
theorem okText_mem {t : List Int} (h : okText t = true) : ∀ x ∈ t, signB x = true := fun x hx => by
  unfold okText at h
  rw [Bool.and_eq_true] at h
  exact List.all_eq_true.1 h.1 x hx
theorem okText_mk {t : List Int} (h : ∀ x ∈ t, signB x = true) (hl : t.length ≤ 200) : okText t = true := by
  unfold okText allB
  rw [decide_eq_true hl, List.all_eq_true.2 h]
  rfl
theorem okText_len' {t : List Int} (h : okText t = true) : t.length ≤ 200 := by
  unfold okText at h
  rw [Bool.and_eq_true] at h
  exact of_decide_eq_true h.2
theorem fits_mk {a : List Pt} {t : List Int} (ha : okOp a = true) (ht : okText t = true) (hs : sumK a + sumD a = (t.length : Int)) : fitsB a t = true := by
  unfold fitsB
  rw [ha, ht, decide_eq_true hs]
  rfl
/-- applying a valid operation to a text that fits -/
theorem apply_ok {a : List Pt} {t : List Int} (ha : okOp a = true) (ht : okText t = true) (hs : sumK a + sumD a = (t.length : Int)) : fitsB a t = true ∧ applyT a t = applyU (units a) t ∧ okText (applyT a t) = true ∧ ((applyT a t).length : Int) = sumK a + sumP a ∧ src (units a) = t.length := by
  have hf := fits_mk ha ht hs
  obtain ⟨u1, u2, u3, u4, u5⟩ := op_units ha
  have hsrc : src (units a) = t.length := by omega
  have he := applyT_units hf
  have hl := apply_len_u (units a) t hsrc
  refine ⟨hf, he, ?_, by rw [he, hl]; exact u2, hsrc⟩
  rw [he]
  refine okText_mk (fun x hx => ?_) (by omega)
  rcases apply_mem _ _ _ hx with h | h
  · exact okText_mem ht x h
  · exact u5 x h
theorem comp_mem (a b : List U) : ∀ x, U.p x ∈ comp a b → U.p x ∈ a ∨ U.p x ∈ b := by
  induction a, b using comp.induct with
  | case1 => intro x h; simp [comp] at h
  | case2 y b ih => intro x h; rw [comp] at h; rcases List.mem_cons.1 h with h | h; exact .inr (by rw [h]; simp); rcases ih x h with h | h; exact .inl h; exact .inr (by simp [h])
  | case3 b => intro x h; simp [comp] at h
  | case4 b => intro x h; simp [comp] at h
  | case5 a b ih => intro x h; rw [comp] at h; rcases List.mem_cons.1 h with h | h; cases h; rcases ih x h with h | h; exact .inl (by simp [h]); exact .inr h
  | case6 a => intro x h; simp [comp] at h
  | case7 a y b ih => intro x h; rw [comp] at h; rcases List.mem_cons.1 h with h | h; exact .inr (by rw [h]; simp); rcases ih x h with h | h; exact .inl h; exact .inr (by simp [h])
  | case8 a b ih => intro x h; rw [comp] at h; rcases List.mem_cons.1 h with h | h; cases h; rcases ih x h with h | h; exact .inl (by simp [h]); exact .inr (by simp [h])
  | case9 a b ih => intro x h; rw [comp] at h; rcases List.mem_cons.1 h with h | h; cases h; rcases ih x h with h | h; exact .inl (by simp [h]); exact .inr (by simp [h])
  | case10 y a => intro x h; simp [comp] at h
  | case11 y a z b ih => intro x h; rw [comp] at h; rcases List.mem_cons.1 h with h | h; exact .inr (by rw [h]; simp); rcases ih x h with h | h; exact .inl h; exact .inr (by simp [h])
  | case12 y a b ih => intro x h; rw [comp] at h; rcases List.mem_cons.1 h with h | h; exact .inl (by rw [h]; simp); rcases ih x h with h | h; exact .inl (by simp [h]); exact .inr (by simp [h])
  | case13 y a b ih => intro x h; rw [comp] at h; rcases ih x h with h | h; exact .inl (by simp [h]); exact .inr (by simp [h])
/-- composing valid operations that fit one another -/
theorem compose_ok {a b : List Pt} (ha : okOp a = true) (hb : okOp b = true) (hs : sumK a + sumP a = sumK b + sumD b) : composeB a b = true ∧ composeT a b = made (comp (units a) (units b)) ∧ okOp (composeT a b) = true ∧ normL (composeT a b) = composeT a b ∧ units (composeT a b) = nfU (comp (units a) (units b)) ∧ sumK (composeT a b) + sumD (composeT a b) = sumK a + sumD a ∧ sumK (composeT a b) + sumP (composeT a b) = sumK b + sumP b ∧ tgt (units a) = src (units b) := by
  obtain ⟨u1, u2, u3, u4, u5⟩ := op_units ha
  obtain ⟨v1, v2, v3, v4, v5⟩ := op_units hb
  have hbal : tgt (units a) = src (units b) := by omega
  obtain ⟨e1, e2⟩ := comp_ends hbal
  have hg : goodU (comp (units a) (units b)) := fun x hx => by
    rcases comp_mem _ _ x hx with h | h
    · exact u5 x h
    · exact v5 x h
  obtain ⟨m1, m2, m3, m4⟩ := made_ok (us := comp (units a) (units b)) (by omega) (by omega) hg
  have hB : composeB a b = true := by
    unfold composeB
    rw [ha, hb]
    have : okOp (compL a b) = true := m1
    rw [this]
    simp [hs]
  have hT : composeT a b = made (comp (units a) (units b)) := by unfold composeT; rw [if_pos hB]; rfl
  rw [hT]
  exact ⟨hB, rfl, m1, norm_normal m2 m1, units_made _, by rw [m3, e1]; exact u1, by rw [m4, e2]; exact v2, hbal⟩
theorem compose_apply {a b : List Pt} {t : List Int} (ha : okOp a = true) (hb : okOp b = true) (hs : sumK a + sumP a = sumK b + sumD b) (ht : okText t = true) (hf : sumK a + sumD a = (t.length : Int)) : applyT (composeT a b) t = applyT b (applyT a t) := by
  obtain ⟨c1, c2, c3, c4, c5, c6, c7, c8⟩ := compose_ok ha hb hs
  obtain ⟨a1, a2, a3, a4, a5⟩ := apply_ok ha ht hf
  obtain ⟨b1, b2, _⟩ := apply_ok hb a3 (by omega)
  obtain ⟨k1, k2, _⟩ := apply_ok c3 ht (by omega)
  rw [k2, c5, apply_nf, b2, a2]
  exact (apply_comp (units a) (units b) t a5 c8).1
/-- associativity -/
theorem compose_assoc {a b c : List Pt} (ha : okOp a = true) (hb : okOp b = true) (hc : okOp c = true) (h1 : sumK a + sumP a = sumK b + sumD b) (h2 : sumK b + sumP b = sumK c + sumD c) : composeT (composeT a b) c = composeT a (composeT b c) := by
  obtain ⟨p1, p2, p3, p4, p5, p6, p7, p8⟩ := compose_ok ha hb h1
  obtain ⟨q1, q2, q3, q4, q5, q6, q7, q8⟩ := compose_ok hb hc h2
  obtain ⟨r1, r2, r3, r4, r5, r6, r7, r8⟩ := compose_ok p3 hc (by omega)
  obtain ⟨s1, s2, s3, s4, s5, s6, s7, s8⟩ := compose_ok ha q3 (by omega)
  rw [r2, s2]
  apply made_ext
  rw [p5, q5]
  have e1 : nfU (comp (nfU (comp (units a) (units b))) (units c)) = nfU (comp (comp (units a) (units b)) (units c)) := by
    have hb' : tgt (comp (units a) (units b)) = src (units c) := by rw [(comp_ends p8).2]; exact q8
    have hb'' : tgt (nfU (comp (units a) (units b))) = src (units c) := by rw [(nf_ends _).2]; exact hb'
    have x1 := comp_nf hb'
    have x2 := comp_nf hb''
    rw [nf_idem] at x2
    rw [← x2, x1]
  have e2 : nfU (comp (units a) (nfU (comp (units b) (units c)))) = nfU (comp (units a) (comp (units b) (units c))) := by
    have hb' : tgt (units a) = src (comp (units b) (units c)) := by rw [(comp_ends q8).1]; exact p8
    have hb'' : tgt (units a) = src (nfU (comp (units b) (units c))) := by rw [(nf_ends _).1]; exact hb'
    have x1 := comp_nf hb'
    have x2 := comp_nf hb''
    rw [nf_idem] at x2
    rw [← x2, x1]
  rw [e1, e2]
  exact comp_assoc p8 q8

theorem nf_ds : ∀ {n : Nat} {us : List U} {qs : List Int} {m : Nat}, nfGo (List.replicate n U.d ++ us) qs m = nfGo us qs (m + n)
  | 0, us, qs, m => by simp
  | n + 1, us, qs, m => by rw [List.replicate_succ, List.cons_append, nfGo, nf_ds]; congr 1; omega
theorem nf_ps : ∀ {zs : List Int} {us : List U} {qs : List Int} {m : Nat}, nfGo (zs.map U.p ++ us) qs m = nfGo us (qs ++ zs) m
  | [], us, qs, m => by simp
  | z :: zs, us, qs, m => by rw [List.map_cons, List.cons_append, nfGo, nf_ps]; simp
theorem inv_ps : ∀ (ps : List Int) (us : List U) (t : List Int), invU (ps.map U.p ++ us) t = List.replicate ps.length U.d ++ invU us t
  | [], us, t => by simp
  | p :: ps, us, t => by rw [List.map_cons, List.cons_append, invU, inv_ps ps us t]; simp [List.replicate_succ]
theorem inv_ds : ∀ (n : Nat) (us : List U) (t : List Int), invU (List.replicate n U.d ++ us) t = (t.take n).map U.p ++ invU us (t.drop n)
  | 0, us, t => by simp
  | n + 1, us, t => by
    rw [List.replicate_succ, List.cons_append, invU, inv_ds n us (t.drop 1), List.drop_drop, ← List.append_assoc, ← List.map_append]
    congr 2
    · rw [show n + 1 = 1 + n by omega, List.take_add]
    · rw [Nat.add_comm]
theorem inv_pd (ps : List Int) (n : Nat) (t : List Int) : invU (ps.map U.p ++ List.replicate n U.d) t = List.replicate ps.length U.d ++ (t.take n).map U.p := by
  have := inv_ds n [] t
  rw [List.append_nil] at this
  rw [inv_ps, this]
  simp [invU]
theorem inv_app_pd {ps : List Int} {n : Nat} {us : List U} {t : List Int} : invU ((ps.map U.p ++ List.replicate n U.d) ++ us) t = List.replicate ps.length U.d ++ ((t.take n).map U.p ++ invU us (t.drop n)) := by
  rw [List.append_assoc, inv_ps, inv_ds]
/-- the inverse on units: of the normal form, up to the normal form -/
theorem inv_go : ∀ (us : List U) (ps : List Int) (n : Nat) (t : List Int) (qs : List Int) (m : Nat), src us + n = t.length → nfGo (invU (nfGo us ps n) t) qs m = nfGo (invU us (t.drop n)) (qs ++ t.take n) (m + ps.length)
  | [], ps, n, t, qs, m, h => by
    have e : invU (ps.map U.p ++ List.replicate n U.d) t = List.replicate ps.length U.d ++ (t.take n).map U.p := inv_pd ps n t
    have e2 := nf_ps (zs := t.take n) (us := []) (qs := qs) (m := m + ps.length)
    rw [List.append_nil] at e2
    rw [nfGo, e, nf_ds, e2]
    simp [invU]
  | .k :: us, ps, n, t, qs, m, h => by
    have hl : src us + 0 = (t.drop (n + 1)).length := by simp [src] at h ⊢; omega
    rw [nfGo, ← List.append_assoc, inv_app_pd, nf_ds, nf_ps]
    simp only [invU]
    rw [nfGo, List.drop_drop, inv_go us [] 0 (t.drop (n + 1)) [] 0 hl]
    simp [nfGo]
  | .p x :: us, ps, n, t, qs, m, h => by
    rw [nfGo, inv_go us (ps ++ [x]) n t qs m (by simpa [src] using h)]
    simp only [invU, nfGo]
    simp [Nat.add_assoc]
  | .d :: us, ps, n, t, qs, m, h => by
    have hlt : n < t.length := by simp [src] at h; omega
    rw [nfGo, inv_go us ps (n + 1) t qs m (by simp [src] at h ⊢; omega)]
    simp only [invU]
    rw [List.drop_drop, nf_ps]
    congr 1
    rw [List.append_assoc]
    congr 1
    rw [List.take_add_one, List.take_one, List.head?_drop]
theorem inv_nf {us : List U} {t : List Int} (h : src us = t.length) : nfU (invU (nfU us) t) = nfU (invU us t) := by
  have := inv_go us [] 0 t [] 0 (by omega)
  simpa [nfU] using this
theorem inv_ks : ∀ (n : Nat) (us : List U) (t : List Int), invU (List.replicate n U.k ++ us) t = List.replicate n U.k ++ invU us (t.drop n)
  | 0, us, t => by simp
  | n + 1, us, t => by rw [List.replicate_succ, List.cons_append, invU, inv_ks n us (t.drop 1), List.drop_drop, List.cons_append, Nat.add_comm 1 n]
theorem foldI_units (t : List Int) : ∀ (L : List Pt) (s : Nat × List Pt), (∀ p ∈ L, szP_ p) → units (L.foldl (stepI t) s).2 = units s.2 ++ invU (units L) (t.drop s.1)
  | [], s, _ => by simp [units_nil, invU]
  | p :: L, s, h => by
    rw [List.foldl_cons, foldI_units t L (stepI t s p) (fun q hq => h q (by simp [hq])), units_cons]
    obtain ⟨hk, h0, h1, h2⟩ := h p (by simp)
    have e1 : (stepI t s p).2 = s.2 ++ [invP t s.1 p] := rfl
    rw [e1, units_app, List.append_assoc]
    congr 1
    have e3 : units [invP t s.1 p] = unitsP (invP t s.1 p) := by simp [units]
    rw [e3]
    obtain ⟨pk, pn, pz⟩ := p
    simp only at hk h0
    rcases hk with rfl | rfl | rfl
    · have u1 : unitsP ⟨1, pn, pz⟩ = List.replicate pn.toNat .k := by simp [unitsP]
      have u2 : unitsP (invP t s.1 ⟨1, pn, pz⟩) = List.replicate pn.toNat .k := by simp [unitsP, invP]
      rw [u1, u2, inv_ks, List.drop_drop]
      simp [stepI]
    · have u1 : unitsP ⟨2, pn, pz⟩ = pz.map .p := by simp [unitsP]
      have u2 : unitsP (invP t s.1 ⟨2, pn, pz⟩) = List.replicate pz.length .d := by simp [unitsP, invP]
      rw [u1, u2, inv_ps]
      simp [stepI]
    · have u1 : unitsP ⟨3, pn, pz⟩ = List.replicate pn.toNat .d := by simp [unitsP]
      have u2 : unitsP (invP t s.1 ⟨3, pn, pz⟩) = ((t.drop s.1).take pn.toNat).map .p := by simp [unitsP, invP]
      rw [u1, u2, inv_ds, List.drop_drop]
      simp [stepI]
theorem inv_mem : ∀ (us : List U) (t : List Int) (x : Int), U.p x ∈ invU us t → x ∈ t
  | [], t, x, h => by simp [invU] at h
  | .k :: us, t, x, h => by
    rw [invU] at h
    rcases List.mem_cons.1 h with h | h
    · cases h
    · exact List.mem_of_mem_drop (inv_mem us _ x h)
  | .p y :: us, t, x, h => by
    rw [invU] at h
    rcases List.mem_cons.1 h with h | h
    · cases h
    · exact inv_mem us _ x h
  | .d :: us, t, x, h => by
    rw [invU] at h
    rcases List.mem_append.1 h with h | h
    · obtain ⟨z, hz, e⟩ := List.mem_map.1 h
      injection e with e
      subst e
      exact List.mem_of_mem_take hz
    · exact List.mem_of_mem_drop (inv_mem us _ x h)
/-- the inverse of a valid operation -/
theorem invert_eq {a : List Pt} {t : List Int} (ha : okOp a = true) (ht : okText t = true) (hs : sumK a + sumD a = (t.length : Int)) : invertT a t = made (invU (units a) t) ∧ okOp (invertT a t) = true ∧ normL (invertT a t) = invertT a t ∧ sumK (invertT a t) + sumD (invertT a t) = sumK a + sumP a ∧ sumK (invertT a t) + sumP (invertT a t) = sumK a + sumD a := by
  obtain ⟨a1, a2, a3, a4, a5⟩ := apply_ok ha ht hs
  obtain ⟨u1, u2, u3, u4, u5⟩ := op_units ha
  obtain ⟨n1, n2, n3⟩ := fits_norm a1
  have hsz := okPs_sz n1
  have hf := foldI_fit (t := t) n1 (normL a).length (Nat.le_refl _)
  rw [List.take_length] at hf
  have hu := foldI_units t (normL a) (0, []) hsz
  have e1 : invertT a t = made (invU (nfU (units a)) t) := by
    unfold invertT
    rw [if_pos a1, foldN_units hf.2.2]
    unfold made
    congr 2
    have : units (foldI t (normL a)).2 = invU (units (normL a)) t := by simpa [foldI, units_nil] using hu
    rw [this, norm_made ha, units_made]
  have e2 : invertT a t = made (invU (units a) t) := by rw [e1]; exact made_ext (inv_nf a5)
  obtain ⟨i1, i2, i3⟩ := inv_back (units a) t a5
  obtain ⟨m1, m2, m3, m4⟩ := made_ok (us := invU (units a) t) (by omega) (by omega) (fun x hx => okText_mem ht x (inv_mem _ _ x hx))
  rw [e2]
  exact ⟨rfl, m1, norm_normal m2 m1, by rw [m3, i2]; exact u2, by rw [m4, i3]; exact u1⟩
theorem invert_ok {a : List Pt} {t : List Int} (ha : okOp a = true) (ht : okText t = true) (hs : sumK a + sumD a = (t.length : Int)) : applyT (invertT a t) (applyT a t) = t ∧ invertT (invertT a t) (applyT a t) = normL a := by
  obtain ⟨a1, a2, a3, a4, a5⟩ := apply_ok ha ht hs
  obtain ⟨x1, x2, x3, x4, x5⟩ := invert_eq ha ht hs
  obtain ⟨b1, b2, b3, b4, b5⟩ := apply_ok x2 a3 (by omega)
  obtain ⟨y1, _⟩ := invert_eq x2 a3 (by omega)
  obtain ⟨i1, i2, i3⟩ := inv_back (units a) t a5
  have hu : units (invertT a t) = nfU (invU (units a) t) := by rw [x1, units_made]
  constructor
  · rw [b2, hu, apply_nf, a2, i1]
  · rw [y1, norm_made ha]
    apply made_ext
    have hsrc : src (invU (units a) t) = (applyT a t).length := by
      have : ((applyT a t).length : Int) = (tgt (units a) : Int) := by rw [a4]; exact (op_units ha).2.1.symm
      omega
    rw [hu, inv_nf hsrc, a2, inv_inv (units a) t a5]
/-- how many characters are inserted -/
def np : List U → Nat
  | [] => 0
  | .p _ :: us => np us + 1
  | _ :: us => np us
theorem np_app : ∀ a b : List U, np (a ++ b) = np a + np b
  | [], b => by simp [np]
  | u :: a, b => by
    have := np_app a b
    cases u <;> simp [np, this] <;> omega
theorem np_rk : ∀ n : Nat, np (List.replicate n U.k) = 0
  | 0 => rfl
  | n + 1 => by rw [List.replicate_succ]; simp [np, np_rk n]
theorem np_rd : ∀ n : Nat, np (List.replicate n U.d) = 0
  | 0 => rfl
  | n + 1 => by rw [List.replicate_succ]; simp [np, np_rd n]
theorem np_mp : ∀ zs : List Int, np (zs.map U.p) = zs.length
  | [] => rfl
  | z :: zs => by rw [List.map_cons]; simp [np, np_mp zs]
theorem np_units {L : List Pt} (h : ∀ p ∈ L, szP_ p) : (np (units L) : Int) = sumOf putOf L := by
  induction L with
  | nil => simp [units_nil, np, sumOf]
  | cons p L ih =>
    have i := ih (fun q hq => h q (by simp [hq]))
    obtain ⟨hk, _⟩ := h p (by simp)
    rw [units_cons, np_app, sumOf_cons]
    have : (np (unitsP p) : Int) = putOf p := by
      obtain ⟨pk, pn, pz⟩ := p
      simp only at hk
      rcases hk with rfl | rfl | rfl
      · simp [unitsP, putOf, np_rk]
      · simp [unitsP, putOf, np_mp]
      · simp [unitsP, putOf, np_rd]
    omega
theorem np_op {a : List Pt} (h : okOp a = true) : (np (units a) : Int) = sumP a := by
  obtain ⟨t1, t2, t3⟩ := sum_t (okOp_partsB h)
  rw [np_units (okPs_sz (okOp_of h).1), t2]
theorem np_go : ∀ (us : List U) (ps : List Int) (n : Nat), np (nfGo us ps n) = np us + ps.length
  | [], ps, n => by rw [nfGo, np_app, np_mp, np_rd]; simp [np]
  | .k :: us, ps, n => by rw [nfGo, np_app, np_mp, np_app, np_rd]; simp [np, np_go us [] 0]; omega
  | .p x :: us, ps, n => by rw [nfGo, np_go us (ps ++ [x]) n]; simp [np]; omega
  | .d :: us, ps, n => by rw [nfGo, np_go us ps (n + 1)]; simp [np]
theorem np_nf (us : List U) : np (nfU us) = np us := by unfold nfU; rw [np_go]; simp
theorem xf_np (a b : List U) : src a = src b → np (xf a b).1 = np a ∧ np (xf a b).2 = np b ∧ tgt (xf a b).1 ≤ tgt b + np a ∧ (∀ x, U.p x ∈ (xf a b).1 → U.p x ∈ a) ∧ (∀ x, U.p x ∈ (xf a b).2 → U.p x ∈ b) := by
  induction a, b using xf.induct with
  | case1 => intro h; simp [xf, np, tgt]
  | case2 x a b ih =>
    intro h
    obtain ⟨i1, i2, i3, i4, i5⟩ := ih (by simpa [src] using h)
    rw [xf]
    refine ⟨by simp [np, i1], by simp [np, i2], by simp [np, tgt]; omega, fun y hy => ?_, fun y hy => ?_⟩
    · rcases List.mem_cons.1 hy with e | hy
      · rw [e]; simp
      · simp [i4 y hy]
    · rcases List.mem_cons.1 hy with e | hy
      · cases e
      · exact i5 y hy
  | case3 x b ih =>
    intro h
    obtain ⟨i1, i2, i3, i4, i5⟩ := ih (by simpa [src] using h)
    rw [xf]
    refine ⟨by simp [np, i1], by simp [np, i2], by simp [np, tgt] at i3 ⊢; omega, fun y hy => ?_, fun y hy => ?_⟩
    · rcases List.mem_cons.1 hy with e | hy
      · cases e
      · exact i4 y hy
    · rcases List.mem_cons.1 hy with e | hy
      · rw [e]; simp
      · simp [i5 y hy]
  | case4 b => intro h; simp [src] at h
  | case5 b => intro h; simp [src] at h
  | case6 a => intro h; simp [src] at h
  | case7 a x b ih =>
    intro h
    obtain ⟨i1, i2, i3, i4, i5⟩ := ih (by simpa [src] using h)
    rw [xf]
    refine ⟨by simp [np, i1], by simp [np, i2], by simp [np, tgt] at i3 ⊢; omega, fun y hy => ?_, fun y hy => ?_⟩
    · rcases List.mem_cons.1 hy with e | hy
      · cases e
      · exact i4 y hy
    · rcases List.mem_cons.1 hy with e | hy
      · rw [e]; simp
      · simp [i5 y hy]
  | case8 a b ih =>
    intro h
    obtain ⟨i1, i2, i3, i4, i5⟩ := ih (by simpa [src] using h)
    rw [xf]
    refine ⟨by simp [np, i1], by simp [np, i2], by simp [np, tgt] at i3 ⊢; omega, fun y hy => ?_, fun y hy => ?_⟩
    · rcases List.mem_cons.1 hy with e | hy
      · cases e
      · simp [i4 y hy]
    · rcases List.mem_cons.1 hy with e | hy
      · cases e
      · simp [i5 y hy]
  | case9 a b ih =>
    intro h
    obtain ⟨i1, i2, i3, i4, i5⟩ := ih (by simpa [src] using h)
    rw [xf]
    refine ⟨by simp [np, i1], by simp [np, i2], by simp [np, tgt] at i3 ⊢; omega, fun y hy => by simp [i4 y hy], fun y hy => ?_⟩
    rcases List.mem_cons.1 hy with e | hy
    · cases e
    · simp [i5 y hy]
  | case10 a => intro h; simp [src] at h
  | case11 a x b ih =>
    intro h
    obtain ⟨i1, i2, i3, i4, i5⟩ := ih (by simpa [src] using h)
    rw [xf]
    refine ⟨by simp [np, i1], by simp [np, i2], by simp [np, tgt] at i3 ⊢; omega, fun y hy => ?_, fun y hy => ?_⟩
    · rcases List.mem_cons.1 hy with e | hy
      · cases e
      · exact i4 y hy
    · rcases List.mem_cons.1 hy with e | hy
      · rw [e]; simp
      · simp [i5 y hy]
  | case12 a b ih =>
    intro h
    obtain ⟨i1, i2, i3, i4, i5⟩ := ih (by simpa [src] using h)
    rw [xf]
    refine ⟨by simp [np, i1], by simp [np, i2], by simp [np, tgt] at i3 ⊢; omega, fun y hy => ?_, fun y hy => by simp [i5 y hy]⟩
    rcases List.mem_cons.1 hy with e | hy
    · cases e
    · simp [i4 y hy]
  | case13 a b ih =>
    intro h
    obtain ⟨i1, i2, i3, i4, i5⟩ := ih (by simpa [src] using h)
    rw [xf]
    exact ⟨by simp [np, i1], by simp [np, i2], by simp [np, tgt] at i3 ⊢; omega, fun y hy => by simp [i4 y hy], fun y hy => by simp [i5 y hy]⟩
/-- transforming valid operations on one text -/
theorem xform_ok {a b : List Pt} {t : List Int} (ha : okOp a = true) (hb : okOp b = true) (ht : okText t = true) (h1 : sumK a + sumD a = (t.length : Int)) (h2 : sumK b + sumD b = (t.length : Int)) (hp : sumK b + sumP b + sumP a ≤ 200) :
    xformOk a b = true ∧ okOp (xformA a b) = true ∧ okOp (xformB a b) = true ∧ normL (xformA a b) = xformA a b ∧ normL (xformB a b) = xformB a b ∧ sumK (xformA a b) + sumD (xformA a b) = sumK b + sumP b ∧ sumK (xformB a b) + sumD (xformB a b) = sumK a + sumP a ∧ sumP (xformA a b) = sumP a ∧ sumP (xformB a b) = sumP b ∧ sumK (xformA a b) + sumP (xformA a b) = sumK (xformB a b) + sumP (xformB a b) ∧ sumK (xformA a b) + sumP (xformA a b) ≤ sumK b + sumP b + sumP a ∧ applyT (xformB a b) (applyT a t) = applyT (xformA a b) (applyT b t) := by
  obtain ⟨u1, u2, u3, u4, u5⟩ := op_units ha
  obtain ⟨v1, v2, v3, v4, v5⟩ := op_units hb
  obtain ⟨a1, a2, a3, a4, a5⟩ := apply_ok ha ht h1
  obtain ⟨b1, b2, b3, b4, b5⟩ := apply_ok hb ht h2
  obtain ⟨m1, m2, m3, m4⟩ := xf_meet (units a) (units b) t a5 b5
  obtain ⟨n1, n2, n3, n4, n5⟩ := xf_np (units a) (units b) (by omega)
  have pa := np_op ha
  have pb := np_op hb
  obtain ⟨p1, p2, p3, p4⟩ := made_ok (us := (xf (units a) (units b)).1) (by omega) (by omega) (fun x hx => u5 x (n4 x hx))
  obtain ⟨q1, q2, q3, q4⟩ := made_ok (us := (xf (units a) (units b)).2) (by omega) (by omega) (fun x hx => v5 x (n5 x hx))
  have hO : xformOk a b = true := by
    unfold xformOk
    have e1 : okOp (xfA a b) = true := p1
    have e2 : okOp (xfB a b) = true := q1
    rw [ha, hb, e1, e2]
    simp
    omega
  have eA : xformA a b = made (xf (units a) (units b)).1 := by unfold xformA; rw [if_pos hO]; rfl
  have eB : xformB a b = made (xf (units a) (units b)).2 := by unfold xformB; rw [if_pos hO]; rfl
  have sA := np_op p1
  have sB := np_op q1
  rw [units_made, np_nf] at sA sB
  rw [eA, eB]
  obtain ⟨c1, c2, _⟩ := apply_ok q1 a3 (by rw [q3, m3]; omega)
  obtain ⟨d1, d2, _⟩ := apply_ok p1 b3 (by rw [p3, m2]; omega)
  refine ⟨hO, p1, q1, norm_normal p2 p1, norm_normal q2 q1, by rw [p3, m2]; exact v2, by rw [q3, m3]; exact u2, by omega, by omega, by rw [p4, q4, m4], by rw [p4]; omega, ?_⟩
  rw [c2, d2, units_made, units_made, apply_nf, apply_nf, a2, b2, m1]
end Go.Proofs.Ytfpjoncaccbnmaa.low


/-
  For laws over several calls: a law's bytes opened; calls whose answer is true.
-/
namespace Go.Proofs.Ytfpjoncaccbnmaa.low
open Go.RowKit Go.ChangeShapes Go.WideShapes Go.Deep
set_option linter.unusedVariables false

theorem cellsU8 : Try.prog.cellsOf 5 = 1 := by kernel_rfl
section
variable {H : Type} {enc : TypeId × Value → H} {w : World} {base : Nat} {spare : Nat → Bool} {held : Bool}
theorem read_bytes {fuel : Nat} {cs : List Value} {x : DataW H × List MemPlace} (h : DataW.trod enc Try.prog w base spare held fuel 22 cs = some x) :
    ∃ A c, ∃ zs : List Int, cs = [.slice A zs.length c] ∧ Row (Value.int .u8) w w.heap.size A zs ∧ zs.length ≤ maxLen ∧ ∀ z ∈ zs, 0 ≤ z ∧ z < 256 := by
  rcases open_ints Try.underlying22 Try.underlying5 cellsU8 h with ⟨hcs, _⟩ | ⟨a, len, cap, zs, hcs, _, hl, hm, hz, _, hc, hw⟩
  · exact ⟨none, 0, [], hcs, Row.nil, Nat.zero_le _, by simp⟩
  · have hzl : len ≤ zs.length := by rw [hz]; split <;> omega
    refine ⟨some a, cap, zs.take len, by rw [hcs, List.length_take, Nat.min_eq_left hzl], fun hn => ?_, by rw [List.length_take]; omega, fun z hz' => ?_⟩
    · have h0 := cell_lt (hc 0 (by simp at hn; omega))
      rw [block_of_add] at h0
      refine ⟨a, rfl, h0, fun k z hk => ?_⟩
      have hk' : k < zs.length := by
        rcases Nat.lt_or_ge k zs.length with h | h
        · exact h
        · rw [List.getElem?_eq_none (by simp; omega)] at hk; cases hk
      have hk2 : zs[k]? = some z := by
        rw [List.getElem?_take] at hk
        split at hk
        · exact hk
        · cases hk
      rw [hc k hk']
      simp [List.getD, hk2]
    · have := hw z (List.mem_of_mem_take hz')
      simp [Lit.wf, IntKind.min, IntKind.max, IntKind.signed, IntKind.bits] at this
      omega
end
theorem signsSame_t (v v' : Value) (t t' : List Int) (w : World) (h : RdC w w.heap.size (encInts t) v) (h' : RdC w w.heap.size (encInts t') v') (hs : SmI t) (e : t = t') : Calls Try.prog 11 #[v, v'] w (Tells true w) := by
  subst e
  obtain ⟨A, c, rfl, hr, _⟩ := ints_rd h
  obtain ⟨B, d, rfl, hr', _⟩ := ints_rd h'
  unfold SmI at hs
  refine (implSignsSame_any A B c d t t w hr hr' (by omega) (by omega)).mono ?_
  intro e w1 h1
  rw [sameB_self] at h1
  exact says_tells h1
theorem opSame_t (v v' : Value) (a b : List Pt) (w : World) (h : RdC w w.heap.size (encPs a) v) (h' : RdC w w.heap.size (encPs b) v') (hs : SmP a) (e : a = b) : Calls Try.prog 40 #[v, v'] w (Tells true w) := by
  subst e
  obtain ⟨A, c, rfl, hr, _⟩ := parts_rd h
  obtain ⟨B, d, rfl, hr', _⟩ := parts_rd h'
  have hl := hs.1
  refine (implOpSame_any A B c d a a w hr hr' (by omega) (by omega) hs.all4 hs.all4).mono ?_
  intro e w1 h1
  rw [samePs_self] at h1
  exact h1
theorem isNorm_t (v : Value) (a : List Pt) (w : World) (h : RdC w w.heap.size (encPs a) v) (hs : SmP a) (ho : okOp a = true) (hn : normL a = a) : Calls Try.prog 12 #[v] w (Tells true w) := by
  obtain ⟨A, c, rfl, hr, _⟩ := parts_rd h
  have hl := hs.1
  refine (implIsNorm_any A c a w hr (by omega) hs.all4 hs.2).mono ?_
  intro e w1 h1
  have : isNormL a = true := by unfold isNormL; rw [ho, hn, samePs_self]; rfl
  rw [this] at h1
  exact h1
theorem smI_text {t : List Int} (h : okText t = true) : SmI t := by have := okText_len' h; unfold SmI; omega
theorem smP_op {a : List Pt} (h : okOp a = true) : SmP a := by
  obtain ⟨_, h1, h2⟩ := okOp_units h
  have := signsIn_le h1
  exact ⟨by omega, by omega⟩
end Go.Proofs.Ytfpjoncaccbnmaa.low


/-
  The specification's draws: a cursor over the bytes of a draw (DC), a byte, a number below n.
-/
namespace Go.Proofs.Ytfpjoncaccbnmaa.low
open Go.RowKit
set_option linter.unusedVariables false

theorem and255 (n : Int) : bits .and .i64 n 255 = n % 256 := by
  have h127 : (BitVec.ofInt 64 255).toNat = 2 ^ 8 - 1 := by decide
  have key : (BitVec.ofInt 64 n &&& BitVec.ofInt 64 255).toNat = (n % ((2 ^ 64 : Nat) : Int)).toNat % 2 ^ 8 := by
    rw [BitVec.toNat_and, BitVec.toNat_ofInt, h127, Nat.and_two_pow_sub_one_eq_mod]
  show IntKind.i64.wrap ((BitVec.ofInt 64 n &&& BitVec.ofInt 64 255).toNat : Nat) = n % 256
  rw [key, IntKind.wrap_i64]
  omega
theorem and255_bd (n : Int) : 0 ≤ bits .and .i64 n 255 ∧ bits .and .i64 n 255 ≤ 255 := by rw [and255]; omega

/-- the cursor of a draw at block g; its bytes lie in blocks below B -/
def DC (B g : Nat) (w : World) : Prop := ∃ (A : Option Addr) (c : Nat) (zs : List Int) (i : Nat) (h : Int), w.heap[g]? = some (.cells #[.slice A zs.length c, .int .i64 (i : Int), .int .i64 h] 91 (0, 0)) ∧ zs.length ≤ 1048576 ∧ Row (Value.int .u8) w B A zs ∧ (∀ z ∈ zs, 0 ≤ z ∧ z < 256) ∧ B ≤ g
theorem DC.keep {B g : Nat} {w w' : World} (h : DC B g w) (hg : w'.heap[g]? = w.heap[g]?) (hk : ∀ p : Addr, p.block < B → w'.cell? p = w.cell? p) : DC B g w' := by
  obtain ⟨A, c, zs, i, x, h1, h2, h3, h4, h5⟩ := h
  exact ⟨A, c, zs, i, x, hg.trans h1, h2, h3.keep hk, h4, h5⟩
theorem DC.lt {B g : Nat} {w : World} (h : DC B g w) : g < w.heap.size := by
  obtain ⟨A, c, zs, i, x, h1, _⟩ := h
  exact lt_of_some h1
theorem DC.low {B g : Nat} {w : World} (h : DC B g w) : B ≤ g := by
  obtain ⟨A, c, zs, i, x, _, _, _, _, h5⟩ := h
  exact h5
theorem DC.past {B g : Nat} {w w' : World} (h : DC B g w) (hb : Below w.heap.size w w') : DC B g w' := h.keep (hb.block g h.lt) (fun p hp => hb.cell (by have := h.lt; have := h.low; omega))
theorem DC.grew {B g : Nat} {O O' : Nat → Prop} {w w' : World} (h : DC B g w) (hg : Grew O O' w w') (hb : Below B w w') (ho : ¬ O g) : DC B g w' := h.keep (hg.block g h.lt ho) (fun p hp => hb.cell hp)
/-- behind a draw: a number with P, the cursor moved, nothing else turned -/
def DrawP (P : Int → Prop) (B g : Nat) (w : World) (e : Ending) (w' : World) : Prop := ∃ x, e = .returned (.int .i64 x) ∧ P x ∧ DC B g w' ∧ Fr (fun q => q = g) w w' ∧ Below B w w'

theorem set2_row {w : World} {g : Nat} {T : TypeId} {a b c v : Value} {n : Nat} (h : w.heap[g]? = some (.cells #[a, b, c] T (0, 0))) : ((w.setCell ⟨g, 2, none⟩ v).drewN n).heap[g]? = some (.cells #[a, b, v] T (0, 0)) := by
  show (w.setCell ⟨g, 2, none⟩ v).heap[g]? = _
  rw [heap_setCell_same _ _ _ _ _ _ h]
  rfl
theorem set1_row {w : World} {g : Nat} {T : TypeId} {a b c v : Value} (h : w.heap[g]? = some (.cells #[a, b, c] T (0, 0))) : (w.setCell ⟨g, 1, none⟩ v).heap[g]? = some (.cells #[a, v, c] T (0, 0)) := by
  rw [heap_setCell_same _ _ _ _ _ _ h]
  rfl
theorem fr_drewN' {S : Nat → Prop} {n : Nat} {w wr : World} (h : Fr S w wr) : Fr S w (wr.drewN n) := ⟨h.size, h.block⟩
theorem below_drewN' {lo n : Nat} {w wr : World} (h : Below lo w wr) : Below lo w (wr.drewN n) := ⟨h.os, h.tape, h.output, h.size, h.block⟩

set_option maxRecDepth 100000 in
set_option maxHeartbeats 1600000 in
theorem specByte_d (B g : Nat) (w : World) (h : DC B g w) : Calls Try.prog 72 #[.pointer (some ⟨g, 0, none⟩)] w (DrawP (fun x => 0 ≤ x ∧ x ≤ 255) B g w) := by
  obtain ⟨A, c, zs, i, x, h1, h2, h3, h4, h5⟩ := h
  have c0 : w.cell? ⟨g, 0, none⟩ = some (.slice A zs.length c) := cell_of_row _ _ 0 _ _ _ h1
  have c1 : w.cell? ⟨g, 1, none⟩ = some (.int .i64 (i : Int)) := cell_of_row _ _ 1 _ _ _ h1
  have c2 : w.cell? ⟨g, 2, none⟩ = some (.int .i64 x) := cell_of_row _ _ 2 _ _ _ h1
  have f1 : w.frozen? ⟨g, 1, none⟩ = false := by simp [World.frozen?, h1]
  have f2 : w.frozen? ⟨g, 2, none⟩ = false := by simp [World.frozen?, h1]
  have H1 := Lib.hid h1
  have H4 := Lib.hid h4
  clear h1 h4
  by_cases hlt : i < zs.length
  · obtain ⟨ad, z, rfl, hbl, hz, hc⟩ := h3.at_ hlt
    have hzz := H4.out z (List.mem_of_getElem? hz)
    clear hz
    have hcx : ∀ v, (w.setCell ⟨g, 2, none⟩ v).cell? (ad.add i) = some (.int .u8 z) := fun v => (World.cell?_of_block (heap_setCell_other _ _ _ _ (fun e => by have e' : (ad.add i).block = g := e; rw [block_of_add] at e'; omega))).trans hc
    go_enter Try.func72, Try.ntmps72
    go_wp2
    go_quiet (fail)
    go_wp2
    go_quiet (fail)
    go_wp2
    go_quiet (fail)
    go_wp2
    go_ret
    refine ⟨_, rfl, and255_bd _, ⟨some ad, c, zs, i + 1, wrap64 (wrap64 (x * 6364136223846793005) + 1442695040888963407), set1_row (set2_row H1.out), h2, h3.keep (fun p hp => ?_), H4.out, h5⟩, ?_, ?_⟩
    · exact (World.cell?_of_block (heap_setCell_other _ _ _ _ (fun e => by have e' : p.block = g := e; omega))).trans (World.cell?_of_block (heap_setCell_other _ _ _ _ (fun e => by have e' : p.block = g := e; omega)))
    · exact (fr_drewN' ((Fr.refl (fun q => q = g) w).setCell (p := ⟨g, 2, none⟩) rfl _)).setCell (p := ⟨g, 1, none⟩) rfl _
    · exact (below_drewN' ((Below.refl B w).setCell (p := ⟨g, 2, none⟩) h5 _)).setCell (p := ⟨g, 1, none⟩) h5 _
  · go_enter Try.func72, Try.ntmps72
    go_wp2
    go_quiet (fail)
    go_wp2
    go_quiet (fail)
    go_wp2
    go_ret
    refine ⟨_, rfl, and255_bd _, ⟨A, c, zs, i, wrap64 (wrap64 (x * 6364136223846793005) + 1442695040888963407), set2_row (n := 0) H1.out, h2, h3.keep (fun p hp => ?_), H4.out, h5⟩, ?_, ?_⟩
    · exact World.cell?_of_block (heap_setCell_other _ _ _ _ (fun e => by have e' : p.block = g := e; omega))
    · exact fr_drewN' (fr_drewN' ((Fr.refl (fun q => q = g) w).setCell (p := ⟨g, 2, none⟩) rfl _))
    · exact below_drewN' (below_drewN' ((Below.refl B w).setCell (p := ⟨g, 2, none⟩) h5 _))

theorem DrawP.mono {P P' : Int → Prop} {B g : Nat} {w w' : World} {e : Ending} (h : DrawP P B g w e w') (hp : ∀ x, P x → P' x) : DrawP P' B g w e w' := by
  obtain ⟨x, h1, h2, h3⟩ := h
  exact ⟨x, h1, hp x h2, h3⟩
set_option maxHeartbeats 1600000 in
theorem specBelow_d (B g : Nat) (n : Int) (w : World) (h : DC B g w) (hn : n ≤ 2147483648) : Calls Try.prog 42 #[.pointer (some ⟨g, 0, none⟩), .int .i64 n] w (DrawP (fun x => 0 ≤ x ∧ (0 < n → x < n) ∧ (n ≤ 0 → x = 0)) B g w) := by
  by_cases h0 : n ≤ 0
  · go_enter Try.func42, Try.ntmps42
    go_wp2
    go_ret
    exact ⟨0, rfl, ⟨by omega, fun h => by omega, fun _ => rfl⟩, h, Fr.refl _ _, Below.refl _ _⟩
  · have h0' : 0 < n := by omega
    by_cases h1 : n ≤ 256
    · go_enter Try.func42, Try.ntmps42
      go_wp2_with fail
      refine (specByte_d B g _ h).mono ?_
      rintro e w1 ⟨x, rfl, ⟨x1, x2⟩, dc, fr, bl⟩
      have hz : ¬ n = 0 := by omega
      go_wp2
      go_ret
      exact ⟨_, rfl, ⟨Int.emod_nonneg _ (by omega), fun _ => Int.emod_lt_of_pos _ h0', fun h => by omega⟩, dc, fr, bl⟩
    · go_enter Try.func42, Try.ntmps42
      go_wp2_with fail
      refine (specByte_d B g _ h).mono ?_
      rintro e w1 ⟨x, rfl, ⟨x1, x2⟩, dc, fr, bl⟩
      go_wp2_with fail
      refine (specByte_d B g _ dc).mono ?_
      rintro e w2 ⟨y, rfl, ⟨y1, y2⟩, dc2, fr2, bl2⟩
      go_wp2_with fail
      refine (specByte_d B g _ dc2).mono ?_
      rintro e w3 ⟨z, rfl, ⟨z1, z2⟩, dc3, fr3, bl3⟩
      go_wp2_with fail
      refine (specByte_d B g _ dc3).mono ?_
      rintro e w4 ⟨t, rfl, ⟨t1, t2⟩, dc4, fr4, bl4⟩
      have hz : ¬ n = 0 := by omega
      go_wp2
      go_ret
      exact ⟨_, rfl, ⟨Int.emod_nonneg _ (by omega), fun _ => Int.emod_lt_of_pos _ h0', fun h => by omega⟩, dc4, ((fr.trans fr2).trans fr3).trans fr4, ((bl.trans bl2).trans bl3).trans bl4⟩
end Go.Proofs.Ytfpjoncaccbnmaa.low

