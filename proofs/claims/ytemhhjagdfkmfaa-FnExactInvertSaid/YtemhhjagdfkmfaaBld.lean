
/-
  The builder in one word: Bld: at block g it holds what the parts L, added one by one, have made of it.
-/
import Derived.Test.YtemhhjagdfkmfaaSpecNorm
import Derived.Test.YtemhhjagdfkmfaaAppInts
namespace Go.Proofs.Ytemhhjagdfkmfaa.low
open Go.RowKit
set_option linter.unusedVariables false

/-- a part of bounded size -/
def szP_ (p : Pt) : Prop := (p.kind = 1 ∨ p.kind = 2 ∨ p.kind = 3) ∧ 0 ≤ p.n ∧ p.n ≤ 200 ∧ p.signs.length ≤ 200
theorem szP_of {p : Pt} (h : okPt p = true) : szP_ p := by
  have := of_okPt h
  unfold szP_
  omega
theorem Fit.stepZ {j m : Nat} {s : List Pt × List Int × Int} {p : Pt} (h : Fit j m s) (hp : szP_ p) : Fit (j + 1) (m + p.signs.length) (stepN s p) := by
  unfold szP_ at hp
  obtain ⟨d1, d2, d3⟩ := h.done
  have h1 := h.len
  have h2 := h.signs
  have h3 := h.d0
  have h4 := h.d1
  have hns := h.ns
  unfold stepN
  split
  · rename_i hk
    have hn : 0 ≤ p.n ∧ p.n ≤ 200 := by omega
    split
    · exact ⟨by omega, by omega, h3, by omega, fun x hx => by have := hns x hx; omega⟩
    · obtain ⟨k1, k2, k3⟩ := keepTo_fit (q := doneN s) hn.1 (M := 200 * (j : Int)) (by omega) d3
      refine ⟨?_, ?_, by simp, by simp; omega, fun x hx => ?_⟩
      · show (keepTo (doneN s) p.n).length ≤ _; omega
      · show signsIn (keepTo (doneN s) p.n) + 0 ≤ _; omega
      · have := k3 x hx; omega
  · split
    · refine ⟨by simp; omega, by simp; omega, h3, by simp; omega, fun x hx => by have := hns x hx; omega⟩
    · refine ⟨by simp; omega, by simp; omega, by simp; omega, by simp; omega, fun x hx => by have := hns x hx; omega⟩
theorem foldN_app (L : List Pt) (p : Pt) : foldN (L ++ [p]) = stepN (foldN L) p := by unfold foldN; simp
theorem foldN_fitZ {L : List Pt} (h : ∀ p ∈ L, szP_ p) : Fit L.length (signsIn L) (foldN L) := by
  have key : ∀ k, k ≤ L.length → Fit k (signsIn (L.take k)) (foldN (L.take k)) := by
    intro k
    induction k with
    | zero => intro _; simpa [foldN, signsIn] using Fit.start
    | succ k ih =>
      intro hk
      obtain ⟨p, hp⟩ := idx_some (l := L) (i := k) (by omega)
      rw [foldN_snoc hp, signsIn_snoc hp]
      exact (ih (by omega)).stepZ (h p (List.mem_of_getElem? hp))
  have := key L.length (Nat.le_refl _)
  rwa [List.take_length] at this
theorem OwnS.mono {S S' : Nat → Prop} {g : Nat} {v : Value} {us : List Value} (h : OwnS S g v us) (hs : ∀ b, S b → S' b) : OwnS S' g v us := ⟨hs _ h.1, fun k hk => hs k (h.2.1 k hk), fun i k x hx hk => hs k (h.2.2 i k x hx hk)⟩
theorem BAtS.mono {S S' : Nat → Prop} {lo g : Nat} {T : TypeId} {w : World} {ps : List Pt} {put : List Int} {d : Int} (h : BAtS S lo g T w ps put d) (hs : ∀ b, S b → S' b) : BAtS S' lo g T w ps put d := by
  obtain ⟨v, u, us, hx, ha, ho⟩ := h
  exact ⟨v, u, us, hx, ha, ho.mono hs⟩
/-- the builder's blocks exist -/
theorem BAtS.shrink {S : Nat → Prop} {lo g : Nat} {T : TypeId} {w : World} {ps : List Pt} {put : List Int} {d : Int} (h : BAtS S lo g T w ps put d) : BAtS (fun b => S b ∧ b < w.heap.size) lo g T w ps put d := by
  obtain ⟨v, u, us, hx, ha, ho⟩ := h
  refine ⟨v, u, us, hx, ha, ⟨ho.1, hx.lt⟩, fun k hk => ⟨ho.2.1 k hk, own_in hx.row hk⟩, fun i k x hxi hk => ⟨ho.2.2 i k x hxi hk, ?_⟩⟩
  obtain ⟨q, hq⟩ := idx_some (l := ps ++ [⟨2, 0, put⟩]) (i := i) (by rw [← ha.1]; exact idx_lt hxi)
  exact own_in (ha.2.1 i q x hq hxi).1 hk
theorem BAtS.keep {S : Nat → Prop} {lo g : Nat} {T : TypeId} {w w' : World} {ps : List Pt} {put : List Int} {d : Int} (h : BAtS S lo g T w ps put d) (hsz : w.heap.size ≤ w'.heap.size) (hk : ∀ b, b < w.heap.size → S b → w'.heap[b]? = w.heap[b]?) : BAtS S lo g T w' ps put d := by
  obtain ⟨v, u, us, hx, ha, ho⟩ := h
  exact ⟨v, u, us, ⟨(hk g hx.lt ho.1).trans hx.box, own_keep hx.row (fun k h1 h2 => hk k h2 (ho.2.1 k h1)), hx.len, hx.low⟩, ha.keep hsz (fun i x k hxi h1 h2 => hk k h2 (ho.2.2 i k x hxi h1)), ho⟩
/-- the builder at block g holds what the parts L have made of it; O: its blocks -/
structure Bld (O : Nat → Prop) (lo g : Nat) (T : TypeId) (w : World) (L : List Pt) : Prop where
  at_ : BAtS O lo g T w (foldN L).1 (foldN L).2.1 (foldN L).2.2
  sz : ∀ p ∈ L, szP_ p
  len : L.length ≤ 100000
  old : ∀ b, O b → b < w.heap.size
/-- blocks outside O are as they were; O' is O and new blocks -/
structure Grew (O O' : Nat → Prop) (w w' : World) : Prop where
  size : w.heap.size ≤ w'.heap.size
  block : ∀ b, b < w.heap.size → ¬ O b → w'.heap[b]? = w.heap[b]?
  more : ∀ b, O' b → O b ∨ w.heap.size ≤ b
def BldP (O : Nat → Prop) (lo g : Nat) (T : TypeId) (L : List Pt) (w : World) (e : Ending) (w' : World) : Prop := e = .returned (.tuple #[]) ∧ ∃ O', Bld O' lo g T w' L ∧ Below lo w w' ∧ Grew O O' w w'
theorem signsIn_le {L : List Pt} (h : ∀ p ∈ L, szP_ p) : signsIn L ≤ 200 * L.length := by
  induction L with
  | nil => simp [signsIn]
  | cons p L ih =>
    have h1 := (h p (by simp)).2.2.2
    have h2 := ih (fun q hq => h q (by simp [hq]))
    have e : signsIn (p :: L) = p.signs.length + signsIn L := by simp [signsIn]
    rw [e, List.length_cons]
    omega
theorem Bld.fit {O : Nat → Prop} {lo g : Nat} {T : TypeId} {w : World} {L : List Pt} (h : Bld O lo g T w L) : Fit L.length (signsIn L) (foldN L) := foldN_fitZ h.sz
theorem Bld.keep {O : Nat → Prop} {lo g : Nat} {T : TypeId} {w w' : World} {L : List Pt} (h : Bld O lo g T w L) (hsz : w.heap.size ≤ w'.heap.size) (hk : ∀ b, b < w.heap.size → O b → w'.heap[b]? = w.heap[b]?) : Bld O lo g T w' L := ⟨h.at_.keep hsz hk, h.sz, h.len, fun b hb => Nat.lt_of_lt_of_le (h.old b hb) hsz⟩
theorem Bld.past {O : Nat → Prop} {lo g : Nat} {T : TypeId} {w w' : World} {L : List Pt} (h : Bld O lo g T w L) (hb : Below w.heap.size w w') : Bld O lo g T w' L := h.keep hb.size (fun b hlt _ => hb.block b hlt)
/-- another builder's growth leaves this one alone -/
theorem Bld.apart {O P P' : Nat → Prop} {lo g : Nat} {T : TypeId} {w w' : World} {L : List Pt} (h : Bld O lo g T w L) (hg : Grew P P' w w') (hd : ∀ b, O b → ¬ P b) : Bld O lo g T w' L ∧ ∀ b, O b → ¬ P' b :=
  ⟨h.keep hg.size (fun b hlt ho => hg.block b hlt (hd b ho)), fun b ho hp => by
    rcases hg.more b hp with h1 | h1
    · exact hd b ho h1
    · have := h.old b ho; omega⟩
theorem Bld.new (lo : Nat) (T : TypeId) (w : World) (h : lo ≤ w.heap.size) : Bld (fun b => b = w.heap.size) lo w.heap.size T (w.alloc (.cells #[.slice none 0 0, .slice none 0 0, .int .i64 0] T)) [] :=
  ⟨show BAtS (fun b => b = w.heap.size) lo w.heap.size T (w.alloc (.cells #[.slice none 0 0, .slice none 0 0, .int .i64 0] T)) [] [] 0 from ⟨.slice none 0 0, .slice none 0 0, [], ⟨heap_alloc_new w _, World.ownsRow_nil _ _ _ _, rfl, h⟩, Apart.bare 2 0 ⟨rfl, fun i p u hp _ => by simp at hp, fun i j k u v hu _ _ _ => by simp at hu⟩, rfl, fun k hk => by simp [Value.ownBlock] at hk, fun i k x hx hk => by
      cases i with
      | zero => simp at hx; subst hx; simp [Value.ownBlock] at hk
      | succ i => simp at hx⟩, fun p hp => by simp at hp, by simp, fun b hb => by
      have hb' : b = w.heap.size := hb
      rw [hb']
      exact lt_of_some (heap_alloc_new w _)⟩
theorem Bld.low {O : Nat → Prop} {lo g : Nat} {T : TypeId} {w : World} {L : List Pt} (h : Bld O lo g T w L) : lo ≤ w.heap.size := by
  obtain ⟨v, u, us, hx, _⟩ := h.at_
  exact Nat.le_trans hx.low (Nat.le_of_lt hx.lt)
/-- what the contracts with frames give, in one word -/
theorem Bld.add {O : Nat → Prop} {lo g : Nat} {T : TypeId} {w w' : World} {L : List Pt} {p : Pt} (h : Bld O lo g T w L) (hl : L.length < 100000) (hp : szP_ p) (hb : Below lo w w') (hf : Fr (fun b => O b ∨ w.heap.size ≤ b) w w') (ha : BAtS (fun b => O b ∨ w.heap.size ≤ b) lo g T w' (stepN (foldN L) p).1 (stepN (foldN L) p).2.1 (stepN (foldN L) p).2.2) : ∃ O', Bld O' lo g T w' (L ++ [p]) ∧ Below lo w w' ∧ Grew O O' w w' :=
  ⟨fun b => (O b ∨ w.heap.size ≤ b) ∧ b < w'.heap.size, ⟨by rw [foldN_app]; exact ha.shrink, fun q hq => by rcases List.mem_append.1 hq with hq | hq; exact h.sz q hq; simp at hq; subst hq; exact hp, by simp; omega, fun b hb => hb.2⟩, hb, hf.size, fun b hlt ho => hf.block b hlt (fun hs => by rcases hs with hs | hs; exact ho hs; omega), fun b hb => hb.1⟩
theorem OwB.grew {O O' : Nat → Prop} {lo hi : Nat} {w w' : World} {d : Dat} {v : Value} {b : List Nat} (h : OwB lo hi w d v b) (hg : Grew O O' w w') (hO : ∀ x, O x → x < lo ∨ hi ≤ x) : OwB lo hi w' d v b :=
  ⟨OwC.keep d v b h.ow (fun x hx => hg.block x (OwC.lt d v b h.ow x hx) (fun ho => by have := h.rng x hx; have := hO x ho; omega)), h.nd, h.rng, Nat.le_trans h.top hg.size, h.le⟩
theorem Grew.out {O O' : Nat → Prop} {lo hi : Nat} {w w' : World} (hg : Grew O O' w w') (hO : ∀ x, O x → x < lo ∨ hi ≤ x) (hh : hi ≤ w.heap.size) : ∀ x, O' x → x < lo ∨ hi ≤ x := fun x hx => by
  rcases hg.more x hx with h | h
  · exact hO x h
  · exact .inr (Nat.le_trans hh h)
/-- it returns the built parts, in blocks of the builder or new ones -/
def DoneP (O : Nat → Prop) (lo : Nat) (L : List Pt) (w : World) (e : Ending) (w' : World) : Prop := ∃ v b, e = .returned v ∧ OwB lo w'.heap.size w' (encPs (doneN (foldN L))) v b ∧ (∀ x ∈ b, O x ∨ w.heap.size ≤ x) ∧ Below lo w w' ∧ Grew O (fun x => x ∈ b) w w'
theorem GoneS.done {O : Nat → Prop} {lo : Nat} {L : List Pt} {w w' : World} {e : Ending} (h : GoneS (fun b => O b ∨ w.heap.size ≤ b) lo (doneN (foldN L)) w e w') : DoneP O lo L w e w' := by
  obtain ⟨v, us, e1, p, b, fr, ho, hl, hv, hu⟩ := h
  have hp := p
  obtain ⟨us', ho', ha', _⟩ := p
  obtain ⟨bs, oc, nd, rng, top, le⟩ := own_parts hp
  have heq : ∀ x ∈ bs, O x ∨ w.heap.size ≤ x := fun x hx => by
    obtain ⟨xs, cs, hox, hor, hb⟩ := oc
    rw [hb] at hx
    rcases List.mem_append.1 hx with hx | hx
    · exact hv x (by simpa using hx)
    · obtain ⟨us2, k1, k2, k3, k4⟩ := owR_parts hor
      rw [k3] at hx
      obtain ⟨i, u, hui, hk⟩ := mem_blks.1 hx
      have e2 : cellsOf (doneN (foldN L)) us2 = cellsOf (doneN (foldN L)) us := by
        rw [← k2]
        rcases ho.2 with ⟨rfl, h0⟩ | ⟨g, cap, cur, rfl, _, hh, _, _, _, ht⟩
        · have : doneN (foldN L) = [] := List.eq_nil_of_length_eq_zero h0
          have l1 := hox.1
          have l2 := ho.1
          rw [this] at l1 l2 ⊢
          simp at l1
          rw [l1]
          rfl
        · rcases hox.2 with ⟨hn, _⟩ | ⟨g', cap', cur', hv', _, hh', _, _, _, ht'⟩
          · cases hn
          · injection hv' with q1 q2 q3
            injection q1 with q1
            injection q1 with q1
            subst q1
            rw [hh] at hh'
            injection hh' with hh'
            injection hh' with hc _ _
            subst hc
            rw [← ht', ← ht]
            simp
      have e3 : us2[i]? = us[i]? := by
        obtain ⟨q, hq⟩ := idx_some (l := doneN (foldN L)) (i := i) (by rw [← k1]; exact idx_lt hui)
        obtain ⟨u2, hu2⟩ := idx_some (l := us) (i := i) (by rw [hl, ← k1]; exact idx_lt hui)
        have a1 := (cellsOf_at _ us2 i q u hq hui).2.2
        have a2 := (cellsOf_at _ us i q u2 hq hu2).2.2
        rw [e2, a2] at a1
        rw [hui, hu2]
        exact a1.symm
      exact hu i x u (by rw [← e3]; exact hui) hk
  exact ⟨v, bs, e1, ⟨oc, nd, rng, top, le⟩, heq, b, fr.size, fun x hlt ho => fr.block x hlt (fun hs => by rcases hs with hs | hs; exact ho hs; omega), heq⟩
end Go.Proofs.Ytemhhjagdfkmfaa.low
