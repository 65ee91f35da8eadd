
/-
  Contracts of the specification's builder: spec.l02Flush, l02Keep, l02Put, l02Drop, l02Done.
-/
import Derived.Test.YtemhhjagdfkmfaaBuild
import Derived.Deep.RegionLaw
namespace Go.Proofs.Ytemhhjagdfkmfaa.low
open Go.RowKit
set_option linter.unusedVariables false

theorem free_grown {w w0 w1 : World} {g o : Nat} {cs : Array Value} {T : TypeId} {r : Option Nat} (hg : w.heap[g]? = some (.cells cs T (0, 0))) (h0 : Below w.heap.size w w0) (hgrow : w0.grownBy w1 r) (hne : ¬ r = some g) : w1.frozen? ⟨g, o, none⟩ = false := by
  have hlt := lt_of_some hg
  have : w1.heap[g]? = some (.cells cs T (0, 0)) := by rw [hgrow.block g (Nat.lt_of_lt_of_le hlt h0.size) (fun e => hne e.symm), h0.block g hlt]; exact hg
  simp [World.frozen?, this]
theorem below_made (w : World) (o : Obj) : Below w.heap.size w (w.alloc o).drew := ((Below.refl _ _).alloc (Nat.le_refl _) o).drew
theorem cell_grown {w w0 w1 : World} {g : Nat} {cs : Array Value} {T : TypeId} {r : Option Nat} (o : Nat) (hg : w.heap[g]? = some (.cells cs T (0, 0))) (h0 : Below w.heap.size w w0) (hgrow : w0.grownBy w1 r) (hne : ¬ r = some g) : w1.cell? ⟨g, o, none⟩ = cs[o]? := by
  have hlt := lt_of_some hg
  have : w1.heap[g]? = some (.cells cs T (0, 0)) := by rw [hgrow.block g (Nat.lt_of_lt_of_le hlt h0.size) (fun e => hne e.symm), h0.block g hlt]; exact hg
  exact cell_of_row _ _ o _ _ _ this
theorem Box.drew {lo g : Nat} {T : TypeId} {w : World} {v u : Value} {d : Int} {ps : List Pt} {us : List Value} (h : Box lo g T w v u d ps us) : Box lo g T w.drew v u d ps us := ⟨h.box, h.row.drew, h.len, h.low⟩
theorem Apart.drew {lo hi : Nat} {w : World} {ps : List Pt} {us : List Value} (h : Apart lo hi w ps us) : Apart lo hi w.drew ps us := h.keep (Nat.le_refl _) (fun _ _ _ _ _ _ => rfl)
theorem Apart.drewS {lo : Nat} {w : World} {ps : List Pt} {us : List Value} (h : Apart lo w.heap.size w ps us) : Apart lo w.drew.heap.size w.drew ps us := h.drew

def putL (put : List Int) : List Pt := if put.length = 0 then [] else [⟨2, 0, put⟩]
def dropL (d : Int) : List Pt := if 0 < d then [⟨3, d, []⟩] else []
/-- the builder: its parts, what is to be put, what is dropped -/
def BAt (lo g : Nat) (T : TypeId) (w : World) (ps : List Pt) (put : List Int) (d : Int) : Prop :=
  ∃ v u us, Box lo g T w v u d ps us ∧ Apart lo w.heap.size w (ps ++ [⟨2, 0, put⟩]) (us ++ [u])
/-- the function returns nothing and leaves the builder so -/
def Built (lo g : Nat) (T : TypeId) (w : World) (ps : List Pt) (put : List Int) (d : Int) (e : Ending) (w' : World) : Prop := e = .returned (.tuple #[]) ∧ BAt lo g T w' ps put d ∧ Below lo w w'

theorem Apart.init {lo hi : Nat} {w : World} {ps : List Pt} {us : List Value} {p : Pt} {u : Value} (h : Apart lo hi w (ps ++ [p]) (us ++ [u])) (hl : us.length = ps.length) : Apart lo hi w ps us := by
  obtain ⟨h1, h2, h3⟩ := h
  refine ⟨hl, fun i q x hq hx => h2 i q x ?_ ?_, fun i j k a b ha hb => h3 i j k a b ?_ ?_⟩
  · rw [List.getElem?_append_left (idx_lt hq)]; exact hq
  · rw [List.getElem?_append_left (idx_lt hx)]; exact hx
  · rw [List.getElem?_append_left (idx_lt ha)]; exact ha
  · rw [List.getElem?_append_left (idx_lt hb)]; exact hb
theorem Apart.last {lo hi : Nat} {w : World} {ps : List Pt} {us : List Value} {p : Pt} {u : Value} (h : Apart lo hi w (ps ++ [p]) (us ++ [u])) (hl : us.length = ps.length) : w.ownsRow lo 3 1 u p.signs.length (p.signs.map (Value.int .i64)) := by
  have := (h.2.1 ps.length p u (by simp) (by rw [← hl]; simp)).1
  exact this
theorem Apart.bare {lo hi : Nat} {w : World} {ps : List Pt} {us : List Value} (k n : Int) (h : Apart lo hi w ps us) : Apart lo hi w (ps ++ [⟨k, n, []⟩]) (us ++ [.slice none 0 0]) :=
  h.snoc (World.ownsRow_nil _ _ _ _) (fun k hk => by simp [Value.ownBlock] at hk) (fun i v k _ _ he => by simp [Value.ownBlock] at he)

/-- the builder with nothing pending -/
def BNil (lo g : Nat) (T : TypeId) (w : World) (ps : List Pt) : Prop := ∃ v us, Box lo g T w v (.slice none 0 0) 0 ps us ∧ Apart lo w.heap.size w ps us
theorem BNil.at_ {lo g : Nat} {T : TypeId} {w : World} {ps : List Pt} (h : BNil lo g T w ps) : BAt lo g T w ps [] 0 := by
  obtain ⟨v, us, hx, ha⟩ := h
  exact ⟨v, _, us, hx, Apart.bare 2 0 ha⟩
def Flushed (lo g : Nat) (T : TypeId) (w : World) (ps : List Pt) (e : Ending) (w' : World) : Prop := e = .returned (.tuple #[]) ∧ BNil lo g T w' ps ∧ Below lo w w'
theorem Box.clear {lo g : Nat} {T : TypeId} {w : World} {v u : Value} {d : Int} {ps : List Pt} {us : List Value} (h : Box lo g T w v u d ps us) (hT1 : ¬ T = 3) (hT2 : ¬ T = 53) (ha : Apart lo w.heap.size w ps us) :
    BNil lo g T ((w.setCell ⟨g, 1, none⟩ (.slice none 0 0)).setCell ⟨g, 2, none⟩ (.int .i64 0)) ps ∧ Below lo w ((w.setCell ⟨g, 1, none⟩ (.slice none 0 0)).setCell ⟨g, 2, none⟩ (.int .i64 0)) := by
  refine ⟨⟨v, us, ⟨?_, ?_, h.len, h.low⟩, ?_⟩, ((Below.refl _ _).setCell h.low _).setCell h.low _⟩
  · rw [heap_setCell_same _ _ _ _ _ _ (heap_setCell_same _ _ _ _ _ _ h.box)]; rfl
  · exact ownsRow_setCell_other (ownsRow_setCell_other h.row (own_far h.row h.box hT2) _) (own_far h.row h.box hT2) _
  · refine ha.keep (by simp) (fun i x k hx hk1 hk2 => ?_)
    obtain ⟨q, hq⟩ := idx_some (l := ps) (i := i) (by rw [← ha.1]; exact idx_lt hx)
    have hkg : ¬ k = g := fun e => own_far (ha.2.1 i q x hq hx).1 h.box hT1 (by rw [hk1, e])
    rw [Below.heap_setCell _ _ _ _ hkg, Below.heap_setCell _ _ _ _ hkg]

/-- the blocks of a builder lie in S -/
def OwnS (S : Nat → Prop) (g : Nat) (v : Value) (us : List Value) : Prop := S g ∧ (∀ k, v.ownBlock = some k → S k) ∧ ∀ (i k : Nat) (x : Value), us[i]? = some x → x.ownBlock = some k → S k
/-- blocks outside S are as they were -/
structure Fr (S : Nat → Prop) (w w' : World) : Prop where
  size : w.heap.size ≤ w'.heap.size
  block : ∀ b, b < w.heap.size → ¬ S b → w'.heap[b]? = w.heap[b]?
theorem Fr.refl (S : Nat → Prop) (w : World) : Fr S w w := ⟨Nat.le_refl _, fun _ _ _ => rfl⟩
theorem Fr.trans {S : Nat → Prop} {a b c : World} (h : Fr S a b) (k : Fr S b c) : Fr S a c := ⟨Nat.le_trans h.size k.size, fun i hi hs => (k.block i (Nat.lt_of_lt_of_le hi h.size) hs).trans (h.block i hi hs)⟩
theorem Fr.setCell {S : Nat → Prop} {a w : World} (h : Fr S a w) {p : Addr} (hp : S p.block) (u : Value) : Fr S a (w.setCell p u) :=
  h.trans ⟨by simp [World.setCell], fun b _ hb => Below.heap_setCell _ _ _ _ (fun e => hb (by rw [e]; exact hp))⟩
theorem Fr.drew {S : Nat → Prop} {a w : World} (h : Fr S a w) : Fr S a w.drew := h.trans ⟨Nat.le_refl _, fun _ _ _ => rfl⟩
theorem Fr.below {S : Nat → Prop} {w w' : World} (h : Below w.heap.size w w') : Fr S w w' := ⟨h.size, fun b hb _ => h.block b hb⟩
theorem Fr.grown {S : Nat → Prop} {a w w' : World} {r : Option Nat} (h : Fr S a w) (hg : w.grownBy w' r) (hr : ∀ k, r = some k → S k) : Fr S a w' :=
  h.trans ⟨hg.size, fun b hb hs => hg.block b hb (fun e => hs (hr b e.symm))⟩
theorem OwnS.push {S : Nat → Prop} {g gg cap n H : Nat} {v u' : Value} {us : List Value} (h : OwnS S g v us) (hu : ∀ k, u'.ownBlock = some k → S k) (hat : v.ownBlock = some gg ∨ gg = H) (hH : S H) : OwnS S g (.slice (some ⟨gg, 0, none⟩) n cap) (us ++ [u']) := by
  refine ⟨h.1, fun k hk => ?_, fun i k x hx hk => ?_⟩
  · have e : gg = k := by simpa [Value.ownBlock] using hk
    subst e
    rcases hat with e | e
    · exact h.2.1 _ e
    · rw [e]; exact hH
  · by_cases hi : i < us.length
    · rw [List.getElem?_append_left hi] at hx
      exact h.2.2 i k x hx hk
    · rw [List.getElem?_append_right (by omega)] at hx
      have hx' : i - us.length = 0 := by
        have := idx_lt hx
        simp at this
        omega
      rw [hx'] at hx
      simp at hx
      subst hx
      exact hu k hk
theorem OwnS.init {S : Nat → Prop} {g : Nat} {v u : Value} {us : List Value} (h : OwnS S g v (us ++ [u])) : OwnS S g v us := ⟨h.1, h.2.1, fun i k x hx hk => h.2.2 i k x (by rw [List.getElem?_append_left (idx_lt hx)]; exact hx) hk⟩
theorem OwnS.last {S : Nat → Prop} {g : Nat} {v u : Value} {us : List Value} (h : OwnS S g v (us ++ [u])) : ∀ k, u.ownBlock = some k → S k := fun k hk => h.2.2 us.length k u (by simp) hk
theorem nil_own {S : Nat → Prop} : ∀ k, (Value.slice none 0 0).ownBlock = some k → S k := fun k hk => by simp [Value.ownBlock] at hk
theorem push_fr {S : Nat → Prop} {g : Nat} {v : Value} {us : List Value} {w w0 w1 : World} (h : OwnS S g v us) (h0 : Below w.heap.size w w0) (hg : w0.grownBy w1 v.ownBlock) (x : Value) : Fr S w (w1.setCell ⟨g, 0, none⟩ x) :=
  ((Fr.below h0).grown hg (fun k hk => h.2.1 k hk)).setCell h.1 x
/-- the builder: its parts, what is to be put, what is dropped; its blocks lie in S -/
def BAtS (S : Nat → Prop) (lo g : Nat) (T : TypeId) (w : World) (ps : List Pt) (put : List Int) (d : Int) : Prop :=
  ∃ v u us, Box lo g T w v u d ps us ∧ Apart lo w.heap.size w (ps ++ [⟨2, 0, put⟩]) (us ++ [u]) ∧ OwnS S g v (us ++ [u])
def BNilS (S : Nat → Prop) (lo g : Nat) (T : TypeId) (w : World) (ps : List Pt) : Prop := ∃ v us, Box lo g T w v (.slice none 0 0) 0 ps us ∧ Apart lo w.heap.size w ps us ∧ OwnS S g v us
def FlushedS (S : Nat → Prop) (lo g : Nat) (T : TypeId) (w : World) (ps : List Pt) (e : Ending) (w' : World) : Prop := e = .returned (.tuple #[]) ∧ BNilS S lo g T w' ps ∧ Below lo w w' ∧ Fr S w w'
def BuiltS (S : Nat → Prop) (lo g : Nat) (T : TypeId) (w : World) (ps : List Pt) (put : List Int) (d : Int) (e : Ending) (w' : World) : Prop := e = .returned (.tuple #[]) ∧ BAtS S lo g T w' ps put d ∧ Below lo w w' ∧ Fr S w w'
theorem BAt.all {lo g : Nat} {T : TypeId} {w : World} {ps : List Pt} {put : List Int} {d : Int} (h : BAt lo g T w ps put d) : BAtS (fun _ => True) lo g T w ps put d := by
  obtain ⟨v, u, us, hx, ha⟩ := h
  exact ⟨v, u, us, hx, ha, trivial, fun _ _ => trivial, fun _ _ _ _ _ => trivial⟩
theorem BAtS.any {S : Nat → Prop} {lo g : Nat} {T : TypeId} {w : World} {ps : List Pt} {put : List Int} {d : Int} (h : BAtS S lo g T w ps put d) : BAt lo g T w ps put d := by
  obtain ⟨v, u, us, hx, ha, _⟩ := h
  exact ⟨v, u, us, hx, ha⟩
theorem FlushedS.any {S : Nat → Prop} {lo g : Nat} {T : TypeId} {w w' : World} {ps : List Pt} {e : Ending} (h : FlushedS S lo g T w ps e w') : Flushed lo g T w ps e w' := by
  obtain ⟨h1, ⟨v, us, hx, ha, _⟩, b, _⟩ := h
  exact ⟨h1, ⟨v, us, hx, ha⟩, b⟩
theorem BuiltS.any {S : Nat → Prop} {lo g : Nat} {T : TypeId} {w w' : World} {ps : List Pt} {put : List Int} {d : Int} {e : Ending} (h : BuiltS S lo g T w ps put d e w') : Built lo g T w ps put d e w' := ⟨h.1, h.2.1.any, h.2.2.1⟩
theorem BNilS.at_ {S : Nat → Prop} {lo g : Nat} {T : TypeId} {w : World} {ps : List Pt} (h : BNilS S lo g T w ps) : BAtS S lo g T w ps [] 0 := by
  obtain ⟨v, us, hx, ha, ho⟩ := h
  refine ⟨v, _, us, hx, Apart.bare 2 0 ha, ho.1, ho.2.1, fun i k x hxi hk => ?_⟩
  by_cases hi : i < us.length
  · rw [List.getElem?_append_left hi] at hxi
    exact ho.2.2 i k x hxi hk
  · rw [List.getElem?_append_right (by omega)] at hxi
    have hx' : i - us.length = 0 := by
      have := idx_lt hxi
      simp at this
      omega
    rw [hx'] at hxi
    simp at hxi
    subst hxi
    simp [Value.ownBlock] at hk
theorem Box.clearS {S : Nat → Prop} {lo g : Nat} {T : TypeId} {w : World} {v u : Value} {d : Int} {ps : List Pt} {us : List Value} (h : Box lo g T w v u d ps us) (hT1 : ¬ T = 3) (hT2 : ¬ T = 53) (ha : Apart lo w.heap.size w ps us) (ho : OwnS S g v us) :
    BNilS S lo g T ((w.setCell ⟨g, 1, none⟩ (.slice none 0 0)).setCell ⟨g, 2, none⟩ (.int .i64 0)) ps ∧ Below lo w ((w.setCell ⟨g, 1, none⟩ (.slice none 0 0)).setCell ⟨g, 2, none⟩ (.int .i64 0)) ∧ Fr S w ((w.setCell ⟨g, 1, none⟩ (.slice none 0 0)).setCell ⟨g, 2, none⟩ (.int .i64 0)) := by
  refine ⟨⟨v, us, ⟨?_, ?_, h.len, h.low⟩, ?_, ho⟩, ((Below.refl _ _).setCell h.low _).setCell h.low _, ((Fr.refl S w).setCell (p := ⟨g, 1, none⟩) ho.1 _).setCell (p := ⟨g, 2, none⟩) ho.1 _⟩
  · rw [heap_setCell_same _ _ _ _ _ _ (heap_setCell_same _ _ _ _ _ _ h.box)]; rfl
  · exact ownsRow_setCell_other (ownsRow_setCell_other h.row (own_far h.row h.box hT2) _) (own_far h.row h.box hT2) _
  · refine ha.keep (by simp) (fun i x k hx hk1 hk2 => ?_)
    obtain ⟨q, hq⟩ := idx_some (l := ps) (i := i) (by rw [← ha.1]; exact idx_lt hx)
    have hkg : ¬ k = g := fun e => own_far (ha.2.1 i q x hq hx).1 h.box hT1 (by rw [hk1, e])
    rw [Below.heap_setCell _ _ _ _ hkg, Below.heap_setCell _ _ _ _ hkg]

set_option maxRecDepth 100000 in
set_option maxHeartbeats 3200000 in
theorem specFlush_f (S : Nat → Prop) (lo g : Nat) (ps : List Pt) (put : List Int) (d : Int) (w : World) (hb : BAtS S lo g 63 w ps put d) (hS : ∀ b, w.heap.size ≤ b → S b) (hl : ps.length ≤ 4294967296) (hp : put.length ≤ 4294967296) :
    Calls Try.prog 68 #[.pointer (some ⟨g, 0, none⟩)] w (FlushedS S lo g 63 w (ps ++ putL put ++ dropL d)) := by
  obtain ⟨i0, hi0, hz0, hz1, hz2⟩ := info_parts part_info
  obtain ⟨v, u, us, hx, ha, hos⟩ := hb
  have HS := Lib.hid hS
  have HOS := Lib.hid hos
  clear hS hos
  have ha0 := ha.init hx.len
  obtain ⟨A, c, rfl⟩ := own_form (ha.last hx.len)
  have c0 := hx.cell0
  have c1 := hx.cell1
  have c2 := hx.cell2
  have f0 := hx.free 0
  have f1 := hx.free 1
  have f2 := hx.free 2
  have HX := Lib.hid hx
  have HA := Lib.hid ha
  have HA0 := Lib.hid ha0
  clear hx ha ha0
  by_cases hput : put.length = 0
  · have e1 : putL put = [] := by simp [putL, hput]
    rw [e1, List.append_nil]
    by_cases hd : 0 < d
    · have e2 : dropL d = [⟨3, d, []⟩] := by simp [dropL, hd]
      rw [e2]
      go_enter Try.func68, Try.ntmps68
      go_wp2_with fail
      have lg := HX.out.lt
      have hlo : lo ≤ w.heap.size := Nat.le_trans HX.out.low (Nat.le_of_lt lg)
      have hne := own_far HX.out.row HX.out.box (by decide)
      go_region_law ((refine step_append_lies _ (by rfl) (.tmp 31) (.tmp 37) 30 (by rfl) lo 53 i0 _ 3 40 Try.underlying30 hi0 hz0 hz1 hz2 rfl (by omega) v ps.length (cellsOf ps us) (by rfl) ((HX.out.row.alloc _).drew) ⟨w.heap.size, 0, none⟩ 1 1 [.int .i64 3, .int .i64 d, .slice none 0 0] (by rfl) (by rfl) (World.news_of_block (cs := #[.int .i64 3, .int .i64 d, .slice none 0 0]) (t := 53) (fr := (0, 0)) (heap_alloc_new w _)) (by simp [Value.oneCell']) (by omega) (by unfold maxLen; omega) (by omega) (by simp; omega) (w.heap.size + 1) (by simp) ?_; intro gg cap w1 hown1 hgrow hat hlt; have hf := free_grown (o := 0) HX.out.box (below_made w _) hgrow hne; have hf1 := free_grown (o := 1) HX.out.box (below_made w _) hgrow hne; have hf2 := free_grown (o := 2) HX.out.box (below_made w _) hgrow hne; have hc : w1.cell? ⟨g, 0, none⟩ = some v := cell_grown 0 HX.out.box (below_made w _) hgrow hne; have hc1 : w1.cell? ⟨g, 1, none⟩ = some (.slice A put.length c) := cell_grown 1 HX.out.box (below_made w _) hgrow hne; have hc2 : w1.cell? ⟨g, 2, none⟩ = some (.int .i64 d) := cell_grown 2 HX.out.box (below_made w _) hgrow hne))
      all_goals
        obtain ⟨hx2, ha2, b2⟩ := Box.push (p := ⟨3, d, []⟩) HX.out (by decide) (by decide) (Apart.bare 3 d HA0.out) (below_made w _) hown1 hgrow
        have HO2 := Lib.hid (HOS.out.init.push (n := ps.length + 1) (cap := cap) nil_own hat (HS.out _ (by omega)))
        have HR2 := Lib.hid (push_fr HOS.out.init (below_made w _) hgrow (.slice (some ⟨gg, 0, none⟩) (ps.length + 1) cap))
        have HX2 := Lib.hid hx2
        have HA2 := Lib.hid ha2
        have HB2 := Lib.hid b2
        clear hx2 ha2 b2
        go_wp2
        go_end0
        obtain ⟨r1, r2, r3⟩ := HX2.out.clearS (by decide) (by decide) HA2.out HO2.out
        exact ⟨rfl, r1, HB2.out.trans r2, HR2.out.trans r3⟩

    · have e2 : dropL d = [] := by simp [dropL]; omega
      rw [e2, List.append_nil]
      go_enter Try.func68, Try.ntmps68
      go_wp2_with fail
      go_end0
      obtain ⟨r1, r2, r3⟩ := HX.out.clearS (by decide) (by decide) HA0.out HOS.out.init
      exact ⟨rfl, r1, r2, r3⟩
  · have hput' : (0 : Int) < (put.length : Int) := by omega
    have e1 : putL put = [⟨2, 0, put⟩] := by simp [putL, hput]
    rw [e1]
    by_cases hd : 0 < d
    · have e2 : dropL d = [⟨3, d, []⟩] := by simp [dropL, hd]
      rw [e2]
      generalize hQ : ps ++ [⟨2, 0, put⟩] ++ [⟨3, d, []⟩] = Q
      have HQ := Lib.hid hQ
      clear hQ
      go_enter Try.func68, Try.ntmps68
      go_wp2_with fail
      have lg := HX.out.lt
      have hlo : lo ≤ w.heap.size := Nat.le_trans HX.out.low (Nat.le_of_lt lg)
      have hne := own_far HX.out.row HX.out.box (by decide)
      go_region_law ((refine step_append_lies _ (by rfl) (.tmp 12) (.tmp 18) 30 (by rfl) lo 53 i0 _ 3 40 Try.underlying30 hi0 hz0 hz1 hz2 rfl (by omega) v ps.length (cellsOf ps us) (by rfl) ((HX.out.row.alloc _).drew) ⟨w.heap.size, 0, none⟩ 1 1 [.int .i64 2, .int .i64 0, .slice A put.length c] (by rfl) (by rfl) (World.news_of_block (cs := #[.int .i64 2, .int .i64 0, .slice A put.length c]) (t := 53) (fr := (0, 0)) (heap_alloc_new w _)) (by simp [Value.oneCell']) (by omega) (by unfold maxLen; omega) (by omega) (by simp; omega) (w.heap.size + 1) (by simp) ?_; intro gg cap w1 hown1 hgrow hat hlt; have hf := free_grown (o := 0) HX.out.box (below_made w _) hgrow hne; have hf1 := free_grown (o := 1) HX.out.box (below_made w _) hgrow hne; have hf2 := free_grown (o := 2) HX.out.box (below_made w _) hgrow hne; have hc : w1.cell? ⟨g, 0, none⟩ = some v := cell_grown 0 HX.out.box (below_made w _) hgrow hne; have hc1 : w1.cell? ⟨g, 1, none⟩ = some (.slice A put.length c) := cell_grown 1 HX.out.box (below_made w _) hgrow hne; have hc2 : w1.cell? ⟨g, 2, none⟩ = some (.int .i64 d) := cell_grown 2 HX.out.box (below_made w _) hgrow hne))
      all_goals

        obtain ⟨hx1, ha1, b1⟩ := Box.push (p := ⟨2, 0, put⟩) HX.out (by decide) (by decide) HA.out (below_made w _) hown1 hgrow
        have HO1 := Lib.hid (HOS.out.init.push (n := ps.length + 1) (cap := cap) HOS.out.last hat (HS.out _ (by omega)))
        have HR1 := Lib.hid (push_fr HOS.out.init (below_made w _) hgrow (.slice (some ⟨gg, 0, none⟩) (ps.length + 1) cap))
        clear hown1 hgrow hat hlt hlo hne lg c0 c1 c2 f0 f1 f2
        have HX1 := Lib.hid hx1
        have HA1 := Lib.hid ha1
        have HB1 := Lib.hid b1
        clear hx1 ha1 b1
        go_wp2_with fail
        clear hf hf1 hf2 hc hc1 hc2
        generalize (Value.slice (some ⟨gg, 0, none⟩) (ps.length + 1) cap) = v1 at *
        generalize w1.setCell ⟨g, 0, none⟩ v1 = W1 at *
        have c0 := HX1.out.cell0
        have c1 := HX1.out.cell1
        have c2 := HX1.out.cell2
        have f0 := HX1.out.free 0
        have f1 := HX1.out.free 1
        have f2 := HX1.out.free 2
        generalize hps : ps ++ [⟨2, 0, put⟩] = ps1 at *
        have hl1 : ps1.length ≤ 4294967297 := by rw [← hps]; simp; omega
        clear hps
        generalize us ++ [Value.slice A put.length c] = us1 at *
        have lg := HX1.out.lt
        have hlo : lo ≤ W1.heap.size := Nat.le_trans HX1.out.low (Nat.le_of_lt lg)
        have hne := own_far HX1.out.row HX1.out.box (by decide)
        go_region_law ((refine step_append_lies _ (by rfl) (.tmp 31) (.tmp 37) 30 (by rfl) lo 53 i0 _ 3 40 Try.underlying30 hi0 hz0 hz1 hz2 rfl (by omega) v1 ps1.length (cellsOf ps1 us1) (by rfl) ((HX1.out.row.alloc _).drew) ⟨W1.heap.size, 0, none⟩ 1 1 [.int .i64 3, .int .i64 d, .slice none 0 0] (by rfl) (by rfl) (World.news_of_block (cs := #[.int .i64 3, .int .i64 d, .slice none 0 0]) (t := 53) (fr := (0, 0)) (heap_alloc_new W1 _)) (by simp [Value.oneCell']) (by omega) (by unfold maxLen; omega) (by omega) (by simp; omega) (W1.heap.size + 1) (by simp) ?_; intro gg cap w1 hown1 hgrow hat hlt; have hf := free_grown (o := 0) HX1.out.box (below_made W1 _) hgrow hne; have hf1 := free_grown (o := 1) HX1.out.box (below_made W1 _) hgrow hne; have hf2 := free_grown (o := 2) HX1.out.box (below_made W1 _) hgrow hne; have hc : w1.cell? ⟨g, 0, none⟩ = some v1 := cell_grown 0 HX1.out.box (below_made W1 _) hgrow hne; have hc1 : w1.cell? ⟨g, 1, none⟩ = some (.slice A put.length c) := cell_grown 1 HX1.out.box (below_made W1 _) hgrow hne; have hc2 : w1.cell? ⟨g, 2, none⟩ = some (.int .i64 d) := cell_grown 2 HX1.out.box (below_made W1 _) hgrow hne))
        all_goals
          obtain ⟨hx2, ha2, b2⟩ := Box.push (p := ⟨3, d, []⟩) HX1.out (by decide) (by decide) (Apart.bare 3 d HA1.out) (below_made W1 _) hown1 hgrow
          have HO2 := Lib.hid (HO1.out.push (n := ps1.length + 1) (cap := cap) nil_own hat (HS.out _ (by have := HR1.out.size; omega)))
          have HR2 := Lib.hid (push_fr HO1.out (below_made W1 _) hgrow (.slice (some ⟨gg, 0, none⟩) (ps1.length + 1) cap))
          have HX2 := Lib.hid hx2
          have HA2 := Lib.hid ha2
          have HB2 := Lib.hid b2
          clear hx2 ha2 b2
          go_wp2
          go_end0
          obtain ⟨r1, r2, r3⟩ := HX2.out.clearS (by decide) (by decide) HA2.out HO2.out
          exact ⟨rfl, by rw [← HQ.out]; exact r1, HB1.out.trans (HB2.out.trans r2), HR1.out.trans (HR2.out.trans r3)⟩

    · have e2 : dropL d = [] := by simp [dropL]; omega
      rw [e2, List.append_nil]
      go_enter Try.func68, Try.ntmps68
      go_wp2_with fail
      have lg := HX.out.lt
      have hlo : lo ≤ w.heap.size := Nat.le_trans HX.out.low (Nat.le_of_lt lg)
      have hne := own_far HX.out.row HX.out.box (by decide)
      go_region_law ((refine step_append_lies _ (by rfl) (.tmp 12) (.tmp 18) 30 (by rfl) lo 53 i0 _ 3 40 Try.underlying30 hi0 hz0 hz1 hz2 rfl (by omega) v ps.length (cellsOf ps us) (by rfl) ((HX.out.row.alloc _).drew) ⟨w.heap.size, 0, none⟩ 1 1 [.int .i64 2, .int .i64 0, .slice A put.length c] (by rfl) (by rfl) (World.news_of_block (cs := #[.int .i64 2, .int .i64 0, .slice A put.length c]) (t := 53) (fr := (0, 0)) (heap_alloc_new w _)) (by simp [Value.oneCell']) (by omega) (by unfold maxLen; omega) (by omega) (by simp; omega) (w.heap.size + 1) (by simp) ?_; intro gg cap w1 hown1 hgrow hat hlt; have hf := free_grown (o := 0) HX.out.box (below_made w _) hgrow hne; have hf1 := free_grown (o := 1) HX.out.box (below_made w _) hgrow hne; have hf2 := free_grown (o := 2) HX.out.box (below_made w _) hgrow hne; have hc : w1.cell? ⟨g, 0, none⟩ = some v := cell_grown 0 HX.out.box (below_made w _) hgrow hne; have hc1 : w1.cell? ⟨g, 1, none⟩ = some (.slice A put.length c) := cell_grown 1 HX.out.box (below_made w _) hgrow hne; have hc2 : w1.cell? ⟨g, 2, none⟩ = some (.int .i64 d) := cell_grown 2 HX.out.box (below_made w _) hgrow hne))
      all_goals

        obtain ⟨hx1, ha1, b1⟩ := Box.push (p := ⟨2, 0, put⟩) HX.out (by decide) (by decide) HA.out (below_made w _) hown1 hgrow
        have HO2 := Lib.hid (HOS.out.init.push (n := ps.length + 1) (cap := cap) HOS.out.last hat (HS.out _ (by omega)))
        have HR2 := Lib.hid (push_fr HOS.out.init (below_made w _) hgrow (.slice (some ⟨gg, 0, none⟩) (ps.length + 1) cap))
        have HX2 := Lib.hid hx1
        have HA2 := Lib.hid ha1
        have HB2 := Lib.hid b1
        clear hx1 ha1 b1
        go_wp2
        go_end0
        obtain ⟨r1, r2, r3⟩ := HX2.out.clearS (by decide) (by decide) HA2.out HO2.out
        exact ⟨rfl, r1, HB2.out.trans r2, HR2.out.trans r3⟩
theorem specFlush_any (lo g : Nat) (ps : List Pt) (put : List Int) (d : Int) (w : World) (hb : BAt lo g 63 w ps put d) (hl : ps.length ≤ 4294967296) (hp : put.length ≤ 4294967296) :
    Calls Try.prog 68 #[.pointer (some ⟨g, 0, none⟩)] w (Flushed lo g 63 w (ps ++ putL put ++ dropL d)) :=
  (specFlush_f (fun _ => True) lo g ps put d w hb.all (fun _ _ => trivial) hl hp).mono fun e w' h => h.any
end Go.Proofs.Ytemhhjagdfkmfaa.low
