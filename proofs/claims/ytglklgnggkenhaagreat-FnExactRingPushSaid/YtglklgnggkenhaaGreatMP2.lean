/-
  Texts that the proofs over this seat rest on, one behind the other (2 of 3).
-/
import Derived.Test.YtglklgnggkenhaaGreatMP1
import Derived.Deep.RegionLaw
import Derived.StillTailTactics
import Derived.Deep.RegionHeld3
import Derived.Deep.AppendLies
import Derived.Deep.RegionHeld
set_option maxHeartbeats 12800000
set_option maxRecDepth 1000000
namespace Go.Proofs.YtglklgnggkenhaaGreat.low
open Go.RowKit
set_option linter.unusedVariables false
theorem free_grown {w w0 w1 : World} {g o : Nat} {cs : Array Value} {T : TypeId} {r : Option Nat} (hg : w.heap[g]? = some (.cells cs T (0, 0))) (h0 : Below w.heap.size w w0) (hgrow : w0.grownBy w1 r) (hne : ¬ r = some g) : w1.frozen? ⟨g, o, none⟩ = false := by
 have hlt := lt_of_some hg
 have : w1.heap[g]? = some (.cells cs T (0, 0)) := by rw [hgrow.block g (Nat.lt_of_lt_of_le hlt h0.size) (fun e => hne e.symm), h0.block g hlt]; exact hg
 simp [World.frozen?, this]
theorem below_made (w : World) (o : Obj) : Below w.heap.size w (w.alloc o).drew := ((Below.refl _ _).alloc (Nat.le_refl _) o).drew
theorem cell_grown {w w0 w1 : World} {g : Nat} {cs : Array Value} {T : TypeId} {r : Option Nat} (o : Nat) (hg : w.heap[g]? = some (.cells cs T (0, 0))) (h0 : Below w.heap.size w w0) (hgrow : w0.grownBy w1 r) (hne : ¬ r = some g) : w1.cell? ⟨g, o, none⟩ = cs[o]? := by
 have hlt := lt_of_some hg
 have : w1.heap[g]? = some (.cells cs T (0, 0)) := by rw [hgrow.block g (Nat.lt_of_lt_of_le hlt h0.size) (fun e => hne e.symm), h0.block g hlt]; exact hg
 exact cell_of_row _ _ o _ _ _ this
theorem Box.drew {lo g : Nat} {T : TypeId} {w : World} {v u : Value} {d : Int} {ps : List Pt} {us : List Value} (h : Box lo g T w v u d ps us) : Box lo g T w.drew v u d ps us := ⟨h.box, h.row.drew, h.len, h.low⟩
theorem Apart.drew {lo hi : Nat} {w : World} {ps : List Pt} {us : List Value} (h : Apart lo hi w ps us) : Apart lo hi w.drew ps us := h.keep (Nat.le_refl _) (fun _ _ _ _ _ _ => rfl)
theorem Apart.drewS {lo : Nat} {w : World} {ps : List Pt} {us : List Value} (h : Apart lo w.heap.size w ps us) : Apart lo w.drew.heap.size w.drew ps us := h.drew
def putL (put : List Int) : List Pt := if put.length = 0 then [] else [⟨2, 0, put⟩]
def dropL (d : Int) : List Pt := if 0 < d then [⟨3, d, []⟩] else []
def BAt (lo g : Nat) (T : TypeId) (w : World) (ps : List Pt) (put : List Int) (d : Int) : Prop :=
 ∃ v u us, Box lo g T w v u d ps us ∧ Apart lo w.heap.size w (ps ++ [⟨2, 0, put⟩]) (us ++ [u])
def Built (lo g : Nat) (T : TypeId) (w : World) (ps : List Pt) (put : List Int) (d : Int) (e : Ending) (w' : World) : Prop := e = .returned (.tuple #[]) ∧ BAt lo g T w' ps put d ∧ Below lo w w'
theorem Apart.init {lo hi : Nat} {w : World} {ps : List Pt} {us : List Value} {p : Pt} {u : Value} (h : Apart lo hi w (ps ++ [p]) (us ++ [u])) (hl : us.length = ps.length) : Apart lo hi w ps us := by
 obtain ⟨h1, h2, h3⟩ := h
 refine ⟨hl, fun i q x hq hx => h2 i q x ?_ ?_, fun i j k a b ha hb => h3 i j k a b ?_ ?_⟩
 ·rw [List.getElem?_append_left (idx_lt hq)]; exact hq
 ·rw [List.getElem?_append_left (idx_lt hx)]; exact hx
 ·rw [List.getElem?_append_left (idx_lt ha)]; exact ha
 ·rw [List.getElem?_append_left (idx_lt hb)]; exact hb
theorem Apart.last {lo hi : Nat} {w : World} {ps : List Pt} {us : List Value} {p : Pt} {u : Value} (h : Apart lo hi w (ps ++ [p]) (us ++ [u])) (hl : us.length = ps.length) : w.ownsRow lo 3 1 u p.signs.length (p.signs.map (Value.int .i64)) := by
 have := (h.2.1 ps.length p u (by simp) (by rw [← hl]; simp)).1
 exact this
theorem Apart.bare {lo hi : Nat} {w : World} {ps : List Pt} {us : List Value} (k n : Int) (h : Apart lo hi w ps us) : Apart lo hi w (ps ++ [⟨k, n, []⟩]) (us ++ [.slice none 0 0]) :=
 h.snoc (World.ownsRow_nil _ _ _ _) (fun k hk => by simp [Value.ownBlock] at hk) (fun i v k _ _ he => by simp [Value.ownBlock] at he)
def BNil (lo g : Nat) (T : TypeId) (w : World) (ps : List Pt) : Prop := ∃ v us, Box lo g T w v (.slice none 0 0) 0 ps us ∧ Apart lo w.heap.size w ps us
theorem BNil.at_ {lo g : Nat} {T : TypeId} {w : World} {ps : List Pt} (h : BNil lo g T w ps) : BAt lo g T w ps [] 0 := by
 obtain ⟨v, us, hx, ha⟩ := h
 exact ⟨v, _, us, hx, Apart.bare 2 0 ha⟩
def Flushed (lo g : Nat) (T : TypeId) (w : World) (ps : List Pt) (e : Ending) (w' : World) : Prop := e = .returned (.tuple #[]) ∧ BNil lo g T w' ps ∧ Below lo w w'
theorem Box.clear {lo g : Nat} {T : TypeId} {w : World} {v u : Value} {d : Int} {ps : List Pt} {us : List Value} (h : Box lo g T w v u d ps us) (hT1 : ¬ T = 3) (hT2 : ¬ T = 72) (ha : Apart lo w.heap.size w ps us) :
  BNil lo g T ((w.setCell ⟨g, 1, none⟩ (.slice none 0 0)).setCell ⟨g, 2, none⟩ (.int .i64 0)) ps ∧ Below lo w ((w.setCell ⟨g, 1, none⟩ (.slice none 0 0)).setCell ⟨g, 2, none⟩ (.int .i64 0)) := by
 refine ⟨⟨v, us, ⟨?_, ?_, h.len, h.low⟩, ?_⟩, ((Below.refl _ _).setCell h.low _).setCell h.low _⟩
 ·rw [heap_setCell_same _ _ _ _ _ _ (heap_setCell_same _ _ _ _ _ _ h.box)]; rfl
 ·exact ownsRow_setCell_other (ownsRow_setCell_other h.row (own_far h.row h.box hT2) _) (own_far h.row h.box hT2) _
 ·refine ha.keep (by simp) (fun i x k hx hk1 hk2 => ?_)
  obtain ⟨q, hq⟩ := idx_some (l := ps) (i := i) (by rw [← ha.1]; exact idx_lt hx)
  have hkg : ¬ k = g := fun e => own_far (ha.2.1 i q x hq hx).1 h.box hT1 (by rw [hk1, e])
  rw [Below.heap_setCell _ _ _ _ hkg, Below.heap_setCell _ _ _ _ hkg]
def OwnS (S : Nat → Prop) (g : Nat) (v : Value) (us : List Value) : Prop := S g ∧ (∀ k, v.ownBlock = some k → S k) ∧ ∀ (i k : Nat) (x : Value), us[i]? = some x → x.ownBlock = some k → S k
structure Fr (S : Nat → Prop) (w w' : World) : Prop where
 size : w.heap.size ≤ w'.heap.size
 block : ∀ b, b < w.heap.size → ¬ S b → w'.heap[b]? = w.heap[b]?
theorem Fr.refl (S : Nat → Prop) (w : World) : Fr S w w := ⟨Nat.le_refl _, fun _ _ _ => rfl⟩
theorem Fr.trans {S : Nat → Prop} {a b c : World} (h : Fr S a b) (k : Fr S b c) : Fr S a c := ⟨Nat.le_trans h.size k.size, fun i hi hs => (k.block i (Nat.lt_of_lt_of_le hi h.size) hs).trans (h.block i hi hs)⟩
theorem Fr.setCell {S : Nat → Prop} {a w : World} (h : Fr S a w) {p : Addr} (hp : S p.block) (u : Value) : Fr S a (w.setCell p u) :=
 h.trans ⟨by simp [World.setCell], fun b _ hb => Below.heap_setCell _ _ _ _ (fun e => hb (by rw [e]; exact hp))⟩
theorem Fr.drew {S : Nat → Prop} {a w : World} (h : Fr S a w) : Fr S a w.drew := h.trans ⟨Nat.le_refl _, fun _ _ _ => rfl⟩
theorem Fr.below {S : Nat → Prop} {w w' : World} (h : Below w.heap.size w w') : Fr S w w' := ⟨h.size, fun b hb _ => h.block b hb⟩
theorem Fr.grown {S : Nat → Prop} {a w w' : World} {r : Option Nat} (h : Fr S a w) (hg : w.grownBy w' r) (hr : ∀ k, r = some k → S k) : Fr S a w' :=
 h.trans ⟨hg.size, fun b hb hs => hg.block b hb (fun e => hs (hr b e.symm))⟩
theorem OwnS.push {S : Nat → Prop} {g gg cap n H : Nat} {v u' : Value} {us : List Value} (h : OwnS S g v us) (hu : ∀ k, u'.ownBlock = some k → S k) (hat : v.ownBlock = some gg ∨ gg = H) (hH : S H) : OwnS S g (.slice (some ⟨gg, 0, none⟩) n cap) (us ++ [u']) := by
 refine ⟨h.1, fun k hk => ?_, fun i k x hx hk => ?_⟩
 ·have e : gg = k := by simpa [Value.ownBlock] using hk
  subst e
  rcases hat with e | e
  ·exact h.2.1 _ e
  ·rw [e]; exact hH
 ·by_cases hi : i < us.length
  ·rw [List.getElem?_append_left hi] at hx
   exact h.2.2 i k x hx hk
  ·rw [List.getElem?_append_right (by omega)] at hx
   have hx' : i - us.length = 0 := by
    have := idx_lt hx
    simp at this
    omega
   rw [hx'] at hx
   simp at hx
   subst hx
   exact hu k hk
theorem OwnS.init {S : Nat → Prop} {g : Nat} {v u : Value} {us : List Value} (h : OwnS S g v (us ++ [u])) : OwnS S g v us := ⟨h.1, h.2.1, fun i k x hx hk => h.2.2 i k x (by rw [List.getElem?_append_left (idx_lt hx)]; exact hx) hk⟩
theorem OwnS.last {S : Nat → Prop} {g : Nat} {v u : Value} {us : List Value} (h : OwnS S g v (us ++ [u])) : ∀ k, u.ownBlock = some k → S k := fun k hk => h.2.2 us.length k u (by simp) hk
theorem nil_own {S : Nat → Prop} : ∀ k, (Value.slice none 0 0).ownBlock = some k → S k := fun k hk => by simp [Value.ownBlock] at hk
theorem push_fr {S : Nat → Prop} {g : Nat} {v : Value} {us : List Value} {w w0 w1 : World} (h : OwnS S g v us) (h0 : Below w.heap.size w w0) (hg : w0.grownBy w1 v.ownBlock) (x : Value) : Fr S w (w1.setCell ⟨g, 0, none⟩ x) :=
 ((Fr.below h0).grown hg (fun k hk => h.2.1 k hk)).setCell h.1 x
def BAtS (S : Nat → Prop) (lo g : Nat) (T : TypeId) (w : World) (ps : List Pt) (put : List Int) (d : Int) : Prop :=
 ∃ v u us, Box lo g T w v u d ps us ∧ Apart lo w.heap.size w (ps ++ [⟨2, 0, put⟩]) (us ++ [u]) ∧ OwnS S g v (us ++ [u])
def BNilS (S : Nat → Prop) (lo g : Nat) (T : TypeId) (w : World) (ps : List Pt) : Prop := ∃ v us, Box lo g T w v (.slice none 0 0) 0 ps us ∧ Apart lo w.heap.size w ps us ∧ OwnS S g v us
def FlushedS (S : Nat → Prop) (lo g : Nat) (T : TypeId) (w : World) (ps : List Pt) (e : Ending) (w' : World) : Prop := e = .returned (.tuple #[]) ∧ BNilS S lo g T w' ps ∧ Below lo w w' ∧ Fr S w w'
def BuiltS (S : Nat → Prop) (lo g : Nat) (T : TypeId) (w : World) (ps : List Pt) (put : List Int) (d : Int) (e : Ending) (w' : World) : Prop := e = .returned (.tuple #[]) ∧ BAtS S lo g T w' ps put d ∧ Below lo w w' ∧ Fr S w w'
theorem BAt.all {lo g : Nat} {T : TypeId} {w : World} {ps : List Pt} {put : List Int} {d : Int} (h : BAt lo g T w ps put d) : BAtS (fun _ => True) lo g T w ps put d := by
 obtain ⟨v, u, us, hx, ha⟩ := h
 exact ⟨v, u, us, hx, ha, trivial, fun _ _ => trivial, fun _ _ _ _ _ => trivial⟩
theorem BAtS.any {S : Nat → Prop} {lo g : Nat} {T : TypeId} {w : World} {ps : List Pt} {put : List Int} {d : Int} (h : BAtS S lo g T w ps put d) : BAt lo g T w ps put d := by
 obtain ⟨v, u, us, hx, ha, _⟩ := h
 exact ⟨v, u, us, hx, ha⟩
theorem FlushedS.any {S : Nat → Prop} {lo g : Nat} {T : TypeId} {w w' : World} {ps : List Pt} {e : Ending} (h : FlushedS S lo g T w ps e w') : Flushed lo g T w ps e w' := by
 obtain ⟨h1, ⟨v, us, hx, ha, _⟩, b, _⟩ := h
 exact ⟨h1, ⟨v, us, hx, ha⟩, b⟩
theorem BuiltS.any {S : Nat → Prop} {lo g : Nat} {T : TypeId} {w w' : World} {ps : List Pt} {put : List Int} {d : Int} {e : Ending} (h : BuiltS S lo g T w ps put d e w') : Built lo g T w ps put d e w' := ⟨h.1, h.2.1.any, h.2.2.1⟩
theorem BNilS.at_ {S : Nat → Prop} {lo g : Nat} {T : TypeId} {w : World} {ps : List Pt} (h : BNilS S lo g T w ps) : BAtS S lo g T w ps [] 0 := by
 obtain ⟨v, us, hx, ha, ho⟩ := h
 refine ⟨v, _, us, hx, Apart.bare 2 0 ha, ho.1, ho.2.1, fun i k x hxi hk => ?_⟩
 by_cases hi : i < us.length
 ·rw [List.getElem?_append_left hi] at hxi
  exact ho.2.2 i k x hxi hk
 ·rw [List.getElem?_append_right (by omega)] at hxi
  have hx' : i - us.length = 0 := by
   have := idx_lt hxi
   simp at this
   omega
  rw [hx'] at hxi
  simp at hxi
  subst hxi
  simp [Value.ownBlock] at hk
theorem Box.clearS {S : Nat → Prop} {lo g : Nat} {T : TypeId} {w : World} {v u : Value} {d : Int} {ps : List Pt} {us : List Value} (h : Box lo g T w v u d ps us) (hT1 : ¬ T = 3) (hT2 : ¬ T = 72) (ha : Apart lo w.heap.size w ps us) (ho : OwnS S g v us) :
  BNilS S lo g T ((w.setCell ⟨g, 1, none⟩ (.slice none 0 0)).setCell ⟨g, 2, none⟩ (.int .i64 0)) ps ∧ Below lo w ((w.setCell ⟨g, 1, none⟩ (.slice none 0 0)).setCell ⟨g, 2, none⟩ (.int .i64 0)) ∧ Fr S w ((w.setCell ⟨g, 1, none⟩ (.slice none 0 0)).setCell ⟨g, 2, none⟩ (.int .i64 0)) := by
 refine ⟨⟨v, us, ⟨?_, ?_, h.len, h.low⟩, ?_, ho⟩, ((Below.refl _ _).setCell h.low _).setCell h.low _, ((Fr.refl S w).setCell (p := ⟨g, 1, none⟩) ho.1 _).setCell (p := ⟨g, 2, none⟩) ho.1 _⟩
 ·rw [heap_setCell_same _ _ _ _ _ _ (heap_setCell_same _ _ _ _ _ _ h.box)]; rfl
 ·exact ownsRow_setCell_other (ownsRow_setCell_other h.row (own_far h.row h.box hT2) _) (own_far h.row h.box hT2) _
 ·refine ha.keep (by simp) (fun i x k hx hk1 hk2 => ?_)
  obtain ⟨q, hq⟩ := idx_some (l := ps) (i := i) (by rw [← ha.1]; exact idx_lt hx)
  have hkg : ¬ k = g := fun e => own_far (ha.2.1 i q x hq hx).1 h.box hT1 (by rw [hk1, e])
  rw [Below.heap_setCell _ _ _ _ hkg, Below.heap_setCell _ _ _ _ hkg]
theorem specFlush_f (S : Nat → Prop) (lo g : Nat) (ps : List Pt) (put : List Int) (d : Int) (w : World) (hb : BAtS S lo g 94 w ps put d) (hS : ∀ b, w.heap.size ≤ b → S b) (hl : ps.length ≤ 4294967296) (hp : put.length ≤ 4294967296) :
  Calls Tryz.prog 97 #[.pointer (some ⟨g, 0, none⟩)] w (FlushedS S lo g 94 w (ps ++ putL put ++ dropL d)) := by
 obtain ⟨i0, hi0, hz0, hz1, hz2⟩ := info_parts part_info
 obtain ⟨v, u, us, hx, ha, hos⟩ := hb
 have HS := Lib.hid hS
 have HOS := Lib.hid hos
 clear hS hos
 have ha0 := ha.init hx.len
 obtain ⟨A, c, rfl⟩ := own_form (ha.last hx.len)
 have c0 := hx.cell0
 have c1 := hx.cell1
 have c2 := hx.cell2
 have f0 := hx.free 0
 have f1 := hx.free 1
 have f2 := hx.free 2
 have HX := Lib.hid hx
 have HA := Lib.hid ha
 have HA0 := Lib.hid ha0
 clear hx ha ha0
 by_cases hput : put.length = 0
 ·have e1 : putL put = [] := by simp [putL, hput]
  rw [e1, List.append_nil]
  by_cases hd : 0 < d
  ·have e2 : dropL d = [⟨3, d, []⟩] := by simp [dropL, hd]
   rw [e2]
   go_enter Tryz.func97, Tryz.ntmps97
   go_wp2_with fail
   have lg := HX.out.lt
   have hlo : lo ≤ w.heap.size := Nat.le_trans HX.out.low (Nat.le_of_lt lg)
   have hne := own_far HX.out.row HX.out.box (by decide)
   go_region_law ((refine step_append_lies _ (by rfl) (.tmp 31) (.tmp 37) 35 (by rfl) lo 72 i0 _ 3 40 Tryz.underlying35 hi0 hz0 hz1 hz2 rfl (by omega) v ps.length (cellsOf ps us) (by rfl) ((HX.out.row.alloc _).drew) ⟨w.heap.size, 0, none⟩ 1 1 [.int .i64 3, .int .i64 d, .slice none 0 0] (by rfl) (by rfl) (World.news_of_block (cs := #[.int .i64 3, .int .i64 d, .slice none 0 0]) (t := 72) (fr := (0, 0)) (heap_alloc_new w _)) (by simp [Value.oneCell']) (by omega) (by unfold maxLen; omega) (by omega) (by simp; omega) (w.heap.size + 1) (by simp) ?_; intro gg cap w1 hown1 hgrow hat hlt; have hf := free_grown (o := 0) HX.out.box (below_made w _) hgrow hne; have hf1 := free_grown (o := 1) HX.out.box (below_made w _) hgrow hne; have hf2 := free_grown (o := 2) HX.out.box (below_made w _) hgrow hne; have hc : w1.cell? ⟨g, 0, none⟩ = some v := cell_grown 0 HX.out.box (below_made w _) hgrow hne; have hc1 : w1.cell? ⟨g, 1, none⟩ = some (.slice A put.length c) := cell_grown 1 HX.out.box (below_made w _) hgrow hne; have hc2 : w1.cell? ⟨g, 2, none⟩ = some (.int .i64 d) := cell_grown 2 HX.out.box (below_made w _) hgrow hne))
   all_goals
    obtain ⟨hx2, ha2, b2⟩ := Box.push (p := ⟨3, d, []⟩) HX.out (by decide) (by decide) (Apart.bare 3 d HA0.out) (below_made w _) hown1 hgrow
    have HO2 := Lib.hid (HOS.out.init.push (n := ps.length + 1) (cap := cap) nil_own hat (HS.out _ (by omega)))
    have HR2 := Lib.hid (push_fr HOS.out.init (below_made w _) hgrow (.slice (some ⟨gg, 0, none⟩) (ps.length + 1) cap))
    have HX2 := Lib.hid hx2
    have HA2 := Lib.hid ha2
    have HB2 := Lib.hid b2
    clear hx2 ha2 b2
    go_wp2
    go_end0
    obtain ⟨r1, r2, r3⟩ := HX2.out.clearS (by decide) (by decide) HA2.out HO2.out
    exact ⟨rfl, r1, HB2.out.trans r2, HR2.out.trans r3⟩
  ·have e2 : dropL d = [] := by simp [dropL]; omega
   rw [e2, List.append_nil]
   go_enter Tryz.func97, Tryz.ntmps97
   go_wp2_with fail
   go_end0
   obtain ⟨r1, r2, r3⟩ := HX.out.clearS (by decide) (by decide) HA0.out HOS.out.init
   exact ⟨rfl, r1, r2, r3⟩
 ·have hput' : (0 : Int) < (put.length : Int) := by omega
  have e1 : putL put = [⟨2, 0, put⟩] := by simp [putL, hput]
  rw [e1]
  by_cases hd : 0 < d
  ·have e2 : dropL d = [⟨3, d, []⟩] := by simp [dropL, hd]
   rw [e2]
   generalize hQ : ps ++ [⟨2, 0, put⟩] ++ [⟨3, d, []⟩] = Q
   have HQ := Lib.hid hQ
   clear hQ
   go_enter Tryz.func97, Tryz.ntmps97
   go_wp2_with fail
   have lg := HX.out.lt
   have hlo : lo ≤ w.heap.size := Nat.le_trans HX.out.low (Nat.le_of_lt lg)
   have hne := own_far HX.out.row HX.out.box (by decide)
   go_region_law ((refine step_append_lies _ (by rfl) (.tmp 12) (.tmp 18) 35 (by rfl) lo 72 i0 _ 3 40 Tryz.underlying35 hi0 hz0 hz1 hz2 rfl (by omega) v ps.length (cellsOf ps us) (by rfl) ((HX.out.row.alloc _).drew) ⟨w.heap.size, 0, none⟩ 1 1 [.int .i64 2, .int .i64 0, .slice A put.length c] (by rfl) (by rfl) (World.news_of_block (cs := #[.int .i64 2, .int .i64 0, .slice A put.length c]) (t := 72) (fr := (0, 0)) (heap_alloc_new w _)) (by simp [Value.oneCell']) (by omega) (by unfold maxLen; omega) (by omega) (by simp; omega) (w.heap.size + 1) (by simp) ?_; intro gg cap w1 hown1 hgrow hat hlt; have hf := free_grown (o := 0) HX.out.box (below_made w _) hgrow hne; have hf1 := free_grown (o := 1) HX.out.box (below_made w _) hgrow hne; have hf2 := free_grown (o := 2) HX.out.box (below_made w _) hgrow hne; have hc : w1.cell? ⟨g, 0, none⟩ = some v := cell_grown 0 HX.out.box (below_made w _) hgrow hne; have hc1 : w1.cell? ⟨g, 1, none⟩ = some (.slice A put.length c) := cell_grown 1 HX.out.box (below_made w _) hgrow hne; have hc2 : w1.cell? ⟨g, 2, none⟩ = some (.int .i64 d) := cell_grown 2 HX.out.box (below_made w _) hgrow hne))
   all_goals
    obtain ⟨hx1, ha1, b1⟩ := Box.push (p := ⟨2, 0, put⟩) HX.out (by decide) (by decide) HA.out (below_made w _) hown1 hgrow
    have HO1 := Lib.hid (HOS.out.init.push (n := ps.length + 1) (cap := cap) HOS.out.last hat (HS.out _ (by omega)))
    have HR1 := Lib.hid (push_fr HOS.out.init (below_made w _) hgrow (.slice (some ⟨gg, 0, none⟩) (ps.length + 1) cap))
    clear hown1 hgrow hat hlt hlo hne lg c0 c1 c2 f0 f1 f2
    have HX1 := Lib.hid hx1
    have HA1 := Lib.hid ha1
    have HB1 := Lib.hid b1
    clear hx1 ha1 b1
    go_wp2_with fail
    clear hf hf1 hf2 hc hc1 hc2
    generalize (Value.slice (some ⟨gg, 0, none⟩) (ps.length + 1) cap) = v1 at *
    generalize w1.setCell ⟨g, 0, none⟩ v1 = W1 at *
    have c0 := HX1.out.cell0
    have c1 := HX1.out.cell1
    have c2 := HX1.out.cell2
    have f0 := HX1.out.free 0
    have f1 := HX1.out.free 1
    have f2 := HX1.out.free 2
    generalize hps : ps ++ [⟨2, 0, put⟩] = ps1 at *
    have hl1 : ps1.length ≤ 4294967297 := by rw [← hps]; simp; omega
    clear hps
    generalize us ++ [Value.slice A put.length c] = us1 at *
    have lg := HX1.out.lt
    have hlo : lo ≤ W1.heap.size := Nat.le_trans HX1.out.low (Nat.le_of_lt lg)
    have hne := own_far HX1.out.row HX1.out.box (by decide)
    go_region_law ((refine step_append_lies _ (by rfl) (.tmp 31) (.tmp 37) 35 (by rfl) lo 72 i0 _ 3 40 Tryz.underlying35 hi0 hz0 hz1 hz2 rfl (by omega) v1 ps1.length (cellsOf ps1 us1) (by rfl) ((HX1.out.row.alloc _).drew) ⟨W1.heap.size, 0, none⟩ 1 1 [.int .i64 3, .int .i64 d, .slice none 0 0] (by rfl) (by rfl) (World.news_of_block (cs := #[.int .i64 3, .int .i64 d, .slice none 0 0]) (t := 72) (fr := (0, 0)) (heap_alloc_new W1 _)) (by simp [Value.oneCell']) (by omega) (by unfold maxLen; omega) (by omega) (by simp; omega) (W1.heap.size + 1) (by simp) ?_; intro gg cap w1 hown1 hgrow hat hlt; have hf := free_grown (o := 0) HX1.out.box (below_made W1 _) hgrow hne; have hf1 := free_grown (o := 1) HX1.out.box (below_made W1 _) hgrow hne; have hf2 := free_grown (o := 2) HX1.out.box (below_made W1 _) hgrow hne; have hc : w1.cell? ⟨g, 0, none⟩ = some v1 := cell_grown 0 HX1.out.box (below_made W1 _) hgrow hne; have hc1 : w1.cell? ⟨g, 1, none⟩ = some (.slice A put.length c) := cell_grown 1 HX1.out.box (below_made W1 _) hgrow hne; have hc2 : w1.cell? ⟨g, 2, none⟩ = some (.int .i64 d) := cell_grown 2 HX1.out.box (below_made W1 _) hgrow hne))
    all_goals
     obtain ⟨hx2, ha2, b2⟩ := Box.push (p := ⟨3, d, []⟩) HX1.out (by decide) (by decide) (Apart.bare 3 d HA1.out) (below_made W1 _) hown1 hgrow
     have HO2 := Lib.hid (HO1.out.push (n := ps1.length + 1) (cap := cap) nil_own hat (HS.out _ (by have := HR1.out.size; omega)))
     have HR2 := Lib.hid (push_fr HO1.out (below_made W1 _) hgrow (.slice (some ⟨gg, 0, none⟩) (ps1.length + 1) cap))
     have HX2 := Lib.hid hx2
     have HA2 := Lib.hid ha2
     have HB2 := Lib.hid b2
     clear hx2 ha2 b2
     go_wp2
     go_end0
     obtain ⟨r1, r2, r3⟩ := HX2.out.clearS (by decide) (by decide) HA2.out HO2.out
     exact ⟨rfl, by rw [← HQ.out]; exact r1, HB1.out.trans (HB2.out.trans r2), HR1.out.trans (HR2.out.trans r3)⟩
  ·have e2 : dropL d = [] := by simp [dropL]; omega
   rw [e2, List.append_nil]
   go_enter Tryz.func97, Tryz.ntmps97
   go_wp2_with fail
   have lg := HX.out.lt
   have hlo : lo ≤ w.heap.size := Nat.le_trans HX.out.low (Nat.le_of_lt lg)
   have hne := own_far HX.out.row HX.out.box (by decide)
   go_region_law ((refine step_append_lies _ (by rfl) (.tmp 12) (.tmp 18) 35 (by rfl) lo 72 i0 _ 3 40 Tryz.underlying35 hi0 hz0 hz1 hz2 rfl (by omega) v ps.length (cellsOf ps us) (by rfl) ((HX.out.row.alloc _).drew) ⟨w.heap.size, 0, none⟩ 1 1 [.int .i64 2, .int .i64 0, .slice A put.length c] (by rfl) (by rfl) (World.news_of_block (cs := #[.int .i64 2, .int .i64 0, .slice A put.length c]) (t := 72) (fr := (0, 0)) (heap_alloc_new w _)) (by simp [Value.oneCell']) (by omega) (by unfold maxLen; omega) (by omega) (by simp; omega) (w.heap.size + 1) (by simp) ?_; intro gg cap w1 hown1 hgrow hat hlt; have hf := free_grown (o := 0) HX.out.box (below_made w _) hgrow hne; have hf1 := free_grown (o := 1) HX.out.box (below_made w _) hgrow hne; have hf2 := free_grown (o := 2) HX.out.box (below_made w _) hgrow hne; have hc : w1.cell? ⟨g, 0, none⟩ = some v := cell_grown 0 HX.out.box (below_made w _) hgrow hne; have hc1 : w1.cell? ⟨g, 1, none⟩ = some (.slice A put.length c) := cell_grown 1 HX.out.box (below_made w _) hgrow hne; have hc2 : w1.cell? ⟨g, 2, none⟩ = some (.int .i64 d) := cell_grown 2 HX.out.box (below_made w _) hgrow hne))
   all_goals
    obtain ⟨hx1, ha1, b1⟩ := Box.push (p := ⟨2, 0, put⟩) HX.out (by decide) (by decide) HA.out (below_made w _) hown1 hgrow
    have HO2 := Lib.hid (HOS.out.init.push (n := ps.length + 1) (cap := cap) HOS.out.last hat (HS.out _ (by omega)))
    have HR2 := Lib.hid (push_fr HOS.out.init (below_made w _) hgrow (.slice (some ⟨gg, 0, none⟩) (ps.length + 1) cap))
    have HX2 := Lib.hid hx1
    have HA2 := Lib.hid ha1
    have HB2 := Lib.hid b1
    clear hx1 ha1 b1
    go_wp2
    go_end0
    obtain ⟨r1, r2, r3⟩ := HX2.out.clearS (by decide) (by decide) HA2.out HO2.out
    exact ⟨rfl, r1, HB2.out.trans r2, HR2.out.trans r3⟩
theorem run_append_zero {P : Program} {w : World} (base : Nat) (t ty e : TypeId) (i : TypeInfo) (size : Nat) (ht : P.underlying t = some (.slice e)) (hi : P.info? e = some i)
  (v : Value) (n : Nat) (xs : List Value) (hown : w.ownsRow base e size v n xs) (A : Option Addr) (c : Nat) :
  (Builtin.append_ #[t, t] ty #[v, .slice A 0 c]).run P w = .ok v w := by
 rcases hown.2 with ⟨rfl, rfl⟩ | ⟨g, cap, cur, rfl, _, _, hnc, _⟩
 ·cases A <;> simp [Builtin.append_, run_underlying ht, sizeOf, typeInfo, hi, Builtin.lenOf, Builtin.firstCells, loadCells, loadCellsFrom]
 ·cases A <;> simp [Builtin.append_, run_underlying ht, sizeOf, typeInfo, hi, Builtin.lenOf, Builtin.firstCells, loadCells, loadCellsFrom, hnc, storeCells]
theorem wpList_append_zero {P : Program} {w : World} {ops : Array Oper} {rest : List Oper} {o : Oper} {a : Act} {Q : Exit → Act → World → Prop} (hgd : o.guard = none) (s x : Operand) (t : TypeId)
  (ho : o.op = .call { callee := .builtin .append, args := #[s, x], argTypes := #[t, t] })
  (base : Nat) (e : TypeId) (i : TypeInfo) (size : Nat) (ht : P.underlying t = some (.slice e)) (hi : P.info? e = some i)
  (v : Value) (n : Nat) (xs : List Value) (hs : a.eval s = v) (hown : w.ownsRow base e size v n xs) (A : Option Addr) (c : Nat) (hx : a.eval x = .slice A 0 c)
  (h : wpList P ops Q rest (a.put o.dst v) w) : wpList P ops Q (o :: rest) a w := by
 refine wpList_plain hgd fun K hK => ?_
 have hrun := run_append_zero (P := P) (w := w) base t o.type e i size ht hi v n xs hown A c
 unfold Oper.wp
 simp [execOp, ho, resolve, invoke, builtin, hs, hx, hrun, Result.andThen]
 exact hK _ _ h
theorem Apart.far {lo hi : Nat} {w : World} {ps : List Pt} {us : List Value} {p : Pt} {u : Value} (h : Apart lo hi w (ps ++ [p]) (us ++ [u])) (hl : us.length = ps.length) {i k : Nat} {x : Value} (hx : us[i]? = some x) (hk : x.ownBlock = some k) : ¬ u.ownBlock = some k := fun hu => by
 have := h.2.2 i us.length k x u (by rw [List.getElem?_append_left (idx_lt hx)]; exact hx) (by simp) hk hu
 have := idx_lt hx
 omega
theorem Box.moreS {S : Nat → Prop} {lo g : Nat} {T : TypeId} {w w1 : World} {v u v' : Value} {d : Int} {ps : List Pt} {us : List Value} {put put' : List Int} (h : Box lo g T w v u d ps us) (hT1 : ¬ T = 3) (hT2 : ¬ T = 72)
  (ha : Apart lo w.heap.size w (ps ++ [⟨2, 0, put⟩]) (us ++ [u])) (hown : w1.ownsRow lo 3 1 v' put'.length (put'.map (Value.int .i64))) (hgrow : w.grownBy w1 u.ownBlock) (hat : v'.ownBlock = u.ownBlock ∨ v'.ownBlock = some w.heap.size) (hos : OwnS S g v (us ++ [u])) (hS : S w.heap.size) :
  BAtS S lo g T (w1.setCell ⟨g, 1, none⟩ v') ps put' d ∧ Below lo w (w1.setCell ⟨g, 1, none⟩ v') ∧ Fr S w (w1.setCell ⟨g, 1, none⟩ v') := by
 have hlt := h.lt
 have hu := ha.last h.len
 have ha0 := ha.init h.len
 have hold : ∀ k, k < w.heap.size → ¬ u.ownBlock = some k → w1.heap[k]? = w.heap[k]? := fun k hk hne => hgrow.block k hk (fun e => hne e.symm)
 have hg1 : w1.heap[g]? = some (.cells #[v, u, .int .i64 d] T (0, 0)) := by rw [hold g hlt (own_far hu h.box hT1)]; exact h.box
 have hvg := own_far hown hg1 hT1
 have hlow : lo ≤ w.heap.size := Nat.le_trans h.low (Nat.le_of_lt hlt)
 have hv' : ∀ k, v'.ownBlock = some k → S k := fun k hk => by
  rcases hat with e | e
  ·exact hos.last k (by rw [← e]; exact hk)
  ·rw [e] at hk
   injection hk with hk
   rw [← hk]; exact hS
 have hos' : OwnS S g v (us ++ [v']) := ⟨hos.1, hos.2.1, fun i k x hx hk => by
  by_cases hi : i < us.length
  ·rw [List.getElem?_append_left hi] at hx
   exact hos.init.2.2 i k x hx hk
  ·rw [List.getElem?_append_right (by omega)] at hx
   have hx' : i - us.length = 0 := by
    have := idx_lt hx
    simp at this
    omega
   rw [hx'] at hx
   simp at hx
   subst hx
   exact hv' k hk⟩
 have hfr : Fr S w (w1.setCell ⟨g, 1, none⟩ v') := ((Fr.refl S w).grown hgrow (fun k hk => hos.last k hk)).setCell (p := ⟨g, 1, none⟩) hos.1 _
 refine ⟨⟨v, v', us, ⟨?_, ?_, h.len, h.low⟩, ?_, hos'⟩, ?_, hfr⟩
 ·rw [heap_setCell_same _ _ _ _ _ _ hg1]; rfl
 ·refine own_keep h.row (fun k hk1 hk2 => ?_)
  have hkg : ¬ k = g := fun e => own_far h.row h.box hT2 (by rw [hk1, e])
  rw [Below.heap_setCell _ _ _ _ hkg]
  refine hold k hk2 (fun hk3 => ?_)
  obtain ⟨c1, e1⟩ := own_blk h.row hk1
  exact own_far hu e1 (by decide) hk3
 ·have hkeep : Apart lo (w1.setCell ⟨g, 1, none⟩ v').heap.size (w1.setCell ⟨g, 1, none⟩ v') ps us := by
   refine ha0.keep (by simp; exact hgrow.size) (fun i x k hx hk1 hk2 => ?_)
   obtain ⟨q, hq⟩ := idx_some (l := ps) (i := i) (by rw [← h.len]; exact idx_lt hx)
   have hkg : ¬ k = g := fun e => own_far (ha0.2.1 i q x hq hx).1 h.box hT1 (by rw [hk1, e])
   rw [Below.heap_setCell _ _ _ _ hkg]
   exact hold k hk2 (ha.far h.len hx hk1)
  refine hkeep.snoc (ownsRow_setCell_other hown hvg _) (fun k hk => ?_) (fun i x k hx hk1 hk2 => ?_)
  ·obtain ⟨c1, e1⟩ := own_blk hown hk
   have := lt_of_some e1
   simpa using this
  ·obtain ⟨q, hq⟩ := idx_some (l := ps) (i := i) (by rw [← h.len]; exact idx_lt hx)
   rcases hat with e | e
   ·exact ha.far h.len hx hk1 (by rw [← e]; exact hk2)
   ·obtain ⟨c1, e1⟩ := own_blk (ha0.2.1 i q x hq hx).1 hk1
    have := lt_of_some e1
    rw [hk2] at e
    injection e with e
    omega
 ·refine Below.setCell ?_ h.low _
  exact (Below.refl _ _).grown hgrow hlow (fun k hk => own_ge hu k hk)
theorem Box.dropS {S : Nat → Prop} {lo g : Nat} {T : TypeId} {w : World} {v u : Value} {d d' : Int} {ps : List Pt} {us : List Value} {put : List Int} (h : Box lo g T w v u d ps us) (hT1 : ¬ T = 3) (hT2 : ¬ T = 72)
  (ha : Apart lo w.heap.size w (ps ++ [⟨2, 0, put⟩]) (us ++ [u])) (hos : OwnS S g v (us ++ [u])) :
  BAtS S lo g T (w.setCell ⟨g, 2, none⟩ (.int .i64 d')) ps put d' ∧ Below lo w (w.setCell ⟨g, 2, none⟩ (.int .i64 d')) ∧ Fr S w (w.setCell ⟨g, 2, none⟩ (.int .i64 d')) := by
 refine ⟨⟨v, u, us, ⟨?_, ownsRow_setCell_other h.row (own_far h.row h.box hT2) _, h.len, h.low⟩, ha.keep (by simp) (fun i x k hx hk1 hk2 => ?_), hos⟩, (Below.refl _ _).setCell h.low _, (Fr.refl S w).setCell (p := ⟨g, 2, none⟩) hos.1 _⟩
 ·rw [heap_setCell_same _ _ _ _ _ _ h.box]; rfl
 ·obtain ⟨q, hq⟩ := idx_some (l := ps ++ [⟨2, 0, put⟩]) (i := i) (by rw [← ha.1]; exact idx_lt hx)
  have hkg : ¬ k = g := fun e => own_far (ha.2.1 i q x hq hx).1 h.box hT1 (by rw [hk1, e])
  rw [Below.heap_setCell _ _ _ _ hkg]
theorem ints_info : (Tryz.prog.info? 3).map (fun i => (i.zero, i.size, i.bytes)) = some (some (.int .i64 0), 1, 8) := by kernel_rfl
theorem specDrop_f (S : Nat → Prop) (lo g : Nat) (ps : List Pt) (put : List Int) (d n : Int) (w : World) (hb : BAtS S lo g 94 w ps put d) (hS : ∀ b, w.heap.size ≤ b → S b) (h0 : 0 ≤ d) (h1 : d ≤ 4611686018427387904) (h2 : 0 ≤ n) (h3 : n ≤ 1048576) :
  Calls Tryz.prog 76 #[.pointer (some ⟨g, 0, none⟩), .int .i64 n] w (BuiltS S lo g 94 w ps put (d + n)) := by
 obtain ⟨v, u, us, hx, ha, hos⟩ := hb
 have HS := Lib.hid hS
 have HOS := Lib.hid hos
 clear hS hos
 have c2 := hx.cell2
 have f2 := hx.free 2
 have HX := Lib.hid hx
 have HA := Lib.hid ha
 clear hx ha
 go_enter Tryz.func76, Tryz.ntmps76
 go_wp2
 go_end0
 obtain ⟨r1, r2, r3⟩ := HX.out.dropS (d' := d + n) (by decide) (by decide) HA.out HOS.out
 exact ⟨rfl, r1, r2, r3⟩
theorem specPut_f (S : Nat → Prop) (lo g : Nat) (ps : List Pt) (put : List Int) (d : Int) (A : Option Addr) (c : Nat) (zs : List Int) (w : World) (hb : BAtS S lo g 94 w ps put d) (hS : ∀ b, w.heap.size ≤ b → S b) (hr : Row (Value.int .i64) w w.heap.size A zs) (hp : put.length ≤ 4294967296) (hz : zs.length ≤ 4294967296) :
  Calls Tryz.prog 75 #[.pointer (some ⟨g, 0, none⟩), .slice A zs.length c] w (BuiltS S lo g 94 w ps (put ++ zs) d) := by
 obtain ⟨i0, hi0, hz0, hz1, hz2⟩ := info_parts ints_info
 obtain ⟨v, u, us, hx, ha, hos⟩ := hb
 have HS := Lib.hid hS
 have HOS := Lib.hid hos
 clear hS hos
 obtain ⟨Au, cu, rfl⟩ := own_form (ha.last hx.len)
 simp only at hx ha
 have c1 := hx.cell1
 have f1 := hx.free 1
 have ho := Lib.hid (ha.last hx.len)
 have hlo : lo ≤ w.heap.size := Nat.le_trans hx.low (Nat.le_of_lt hx.lt)
 have HX := Lib.hid hx
 have HA := Lib.hid ha
 clear hx ha
 by_cases hn : 0 < zs.length
 ·obtain ⟨ad, rfl, hbk, hcs⟩ := hr hn
  have hcs' : ∀ j x, (zs.map (Value.int .i64))[j]? = some x → w.cell? (ad.add j) = some x := fun j x hx => by
   rw [List.getElem?_map] at hx
   obtain ⟨z, hz, rfl⟩ := Option.map_eq_some_iff.1 hx
   exact hcs j z hz
  have HC := Lib.hid hcs'
  clear hcs hcs' hr
  have hug := own_far ho.out HX.out.box (by decide)
  go_enter Tryz.func75, Tryz.ntmps75
  go_wp2_with (at_builtin; refine wpList_append_lies _ rfl (.tmp 8) (.tmp 9) 66 rfl lo 3 i0 (.int .i64 0) 1 8 Tryz.underlying66 hi0 hz0 hz1 hz2 rfl (by decide) (.slice Au put.length cu) put.length (put.map (Value.int .i64)) rfl ho.out ad zs.length c (zs.map (Value.int .i64)) rfl (by simp) HC.out (by simp [Value.oneCell']) (by omega) (by unfold maxLen; omega) (by omega) hlo w.heap.size rfl ?_; intro gg cap w1 hown1 hgrow hat hlt; have hf := free_grown (o := 1) HX.out.box (Below.refl _ _) hgrow hug; have hc : w1.cell? ⟨g, 1, none⟩ = some (.slice Au put.length cu) := cell_grown 1 HX.out.box (Below.refl _ _) hgrow hug)
  go_end0
  obtain ⟨r1, r2, r3⟩ := Box.moreS (put' := put ++ zs) HX.out (by decide) (by decide) HA.out (by simpa using hown1) hgrow (hat.elim (fun e => .inl (by rw [e]; rfl)) (fun e => .inr (by rw [← e]; rfl))) HOS.out (HS.out _ (Nat.le_refl _))
  exact ⟨rfl, r1, r2, r3⟩
 ·have e0 : zs = [] := List.eq_nil_of_length_eq_zero (by omega)
  subst e0
  rw [List.append_nil]
  go_enter Tryz.func75, Tryz.ntmps75
  go_wp2_with (at_builtin; refine wpList_append_zero rfl (.tmp 8) (.tmp 9) 66 rfl lo 3 i0 1 Tryz.underlying66 hi0 (.slice Au put.length cu) put.length (put.map (Value.int .i64)) rfl ho.out A c rfl ?_)
  go_end0
  obtain ⟨r1, r2, r3⟩ := Box.moreS (put' := put) HX.out (by decide) (by decide) HA.out ho.out ⟨rfl, rfl, rfl, Nat.le_refl _, fun _ _ _ => rfl⟩ (.inl rfl) HOS.out (HS.out _ (Nat.le_refl _))
  exact ⟨rfl, r1, r2, r3⟩
theorem specDrop_any (lo g : Nat) (ps : List Pt) (put : List Int) (d n : Int) (w : World) (hb : BAt lo g 94 w ps put d) (h0 : 0 ≤ d) (h1 : d ≤ 4611686018427387904) (h2 : 0 ≤ n) (h3 : n ≤ 1048576) :
  Calls Tryz.prog 76 #[.pointer (some ⟨g, 0, none⟩), .int .i64 n] w (Built lo g 94 w ps put (d + n)) :=
 (specDrop_f (fun _ => True) lo g ps put d n w hb.all (fun _ _ => trivial) h0 h1 h2 h3).mono fun e w' h => h.any
theorem specPut_any (lo g : Nat) (ps : List Pt) (put : List Int) (d : Int) (A : Option Addr) (c : Nat) (zs : List Int) (w : World) (hb : BAt lo g 94 w ps put d) (hr : Row (Value.int .i64) w w.heap.size A zs) (hp : put.length ≤ 4294967296) (hz : zs.length ≤ 4294967296) :
  Calls Tryz.prog 75 #[.pointer (some ⟨g, 0, none⟩), .slice A zs.length c] w (Built lo g 94 w ps (put ++ zs) d) :=
 (specPut_f (fun _ => True) lo g ps put d A c zs w hb.all (fun _ _ => trivial) hr hp hz).mono fun e w' h => h.any
theorem below_new (w : World) (o : Obj) : Below w.heap.size w (w.alloc o) := (Below.refl _ _).alloc (Nat.le_refl _) o
def keepTo (q : List Pt) (n : Int) : List Pt :=
 match q.getLast? with
 | some p => if p.kind = 1 then q.set (q.length - 1) ⟨p.kind, p.n + n, p.signs⟩ else q ++ [⟨1, n, []⟩]
 | none => q ++ [⟨1, n, []⟩]
theorem keepTo_nil (n : Int) : keepTo [] n = [⟨1, n, []⟩] := rfl
theorem keepTo_t {r : List Pt} {p : Pt} (n : Int) (h : p.kind = 1) : keepTo (r ++ [p]) n = r ++ [⟨p.kind, p.n + n, p.signs⟩] := by
 simp [keepTo, h]
theorem keepTo_f {r : List Pt} {p : Pt} (n : Int) (h : ¬ p.kind = 1) : keepTo (r ++ [p]) n = r ++ [p] ++ [⟨1, n, []⟩] := by
 simp [keepTo, h]
theorem cellsOf_setN : ∀ (ps : List Pt) (us : List Value) (i : Nat) (p : Pt) (b : Int), us.length = ps.length → ps[i]? = some p →
  (cellsOf ps us).set (i * 3 + 1) (.int .i64 b) = cellsOf (ps.set i ⟨p.kind, b, p.signs⟩) us
 | [], us, i, p, b, _, h => by simp at h
 | _ :: _, [], i, p, b, hl, _ => by simp at hl
 | x :: ps, u :: us, 0, p, b, hl, h => by
  simp at h
  subst h
  rfl
 | x :: ps, u :: us, i + 1, p, b, hl, h => by
  have e0 : (i + 1) * 3 + 1 = i * 3 + 1 + 1 + 1 + 1 := by omega
  rw [e0]
  show .int .i64 x.kind :: .int .i64 x.n :: u :: (cellsOf ps us).set (i * 3 + 1) (.int .i64 b) = .int .i64 x.kind :: .int .i64 x.n :: u :: cellsOf (ps.set i ⟨p.kind, b, p.signs⟩) us
  rw [cellsOf_setN ps us i p b (by simpa using hl) (by simpa using h)]
theorem Apart.setN {lo hi : Nat} {w : World} {r : List Pt} {p q : Pt} {us : List Value} (h : Apart lo hi w (r ++ [p]) us) (hq : q.signs = p.signs) : Apart lo hi w (r ++ [q]) us := by
 refine ⟨by simpa using h.1, fun i x u hx hu => ?_, h.2.2⟩
 by_cases hi' : i < r.length
 ·rw [List.getElem?_append_left hi'] at hx
  exact h.2.1 i x u (by rw [List.getElem?_append_left hi']; exact hx) hu
 ·have e : i = r.length := by have := idx_lt hx; simp at this; omega
  subst e
  simp at hx
  subst hx
  have := h.2.1 r.length p u (by simp) hu
  rw [hq]
  exact this
theorem Box.setN {lo g gv cap : Nat} {T : TypeId} {w : World} {u : Value} {d b : Int} {r : List Pt} {p : Pt} {us : List Value} (h : Box lo g T w (.slice (some ⟨gv, 0, none⟩) (r.length + 1) cap) u d (r ++ [p]) us) (hT1 : ¬ T = 3) (hT2 : ¬ T = 72)
  (ha : Apart lo w.heap.size w (r ++ [p]) us) :
  Box lo g T (w.setCell ⟨gv, r.length * 3 + 1, none⟩ (.int .i64 b)) (.slice (some ⟨gv, 0, none⟩) (r.length + 1) cap) u d (r ++ [⟨p.kind, b, p.signs⟩]) us ∧
  Apart lo (w.setCell ⟨gv, r.length * 3 + 1, none⟩ (.int .i64 b)).heap.size (w.setCell ⟨gv, r.length * 3 + 1, none⟩ (.int .i64 b)) (r ++ [⟨p.kind, b, p.signs⟩]) us ∧
  Below lo w (w.setCell ⟨gv, r.length * 3 + 1, none⟩ (.int .i64 b)) := by
 have hgv := own_far h.row h.box hT2
 have hge := own_ge h.row gv rfl
 have hl : us.length = (r ++ [p]).length := h.len
 refine ⟨⟨?_, ?_, by simpa using hl, h.low⟩, ?_, (Below.refl _ _).setCell hge _⟩
 ·rw [Below.heap_setCell _ _ _ _ (fun e => hgv (by simp [Value.ownBlock]; exact e.symm))]; exact h.box
 ·have e1 := cellsOf_setN (r ++ [p]) us r.length p b hl (by simp)
  have e2 : (r ++ [p]).set r.length ⟨p.kind, b, p.signs⟩ = r ++ [⟨p.kind, b, p.signs⟩] := by simp
  rw [e2] at e1
  rw [← e1]
  have := (World.ownsRow.stored (n := r.length + 1) (by simpa using h.row) (r.length * 3 + 1) (.int .i64 b)).1
  simpa using this
 ·refine Apart.setN (p := p) (ha.keep (by simp) (fun i x k hx hk1 hk2 => ?_)) rfl
  obtain ⟨q, hq⟩ := idx_some (l := r ++ [p]) (i := i) (by rw [← hl]; exact idx_lt hx)
  obtain ⟨c1, e1⟩ := own_blk (ha.2.1 i q x hq hx).1 hk1
  have hne : ¬ k = gv := fun e => by
   subst e
   exact own_far h.row e1 (by decide) rfl
  rw [Below.heap_setCell _ _ _ _ hne]
theorem setN_fr {S : Nat → Prop} {g gv n cap o : Nat} {us : List Value} {w : World} (h : OwnS S g (.slice (some ⟨gv, 0, none⟩) n cap) us) (x : Value) : Fr S w (w.setCell ⟨gv, o, none⟩ x) := (Fr.refl S w).setCell (p := ⟨gv, o, none⟩) (h.2.1 gv rfl) x
def Gone (lo : Nat) (ps : List Pt) (w : World) (e : Ending) (w' : World) : Prop := ∃ v, e = .returned v ∧ PBuf lo w'.heap.size w' v ps ∧ Below lo w w'
def GoneS (S : Nat → Prop) (lo : Nat) (ps : List Pt) (w : World) (e : Ending) (w' : World) : Prop := ∃ v us, e = .returned v ∧ PBuf lo w'.heap.size w' v ps ∧ Below lo w w' ∧ Fr S w w' ∧ w'.ownsRow lo 72 3 v ps.length (cellsOf ps us) ∧ us.length = ps.length ∧ (∀ k, v.ownBlock = some k → S k) ∧ ∀ (i k : Nat) (x : Value), us[i]? = some x → x.ownBlock = some k → S k
theorem Box.parts {lo g : Nat} {T : TypeId} {w : World} {v u : Value} {d : Int} {ps : List Pt} {us : List Value} (h : Box lo g T w v u d ps us) (ha : Apart lo w.heap.size w ps us) : PBuf lo w.heap.size w v ps :=
 ⟨us, h.row, ha, fun k hk => by obtain ⟨c1, e1⟩ := own_blk h.row hk; exact lt_of_some e1, Nat.le_refl _, Nat.le_trans h.low (Nat.le_of_lt h.lt)⟩
theorem specDone_f (S : Nat → Prop) (lo g : Nat) (ps : List Pt) (put : List Int) (d : Int) (w : World) (hb : BAtS S lo g 94 w ps put d) (hS : ∀ b, w.heap.size ≤ b → S b) (hl : ps.length ≤ 4294967296) (hp : put.length ≤ 4294967296) :
  Calls Tryz.prog 77 #[.pointer (some ⟨g, 0, none⟩)] w (GoneS S lo (ps ++ putL put ++ dropL d) w) := by
 go_enter Tryz.func77, Tryz.ntmps77
 go_wp2_with fail
 refine (specFlush_f S lo g ps put d w hb hS hl hp).mono ?_
 rintro e w1 ⟨rfl, ⟨v, us, hx, ha, hos⟩, b1, fr1⟩
 have HS := Lib.hid hS
 have HOS := Lib.hid hos
 have HR := Lib.hid fr1
 clear hS hos fr1
 obtain ⟨Av, cv, rfl⟩ := own_form hx.row
 have c0 := hx.cell0
 have HX := Lib.hid hx
 have HA := Lib.hid ha
 clear hx ha
 generalize ps ++ putL put ++ dropL d = q at *
 go_wp2
 go_ret
 exact ⟨_, us, rfl, HX.out.parts HA.out, b1, HR.out, HX.out.row, HX.out.len, HOS.out.2.1, HOS.out.2.2⟩
theorem specKeep_f (S : Nat → Prop) (lo g : Nat) (ps : List Pt) (put : List Int) (d n : Int) (w : World) (hb : BAtS S lo g 94 w ps put d) (hS : ∀ b, w.heap.size ≤ b → S b) (hl : ps.length ≤ 4294967296) (hp : put.length ≤ 4294967296) (hn : ¬ n = 0) (hn0 : 0 ≤ n) (hn1 : n ≤ 1048576)
  (hq : ∀ p ∈ ps ++ putL put ++ dropL d, 0 ≤ p.n ∧ p.n ≤ 4611686018427387904) (hql : (ps ++ putL put ++ dropL d).length ≤ 4294967298) :
  Calls Tryz.prog 74 #[.pointer (some ⟨g, 0, none⟩), .int .i64 n] w (FlushedS S lo g 94 w (keepTo (ps ++ putL put ++ dropL d) n)) := by
 obtain ⟨i0, hi0, hz0, hz1, hz2⟩ := info_parts part_info
 go_enter Tryz.func74, Tryz.ntmps74
 go_wp2_with fail
 refine (specFlush_f S lo g ps put d w hb hS hl hp).mono ?_
 rintro e w1 ⟨rfl, ⟨v, us, hx, ha, hos⟩, b1, fr1⟩
 have HS := Lib.hid hS
 have HOS := Lib.hid hos
 have HR := Lib.hid fr1
 clear hS hos fr1
 generalize ps ++ putL put ++ dropL d = q at *
 have c0 := hx.cell0
 have f0 := hx.free 0
 have hne := own_far hx.row hx.box (by decide)
 have hlo : lo ≤ w1.heap.size := Nat.le_trans hx.low (Nat.le_of_lt hx.lt)
 rcases q.eq_nil_or_concat with rfl | ⟨r, p, rfl⟩
 ·obtain ⟨Av, cv, rfl⟩ := own_form hx.row
  have HX := Lib.hid hx
  have HA := Lib.hid ha
  clear hx ha
  go_wp2_with (at_builtin; refine wpList_append_lies _ rfl (.tmp 51) (.tmp 54) 35 rfl lo 72 i0 _ 3 40 Tryz.underlying35 hi0 hz0 hz1 hz2 rfl (by omega) (.slice Av 0 cv) 0 (cellsOf [] us) rfl (HX.out.row.alloc _) ⟨w1.heap.size, 0, none⟩ 1 1 [.int .i64 1, .int .i64 n, .slice none 0 0] rfl rfl (World.news_of_block (cs := #[.int .i64 1, .int .i64 n, .slice none 0 0]) (t := 72) (fr := (0, 0)) (heap_alloc_new w1 _)) (by simp [Value.oneCell']) (by omega) (by unfold maxLen; omega) (by omega) (by simp; omega) (w1.heap.size + 1) (by simp) ?_; intro gg cap w2 hown1 hgrow hat hlt; have hf := free_grown (o := 0) HX.out.box (below_new w1 _) hgrow hne; have hc : w2.cell? ⟨g, 0, none⟩ = some (.slice Av 0 cv) := cell_grown 0 HX.out.box (below_new w1 _) hgrow hne)
  go_end0
  obtain ⟨hx2, ha2, b2⟩ := Box.push (p := ⟨1, n, []⟩) HX.out (by decide) (by decide) (Apart.bare 1 n HA.out) (below_new w1 _) hown1 hgrow
  refine ⟨rfl, ?_, b1.trans b2, HR.out.trans (push_fr HOS.out (below_new w1 _) hgrow _)⟩
  rw [keepTo_nil]
  exact ⟨_, _, hx2, ha2, HOS.out.push nil_own hat (HS.out _ (by have := HR.out.size; omega))⟩
 ·rw [List.concat_eq_append] at *
  have hrl : (r ++ [p]).length = r.length + 1 := by simp
  rw [hrl] at hql
  have hp0 := hq p (by simp)
  clear hq
  rcases hx.row.2 with ⟨_, h0⟩ | ⟨gv, cap0, cur, rfl, hgv, hhv, hcap, hcap2, _, _⟩
  ·simp at h0
  rw [hrl] at c0 hne hcap hx
  have hrow : w1.ownsRow lo 72 3 (.slice (some ⟨gv, 0, none⟩) (r.length + 1) cap0) (r.length + 1) (cellsOf (r ++ [p]) us) := by have := hx.row; rwa [hrl] at this
  have k0 : w1.cell? ⟨gv, r.length * 3, none⟩ = some (.int .i64 p.kind) := by
   have := hrow.cellAt (r.length * 3) (by omega)
   obtain ⟨u, hu⟩ := idx_some (l := us) (i := r.length) (by rw [hx.len]; simp)
   rw [this, (cellsOf_at (r ++ [p]) us r.length p u (by simp) hu).1]
  have k1 : w1.cell? ⟨gv, r.length * 3 + 1, none⟩ = some (.int .i64 p.n) := by
   have := hrow.cellAt (r.length * 3 + 1) (by omega)
   obtain ⟨u, hu⟩ := idx_some (l := us) (i := r.length) (by rw [hx.len]; simp)
   rw [this, (cellsOf_at (r ++ [p]) us r.length p u (by simp) hu).2.1]
  have fv := hrow.frozenAt (r.length * 3 + 1)
  have HRW := Lib.hid hrow
  clear hrow
  have HX := Lib.hid hx
  have HA := Lib.hid ha
  clear hx ha hhv
  by_cases hk : p.kind = 1
  ·go_wp2_with fail
   have dx := Lib.hid HX.out.drew
   have da := Lib.hid HA.out.drewS
   have hw1 : IntKind.i64.wrap (r.length : Int) = (r.length : Int) := by rw [IntKind.wrap_i64]; omega
   have hw2 : IntKind.i64.wrap (p.n + n) = p.n + n := by rw [IntKind.wrap_i64]; omega
   have hi1 : (r.length : Int) < (r.length : Int) + 1 := by omega
   go_still_tail 19, (by kernel_rfl)
   clear hw1 hw2
   go_wp2
   go_end0
   obtain ⟨hx2, ha2, b2⟩ := Box.setN (b := p.n + n) dx.out (by decide) (by decide) da.out
   refine ⟨rfl, ?_, b1.trans ((Below.refl _ _).drew.trans b2), HR.out.drew.trans (setN_fr HOS.out _)⟩
   rw [keepTo_t n hk]
   exact ⟨_, _, hx2, ha2, HOS.out⟩
  ·go_wp2_with (at_builtin; refine wpList_append_lies _ rfl (.tmp 51) (.tmp 54) 35 rfl lo 72 i0 _ 3 40 Tryz.underlying35 hi0 hz0 hz1 hz2 rfl (by omega) (.slice (some ⟨gv, 0, none⟩) (r.length + 1) cap0) (r.length + 1) (cellsOf (r ++ [p]) us) rfl (HRW.out.alloc _) ⟨w1.heap.size, 0, none⟩ 1 1 [.int .i64 1, .int .i64 n, .slice none 0 0] rfl rfl (World.news_of_block (cs := #[.int .i64 1, .int .i64 n, .slice none 0 0]) (t := 72) (fr := (0, 0)) (heap_alloc_new w1 _)) (by simp [Value.oneCell']) (by omega) (by unfold maxLen; omega) (by omega) (by simp; omega) (w1.heap.size + 1) (by simp) ?_; intro gg cap w2 hown1 hgrow hat hlt; have hf := free_grown (o := 0) HX.out.box (below_new w1 _) hgrow hne; have hc : w2.cell? ⟨g, 0, none⟩ = some (.slice (some ⟨gv, 0, none⟩) (r.length + 1) cap0) := cell_grown 0 HX.out.box (below_new w1 _) hgrow hne)
   go_end0
   obtain ⟨hx2, ha2, b2⟩ := Box.push (p := ⟨1, n, []⟩) HX.out (by decide) (by decide) (Apart.bare 1 n HA.out) (below_new w1 _) (by rw [hrl]; exact hown1) hgrow
   rw [hrl] at hx2 ha2 b2
   refine ⟨rfl, ?_, b1.trans b2, HR.out.trans (push_fr HOS.out (below_new w1 _) hgrow _)⟩
   rw [keepTo_f n hk]
   exact ⟨_, _, hx2, ha2, HOS.out.push nil_own hat (HS.out _ (by have := HR.out.size; omega))⟩
theorem GoneS.any {S : Nat → Prop} {lo : Nat} {ps : List Pt} {w w' : World} {e : Ending} (h : GoneS S lo ps w e w') : Gone lo ps w e w' := by
 obtain ⟨v, us, h1, h2, h3, _⟩ := h
 exact ⟨v, h1, h2, h3⟩
theorem specDone_any (lo g : Nat) (ps : List Pt) (put : List Int) (d : Int) (w : World) (hb : BAt lo g 94 w ps put d) (hl : ps.length ≤ 4294967296) (hp : put.length ≤ 4294967296) :
  Calls Tryz.prog 77 #[.pointer (some ⟨g, 0, none⟩)] w (Gone lo (ps ++ putL put ++ dropL d) w) :=
 (specDone_f (fun _ => True) lo g ps put d w hb.all (fun _ _ => trivial) hl hp).mono fun e w' h => h.any
theorem specKeep_any (lo g : Nat) (ps : List Pt) (put : List Int) (d n : Int) (w : World) (hb : BAt lo g 94 w ps put d) (hl : ps.length ≤ 4294967296) (hp : put.length ≤ 4294967296) (hn : ¬ n = 0) (hn0 : 0 ≤ n) (hn1 : n ≤ 1048576)
  (hq : ∀ p ∈ ps ++ putL put ++ dropL d, 0 ≤ p.n ∧ p.n ≤ 4611686018427387904) (hql : (ps ++ putL put ++ dropL d).length ≤ 4294967298) :
  Calls Tryz.prog 74 #[.pointer (some ⟨g, 0, none⟩), .int .i64 n] w (Flushed lo g 94 w (keepTo (ps ++ putL put ++ dropL d) n)) :=
 (specKeep_f (fun _ => True) lo g ps put d n w hb.all (fun _ _ => trivial) hl hp hn hn0 hn1 hq hql).mono fun e w' h => h.any
def stepN (s : List Pt × List Int × Int) (p : Pt) : List Pt × List Int × Int :=
 if p.kind = 1 then (if p.n = 0 then s else (keepTo (s.1 ++ putL s.2.1 ++ dropL s.2.2) p.n, [], 0))
 else if p.kind = 2 then (s.1, s.2.1 ++ p.signs, s.2.2) else (s.1, s.2.1, s.2.2 + p.n)
def foldN (ps : List Pt) : List Pt × List Int × Int := ps.foldl stepN ([], [], 0)
def doneN (s : List Pt × List Int × Int) : List Pt := s.1 ++ putL s.2.1 ++ dropL s.2.2
def normL (ps : List Pt) : List Pt := if okOp ps = true then doneN (foldN ps) else []
theorem foldN_snoc {ps : List Pt} {k : Nat} {p : Pt} (h : ps[k]? = some p) : foldN (ps.take (k + 1)) = stepN (foldN (ps.take k)) p := by
 unfold foldN
 rw [List.take_add_one, h]
 simp
theorem signsIn_app (a b : List Pt) : signsIn (a ++ b) = signsIn a + signsIn b := by simp [signsIn]
theorem putL_len (z : List Int) : (putL z).length ≤ 1 ∧ signsIn (putL z) = z.length ∧ ∀ p ∈ putL z, p.n = 0 := by
 unfold putL
 split
 ·rename_i h; simp [signsIn, h]
 ·simp [signsIn]
theorem dropL_len (d : Int) : (dropL d).length ≤ 1 ∧ signsIn (dropL d) = 0 ∧ ∀ p ∈ dropL d, p.n = d ∧ 0 ≤ d := by
 unfold dropL
 split
 ·rename_i h; simp [signsIn]; omega
 ·simp [signsIn]
structure Fit (j m : Nat) (s : List Pt × List Int × Int) : Prop where
 len : s.1.length ≤ 3 * j
 signs : signsIn s.1 + s.2.1.length ≤ m
 d0 : 0 ≤ s.2.2
 d1 : s.2.2 ≤ 200 * (j : Int)
 ns : ∀ p ∈ s.1, 0 ≤ p.n ∧ p.n ≤ 200 * (j : Int)
theorem Fit.done {j m : Nat} {s : List Pt × List Int × Int} (h : Fit j m s) : (doneN s).length ≤ 3 * j + 2 ∧ signsIn (doneN s) ≤ m ∧ ∀ p ∈ doneN s, 0 ≤ p.n ∧ p.n ≤ 200 * (j : Int) := by
 obtain ⟨a1, a2, a3⟩ := putL_len s.2.1
 obtain ⟨b1, b2, b3⟩ := dropL_len s.2.2
 have h1 := h.len
 have h2 := h.signs
 have h3 := h.d0
 have h4 := h.d1
 refine ⟨by unfold doneN; simp; omega, by unfold doneN; rw [signsIn_app, signsIn_app]; omega, fun p hp => ?_⟩
 unfold doneN at hp
 rcases List.mem_append.1 hp with hp | hp
 ·rcases List.mem_append.1 hp with hp | hp
  ·exact h.ns p hp
  ·have := a3 p hp; omega
 ·have := b3 p hp; omega
theorem keepTo_fit {q : List Pt} {n M : Int} (hn : 0 ≤ n) (hM : 0 ≤ M) (hq : ∀ p ∈ q, 0 ≤ p.n ∧ p.n ≤ M) : (keepTo q n).length ≤ q.length + 1 ∧ signsIn (keepTo q n) = signsIn q ∧ ∀ p ∈ keepTo q n, 0 ≤ p.n ∧ p.n ≤ M + n := by
 rcases q.eq_nil_or_concat with rfl | ⟨r, p, rfl⟩
 ·rw [keepTo_nil]
  refine ⟨by simp, by simp [signsIn], fun x hx => ?_⟩
  simp at hx
  subst hx
  simp only
  omega
 ·rw [List.concat_eq_append] at *
  have hp := hq p (by simp)
  by_cases hk : p.kind = 1
  ·rw [keepTo_t n hk]
   refine ⟨by simp, by rw [signsIn_app, signsIn_app]; simp [signsIn], fun x hx => ?_⟩
   rcases List.mem_append.1 hx with hx | hx
   ·have := hq x (by simp [hx]); omega
   ·simp at hx
    subst hx
    simp only
    omega
  ·rw [keepTo_f n hk]
   refine ⟨by simp, by rw [signsIn_app, signsIn_app]; simp [signsIn], fun x hx => ?_⟩
   rcases List.mem_append.1 hx with hx | hx
   ·have := hq x hx; omega
   ·simp at hx
    subst hx
    simp only
    omega
theorem Fit.step {j m : Nat} {s : List Pt × List Int × Int} {p : Pt} (h : Fit j m s) (hp : okPt p = true) : Fit (j + 1) (m + p.signs.length) (stepN s p) := by
 have hok := of_okPt hp
 obtain ⟨d1, d2, d3⟩ := h.done
 have h1 := h.len
 have h2 := h.signs
 have h3 := h.d0
 have h4 := h.d1
 have hns := h.ns
 unfold stepN
 split
 ·rename_i hk
  have hn : 0 ≤ p.n ∧ p.n ≤ 200 := by omega
  split
  ·exact ⟨by omega, by omega, h3, by omega, fun x hx => by have := hns x hx; omega⟩
  ·have hM : p.n ≤ 200 * ((j : Int) + 1) := by omega
   obtain ⟨k1, k2, k3⟩ := keepTo_fit (q := doneN s) hn.1 (M := 200 * (j : Int)) (by omega) d3
   refine ⟨?_, ?_, by simp, by simp; omega, fun x hx => ?_⟩
   ·show (keepTo (doneN s) p.n).length ≤ _; omega
   ·show signsIn (keepTo (doneN s) p.n) + 0 ≤ _; omega
   ·have := k3 x hx; omega
 ·split
  ·rename_i hk
   refine ⟨by simp; omega, by simp; omega, h3, by simp; omega, fun x hx => by have := hns x hx; omega⟩
  ·have hn : 0 ≤ p.n ∧ p.n ≤ 200 := by omega
   refine ⟨by simp; omega, by simp; omega, by simp; omega, by simp; omega, fun x hx => by have := hns x hx; omega⟩
theorem Fit.start : Fit 0 0 ([], [], 0) := ⟨by simp, by simp [signsIn], by simp, by simp, fun p hp => by simp at hp⟩
theorem foldN_fit {ps : List Pt} (h : okPs ps = true) : ∀ k, k ≤ ps.length → Fit k (signsIn (ps.take k)) (foldN (ps.take k))
 | 0, _ => by simpa [foldN, signsIn] using Fit.start
 | k + 1, hk => by
  obtain ⟨p, hp⟩ := idx_some (l := ps) (i := k) (by omega)
  rw [foldN_snoc hp, signsIn_snoc hp]
  exact (foldN_fit h k (by omega)).step (okPs_at hp h)
theorem drewN_below (w : World) (n : Nat) : Below w.heap.size w (w.drewN n) := ⟨rfl, rfl, rfl, Nat.le_refl _, fun _ _ => rfl⟩
theorem specOpSame_any (A B : Option Addr) (c d : Nat) (ps qs : List Pt) (w : World) (hx : PRow w w.heap.size A ps) (hy : PRow w w.heap.size B qs)
  (hl : ps.length ≤ 4294967296) (hl2 : qs.length ≤ 4294967296) (hs : ∀ p ∈ ps, p.signs.length ≤ 4294967296) (hs2 : ∀ p ∈ qs, p.signs.length ≤ 4294967296) :
  Calls Tryz.prog 59 #[.slice A ps.length c, .slice B qs.length d] w (Tells (samePs ps qs) w) := by
 by_cases hlen : ps.length = qs.length
 ·have HL := Lib.hid hlen
  have hb : ((ps.length : Int) != (qs.length : Int)) = false := by simp [hlen]
  clear hlen
  go_enter Tryz.func59, Tryz.ntmps59
  go_wp2
  go_loopw [14] (fun i wr => ∃ k : Nat, k ≤ ps.length ∧ i = .int .i64 k ∧ samePs (ps.take k) (qs.take k) = true ∧ Below w.heap.size w wr) (fun i _ => ps.length - (intOf i).toNat)
  case atStart => exact ⟨0, Nat.zero_le _, rfl, rfl, Below.refl _ _⟩
  case round =>
   obtain ⟨k, hk, rfl, ht, hbel⟩ := hrel
   have HT := Lib.hid ht
   clear ht
   by_cases hlt : k < ps.length
   ·have hlt2 : k < qs.length := by have := HL.out; omega
    obtain ⟨b1, o1, p, rfl, hb1, hp, hc1⟩ := hx.at_ hlt
    obtain ⟨b2, o2, q, rfl, hb2, hq, hc2⟩ := hy.at_ (k := k) hlt2
    obtain ⟨x0, x1, A1, e1, x2, r1⟩ := hc1.keep (w' := wr) hb1 (fun _ hq => hbel.cell hq)
    have hsp := hs p (List.mem_of_getElem? hp)
    have hsq := hs2 q (List.mem_of_getElem? hq)
    have HP := Lib.hid hp
    have HQ := Lib.hid hq
    clear hp hq hc1
    have bW := alloc_below wr (.cells #[.int .i64 p.kind, .int .i64 p.n, .slice A1 p.signs.length e1] 72)
    have dW := hbel.trans (bW.mono hbel.size)
    obtain ⟨y0, y1, A2, e2, y2, r2⟩ := hc2.keep (w' := wr.alloc (.cells #[.int .i64 p.kind, .int .i64 p.n, .slice A1 p.signs.length e1] 72)) hb2 (fun _ hq => dW.cell hq)
    have rr1 := (r1.more hbel.size).past bW
    have rr2 := r2.more dW.size
    have R1 := Lib.hid rr1
    have R2 := Lib.hid rr2
    clear hc2 r1 r2 rr1 rr2
    by_cases hk : p.kind = q.kind
    ·by_cases hn : p.n = q.n
     ·cases hss : sameB p.signs q.signs
      ·have HS := Lib.hid (show samePt p q = false by unfold samePt; rw [hss]; simp)
       have hkb : (p.kind != q.kind) = false := by simp [hk]
       have hnb : (p.n != q.n) = false := by simp [hn]
       clear hk hn
       go_wp2
       go_quiet ((go_at_call 73; exact Calls.quiet_of (specSignsSame_any A1 A2 e1 e2 p.signs q.signs _ R1.out R2.out hsp hsq)))
       go_wp2
       go_ret
       exact ⟨ret_bool (by rw [samePs_at ps qs k p q HP.out HQ.out HS.out]), dW.trans ((drewN_below _ _).mono dW.size)⟩
      ·have HS := Lib.hid (show samePt p q = true by unfold samePt; rw [hss]; simp [hk, hn])
       have hkb : (p.kind != q.kind) = false := by simp [hk]
       have hnb : (p.n != q.n) = false := by simp [hn]
       clear hk hn
       go_wp2
       go_quiet ((go_at_call 73; exact Calls.quiet_of (specSignsSame_any A1 A2 e1 e2 p.signs q.signs _ R1.out R2.out hsp hsq)))
       go_wp2
       go_roundw
       case rel => exact ⟨k + 1, by omega, by go_num, samePs_snoc ps qs k p q HP.out HQ.out HS.out HT.out, dW.trans ((drewN_below _ _).mono dW.size)⟩
       case measure => simp [intOf]; omega
     ·have HS := Lib.hid (show samePt p q = false by unfold samePt; simp [hn])
      have hkb : (p.kind != q.kind) = false := by simp [hk]
      have hnb : (p.n != q.n) = true := by simp [hn]
      clear hk hn
      go_wp2
      go_quiet (fail)
      go_wp2
      go_ret
      exact ⟨ret_bool (by rw [samePs_at ps qs k p q HP.out HQ.out HS.out]), dW.trans ((drewN_below _ _).mono dW.size)⟩
    ·have HS := Lib.hid (show samePt p q = false by unfold samePt; simp [hk])
     have hkb : (p.kind != q.kind) = true := by simp [hk]
     clear hk
     go_wp2
     go_quiet (fail)
     go_wp2
     go_ret
     exact ⟨ret_bool (by rw [samePs_at ps qs k p q HP.out HQ.out HS.out]), dW.trans ((drewN_below _ _).mono dW.size)⟩
   ·have H := Lib.hid (show samePs ps qs = true by have := HT.out; rwa [List.take_of_length_le (by omega), List.take_of_length_le (by have := HL.out; omega)] at this)
    go_wp2
    go_ret
    exact ⟨ret_bool (by rw [H.out]), hbel⟩
 ·have hb : ((ps.length : Int) != (qs.length : Int)) = true := by simp; omega
  have H := Lib.hid (show samePs ps qs = false by cases h : samePs ps qs; rfl; exact absurd (samePs_len ps qs h) hlen)
  clear hlen
  go_enter Tryz.func59, Tryz.ntmps59
  go_wp2
  go_ret
  exact ⟨ret_bool (by rw [H.out]), Below.refl _ _⟩
theorem BAt.past {lo g : Nat} {T : TypeId} {w w' : World} {ps : List Pt} {put : List Int} {d : Int} (h : BAt lo g T w ps put d) (hb : Below w.heap.size w w') : BAt lo g T w' ps put d := by
 obtain ⟨v, u, us, hx, ha⟩ := h
 exact ⟨v, u, us, ⟨(hb.block g hx.lt).trans hx.box, own_keep hx.row (fun k _ hk2 => hb.block k hk2), hx.len, hx.low⟩, ha.keep hb.size (fun i x k _ _ hk2 => hb.block k hk2)⟩
theorem BAt.new (lo : Nat) (T : TypeId) (w : World) (h : lo ≤ w.heap.size) : BAt lo w.heap.size T (w.alloc (.cells #[.slice none 0 0, .slice none 0 0, .int .i64 0] T)) [] [] 0 :=
 ⟨.slice none 0 0, .slice none 0 0, [], ⟨heap_alloc_new w _, World.ownsRow_nil _ _ _ _, rfl, h⟩, Apart.bare 2 0 ⟨rfl, fun i p u hp _ => by simp at hp, fun i j k u v hu _ _ _ => by simp at hu⟩⟩
theorem specKeep_zero (g : Nat) (w : World) : Calls Tryz.prog 74 #[.pointer (some ⟨g, 0, none⟩), .int .i64 0] w fun e w' => e = .returned (.tuple #[]) ∧ w = w' := by
 go_enter Tryz.func74, Tryz.ntmps74
 go_wp2
 first | go_end0 | (refine bodyPost_ret (results_none rfl _ _ _) rfl ?_)
 exact ⟨rfl, rfl⟩
theorem specOpNorm_any (A : Option Addr) (c : Nat) (ps : List Pt) (w : World) (hr : PRow w w.heap.size A ps) (hl : ps.length ≤ 4294967296) (hls : ∀ p ∈ ps, p.signs.length ≤ 4294967296) (hss : signsIn ps ≤ 1048576) :
  Calls Tryz.prog 60 #[.slice A ps.length c] w (PsPost (normL ps) w) := by
 cases hok : okOp ps
 ·have e1 : normL ps = [] := by simp [normL, hok]
  rw [e1]
  go_enter Tryz.func60, Tryz.ntmps60
  go_wp2_with fail
  refine (specOpOk_any A c ps _ hr hl hls).mono ?_
  rintro e w1 ⟨rfl, b1⟩
  rw [hok] at *
  go_wp2
  go_ret
  refine ⟨_, rfl, ⟨[], World.ownsRow_nil _ _ _ _, ⟨rfl, fun i p u hp _ => by simp at hp, fun i j k u v hu _ _ _ => by simp at hu⟩, fun k hk => by simp [Value.ownBlock] at hk, Nat.le_refl _, b1.size⟩, b1⟩
 ·have e1 : normL ps = doneN (foldN ps) := by simp [normL, hok]
  rw [e1]
  have hpb : partsB ps = true := by
   unfold okOp at hok
   cases h : partsB ps
   ·rw [h] at hok; simp at hok
   ·rfl
  have HPB := Lib.hid (partsB_of hpb)
  clear hpb
  go_enter Tryz.func60, Tryz.ntmps60
  go_wp2_with fail
  refine (specOpOk_any A c ps _ hr hl hls).mono ?_
  rintro e w1 ⟨rfl, b1⟩
  rw [hok] at *
  clear hok
  go_wp2
  have hnew := BAt.new w.heap.size 94 w1 b1.size
  have hbn := b1.trans ((alloc_below w1 (.cells #[.slice none 0 0, .slice none 0 0, .int .i64 0] 94)).mono b1.size)
  have hgl : w.heap.size ≤ w1.heap.size := b1.size
  generalize w1.alloc (.cells #[.slice none 0 0, .slice none 0 0, .int .i64 0] 94) = w2 at *
  generalize w1.heap.size = g at *
  clear b1
  go_loopw [13] (fun i wr => ∃ k : Nat, k ≤ ps.length ∧ i = .int .i64 k ∧ BAt w.heap.size g 94 wr (foldN (ps.take k)).1 (foldN (ps.take k)).2.1 (foldN (ps.take k)).2.2 ∧ Below w.heap.size w wr) (fun i _ => ps.length - (intOf i).toNat)
  case atStart => exact ⟨0, Nat.zero_le _, rfl, hnew, hbn⟩
  case round =>
   obtain ⟨k, hk, rfl, hat, hbel⟩ := hrel
   clear hnew hbn
   have hfit := foldN_fit HPB.out.1 k hk
   have hpl := HPB.out.2
   by_cases hlt : k < ps.length
   ·obtain ⟨b, off, p, rfl, hb, hp, hc⟩ := hr.at_ hlt
    obtain ⟨x0, x1, A1, e1, x2, r1⟩ := hc.keep (w' := wr) hb (fun _ hq => hbel.cell hq)
    have hokp := okPs_at hp HPB.out.1
    have hok := of_okPt hokp
    have hsl := hls p (List.mem_of_getElem? hp)
    have K1 := Lib.hid (foldN_snoc hp)
    have hsg : signsIn (ps.take k) ≤ signsIn ps := signsIn_take ps k
    clear hp hc
    generalize foldN (ps.take k) = st at *
    obtain ⟨qs, put, d⟩ := st
    have hf1 := hfit.len
    have hf2 := hfit.signs
    have hf3 := hfit.d0
    have hf4 := hfit.d1
    have hdn := Lib.hid hfit.done
    simp only at hf1 hf2 hf3 hf4 hat
    obtain ⟨pk, pn, pz⟩ := p
    simp only at x0 x1 x2 hok r1 hsl
    rcases (show pk = 1 ∨ pk = 2 ∨ pk = 3 by omega) with rfl | rfl | rfl
    ·have hn1 : 0 ≤ pn := by omega
     have hn2 : pn ≤ 200 := by omega
     clear hok
     by_cases hz : pn = 0
     ·subst hz
      go_wp2_with fail
      refine (specKeep_zero g _).mono ?_
      rintro e w' ⟨rfl, rfl⟩
      go_wp2
      go_roundw
      case rel => exact ⟨k + 1, by omega, by go_num, by rw [K1.out]; exact hat.past (alloc_below wr _), hbel.trans ((alloc_below wr _).mono hbel.size)⟩
      case measure => simp [intOf]; omega
     ·go_wp2_with fail
      refine (specKeep_any w.heap.size g qs put d pn _ (hat.past (alloc_below wr _)) (by omega) (by omega) hz hn1 (by omega) (fun p hp => by have := hdn.out.2.2 p hp; omega) (by have := hdn.out.1; exact Nat.le_trans this (by omega))).mono ?_
      rintro e w3 ⟨rfl, hn3, b3⟩
      go_wp2
      go_roundw
      case rel => exact ⟨k + 1, by omega, by go_num, by rw [K1.out]; simp only [stepN, if_neg hz]; exact hn3.at_, hbel.trans (((alloc_below wr _).mono hbel.size).trans b3)⟩
      case measure => simp [intOf]; omega
    ·clear hok
     go_wp2_with fail
     refine (specPut_any w.heap.size g qs put d A1 e1 pz _ (hat.past (alloc_below wr _)) (Row.past_alloc (r1.more hbel.size) _) (by omega) (by omega)).mono ?_
     rintro e w3 ⟨rfl, hn3, b3⟩
     go_wp2
     go_roundw
     case rel => exact ⟨k + 1, by omega, by go_num, by rw [K1.out]; exact hn3, hbel.trans (((alloc_below wr _).mono hbel.size).trans b3)⟩
     case measure => simp [intOf]; omega
    ·have hn1 : 0 ≤ pn := by omega
     have hn2 : pn ≤ 200 := by omega
     clear hok
     go_wp2_with fail
     refine (specDrop_any w.heap.size g qs put d pn _ (hat.past (alloc_below wr _)) (by omega) (by omega) (by omega) (by omega)).mono ?_
     rintro e w3 ⟨rfl, hn3, b3⟩
     go_wp2
     go_roundw
     case rel => exact ⟨k + 1, by omega, by go_num, by rw [K1.out]; exact hn3, hbel.trans (((alloc_below wr _).mono hbel.size).trans b3)⟩
     case measure => simp [intOf]; omega
   ·have hke : ps.take k = ps := List.take_of_length_le (by omega)
    rw [hke] at hat hfit
    have hf1 := hfit.len
    have hf2 := hfit.signs
    go_wp2_with fail
    refine (specDone_any w.heap.size g _ _ _ _ hat (by omega) (by omega)).mono ?_
    rintro e w3 ⟨v, rfl, p3, b3⟩
    change PBuf _ _ _ _ (doneN (foldN ps)) at p3
    generalize doneN (foldN ps) = L at *
    obtain ⟨B3, d3, rfl, q3⟩ := p3.slice
    have HP3 := Lib.hid p3
    clear p3
    go_wp2
    go_ret
    exact ⟨_, rfl, HP3.out, hbel.trans b3⟩
theorem normL_fit {ps : List Pt} (hs : signsIn ps ≤ 1048576) : (normL ps).length ≤ 1802 ∧ signsIn (normL ps) ≤ 1048576 := by
 unfold normL
 split
 ·rename_i hok
  have hpb : partsB ps = true := by
   unfold okOp at hok
   cases h : partsB ps
   ·rw [h] at hok; simp at hok
   ·rfl
  obtain ⟨h1, h2⟩ := partsB_of hpb
  have hf := (foldN_fit h1 ps.length (Nat.le_refl _)).done
  rw [List.take_length] at hf
  exact ⟨by have := hf.1; omega, Nat.le_trans hf.2.1 hs⟩
 ·simp [signsIn]
def isNormL (ps : List Pt) : Bool := okOp ps && samePs (normL ps) ps
theorem specIsNorm_any (A : Option Addr) (c : Nat) (ps : List Pt) (w : World) (hr : PRow w w.heap.size A ps) (hl : ps.length ≤ 4294967296) (hls : ∀ p ∈ ps, p.signs.length ≤ 4294967296) (hss : signsIn ps ≤ 1048576) :
  Calls Tryz.prog 42 #[.slice A ps.length c] w (Tells (isNormL ps) w) := by
 obtain ⟨n1, n2⟩ := normL_fit hss
 have hls' : ∀ p ∈ normL ps, p.signs.length ≤ 4294967296 := fun p hp => by
  obtain ⟨i, hi⟩ := List.getElem?_of_mem hp
  have := signsIn_at hi
  omega
 cases hok : okOp ps
 ·have HS := Lib.hid (show isNormL ps = false by unfold isNormL; rw [hok]; rfl)
  go_enter Tryz.func42, Tryz.ntmps42
  go_wp2_with fail
  refine (specOpOk_any A c ps _ hr hl hls).mono ?_
  rintro e w1 ⟨rfl, b1⟩
  rw [hok] at *
  go_wp2
  go_ret
  exact ⟨ret_bool (by rw [HS.out]), b1⟩
 ·have HS := Lib.hid (show isNormL ps = samePs (normL ps) ps by unfold isNormL; rw [hok]; rfl)
  go_enter Tryz.func42, Tryz.ntmps42
  go_wp2_with fail
  refine (specOpOk_any A c ps _ hr hl hls).mono ?_
  rintro e w1 ⟨rfl, b1⟩
  rw [hok] at *
  clear hok
  go_wp2_with fail
  refine (specOpNorm_any A c ps _ (hr.past b1) hl hls hss).mono ?_
  rintro e w2 ⟨v2, rfl, p2, b2⟩
  obtain ⟨B2, d2, rfl, q2⟩ := p2.slice
  have d2' := b1.trans (b2.mono b1.size)
  generalize normL ps = L at *
  go_wp2_with fail
  refine (specOpSame_any B2 A d2 c L ps _ q2 (hr.past d2') (by omega) hl hls' hls).mono ?_
  rintro e w3 ⟨rfl, b3⟩
  go_wp2
  go_ret
  exact ⟨ret_bool (by rw [HS.out]), d2'.trans (b3.mono d2'.size)⟩
theorem grown_refl (w : World) (r : Option Nat) : w.grownBy w r := ⟨rfl, rfl, rfl, Nat.le_refl _, fun _ _ _ => rfl⟩
theorem grown_cell {w w' : World} {r : Option Nat} {p : Addr} (h : w.grownBy w' r) (hb : p.block < w.heap.size) (hne : ¬ r = some p.block) : w'.cell? p = w.cell? p := World.cell?_of_block (w := w) (h.block p.block hb (fun e => hne e.symm))
theorem SmP.all4 {ps : List Pt} (h : SmP ps) : ∀ p ∈ ps, p.signs.length ≤ 4294967296 := fun p hp => Nat.le_trans (h.all p hp) (by omega)
def szP_ (p : Pt) : Prop := (p.kind = 1 ∨ p.kind = 2 ∨ p.kind = 3) ∧ 0 ≤ p.n ∧ p.n ≤ 200 ∧ p.signs.length ≤ 200
theorem Fit.stepZ {j m : Nat} {s : List Pt × List Int × Int} {p : Pt} (h : Fit j m s) (hp : szP_ p) : Fit (j + 1) (m + p.signs.length) (stepN s p) := by
 unfold szP_ at hp
 obtain ⟨d1, d2, d3⟩ := h.done
 have h1 := h.len
 have h2 := h.signs
 have h3 := h.d0
 have h4 := h.d1
 have hns := h.ns
 unfold stepN
 split
 ·rename_i hk
  have hn : 0 ≤ p.n ∧ p.n ≤ 200 := by omega
  split
  ·exact ⟨by omega, by omega, h3, by omega, fun x hx => by have := hns x hx; omega⟩
  ·obtain ⟨k1, k2, k3⟩ := keepTo_fit (q := doneN s) hn.1 (M := 200 * (j : Int)) (by omega) d3
   refine ⟨?_, ?_, by simp, by simp; omega, fun x hx => ?_⟩
   ·show (keepTo (doneN s) p.n).length ≤ _; omega
   ·show signsIn (keepTo (doneN s) p.n) + 0 ≤ _; omega
   ·have := k3 x hx; omega
 ·split
  ·refine ⟨by simp; omega, by simp; omega, h3, by simp; omega, fun x hx => by have := hns x hx; omega⟩
  ·refine ⟨by simp; omega, by simp; omega, by simp; omega, by simp; omega, fun x hx => by have := hns x hx; omega⟩
theorem foldN_app (L : List Pt) (p : Pt) : foldN (L ++ [p]) = stepN (foldN L) p := by unfold foldN; simp
theorem foldN_fitZ {L : List Pt} (h : ∀ p ∈ L, szP_ p) : Fit L.length (signsIn L) (foldN L) := by
 have key : ∀ k, k ≤ L.length → Fit k (signsIn (L.take k)) (foldN (L.take k)) := by
  intro k
  induction k with
  | zero => intro _; simpa [foldN, signsIn] using Fit.start
  | succ k ih =>
   intro hk
   obtain ⟨p, hp⟩ := idx_some (l := L) (i := k) (by omega)
   rw [foldN_snoc hp, signsIn_snoc hp]
   exact (ih (by omega)).stepZ (h p (List.mem_of_getElem? hp))
 have := key L.length (Nat.le_refl _)
 rwa [List.take_length] at this
theorem OwnS.mono {S S' : Nat → Prop} {g : Nat} {v : Value} {us : List Value} (h : OwnS S g v us) (hs : ∀ b, S b → S' b) : OwnS S' g v us := ⟨hs _ h.1, fun k hk => hs k (h.2.1 k hk), fun i k x hx hk => hs k (h.2.2 i k x hx hk)⟩
theorem BAtS.mono {S S' : Nat → Prop} {lo g : Nat} {T : TypeId} {w : World} {ps : List Pt} {put : List Int} {d : Int} (h : BAtS S lo g T w ps put d) (hs : ∀ b, S b → S' b) : BAtS S' lo g T w ps put d := by
 obtain ⟨v, u, us, hx, ha, ho⟩ := h
 exact ⟨v, u, us, hx, ha, ho.mono hs⟩
theorem BAtS.shrink {S : Nat → Prop} {lo g : Nat} {T : TypeId} {w : World} {ps : List Pt} {put : List Int} {d : Int} (h : BAtS S lo g T w ps put d) : BAtS (fun b => S b ∧ b < w.heap.size) lo g T w ps put d := by
 obtain ⟨v, u, us, hx, ha, ho⟩ := h
 refine ⟨v, u, us, hx, ha, ⟨ho.1, hx.lt⟩, fun k hk => ⟨ho.2.1 k hk, own_in hx.row hk⟩, fun i k x hxi hk => ⟨ho.2.2 i k x hxi hk, ?_⟩⟩
 obtain ⟨q, hq⟩ := idx_some (l := ps ++ [⟨2, 0, put⟩]) (i := i) (by rw [← ha.1]; exact idx_lt hxi)
 exact own_in (ha.2.1 i q x hq hxi).1 hk
theorem BAtS.keep {S : Nat → Prop} {lo g : Nat} {T : TypeId} {w w' : World} {ps : List Pt} {put : List Int} {d : Int} (h : BAtS S lo g T w ps put d) (hsz : w.heap.size ≤ w'.heap.size) (hk : ∀ b, b < w.heap.size → S b → w'.heap[b]? = w.heap[b]?) : BAtS S lo g T w' ps put d := by
 obtain ⟨v, u, us, hx, ha, ho⟩ := h
 exact ⟨v, u, us, ⟨(hk g hx.lt ho.1).trans hx.box, own_keep hx.row (fun k h1 h2 => hk k h2 (ho.2.1 k h1)), hx.len, hx.low⟩, ha.keep hsz (fun i x k hxi h1 h2 => hk k h2 (ho.2.2 i k x hxi h1)), ho⟩
structure Bld (O : Nat → Prop) (lo g : Nat) (T : TypeId) (w : World) (L : List Pt) : Prop where
 at_ : BAtS O lo g T w (foldN L).1 (foldN L).2.1 (foldN L).2.2
 sz : ∀ p ∈ L, szP_ p
 len : L.length ≤ 100000
 old : ∀ b, O b → b < w.heap.size
structure Grew (O O' : Nat → Prop) (w w' : World) : Prop where
 size : w.heap.size ≤ w'.heap.size
 block : ∀ b, b < w.heap.size → ¬ O b → w'.heap[b]? = w.heap[b]?
 more : ∀ b, O' b → O b ∨ w.heap.size ≤ b
theorem Bld.fit {O : Nat → Prop} {lo g : Nat} {T : TypeId} {w : World} {L : List Pt} (h : Bld O lo g T w L) : Fit L.length (signsIn L) (foldN L) := foldN_fitZ h.sz
theorem Bld.keep {O : Nat → Prop} {lo g : Nat} {T : TypeId} {w w' : World} {L : List Pt} (h : Bld O lo g T w L) (hsz : w.heap.size ≤ w'.heap.size) (hk : ∀ b, b < w.heap.size → O b → w'.heap[b]? = w.heap[b]?) : Bld O lo g T w' L := ⟨h.at_.keep hsz hk, h.sz, h.len, fun b hb => Nat.lt_of_lt_of_le (h.old b hb) hsz⟩
theorem Bld.past {O : Nat → Prop} {lo g : Nat} {T : TypeId} {w w' : World} {L : List Pt} (h : Bld O lo g T w L) (hb : Below w.heap.size w w') : Bld O lo g T w' L := h.keep hb.size (fun b hlt _ => hb.block b hlt)
theorem Bld.apart {O P P' : Nat → Prop} {lo g : Nat} {T : TypeId} {w w' : World} {L : List Pt} (h : Bld O lo g T w L) (hg : Grew P P' w w') (hd : ∀ b, O b → ¬ P b) : Bld O lo g T w' L ∧ ∀ b, O b → ¬ P' b :=
 ⟨h.keep hg.size (fun b hlt ho => hg.block b hlt (hd b ho)), fun b ho hp => by
  rcases hg.more b hp with h1 | h1
  ·exact hd b ho h1
  ·have := h.old b ho; omega⟩
theorem Bld.new (lo : Nat) (T : TypeId) (w : World) (h : lo ≤ w.heap.size) : Bld (fun b => b = w.heap.size) lo w.heap.size T (w.alloc (.cells #[.slice none 0 0, .slice none 0 0, .int .i64 0] T)) [] :=
 ⟨show BAtS (fun b => b = w.heap.size) lo w.heap.size T (w.alloc (.cells #[.slice none 0 0, .slice none 0 0, .int .i64 0] T)) [] [] 0 from ⟨.slice none 0 0, .slice none 0 0, [], ⟨heap_alloc_new w _, World.ownsRow_nil _ _ _ _, rfl, h⟩, Apart.bare 2 0 ⟨rfl, fun i p u hp _ => by simp at hp, fun i j k u v hu _ _ _ => by simp at hu⟩, rfl, fun k hk => by simp [Value.ownBlock] at hk, fun i k x hx hk => by
   cases i with
   | zero => simp at hx; subst hx; simp [Value.ownBlock] at hk
   | succ i => simp at hx⟩, fun p hp => by simp at hp, by simp, fun b hb => by
   have hb' : b = w.heap.size := hb
   rw [hb']
   exact lt_of_some (heap_alloc_new w _)⟩
theorem Bld.low {O : Nat → Prop} {lo g : Nat} {T : TypeId} {w : World} {L : List Pt} (h : Bld O lo g T w L) : lo ≤ w.heap.size := by
 obtain ⟨v, u, us, hx, _⟩ := h.at_
 exact Nat.le_trans hx.low (Nat.le_of_lt hx.lt)
theorem Bld.add {O : Nat → Prop} {lo g : Nat} {T : TypeId} {w w' : World} {L : List Pt} {p : Pt} (h : Bld O lo g T w L) (hl : L.length < 100000) (hp : szP_ p) (hb : Below lo w w') (hf : Fr (fun b => O b ∨ w.heap.size ≤ b) w w') (ha : BAtS (fun b => O b ∨ w.heap.size ≤ b) lo g T w' (stepN (foldN L) p).1 (stepN (foldN L) p).2.1 (stepN (foldN L) p).2.2) : ∃ O', Bld O' lo g T w' (L ++ [p]) ∧ Below lo w w' ∧ Grew O O' w w' :=
 ⟨fun b => (O b ∨ w.heap.size ≤ b) ∧ b < w'.heap.size, ⟨by rw [foldN_app]; exact ha.shrink, fun q hq => by rcases List.mem_append.1 hq with hq | hq; exact h.sz q hq; simp at hq; subst hq; exact hp, by simp; omega, fun b hb => hb.2⟩, hb, hf.size, fun b hlt ho => hf.block b hlt (fun hs => by rcases hs with hs | hs; exact ho hs; omega), fun b hb => hb.1⟩
theorem Grew.out {O O' : Nat → Prop} {lo hi : Nat} {w w' : World} (hg : Grew O O' w w') (hO : ∀ x, O x → x < lo ∨ hi ≤ x) (hh : hi ≤ w.heap.size) : ∀ x, O' x → x < lo ∨ hi ≤ x := fun x hx => by
 rcases hg.more x hx with h | h
 ·exact hO x h
 ·exact .inr (Nat.le_trans hh h)
def DoneP (O : Nat → Prop) (lo : Nat) (L : List Pt) (w : World) (e : Ending) (w' : World) : Prop := ∃ v b, e = .returned v ∧ OwB lo w'.heap.size w' (encPs (doneN (foldN L))) v b ∧ (∀ x ∈ b, O x ∨ w.heap.size ≤ x) ∧ Below lo w w' ∧ Grew O (fun x => x ∈ b) w w'
theorem GoneS.done {O : Nat → Prop} {lo : Nat} {L : List Pt} {w w' : World} {e : Ending} (h : GoneS (fun b => O b ∨ w.heap.size ≤ b) lo (doneN (foldN L)) w e w') : DoneP O lo L w e w' := by
 obtain ⟨v, us, e1, p, b, fr, ho, hl, hv, hu⟩ := h
 have hp := p
 obtain ⟨us', ho', ha', _⟩ := p
 obtain ⟨bs, oc, nd, rng, top, le⟩ := own_parts hp
 have heq : ∀ x ∈ bs, O x ∨ w.heap.size ≤ x := fun x hx => by
  obtain ⟨xs, cs, hox, hor, hb⟩ := oc
  rw [hb] at hx
  rcases List.mem_append.1 hx with hx | hx
  ·exact hv x (by simpa using hx)
  ·obtain ⟨us2, k1, k2, k3, k4⟩ := owR_parts hor
   rw [k3] at hx
   obtain ⟨i, u, hui, hk⟩ := mem_blks.1 hx
   have e2 : cellsOf (doneN (foldN L)) us2 = cellsOf (doneN (foldN L)) us := by
    rw [← k2]
    rcases ho.2 with ⟨rfl, h0⟩ | ⟨g, cap, cur, rfl, _, hh, _, _, _, ht⟩
    ·have : doneN (foldN L) = [] := List.eq_nil_of_length_eq_zero h0
     have l1 := hox.1
     have l2 := ho.1
     rw [this] at l1 l2 ⊢
     simp at l1
     rw [l1]
     rfl
    ·rcases hox.2 with ⟨hn, _⟩ | ⟨g', cap', cur', hv', _, hh', _, _, _, ht'⟩
     ·cases hn
     ·injection hv' with q1 q2 q3
      injection q1 with q1
      injection q1 with q1
      subst q1
      rw [hh] at hh'
      injection hh' with hh'
      injection hh' with hc _ _
      subst hc
      rw [← ht', ← ht]
      simp
   have e3 : us2[i]? = us[i]? := by
    obtain ⟨q, hq⟩ := idx_some (l := doneN (foldN L)) (i := i) (by rw [← k1]; exact idx_lt hui)
    obtain ⟨u2, hu2⟩ := idx_some (l := us) (i := i) (by rw [hl, ← k1]; exact idx_lt hui)
    have a1 := (cellsOf_at _ us2 i q u hq hui).2.2
    have a2 := (cellsOf_at _ us i q u2 hq hu2).2.2
    rw [e2, a2] at a1
    rw [hui, hu2]
    exact a1.symm
   exact hu i x u (by rw [← e3]; exact hui) hk
 exact ⟨v, bs, e1, ⟨oc, nd, rng, top, le⟩, heq, b, fr.size, fun x hlt ho => fr.block x hlt (fun hs => by rcases hs with hs | hs; exact ho hs; omega), heq⟩
def tidy (p : Pt) : Prop := (p.kind = 1 ∧ 0 < p.n ∧ p.signs = []) ∨ (p.kind = 2 ∧ p.n = 0 ∧ 0 < p.signs.length) ∨ (p.kind = 3 ∧ 0 < p.n ∧ p.signs = [])
def nextOk (p q : Pt) : Prop := (p.kind = 1 → q.kind = 2 ∨ q.kind = 3) ∧ (p.kind = 2 → q.kind = 1 ∨ q.kind = 3) ∧ (p.kind = 3 → q.kind = 1)
def inOrder : List Pt → Prop
 | [] => True
 | [_] => True
 | p :: q :: r => nextOk p q ∧ inOrder (q :: r)
def normal (L : List Pt) : Prop := (∀ p ∈ L, tidy p) ∧ inOrder L
inductive U where
 | k
 | p (x : Int)
 | d
def unitsP (p : Pt) : List U := if p.kind = 1 then List.replicate p.n.toNat .k else if p.kind = 2 then p.signs.map .p else List.replicate p.n.toNat .d
def units (L : List Pt) : List U := L.flatMap unitsP
theorem units_app (a b : List Pt) : units (a ++ b) = units a ++ units b := by simp [units]
def stepU (s : List Pt × List Int × Int) : U → List Pt × List Int × Int
 | .k => (keepTo (doneN s) 1, [], 0)
 | .p x => (s.1, s.2.1 ++ [x], s.2.2)
 | .d => (s.1, s.2.1, s.2.2 + 1)
def foldU (us : List U) : List Pt × List Int × Int := us.foldl stepU ([], [], 0)
def src : List U → Nat
 | [] => 0
 | .k :: us => src us + 1
 | .p _ :: us => src us
 | .d :: us => src us + 1
def tgt : List U → Nat
 | [] => 0
 | .k :: us => tgt us + 1
 | .p _ :: us => tgt us + 1
 | .d :: us => tgt us
theorem src_app : ∀ a b : List U, src (a ++ b) = src a + src b
 | [], b => by simp [src]
 | .k :: a, b => by simp only [List.cons_append, src, src_app a b]; omega
 | .p _ :: a, b => by simp only [List.cons_append, src, src_app a b]
 | .d :: a, b => by simp only [List.cons_append, src, src_app a b]; omega
theorem tgt_app : ∀ a b : List U, tgt (a ++ b) = tgt a + tgt b
 | [], b => by simp [tgt]
 | .k :: a, b => by simp only [List.cons_append, tgt, tgt_app a b]; omega
 | .p _ :: a, b => by simp only [List.cons_append, tgt, tgt_app a b]; omega
 | .d :: a, b => by simp only [List.cons_append, tgt, tgt_app a b]
def comp : List U → List U → List U
 | [], [] => []
 | [], .p x :: b => .p x :: comp [] b
 | [], .k :: b => []
 | [], .d :: b => []
 | .d :: a, b => .d :: comp a b
 | .k :: a, [] => []
 | .k :: a, .p x :: b => .p x :: comp (.k :: a) b
 | .k :: a, .k :: b => .k :: comp a b
 | .k :: a, .d :: b => .d :: comp a b
 | .p y :: a, [] => []
 | .p y :: a, .p x :: b => .p x :: comp (.p y :: a) b
 | .p y :: a, .k :: b => .p y :: comp a b
 | .p y :: a, .d :: b => comp a b
termination_by a b => a.length + b.length
def xf : List U → List U → List U × List U
 | [], [] => ([], [])
 | .p x :: a, b => (.p x :: (xf a b).1, .k :: (xf a b).2)
 | [], .p x :: b => (.k :: (xf [] b).1, .p x :: (xf [] b).2)
 | [], .k :: b => ([], [])
 | [], .d :: b => ([], [])
 | .k :: a, [] => ([], [])
 | .k :: a, .p x :: b => (.k :: (xf (.k :: a) b).1, .p x :: (xf (.k :: a) b).2)
 | .k :: a, .k :: b => (.k :: (xf a b).1, .k :: (xf a b).2)
 | .k :: a, .d :: b => ((xf a b).1, .d :: (xf a b).2)
 | .d :: a, [] => ([], [])
 | .d :: a, .p x :: b => (.k :: (xf (.d :: a) b).1, .p x :: (xf (.d :: a) b).2)
 | .d :: a, .k :: b => (.d :: (xf a b).1, (xf a b).2)
 | .d :: a, .d :: b => xf a b
termination_by a b => a.length + b.length
theorem src_rk : ∀ n : Nat, src (List.replicate n U.k) = n ∧ tgt (List.replicate n U.k) = n
 | 0 => ⟨rfl, rfl⟩
 | n + 1 => by rw [List.replicate_succ]; simp [src, tgt, src_rk n]
theorem src_rd : ∀ n : Nat, src (List.replicate n U.d) = n ∧ tgt (List.replicate n U.d) = 0
 | 0 => ⟨rfl, rfl⟩
 | n + 1 => by rw [List.replicate_succ]; simp [src, tgt, src_rd n]
theorem src_mp : ∀ zs : List Int, src (zs.map U.p) = 0 ∧ tgt (zs.map U.p) = zs.length
 | [] => ⟨rfl, rfl⟩
 | z :: zs => by rw [List.map_cons]; simp [src, tgt, src_mp zs]
def sizeP (p : Pt) : Nat := if p.kind = 2 then p.signs.length else p.n.toNat
def rem (ps : List Pt) (at_ done : Nat) : List U := (units (ps.drop at_)).drop done
structure Cur (g : Nat) (T : TypeId) (w : World) (A : Option Addr) (c : Nat) (ps : List Pt) (at_ done : Nat) : Prop where
 box : w.heap[g]? = some (.cells #[.slice A ps.length c, .int .i64 (at_ : Int), .int .i64 (done : Int)] T (0, 0))
 le : at_ ≤ ps.length
 part : ∀ p, ps[at_]? = some p → done ≤ sizeP p
 stop : at_ = ps.length → done = 0
theorem Cur.cell {g : Nat} {T : TypeId} {w : World} {A : Option Addr} {c : Nat} {ps : List Pt} {at_ done : Nat} (h : Cur g T w A c ps at_ done) (i : Nat) : w.cell? ⟨g, i, none⟩ = #[Value.slice A ps.length c, .int .i64 (at_ : Int), .int .i64 (done : Int)][i]? := cell_of_row _ _ i _ _ _ h.box
theorem Cur.free {g : Nat} {T : TypeId} {w : World} {A : Option Addr} {c : Nat} {ps : List Pt} {at_ done : Nat} (h : Cur g T w A c ps at_ done) (o : Nat) : w.frozen? ⟨g, o, none⟩ = false := by simp [World.frozen?, h.box]
theorem Cur.lt {g : Nat} {T : TypeId} {w : World} {A : Option Addr} {c : Nat} {ps : List Pt} {at_ done : Nat} (h : Cur g T w A c ps at_ done) : g < w.heap.size := lt_of_some h.box
theorem Cur.keep {g : Nat} {T : TypeId} {w w' : World} {A : Option Addr} {c : Nat} {ps : List Pt} {at_ done : Nat} (h : Cur g T w A c ps at_ done) (hk : w'.heap[g]? = w.heap[g]?) : Cur g T w' A c ps at_ done := ⟨hk.trans h.box, h.le, h.part, h.stop⟩
def KS (wr W : World) : Prop := Below wr.heap.size wr W
theorem KS.start (wr : World) : KS wr wr.drew := (Below.refl _ _).drew
theorem ret_b {a b : Bool} (h : a = b) : Ending.returned (.bool a) = .returned (.bool b) := by rw [h]
def entryB (x : En) : Bool := inB x.client 1 8 && inB x.seq 1 1000000000 && isNormL x.o
theorem specEntryOk_d (v : Value) (x : En) (w : World) (h : RdC w w.heap.size (datEn x) v) (hs : SmEn x) : Calls Tryz.prog 25 #[v] w (Tells (entryB x) w) := by
 obtain ⟨A2, c2, rfl, r2⟩ := aggEn h
 have b0 := alloc_below w (.cells #[.int .i64 x.client, .int .i64 x.seq, .slice A2 x.o.length c2] 37)
 have HE := Lib.hid (show entryB x = (inB x.client 1 8 && inB x.seq 1 1000000000 && isNormL x.o) from rfl)
 cases h1 : inB x.client 1 8
 ·go_enter Tryz.func25, Tryz.ntmps25
  go_wp2_with fail
  refine (in_any _ _ _ _).mono ?_
  rintro e w1 ⟨rfl, rfl⟩
  rw [h1]
  go_wp2
  go_ret
  exact ⟨ret_b (by rw [HE.out, h1]; rfl), b0⟩
 cases h2 : inB x.seq 1 1000000000
 ·go_enter Tryz.func25, Tryz.ntmps25
  go_wp2_with fail
  refine (in_any _ _ _ _).mono ?_
  rintro e w1 ⟨rfl, rfl⟩
  rw [h1]
  go_wp2_with fail
  refine (in_any _ _ _ _).mono ?_
  rintro e w1 ⟨rfl, rfl⟩
  rw [h2]
  go_wp2
  go_ret
  exact ⟨ret_b (by rw [HE.out, h1, h2]; rfl), b0⟩
 obtain ⟨A, c, e2, hr, _⟩ := parts_rd r2
 injection e2 with e2 _ e3
 subst e2 e3
 have hso := hs.o
 have hs1 := hso.1
 have hs2 := hso.2
 go_enter Tryz.func25, Tryz.ntmps25
 go_wp2_with fail
 refine (in_any _ _ _ _).mono ?_
 rintro e w1 ⟨rfl, rfl⟩
 rw [h1]
 go_wp2_with fail
 refine (in_any _ _ _ _).mono ?_
 rintro e w1 ⟨rfl, rfl⟩
 rw [h2]
 go_wp2_with fail
 refine (specIsNorm_any A2 c2 x.o _ (hr.past b0) (by omega) hso.all4 hs2).mono ?_
 rintro e w1 ⟨rfl, b1⟩
 go_wp2
 go_ret
 exact ⟨ret_b (by rw [HE.out, h1, h2]; rfl), b0.trans (b1.mono b0.size)⟩
def headRevT (x : Do) : Int := wrap64 (x.from_ + (x.list.length : Int))
def seenGo (c : Int) : List Se → Option Se
 | [] => none
 | s :: l => if s.client = c then some s else seenGo c l
def noD : List U → Prop
 | .d :: _ => False
 | _ => True
def noP : List U → Prop
 | .p _ :: _ => False
 | _ => True
theorem comp_ds : ∀ (n : Nat) (a b : List U), comp (List.replicate n .d ++ a) b = List.replicate n .d ++ comp a b
 | 0, a, b => rfl
 | n + 1, a, b => by rw [List.replicate_succ, List.cons_append, comp, comp_ds n a b]; rfl
theorem comp_put1 (a b : List U) (x : Int) (h : noD a) : comp a (.p x :: b) = .p x :: comp a b := by
 cases a with
 | nil => rw [comp]
 | cons u a =>
  cases u with
  | k => rw [comp]
  | p y => rw [comp]
  | d => exact absurd h (by simp [noD])
theorem comp_puts : ∀ (zs : List Int) (a b : List U), noD a → comp a (zs.map .p ++ b) = zs.map .p ++ comp a b
 | [], a, b, _ => rfl
 | z :: zs, a, b, h => by rw [List.map_cons, List.cons_append, comp_put1 a _ z h, comp_puts zs a b h]; rfl
theorem comp_kk : ∀ (n : Nat) (a b : List U), comp (List.replicate n .k ++ a) (List.replicate n .k ++ b) = List.replicate n .k ++ comp a b
 | 0, a, b => rfl
 | n + 1, a, b => by rw [List.replicate_succ, List.cons_append, List.cons_append, comp, comp_kk n a b]; rfl
theorem comp_pk : ∀ (zs : List Int) (a b : List U), comp (zs.map .p ++ a) (List.replicate zs.length .k ++ b) = zs.map .p ++ comp a b
 | [], a, b => rfl
 | z :: zs, a, b => by rw [List.map_cons, List.length_cons, List.replicate_succ, List.cons_append, List.cons_append, comp, comp_pk zs a b]; rfl
theorem xf_puts : ∀ (zs : List Int) (a b : List U), xf (zs.map .p ++ a) b = (zs.map .p ++ (xf a b).1, List.replicate zs.length .k ++ (xf a b).2)
 | [], a, b => rfl
 | z :: zs, a, b => by rw [List.map_cons, List.cons_append, xf, xf_puts zs a b]; rfl
theorem xf_put1 (a b : List U) (x : Int) (h : noP a) : xf a (.p x :: b) = (.k :: (xf a b).1, .p x :: (xf a b).2) := by
 cases a with
 | nil => rw [xf]
 | cons u a =>
  cases u with
  | k => rw [xf]
  | p y => exact absurd h (by simp [noP])
  | d => rw [xf]
theorem xf_putsB : ∀ (zs : List Int) (a b : List U), noP a → xf a (zs.map .p ++ b) = (List.replicate zs.length .k ++ (xf a b).1, zs.map .p ++ (xf a b).2)
 | [], a, b, _ => rfl
 | z :: zs, a, b, h => by rw [List.map_cons, List.cons_append, xf_put1 a _ z h, xf_putsB zs a b h]; rfl
theorem xf_kk : ∀ (n : Nat) (a b : List U), xf (List.replicate n .k ++ a) (List.replicate n .k ++ b) = (List.replicate n .k ++ (xf a b).1, List.replicate n .k ++ (xf a b).2)
 | 0, a, b => rfl
 | n + 1, a, b => by rw [List.replicate_succ, List.cons_append, List.cons_append, xf, xf_kk n a b]; rfl
theorem Cur.step {g : Nat} {T : TypeId} {w : World} {A : Option Addr} {c : Nat} {ps : List Pt} {at_ done : Nat} (h : Cur g T w A c ps at_ done) (done' : Nat) (h1 : at_ < ps.length) (h2 : ∀ p, ps[at_]? = some p → done' ≤ sizeP p) :
  Cur g T (w.setCell ⟨g, 2, none⟩ (.int .i64 (done' : Int))) A c ps at_ done' := by
 refine ⟨?_, h.le, h2, fun e => by omega⟩
 rw [heap_setCell_same _ _ _ _ _ _ h.box]
 rfl
theorem ownInts {lo : Nat} {w : World} {A : Option Addr} {n c : Nat} {zs : List Int} (h : w.ownsRow lo 3 1 (.slice A n c) zs.length (zs.map (Value.int .i64))) (hlo : lo ≤ w.heap.size) : Own lo w.heap.size w (encInts zs) (.slice A n c) :=
 ⟨_, ow_ints h, by cases A <;> simp [Value.ownBlock], fun b hb => by
  have hb' : (Value.slice A n c).ownBlock = some b := by simpa using hb
  exact ⟨own_ge h b hb', own_in h hb'⟩, Nat.le_refl _, hlo⟩
def kindOf : List U → Int
 | [] => 0
 | .k :: _ => 1
 | .p _ :: _ => 2
 | .d :: _ => 3
structure CInv (a b : List Pt) (RX RY : List U) (L : List Pt) : Prop where
 eq : units L ++ comp RX RY = comp (units a) (units b)
 bal : tgt RX = src RY
 len : L.length + RX.length + RY.length ≤ 2000
theorem CInv.drop {a b : List Pt} {n : Nat} {RX RY : List U} {L : List Pt} (h : CInv a b (List.replicate n .d ++ RX) RY L) (hn : 0 < n) : CInv a b RX RY (L ++ [⟨3, (n : Int), []⟩]) := by
 refine ⟨?_, ?_, ?_⟩
 ·rw [← h.eq, comp_ds, units_app]
  simp [units, unitsP]
 ·have := h.bal; rwa [tgt_app, (src_rd n).2, Nat.zero_add] at this
 ·have := h.len; simp at this ⊢; omega
theorem CInv.put {a b : List Pt} {zs : List Int} {RX RY : List U} {L : List Pt} (h : CInv a b RX (zs.map .p ++ RY) L) (hd : noD RX) (hn : 0 < zs.length) : CInv a b RX RY (L ++ [⟨2, 0, zs⟩]) := by
 refine ⟨?_, ?_, ?_⟩
 ·rw [← h.eq, comp_puts zs _ _ hd, units_app]
  simp [units, unitsP]
 ·have := h.bal; rwa [src_app, (src_mp zs).1, Nat.zero_add] at this
 ·have := h.len; simp at this ⊢; omega
theorem CInv.kk {a b : List Pt} {n : Nat} {RX RY : List U} {L : List Pt} (h : CInv a b (List.replicate n .k ++ RX) (List.replicate n .k ++ RY) L) (hn : 0 < n) : CInv a b RX RY (L ++ [⟨1, (n : Int), []⟩]) := by
 refine ⟨?_, ?_, ?_⟩
 ·rw [← h.eq, comp_kk, units_app]
  simp [units, unitsP]
 ·have := h.bal; rw [tgt_app, src_app, (src_rk n).1, (src_rk n).2] at this; omega
 ·have := h.len; simp at this ⊢; omega
theorem CInv.pk {a b : List Pt} {zs : List Int} {RX RY : List U} {L : List Pt} (h : CInv a b (zs.map .p ++ RX) (List.replicate zs.length .k ++ RY) L) (hn : 0 < zs.length) : CInv a b RX RY (L ++ [⟨2, 0, zs⟩]) := by
 refine ⟨?_, ?_, ?_⟩
 ·rw [← h.eq, comp_pk, units_app]
  simp [units, unitsP]
 ·have := h.bal; rw [tgt_app, src_app, (src_mp zs).2, (src_rk zs.length).1] at this; omega
 ·have := h.len; simp at this ⊢; omega
def Lead (R : List U) (m : Nat) : Prop := (R = [] ∧ m = 0) ∨ (0 < m ∧ m ≤ 200 ∧ m ≤ R.length ∧ ((kindOf R = 1 ∧ R.take m = List.replicate m .k) ∨ (kindOf R = 3 ∧ R.take m = List.replicate m .d) ∨ (kindOf R = 2 ∧ ∃ zs : List Int, R.take m = zs.map .p)))
theorem take_rep {R : List U} {u : U} {m n : Nat} (h : R.take m = List.replicate m u) (hn : n ≤ m) : R = List.replicate n u ++ R.drop n := by
 have e : R.take n = List.replicate n u := by
  have := congrArg (List.take n) h
  rwa [List.take_take, Nat.min_eq_left hn, List.take_replicate, Nat.min_eq_left hn] at this
 rw [← e, List.take_append_drop]
theorem Lead.k {R : List U} {m n : Nat} (h : Lead R m) (hk : kindOf R = 1) (hn : n ≤ m) : R = List.replicate n .k ++ R.drop n := by
 rcases h with ⟨rfl, rfl⟩ | ⟨_, _, _, ⟨_, h⟩ | ⟨h, _⟩ | ⟨h, _⟩⟩
 ·obtain rfl : n = 0 := by omega
  rfl
 ·exact take_rep h hn
 ·omega
 ·omega
theorem Lead.d {R : List U} {m n : Nat} (h : Lead R m) (hk : kindOf R = 3) (hn : n ≤ m) : R = List.replicate n .d ++ R.drop n := by
 rcases h with ⟨rfl, rfl⟩ | ⟨_, _, _, ⟨h, _⟩ | ⟨_, h⟩ | ⟨h, _⟩⟩
 ·obtain rfl : n = 0 := by omega
  rfl
 ·omega
 ·exact take_rep h hn
 ·omega
theorem Lead.p {R : List U} {m n : Nat} (h : Lead R m) (hk : kindOf R = 2) (hn : n ≤ m) : ∃ zs : List Int, zs.length = n ∧ R = zs.map .p ++ R.drop n := by
 rcases h with ⟨rfl, rfl⟩ | ⟨_, _, hl, ⟨h, _⟩ | ⟨h, _⟩ | ⟨_, zs, h⟩⟩
 ·obtain rfl : n = 0 := by omega
  exact ⟨[], rfl, rfl⟩
 ·omega
 ·omega
 ·have e : R.take n = (zs.take n).map .p := by
   have := congrArg (List.take n) h
   rwa [List.take_take, Nat.min_eq_left hn, ← List.map_take] at this
  have l := congrArg List.length e
  rw [List.length_take, List.length_map] at l
  exact ⟨zs.take n, by omega, by rw [← e, List.take_append_drop]⟩
structure Fx where
 lo : Nat
 gx : Nat
 gy : Nat
 TC : TypeId
 A : Option Addr
 ca : Nat
 a : List Pt
 B : Option Addr
 cb : Nat
 b : List Pt
def Fx.swap (K : Fx) : Fx := ⟨K.lo, K.gy, K.gx, K.TC, K.B, K.cb, K.b, K.A, K.ca, K.a⟩
def Sett (ps : List Pt) (at_ done : Nat) : Option Nat → Prop
 | none => True
 | some m => (at_ = ps.length ∧ m = 0) ∨ ∃ p, ps[at_]? = some p ∧ done < sizeP p ∧ m = sizeP p - done
structure Cs (K : Fx) (w : World) (sx sy : Option Nat) (RX RY : List U) : Prop where
 ex : ∃ i d, Cur K.gx K.TC w K.A K.ca K.a i d ∧ rem K.a i d = RX ∧ Sett K.a i d sx
 ey : ∃ i d, Cur K.gy K.TC w K.B K.cb K.b i d ∧ rem K.b i d = RY ∧ Sett K.b i d sy
 ra : RdC w K.lo (encPs K.a) (.slice K.A K.a.length K.ca)
 rb : RdC w K.lo (encPs K.b) (.slice K.B K.b.length K.cb)
 ne : ¬ K.gx = K.gy
 lx : K.lo ≤ K.gx
 ly : K.lo ≤ K.gy
 sa : ∀ p ∈ K.a, szP_ p
 sb : ∀ p ∈ K.b, szP_ p
 na : K.a.length ≤ 1048576
 nb : K.b.length ≤ 1048576
section
variable {K : Fx} {w w' : World} {sx sy : Option Nat} {RX RY : List U}
theorem Cs.swap (h : Cs K w sx sy RX RY) : Cs K.swap w sy sx RY RX := ⟨h.ey, h.ex, h.rb, h.ra, fun e => h.ne e.symm, h.ly, h.lx, h.sb, h.sa, h.nb, h.na⟩
theorem Cs.back (h : Cs K.swap w sx sy RX RY) : Cs K w sy sx RY RX := ⟨h.ey, h.ex, h.rb, h.ra, fun e => h.ne e.symm, h.ly, h.lx, h.sb, h.sa, h.nb, h.na⟩
theorem Cs.xlt (h : Cs K w sx sy RX RY) : K.gx < w.heap.size := by obtain ⟨_, _, hc, _⟩ := h.ex; exact hc.lt
theorem Cs.ylt (h : Cs K w sx sy RX RY) : K.gy < w.heap.size := by obtain ⟨_, _, hc, _⟩ := h.ey; exact hc.lt
theorem Cs.keep (h : Cs K w sx sy RX RY) (hx : w'.heap[K.gx]? = w.heap[K.gx]?) (hy : w'.heap[K.gy]? = w.heap[K.gy]?) (hb : Below K.lo w w') : Cs K w' sx sy RX RY := by
 obtain ⟨i, d, h1, h2, h3⟩ := h.ex
 obtain ⟨j, e, k1, k2, k3⟩ := h.ey
 exact ⟨⟨i, d, h1.keep hx, h2, h3⟩, ⟨j, e, k1.keep hy, k2, k3⟩, h.ra.below hb, h.rb.below hb, h.ne, h.lx, h.ly, h.sa, h.sb, h.na, h.nb⟩
theorem Cs.past (h : Cs K w sx sy RX RY) (hb : Below w.heap.size w w') : Cs K w' sx sy RX RY :=
 h.keep (hb.block _ h.xlt) (hb.block _ h.ylt) (hb.mono (Nat.le_trans h.lx (Nat.le_of_lt h.xlt)))
end
structure CB (K : Fx) (go : Nat) (TB : TypeId) (O : Nat → Prop) (L : List Pt) (w : World) (sx sy : Option Nat) (RX RY : List U) : Prop where
 cs : Cs K w sx sy RX RY
 bd : Bld O K.lo go TB w L
 ox : ¬ O K.gx
 oy : ¬ O K.gy
section
variable {K : Fx} {go : Nat} {TB : TypeId} {O O' : Nat → Prop} {L L' : List Pt} {w w' : World} {sx sy sx' sy' : Option Nat} {RX RY RX' RY' : List U}
theorem CB.past (h : CB K go TB O L w sx sy RX RY) (hb : Below w.heap.size w w') : CB K go TB O L w' sx sy RX RY := ⟨h.cs.past hb, h.bd.past hb, h.ox, h.oy⟩
end
section
variable {K : Fx} {go : Nat} {TB : TypeId} {O : Nat → Prop} {L : List Pt} {w : World} {sx sy : Option Nat} {RX RY : List U}
end
structure XInv (a b : List Pt) (RX RY : List U) (L M : List Pt) : Prop where
 eq1 : units L ++ (xf RX RY).1 = (xf (units a) (units b)).1
 eq2 : units M ++ (xf RX RY).2 = (xf (units a) (units b)).2
 bal : src RX = src RY
 len : L.length + M.length + 2 * RX.length + 2 * RY.length ≤ 4000
section
variable {a b : List Pt} {RX RY : List U} {L M : List Pt}
theorem XInv.px {zs : List Int} (h : XInv a b (zs.map .p ++ RX) RY L M) (hn : 0 < zs.length) : XInv a b RX RY (L ++ [⟨2, 0, zs⟩]) (M ++ [⟨1, (zs.length : Int), []⟩]) := by
 refine ⟨?_, ?_, ?_, ?_⟩
 ·rw [← h.eq1, xf_puts, units_app]; simp [units, unitsP]
 ·rw [← h.eq2, xf_puts, units_app]; simp [units, unitsP]
 ·have := h.bal; rw [src_app, (src_mp zs).1] at this; omega
 ·have := h.len; simp at this ⊢; omega
theorem XInv.py {zs : List Int} (h : XInv a b RX (zs.map .p ++ RY) L M) (hp : noP RX) (hn : 0 < zs.length) : XInv a b RX RY (L ++ [⟨1, (zs.length : Int), []⟩]) (M ++ [⟨2, 0, zs⟩]) := by
 refine ⟨?_, ?_, ?_, ?_⟩
 ·rw [← h.eq1, xf_putsB _ _ _ hp, units_app]; simp [units, unitsP]
 ·rw [← h.eq2, xf_putsB _ _ _ hp, units_app]; simp [units, unitsP]
 ·have := h.bal; rw [src_app, (src_mp zs).1] at this; omega
 ·have := h.len; simp at this ⊢; omega
theorem XInv.kk {n : Nat} (h : XInv a b (List.replicate n .k ++ RX) (List.replicate n .k ++ RY) L M) (hn : 0 < n) : XInv a b RX RY (L ++ [⟨1, (n : Int), []⟩]) (M ++ [⟨1, (n : Int), []⟩]) := by
 refine ⟨?_, ?_, ?_, ?_⟩
 ·rw [← h.eq1, xf_kk, units_app]; simp [units, unitsP]
 ·rw [← h.eq2, xf_kk, units_app]; simp [units, unitsP]
 ·have := h.bal; rw [src_app, src_app, (src_rk n).1] at this; omega
 ·have := h.len; simp at this ⊢; omega
end
structure TT (K : Fx) (g1 g2 : Nat) (TB : TypeId) (O P : Nat → Prop) (L M : List Pt) (w : World) (sx sy : Option Nat) (RX RY : List U) : Prop where
 cs : Cs K w sx sy RX RY
 b1 : Bld O K.lo g1 TB w L
 b2 : Bld P K.lo g2 TB w M
 ox : ¬ O K.gx
 oy : ¬ O K.gy
 px : ¬ P K.gx
 py : ¬ P K.gy
 dis : ∀ q, O q → ¬ P q
section
variable {K : Fx} {g1 g2 : Nat} {TB : TypeId} {O O' P P' : Nat → Prop} {L L' M M' : List Pt} {w w' : World} {sx sy sx' sy' : Option Nat} {RX RY RX' RY' : List U}
theorem TT.one (h : TT K g1 g2 TB O P L M w sx sy RX RY) : CB K g1 TB O L w sx sy RX RY := ⟨h.cs, h.b1, h.ox, h.oy⟩
theorem TT.past (h : TT K g1 g2 TB O P L M w sx sy RX RY) (hb : Below w.heap.size w w') : TT K g1 g2 TB O P L M w' sx sy RX RY := ⟨h.cs.past hb, h.b1.past hb, h.b2.past hb, h.ox, h.oy, h.px, h.py, h.dis⟩
end
section
variable {K : Fx} {g1 g2 : Nat} {TB : TypeId} {O P : Nat → Prop} {L M : List Pt} {w : World} {sx sy : Option Nat} {RX RY : List U}
end
inductive It where
 | bx (g : Nat) (o : Obj)
 | dt (d : Dat) (v : Value) (b : List Nat)
 | rd (d : Dat) (v : Value) (b : List Nat)
def It.bs : It → List Nat
 | .bx g _ => [g]
 | .dt _ _ b => b
 | .rd _ _ b => b
def It.ok (W : World) : It → Prop
 | .bx g o => W.heap[g]? = some o
 | .dt d v b => OwC W d v b
 | .rd d v b => (∀ q ∈ b, q < W.heap.size) ∧ ∀ W' : World, (∀ q ∈ b, W'.heap[q]? = W.heap[q]?) → ∀ B, (∀ q ∈ b, q < B) → RdC W' B d v
theorem It.keep {W W' : World} {x : It} (h : x.ok W) (hk : ∀ q ∈ x.bs, W'.heap[q]? = W.heap[q]?) : x.ok W' := by
 cases x with
 | bx g o => exact (hk g (by simp [It.bs])).trans h
 | dt d v b => exact OwC.keep d v b h hk
 | rd d v b =>
  refine ⟨fun q hq => ?_, fun W2 h2 => h.2 W2 (fun q hq => (h2 q hq).trans (hk q hq))⟩
  have h1 := h.1 q hq
  rcases Nat.lt_or_ge q W'.heap.size with h3 | h3
  ·exact h3
  ·have h4 := hk q hq
   rw [Array.getElem?_eq_none h3, Array.getElem?_eq_getElem h1] at h4
   cases h4
theorem It.lt {W : World} {x : It} (h : x.ok W) {q : Nat} (hq : q ∈ x.bs) : q < W.heap.size := by
 cases x with
 | bx g o => obtain rfl : q = g := by simpa [It.bs] using hq
             exact lt_of_some h
 | dt d v b => exact OwC.lt d v b h q hq
 | rd d v b => exact h.1 q hq
structure Ms (w0 : World) (L : List It) (W : World) : Prop where
 ok : ∀ x ∈ L, x.ok W
 nd : (L.flatMap It.bs).Nodup
 rg : ∀ q ∈ L.flatMap It.bs, w0.heap.size ≤ q
 bl : Below w0.heap.size w0 W
section
variable {w0 W W' : World} {L L' : List It} {x y : It}
theorem Ms.start (w : World) : Ms w [] w := ⟨fun x hx => (by simp at hx), by simp, fun q hq => (by simp at hq), Below.refl _ _⟩
theorem Ms.size (h : Ms w0 L W) : w0.heap.size ≤ W.heap.size := h.bl.size
theorem Ms.blt (h : Ms w0 L W) : ∀ q ∈ L.flatMap It.bs, q < W.heap.size := fun q hq => by
 obtain ⟨x, hx, hq⟩ := List.mem_flatMap.1 hq
 exact It.lt (h.ok x hx) hq
theorem Ms.keep (h : Ms w0 L W) (hk : ∀ q ∈ L.flatMap It.bs, W'.heap[q]? = W.heap[q]?) (hb : Below w0.heap.size w0 W') : Ms w0 L W' :=
 ⟨fun x hx => It.keep (h.ok x hx) (fun q hq => hk q (List.mem_flatMap.2 ⟨x, hx, hq⟩)), h.nd, h.rg, hb⟩
theorem Ms.past (h : Ms w0 L W) (hb : Below W.heap.size W W') : Ms w0 L W' := h.keep (fun q hq => hb.block q (h.blt q hq)) (h.bl.trans (hb.mono h.size))
theorem Ms.drew (h : Ms w0 L W) : Ms w0 L W.drew := h.past (Below.refl _ _).drew
theorem Ms.drewN (h : Ms w0 L W) (n : Nat) : Ms w0 L (W.drewN n) := h.past ⟨rfl, rfl, rfl, Nat.le_refl _, fun _ _ => rfl⟩
theorem Ms.arg (h : Ms w0 L W) {d : Dat} {v : Value} (hr : RdC w0 w0.heap.size d v) : RdC W W.heap.size d v := hr.past h.bl
theorem Ms.perm (h : Ms w0 L W) (hp : L.Perm L') : Ms w0 L' W :=
 ⟨fun x hx => h.ok x (hp.mem_iff.2 hx), (hp.flatMap_right It.bs).nodup_iff.1 h.nd, fun q hq => h.rg q ((hp.flatMap_right It.bs).mem_iff.2 hq), h.bl⟩
theorem Ms.tail (h : Ms w0 (x :: L) W) : Ms w0 L W :=
 ⟨fun y hy => h.ok y (by simp [hy]), by have := h.nd; rw [List.flatMap_cons, List.nodup_append] at this; exact this.2.1, fun q hq => h.rg q (by rw [List.flatMap_cons]; exact List.mem_append_right _ hq), h.bl⟩
theorem erase_perm : ∀ {L : List It} {i : Nat} {x : It}, L[i]? = some x → L.Perm (x :: L.eraseIdx i)
 | [], i, x, h => by simp at h
 | y :: L, 0, x, h => by
  simp at h
  subst h
  exact List.Perm.refl _
 | y :: L, i + 1, x, h => by
  have ih := erase_perm (L := L) (i := i) (x := x) (by simpa using h)
  exact (ih.cons y).trans (List.Perm.swap x y _)
theorem Ms.pull (h : Ms w0 L W) {i : Nat} (hi : L[i]? = some x) (hL : x :: L.eraseIdx i = L') : Ms w0 L' W := by
 subst hL
 exact h.perm (erase_perm hi)
theorem Ms.drop (h : Ms w0 L W) (n : Nat) : Ms w0 (L.drop n) W := by
 induction n generalizing L with
 | zero => exact h
 | succ n ih =>
  cases L with
  | nil => exact h
  | cons x L => exact ih h.tail
theorem Ms.at_ (h : Ms w0 L W) {i : Nat} (hi : L[i]? = some x) : x.ok W := h.ok x (List.mem_of_getElem? hi)
theorem Ms.bsAt (h : Ms w0 L W) {i : Nat} (hi : L[i]? = some x) : ∀ q ∈ x.bs, w0.heap.size ≤ q ∧ q < W.heap.size := fun q hq =>
 ⟨h.rg q (List.mem_flatMap.2 ⟨x, List.mem_of_getElem? hi, hq⟩), It.lt (h.at_ hi) hq⟩
theorem Ms.ndAt (h : Ms w0 L W) {i : Nat} (hi : L[i]? = some x) : x.bs.Nodup := by
 have h2 := h.pull hi rfl
 have := h2.nd
 rw [List.flatMap_cons, List.nodup_append] at this
 exact this.1
theorem Ms.cell (h : Ms w0 L W) {i g j : Nat} {cs : Array Value} {T : TypeId} {u : Value} (hi : L[i]? = some (.bx g (.cells cs T (0, 0)))) (hu : cs[j]? = some u) : W.cell? ⟨g, j, none⟩ = some u := bxcell (h.at_ hi) hu
theorem Ms.free (h : Ms w0 L W) {i g j : Nat} {cs : Array Value} {T : TypeId} (hi : L[i]? = some (.bx g (.cells cs T (0, 0)))) : W.frozen? ⟨g, j, none⟩ = false := bxfree (h.at_ hi)
theorem Ms.glt (h : Ms w0 L W) {i g : Nat} {o : Obj} (hi : L[i]? = some (.bx g o)) : w0.heap.size ≤ g ∧ g < W.heap.size := h.bsAt hi g (by simp [It.bs])
theorem Ms.read (h : Ms w0 L W) {i : Nat} {d : Dat} {v : Value} {b : List Nat} (hi : L[i]? = some (.dt d v b)) : RdC W W.heap.size d v := OwC.read d v b (h.at_ hi) (fun q hq => (h.bsAt hi q hq).2)
theorem Ms.own (h : Ms w0 L W) {i : Nat} {d : Dat} {v : Value} {b : List Nat} (hi : L[i]? = some (.dt d v b)) : Own w0.heap.size W.heap.size W d v := ⟨b, h.at_ hi, h.ndAt hi, h.bsAt hi, Nat.le_refl _, h.size⟩
theorem Ms.cons (h : Ms w0 L W) (hb : Below W.heap.size W W') (hx : x.ok W') (hn : x.bs.Nodup) (hq : ∀ q ∈ x.bs, W.heap.size ≤ q) : Ms w0 (x :: L) W' := by
 have h' := h.past hb
 refine ⟨fun y hy => ?_, ?_, fun q hq' => ?_, h'.bl⟩
 ·rcases List.mem_cons.1 hy with rfl | hy
  ·exact hx
  ·exact h'.ok y hy
 ·rw [List.flatMap_cons, List.nodup_append]
  exact ⟨hn, h.nd, fun a ha b hb e => by subst e; have := hq a ha; have := h.blt a hb; omega⟩
 ·rw [List.flatMap_cons] at hq'
  rcases List.mem_append.1 hq' with hq' | hq'
  ·exact Nat.le_trans h.size (hq q hq')
  ·exact h.rg q hq'
theorem Ms.new (h : Ms w0 L W) (cs : Array Value) (T : TypeId) : Ms w0 (.bx W.heap.size (.cells cs T (0, 0)) :: L) (W.alloc (.cells cs T)) :=
 h.cons (alloc_below W _) (heap_alloc_new W _) (by simp [It.bs]) (fun q hq => by simp [It.bs] at hq; omega)
theorem Ms.got (h : Ms w0 L W) {d : Dat} {v : Value} (ho : Own W.heap.size W'.heap.size W' d v) (hb : Below W.heap.size W W') : ∃ b, Ms w0 (.dt d v b :: L) W' := by
 obtain ⟨b, h1, h2, h3, _, _⟩ := ho
 exact ⟨b, h.cons hb h1 h2 (fun q hq => (h3 q hq).1)⟩
theorem Ms.nil (h : Ms w0 L W) (e : TypeId) (sz : Nat) : Ms w0 (.dt (.rows e sz []) (.slice none 0 0) [] :: L) W :=
 h.cons (Below.refl _ _) ⟨[], [], World.ownsRow_nil _ _ _ _, ⟨rfl, rfl⟩, rfl⟩ (by simp [It.bs]) (fun q hq => by simp [It.bs] at hq)
theorem Ms.empty (h : Ms w0 L W) (e : TypeId) (sz : Nat) : Ms w0 (.dt (.rows e sz []) (.slice (some ⟨W.heap.size, 0, none⟩) 0 0) [W.heap.size] :: L) (W.alloc (.cells #[] e)) :=
 h.cons (alloc_below W _) ⟨[], [], ⟨by simp, .inr ⟨W.heap.size, 0, #[], rfl, Nat.zero_le _, heap_alloc_new W _, Nat.le_refl _, by unfold maxLen; omega, by simp, by simp⟩⟩, ⟨rfl, rfl⟩, rfl⟩ (by simp [It.bs]) (fun q hq => by simp [It.bs] at hq; omega)
theorem Ms.turn (h : Ms w0 (x :: L) W) (hs : W.heap.size ≤ W'.heap.size) (hk : ∀ q, q < W.heap.size → q ∉ x.bs → W'.heap[q]? = W.heap[q]?) (hb : Below w0.heap.size w0 W') (hy : y.ok W') (hn : y.bs.Nodup) (hq : ∀ q ∈ y.bs, q ∈ x.bs ∨ W.heap.size ≤ q) : Ms w0 (y :: L) W' := by
 have hnd := h.nd
 rw [List.flatMap_cons, List.nodup_append] at hnd
 have hlt := h.tail.blt
 refine ⟨fun z hz => ?_, ?_, fun q hq' => ?_, hb⟩
 ·rcases List.mem_cons.1 hz with rfl | hz
  ·exact hy
  ·exact It.keep (h.ok z (by simp [hz])) (fun q hq' => by
    have hm : q ∈ L.flatMap It.bs := List.mem_flatMap.2 ⟨z, hz, hq'⟩
    exact hk q (hlt q hm) (fun e => hnd.2.2 q e q hm rfl))
 ·rw [List.flatMap_cons, List.nodup_append]
  refine ⟨hn, hnd.2.1, fun a ha b hb e => ?_⟩
  subst e
  rcases hq a ha with h1 | h1
  ·exact hnd.2.2 a h1 a hb rfl
  ·have := hlt a hb; omega
 ·rw [List.flatMap_cons] at hq'
  rcases List.mem_append.1 hq' with hq' | hq'
  ·rcases hq q hq' with h1 | h1
   ·exact h.rg q (by rw [List.flatMap_cons]; exact List.mem_append_left _ h1)
   ·exact Nat.le_trans h.size h1
  ·exact h.tail.rg q hq'
theorem Ms.set {g j : Nat} {cs : Array Value} {T : TypeId} (h : Ms w0 (.bx g (.cells cs T (0, 0)) :: L) W) (u : Value) : Ms w0 (.bx g (.cells (cs.setIfInBounds j u) T (0, 0)) :: L) (W.setCell ⟨g, j, none⟩ u) := by
 have hg := h.glt (i := 0) rfl
 refine h.turn (by simp [World.setCell]) (fun q hq hn => Below.heap_setCell _ _ _ _ (fun e => hn (by simp [It.bs]; exact e))) (h.bl.setCell (p := ⟨g, j, none⟩) hg.1 u) (bxset (h.at_ (i := 0) rfl) u) (by simp [It.bs]) (fun q hq => .inl hq)
theorem Ms.pk0 (h : Ms w0 L W) : Ms w0 (.dt (.agg []) (.agg #[]) [] :: L) W := h.cons (Below.refl _ _) ⟨[], rfl, rfl, rfl⟩ (by simp [It.bs]) (fun q hq => by simp [It.bs] at hq)
theorem Ms.pkF {ds : List Dat} {vs : List Value} {b : List Nat} {d : Dat} {u : Value} (h : Ms w0 (.dt (.agg ds) (.agg vs.toArray) b :: L) W) (hf : d.flat = some u) : Ms w0 (.dt (.agg (d :: ds)) (.agg (u :: vs).toArray) b :: L) W := by
 refine h.turn (Nat.le_refl _) (fun _ _ _ => rfl) h.bl ?_ (show b.Nodup from h.ndAt (i := 0) (x := .dt (.agg ds) (.agg vs.toArray) b) rfl) (fun q hq => .inl hq)
 obtain ⟨xs, hx, ho⟩ : OwC W (.agg ds) (.agg vs.toArray) b := h.at_ (i := 0) rfl
 have e : vs = xs := by injection hx with hx; simpa using congrArg Array.toList hx
 subst e
 exact ⟨u :: vs, rfl, u, vs, [], b, rfl, rfl, OwC.of_flat hf, ho⟩
theorem Ms.pkO {ds : List Dat} {vs : List Value} {b c : List Nat} {d : Dat} {v : Value} (h : Ms w0 (.dt (.agg ds) (.agg vs.toArray) b :: .dt d v c :: L) W) : Ms w0 (.dt (.agg (d :: ds)) (.agg (v :: vs).toArray) (c ++ b) :: L) W := by
 have hnd := h.nd
 rw [List.flatMap_cons, List.flatMap_cons, List.nodup_append, List.nodup_append] at hnd
 obtain ⟨xs, hx, ho⟩ : OwC W (.agg ds) (.agg vs.toArray) b := h.at_ (i := 0) rfl
 have e : vs = xs := by injection hx with hx; simpa using congrArg Array.toList hx
 subst e
 have hc : OwC W d v c := h.at_ (i := 1) rfl
 have hrg := h.rg
 rw [List.flatMap_cons, List.flatMap_cons] at hrg
 refine ⟨fun z hz => ?_, ?_, fun q hq => ?_, h.bl⟩
 ·rcases List.mem_cons.1 hz with rfl | hz
  ·exact ⟨v :: vs, rfl, v, vs, c, b, rfl, rfl, hc, ho⟩
  ·exact h.ok z (by simp [hz])
 ·rw [List.flatMap_cons, List.nodup_append]
  refine ⟨?_, hnd.2.1.2.1, fun a ha a' ha' e => ?_⟩
  ·show (c ++ b).Nodup
   rw [List.nodup_append]
   exact ⟨hnd.2.1.1, hnd.1, fun a ha a' ha' e => hnd.2.2 a' ha' a (List.mem_append_left _ ha) e.symm⟩
  ·have ha : a ∈ c ++ b := ha
   rcases List.mem_append.1 ha with ha | ha
   ·exact hnd.2.1.2.2 a ha a' ha' e
   ·exact hnd.2.2 a ha a' (List.mem_append_right _ ha') e
 ·rw [List.flatMap_cons] at hq
  rcases List.mem_append.1 hq with hq | hq
  ·have hq : q ∈ c ++ b := hq
   rcases List.mem_append.1 hq with hq | hq
   ·exact hrg q (List.mem_append_right _ (List.mem_append_left _ hq))
   ·exact hrg q (List.mem_append_left _ hq)
  ·exact hrg q (List.mem_append_right _ (List.mem_append_right _ hq))
theorem Ms.un {ds : List Dat} {v : Value} {vs : List Value} {b : List Nat} {d : Dat} (h : Ms w0 (.dt (.agg (d :: ds)) (.agg (v :: vs).toArray) b :: L) W) : ∃ c c', Ms w0 (.dt d v c :: .dt (.agg ds) (.agg vs.toArray) c' :: L) W := by
 have hnd := h.nd
 have hrg := h.rg
 obtain ⟨xs, hx, x, xs', c, c', e1, e2, h1, h2⟩ : OwC W (.agg (d :: ds)) (.agg (v :: vs).toArray) b := h.at_ (i := 0) rfl
 have e : v :: vs = xs := by injection hx with hx; simpa using congrArg Array.toList hx
 subst e
 injection e1 with e3 e4
 subst e3 e4 e2
 refine ⟨c, c', fun z hz => ?_, ?_, fun q hq => ?_, h.bl⟩
 ·rcases List.mem_cons.1 hz with rfl | hz
  ·exact h1
  ·rcases List.mem_cons.1 hz with rfl | hz
   ·exact ⟨vs, rfl, h2⟩
   ·exact h.ok z (by simp [hz])
 ·rw [List.flatMap_cons, List.flatMap_cons, ← List.append_assoc]
  rw [List.flatMap_cons] at hnd
  exact hnd
 ·refine hrg q ?_
  rw [List.flatMap_cons]
  rw [List.flatMap_cons, List.flatMap_cons, ← List.append_assoc] at hq
  exact hq
end
section
variable {w0 W W' : World} {L Y : List It}
theorem Ms.grow {e : TypeId} {sz : Nat} {ds rs : List (List Dat)} {v : Value} {b c : List Nat} {news : List Value} (h : Ms w0 (.dt (.rows e sz ds) v b :: (Y ++ L)) W) (hr : OwR W sz rs news c) (hcn : c.Nodup) (hc : ∀ q ∈ c, q ∈ Y.flatMap It.bs) :
  ∃ xs, W.ownsRow 0 e sz v ds.length xs ∧ ∀ g n cap W', W'.ownsRow 0 e sz (.slice (some ⟨g, 0, none⟩) n cap) (ds ++ rs).length (xs ++ news) → W.grownBy W' v.ownBlock → (v.ownBlock = some g ∨ g = W.heap.size) → g < W'.heap.size → ∃ b', Ms w0 (.dt (.rows e sz (ds ++ rs)) (.slice (some ⟨g, 0, none⟩) n cap) b' :: L) W' := by
 have hnd := h.nd
 have hrg := h.rg
 have hlt' := h.blt
 rw [List.flatMap_cons, List.flatMap_append] at hnd hrg hlt'
 obtain ⟨xs, cs, ho, hor, hb⟩ : OwC W (.rows e sz ds) v b := h.at_ (i := 0) rfl
 refine ⟨xs, ho, fun g n cap W' hown hg hat hlt => ?_⟩
 have hbs : (It.dt (.rows e sz ds) v b).bs = v.ownBlock.toList ++ cs := hb
 rw [hbs] at hnd hrg hlt'
 obtain ⟨n1, n2, n3⟩ := List.nodup_append.1 hnd
 obtain ⟨m1, m2, m3⟩ := List.nodup_append.1 n1
 obtain ⟨k1, k2, k3⟩ := List.nodup_append.1 n2
 have inL : ∀ q ∈ L.flatMap It.bs, q < W.heap.size ∧ ¬ v.ownBlock = some q ∧ q ∉ cs ∧ q ∉ c := fun q hq => by
  have hm : q ∈ Y.flatMap It.bs ++ L.flatMap It.bs := List.mem_append_right _ hq
  refine ⟨hlt' q (List.mem_append_right _ hm), fun e => n3 q (List.mem_append_left _ (by rw [e]; simp)) q hm rfl, fun e => n3 q (List.mem_append_right _ e) q hm rfl, fun e => k3 q (hc q e) q hq rfl⟩
 have inc : ∀ q ∈ c, q < W.heap.size ∧ ¬ v.ownBlock = some q ∧ q ∉ cs := fun q hq => by
  have hm : q ∈ Y.flatMap It.bs ++ L.flatMap It.bs := List.mem_append_left _ (hc q hq)
  exact ⟨hlt' q (List.mem_append_right _ hm), fun e => n3 q (List.mem_append_left _ (by rw [e]; simp)) q hm rfl, fun e => n3 q (List.mem_append_right _ e) q hm rfl⟩
 have incs : ∀ q ∈ cs, q < W.heap.size ∧ ¬ v.ownBlock = some q := fun q hq => ⟨hlt' q (List.mem_append_left _ (List.mem_append_right _ hq)), fun e => m3 q (by rw [e]; simp) q hq rfl⟩
 have hkeep : ∀ q, q < W.heap.size → ¬ v.ownBlock = some q → W'.heap[q]? = W.heap[q]? := fun q h1 h2 => hg.block q h1 (fun e => h2 e.symm)
 have hor' := (OwR.keep sz _ _ _ hor (fun q hq => hkeep q (incs q hq).1 (incs q hq).2)).append (OwR.keep sz _ _ _ hr (fun q hq => hkeep q (inc q hq).1 (inc q hq).2.1))
 have gnew : ∀ q, q < W.heap.size → ¬ v.ownBlock = some q → ¬ g = q := fun q h1 h2 e => by
  subst e
  rcases hat with e | e
  ·exact h2 e
  ·omega
 have glo : w0.heap.size ≤ g := by
  rcases hat with e | e
  ·exact hrg g (List.mem_append_left _ (List.mem_append_left _ (by rw [e]; simp)))
  ·have := h.size; omega
 refine ⟨g :: (cs ++ c), fun z hz => ?_, ?_, fun q hq => ?_, h.bl.grown hg h.size (fun k hk => hrg k (List.mem_append_left _ (List.mem_append_left _ (by rw [hk]; simp))))⟩
 ·rcases List.mem_cons.1 hz with rfl | hz
  ·exact ⟨xs ++ news, cs ++ c, hown, hor', rfl⟩
  ·refine It.keep (h.ok z (by simp [hz])) (fun q hq => ?_)
   have hm : q ∈ L.flatMap It.bs := List.mem_flatMap.2 ⟨z, hz, hq⟩
   exact hkeep q (inL q hm).1 (inL q hm).2.1
 ·rw [List.flatMap_cons, List.nodup_append]
  refine ⟨?_, k2, fun a ha a' ha' e => ?_⟩
  ·show (g :: (cs ++ c)).Nodup
   refine List.nodup_cons.2 ⟨fun hq => ?_, List.nodup_append.2 ⟨m2, hcn, fun a ha a' ha' e => ?_⟩⟩
   ·rcases List.mem_append.1 hq with hq | hq
    ·exact gnew g (incs g hq).1 (incs g hq).2 rfl
    ·exact gnew g (inc g hq).1 (inc g hq).2.1 rfl
   ·subst e
    exact (inc a ha').2.2 ha
  ·subst e
   have ha : a ∈ g :: (cs ++ c) := ha
   rcases List.mem_cons.1 ha with rfl | ha
   ·exact gnew a (inL a ha').1 (inL a ha').2.1 rfl
   ·rcases List.mem_append.1 ha with ha | ha
    ·exact (inL a ha').2.2.1 ha
    ·exact (inL a ha').2.2.2 ha
 ·rw [List.flatMap_cons] at hq
  rcases List.mem_append.1 hq with hq | hq
  ·have hq : q ∈ g :: (cs ++ c) := hq
   rcases List.mem_cons.1 hq with rfl | hq
   ·exact glo
   ·rcases List.mem_append.1 hq with hq | hq
    ·exact hrg q (List.mem_append_left _ (List.mem_append_right _ hq))
    ·exact hrg q (List.mem_append_right _ (List.mem_append_left _ (hc q hq)))
  ·exact hrg q (List.mem_append_right _ (List.mem_append_right _ hq))
end
section
variable {w0 W W' : World} {L Y : List It}
theorem agg_inj {xs ys : List Value} (h : Value.agg xs.toArray = Value.agg ys.toArray) : xs = ys := by
 have h2 := congrArg (fun v => match v with | Value.agg a => a.toList | _ => []) h
 simpa using h2
theorem bytes_fit {n b : Nat} (h : n ≤ 2000001) (hb : b ≤ 100000) : n * b ≤ 140737488355328 := by
 have h1 : n * b ≤ n * 100000 := Nat.mul_le_mul_left n hb
 omega
def Elt (t e : TypeId) (z : Value) (sz bytes : Nat) : Prop := ∃ i, Tryz.prog.underlying t = some (.slice e) ∧ Tryz.prog.info? e = some i ∧ i.zero = some z ∧ i.size = sz ∧ i.bytes = bytes ∧ z.cells.size = sz ∧ 0 < sz ∧ bytes ≤ 100000
theorem wpList_ms1 {ops : Array Oper} {rest : List Oper} {o : Oper} {a : Act} {Q : Exit → Act → World → Prop} (hgd : o.guard = none) (s x : Operand) (t : TypeId)
  (ho : o.op = .call { callee := .builtin .append, args := #[s, x], argTypes := #[t, t] }) {e : TypeId} {z : Value} {sz bytes : Nat} (he : Elt t e z sz bytes) {ds : List (List Dat)} {r : List Dat} {v : Value} {ys : List Value} {b c : List Nat}
  (h : Ms w0 (.dt (.rows e sz ds) v b :: .dt (.agg r) (.agg ys.toArray) c :: L) W) (hs : a.eval s = v) (hlen : ds.length ≤ 2000000) (g0 c0 : Nat) (hx : a.eval x = .slice (some ⟨g0, 0, none⟩) 1 c0) (hcell : W.heap[g0]? = some (.cells ys.toArray e (0, 0))) (hl : ys.length = sz) (h1 : ∀ u ∈ ys, u.oneCell' = true)
  (K : ∀ A' c' W' b', Ms w0 (.dt (.rows e sz (ds ++ [r])) (.slice A' (ds.length + 1) c') b' :: L) W' → wpList Tryz.prog ops Q rest (a.put o.dst (.slice A' (ds.length + 1) c')) W') : wpList Tryz.prog ops Q (o :: rest) a W := by
 obtain ⟨i, ht, hi, hz, hsize, hby, hzs, hsz, hbm⟩ := he
 obtain ⟨ys', hy', hor⟩ : OwC W (.agg r) (.agg ys.toArray) c := h.at_ (i := 1) rfl
 obtain rfl : ys = ys' := agg_inj hy'
 obtain ⟨xs, hown, grow⟩ := Ms.grow (Y := [.dt (.agg r) (.agg ys.toArray) c]) h (OwR.one hor hl) (h.ndAt (i := 1) (x := .dt (.agg r) (.agg ys.toArray) c) rfl) (fun q hq => by simpa [It.bs] using hq)
 refine wpList_append_lies _ hgd s x t ho 0 e i z sz bytes ht hi hz hsize hby hzs hsz v ds.length xs hs hown ⟨g0, 0, none⟩ 1 c0 ys hx (by simp [hl]) (fun j u hu => ?_) h1 (by omega) (by unfold maxLen; omega) ?_ (Nat.zero_le _) _ rfl ?_
 ·rw [add_at, Nat.zero_add]
  exact bxcell hcell (by simpa using hu)
 ·exact bytes_fit (by omega) hbm
 ·intro g cap W' hown' hg hat hlt
  obtain ⟨b', hm⟩ := grow g (ds.length + 1) cap W' (by rw [List.length_append]; exact hown') hg hat hlt
  exact K _ cap W' b' hm
theorem step_ms1 {ops : Array Oper} {o : Oper} {a : Act} {KN : Act → World → Prop} {Q : Exit → Act → World → Prop} {E : Prop} (hgd : o.guard = none) (s x : Operand) (t : TypeId)
  (ho : o.op = .call { callee := .builtin .append, args := #[s, x], argTypes := #[t, t] }) {e : TypeId} {z : Value} {sz bytes : Nat} (he : Elt t e z sz bytes) {ds : List (List Dat)} {r : List Dat} {v : Value} {ys : List Value} {b c : List Nat}
  (h : Ms w0 (.dt (.rows e sz ds) v b :: .dt (.agg r) (.agg ys.toArray) c :: L) W) (hs : a.eval s = v) (hlen : ds.length ≤ 2000000) (g0 c0 : Nat) (hx : a.eval x = .slice (some ⟨g0, 0, none⟩) 1 c0) (hcell : W.heap[g0]? = some (.cells ys.toArray e (0, 0))) (hl : ys.length = sz) (h1 : ∀ u ∈ ys, u.oneCell' = true)
  (K : ∀ A' c' W' b', Ms w0 (.dt (.rows e sz (ds ++ [r])) (.slice A' (ds.length + 1) c') b' :: L) W' → KN (a.put o.dst (.slice A' (ds.length + 1) c')) W') : if Region.wanted o (yielded ops a.tmps) = true then Oper.wp Tryz.prog o a W KN Q else E := by
 obtain ⟨i, ht, hi, hz, hsize, hby, hzs, hsz, hbm⟩ := he
 obtain ⟨ys', hy', hor⟩ : OwC W (.agg r) (.agg ys.toArray) c := h.at_ (i := 1) rfl
 obtain rfl : ys = ys' := agg_inj hy'
 obtain ⟨xs, hown, grow⟩ := Ms.grow (Y := [.dt (.agg r) (.agg ys.toArray) c]) h (OwR.one hor hl) (h.ndAt (i := 1) (x := .dt (.agg r) (.agg ys.toArray) c) rfl) (fun q hq => by simpa [It.bs] using hq)
 refine step_append_lies _ hgd s x t ho 0 e i z sz bytes ht hi hz hsize hby hzs hsz v ds.length xs hs hown ⟨g0, 0, none⟩ 1 c0 ys hx (by simp [hl]) (fun j u hu => ?_) h1 (by omega) (by unfold maxLen; omega) ?_ (Nat.zero_le _) _ rfl ?_
 ·rw [add_at, Nat.zero_add]
  exact bxcell hcell (by simpa using hu)
 ·exact bytes_fit (by omega) hbm
 ·intro g cap W' hown' hg hat hlt
  obtain ⟨b', hm⟩ := grow g (ds.length + 1) cap W' (by rw [List.length_append]; exact hown') hg hat hlt
  exact K _ cap W' b' hm
def FlatR (rs : List (List Dat)) (sz : Nat) : Prop := ∀ r ∈ rs, r.length = sz ∧ ∀ d ∈ r, ∃ u : Value, d.flat = some u ∧ u.oneCell' = true
theorem RdC.flatV {w : World} {B : Nat} {d : Dat} {u v : Value} (hf : d.flat = some u) (h : RdC w B d v) : v = u := by
 cases d with
 | int n => injection hf with hf; rw [← hf]; exact h
 | bool n => injection hf with hf; rw [← hf]; exact h
 | str n => injection hf with hf; rw [← hf]; exact h
 | rows e sz ds => cases hf
 | agg ds => cases hf
theorem RdL.flat {w : World} {B : Nat} {ad : Addr} : ∀ {r : List Dat} {o : Nat}, (∀ d ∈ r, ∃ u : Value, d.flat = some u ∧ u.oneCell' = true) → RdL w B ad o r → ∃ ys : List Value, ys.length = r.length ∧ OwL w r ys [] ∧ (∀ u ∈ ys, u.oneCell' = true) ∧ ∀ j u, ys[j]? = some u → w.cell? (ad.add (o + j)) = some u
 | [], o, _, _ => ⟨[], rfl, ⟨rfl, rfl⟩, by simp, fun j u h => by simp at h⟩
 | d :: r, o, hf, h => by
  obtain ⟨⟨v, hv, hd⟩, h2⟩ := h
  obtain ⟨u, hu, h1⟩ := hf d (by simp)
  obtain rfl := RdC.flatV hu hd
  obtain ⟨ys, k1, k2, k3, k4⟩ := RdL.flat (r := r) (o := o + 1) (fun d hd => hf d (by simp [hd])) h2
  refine ⟨v :: ys, by simp [k1], ⟨v, ys, [], [], rfl, rfl, OwC.of_flat hu, k2⟩, fun u hu => ?_, fun j u hj => ?_⟩
  ·rcases List.mem_cons.1 hu with rfl | hu
   ·exact h1
   ·exact k3 u hu
  ·cases j with
   | zero => simp at hj; subst hj; exact hv
   | succ j => have := k4 j u (by simpa using hj); rw [show o + (j + 1) = o + 1 + j by omega]; exact this
theorem RdR.flat {w : World} {B sz : Nat} {ad : Addr} : ∀ {rs : List (List Dat)} {o : Nat}, FlatR rs sz → RdR w B sz ad o rs → ∃ ys : List Value, ys.length = rs.length * sz ∧ OwR w sz rs ys [] ∧ (∀ u ∈ ys, u.oneCell' = true) ∧ ∀ j u, ys[j]? = some u → w.cell? (ad.add (o + j)) = some u
 | [], o, _, _ => ⟨[], by simp, ⟨rfl, rfl⟩, by simp, fun j u h => by simp at h⟩
 | r :: rs, o, hf, h => by
  obtain ⟨h1, h2⟩ := h
  have hl := (hf r (by simp)).1
  obtain ⟨y, k1, k2, k3, k4⟩ := RdL.flat (hf r (by simp)).2 h1
  obtain ⟨ys, l1, l2, l3, l4⟩ := RdR.flat (rs := rs) (o := o + sz) (fun q hq => hf q (by simp [hq])) h2
  refine ⟨y ++ ys, by rw [List.length_append, k1, l1, hl, List.length_cons, Nat.add_mul]; omega, ⟨y, ys, [], [], rfl, by rw [k1, hl], rfl, k2, l2⟩, fun u hu => ?_, fun j u hj => ?_⟩
  ·rcases List.mem_append.1 hu with hu | hu
   ·exact k3 u hu
   ·exact l3 u hu
  ·by_cases hlt : j < y.length
   ·rw [List.getElem?_append_left hlt] at hj
    exact k4 j u hj
   ·rw [List.getElem?_append_right (by omega)] at hj
    have := l4 _ u hj
    rw [show o + j = o + sz + (j - y.length) by omega]
    exact this
theorem wpList_msAll {ops : Array Oper} {rest : List Oper} {o : Oper} {a : Act} {Q : Exit → Act → World → Prop} (hgd : o.guard = none) (s x : Operand) (t : TypeId)
  (ho : o.op = .call { callee := .builtin .append, args := #[s, x], argTypes := #[t, t] }) {e : TypeId} {z : Value} {sz bytes : Nat} (he : Elt t e z sz bytes) {ds rs : List (List Dat)} {v : Value} {b : List Nat}
  (h : Ms w0 (.dt (.rows e sz ds) v b :: L) W) (hs : a.eval s = v) (A : Option Addr) (m c0 : Nat) (hx : a.eval x = .slice A m c0) (hrd : RdC W W.heap.size (.rows e sz rs) (.slice A m c0)) (hfl : FlatR rs sz) (hlen : ds.length + rs.length ≤ 2000000)
  (K : ∀ A' c' W' b', Ms w0 (.dt (.rows e sz (ds ++ rs)) (.slice A' (ds.length + m) c') b' :: L) W' → wpList Tryz.prog ops Q rest (a.put o.dst (.slice A' (ds.length + m) c')) W') : wpList Tryz.prog ops Q (o :: rest) a W := by
 obtain ⟨i, ht, hi, hz, hsize, hby, hzs, hsz, hbm⟩ := he
 obtain ⟨A', c', hv, hc, hrd⟩ := hrd
 injection hv with e1 e2 e3
 subst e1 e2 e3
 by_cases h0 : 0 < rs.length
 ·obtain ⟨ad, rfl, hbk, hsp, hrr⟩ := hrd h0
  obtain ⟨ys, k1, k2, k3, k4⟩ := RdR.flat hfl hrr
  obtain ⟨xs, hown, grow⟩ := Ms.grow (Y := []) h k2 (by simp) (by simp)
  refine wpList_append_lies _ hgd s x t ho 0 e i z sz bytes ht hi hz hsize hby hzs hsz v ds.length xs hs hown ad rs.length c0 ys hx k1 (fun j u hu => by have := k4 j u hu; simpa using this) k3 h0 (by unfold maxLen; omega) ?_ (Nat.zero_le _) _ rfl ?_
  ·exact bytes_fit (by omega) hbm
  ·intro g cap W' hown' hg hat hlt
   obtain ⟨b', hm⟩ := grow g (ds.length + rs.length) cap W' (by rw [List.length_append]; exact hown') hg hat hlt
   exact K _ cap W' b' hm
 ·obtain rfl : rs = [] := List.eq_nil_of_length_eq_zero (by omega)
  obtain ⟨xs, cs, hown, _⟩ : OwC W (.rows e sz ds) v b := h.at_ (i := 0) rfl
  refine wpList_append_zero hgd s x t ho 0 e i sz ht hi v ds.length xs hs hown A c0 hx ?_
  obtain ⟨Av, cv, rfl⟩ := own_form hown
  exact K Av cv W b (by simpa using h)
end
section
variable {w0 W W' : World} {L L' : List It} {x y : It}
theorem putRow_cells {g : Nat} {T : TypeId} : ∀ {ys : List Value} {cs : Array Value} {o : Nat} {W : World}, o + ys.length = cs.size → W.heap[g]? = some (.cells cs T (0, 0)) → (putRow W g o ys).heap[g]? = some (.cells (cs.toList.take o ++ ys).toArray T (0, 0))
 | [], cs, o, W, hl, h => by
  rw [putRow, h]
  have e : cs.toList.take o = cs.toList := List.take_of_length_le (by simp at hl; simp; omega)
  simp [e]
 | y :: ys, cs, o, W, hl, h => by
  rw [putRow]
  simp only [List.length_cons] at hl
  have h1 := putRow_cells (ys := ys) (cs := cs.setIfInBounds o y) (o := o + 1) (by rw [Array.size_setIfInBounds]; omega) (bxset h y)
  rw [h1]
  have e : (cs.setIfInBounds o y).toList.take (o + 1) = cs.toList.take o ++ [y] := by
   rw [Array.toList_setIfInBounds, List.take_add_one, List.take_set_of_le (Nat.le_refl o)]
   congr 1
   rw [List.getElem?_set_self (by simp; omega)]
   rfl
  rw [e, List.append_assoc]
  rfl
theorem Ms.putRow {g : Nat} {cs : Array Value} {T : TypeId} {ys : List Value} (h : Ms w0 (.bx g (.cells cs T (0, 0)) :: L) W) (hl : ys.length = cs.size) : Ms w0 (.bx g (.cells ys.toArray T (0, 0)) :: L) (low.putRow W g 0 ys) := by
 have hg := h.glt (i := 0) rfl
 have hk := putRow_cells (ys := ys) (o := 0) (by omega) (h.at_ (i := 0) (x := .bx g (.cells cs T (0, 0))) rfl)
 refine h.turn (Nat.le_of_eq (putRow_size g ys W 0).symm) (fun q hq hn => putRow_block g ys W 0 q (fun e => hn (by simp [It.bs]; exact e))) (putRow_below hg.1 ys W 0 h.bl) ?_ (by simp [It.bs]) (fun q hq => .inl hq)
 show (low.putRow W g 0 ys).heap[g]? = _
 simpa using hk
theorem Ms.ne (h : Ms w0 L W) {i j g g' : Nat} {o o' : Obj} (hi : L[i]? = some (.bx g o)) (hj : L[j]? = some (.bx g' o')) (hij : i < j) : ¬ g = g' ∧ ¬ g' = g := by
 have key : ∀ (L : List It) (i j : Nat), i < j → (L.flatMap It.bs).Nodup → L[i]? = some (.bx g o) → L[j]? = some (.bx g' o') → ¬ g = g' := by
  intro L
  induction L with
  | nil => intro i j _ _ hi; simp at hi
  | cons x L ih =>
   intro i j hij hnd hi hj
   rw [List.flatMap_cons, List.nodup_append] at hnd
   cases j with
   | zero => omega
   | succ j =>
    simp only [List.getElem?_cons_succ] at hj
    cases i with
    | zero =>
     simp only [List.getElem?_cons_zero, Option.some.injEq] at hi
     subst hi
     intro e
     subst e
     exact hnd.2.2 g (by simp [It.bs]) g (List.mem_flatMap.2 ⟨_, List.mem_of_getElem? hj, by simp [It.bs]⟩) rfl
    | succ i =>
     simp only [List.getElem?_cons_succ] at hi
     exact ih i j (by omega) hnd.2.1 hi hj
 have := key L i j hij h.nd hi hj
 exact ⟨this, fun e => this e.symm⟩
theorem Ms.pick (h : Ms w0 L W) : ∀ {ks : List Nat} {L' : List It}, ks.Nodup → ks.map (fun k => L[k]?) = L'.map some → Ms w0 L' W := fun {ks L'} hn hm => by
 have hmem : ∀ x ∈ L', x ∈ L := fun x hx => by
  have : some x ∈ ks.map (fun k => L[k]?) := by rw [hm]; exact List.mem_map_of_mem hx
  obtain ⟨k, _, hk⟩ := List.mem_map.1 this
  exact List.mem_of_getElem? hk
 refine ⟨fun x hx => h.ok x (hmem x hx), ?_, fun q hq => ?_, h.bl⟩
 ·have key : ∀ (L : List It) (ks : List Nat) (L' : List It), (L.flatMap It.bs).Nodup → ks.Nodup → ks.map (fun k => L[k]?) = L'.map some → (L'.flatMap It.bs).Nodup := by
   intro L ks
   induction ks with
   | nil => intro L' _ _ hm; cases L' with | nil => simp | cons _ _ => simp at hm
   | cons k ks ih =>
    intro L' hnd hn hm
    cases L' with
    | nil => simp at hm
    | cons x L' =>
     simp only [List.map_cons, List.cons.injEq] at hm
     obtain ⟨hk, hm⟩ := hm
     have hn' := List.nodup_cons.1 hn
     have ih' := ih L' hnd hn'.2 hm
     rw [List.flatMap_cons, List.nodup_append]
     have hp := erase_perm hk
     have hnd2 := (hp.flatMap_right It.bs).nodup_iff.1 hnd
     rw [List.flatMap_cons, List.nodup_append] at hnd2
     refine ⟨hnd2.1, ih', fun a ha b hb e => ?_⟩
     subst e
     obtain ⟨y, hy, hay⟩ := List.mem_flatMap.1 hb
     have : some y ∈ ks.map (fun k => L[k]?) := by rw [hm]; exact List.mem_map_of_mem hy
     obtain ⟨k2, hk2, hky⟩ := List.mem_map.1 this
     have hne : k2 ≠ k := fun e => hn'.1 (e ▸ hk2)
     have hmem2 : y ∈ L.eraseIdx k := by
      rw [List.mem_eraseIdx_iff_getElem?]
      exact ⟨k2, hne, hky⟩
     exact hnd2.2.2 a ha a (List.mem_flatMap.2 ⟨y, hmem2, hay⟩) rfl
  exact key L ks L' h.nd hn hm
 ·obtain ⟨x, hx, hq⟩ := List.mem_flatMap.1 hq
  exact h.rg q (List.mem_flatMap.2 ⟨x, hmem x hx, hq⟩)
theorem Ms.post {d : Dat} {v : Value} {b : List Nat} (h : Ms w0 (.dt d v b :: L) W) : OwnPost d w0 (.returned v) W := ⟨v, rfl, h.own (i := 0) rfl, h.bl⟩
end
section
variable {P : Program} {ops : Array Oper} {Q : Exit → Act → World → Prop} {md : Region.Mode} {S : World → Prop} {fuel : Nat} {listed : Array Bool} {a : Act} {w : World}
theorem tk {v : Value} (i s : Nat) {o : Op} {t : TypeId} {p : String} {af : Array Edge} {gd : Option (Nat × Bool)} (hi : ops[i]? = some ⟨some s, o, t, p, af, gd⟩) (hy : ∀ w, S w → (execOp a.eval ⟨some s, o, t, p, af, gd⟩).run P w = .ok (.value v) w) (hS : S w)
  (h : wpAnyH P md ops Q S fuel (listed.setIfInBounds i true) (a.put (some s) v) w) (hs : Region.noSelect ops = true := by kernel_rfl) (hf : Region.free md ops listed i = true := by kernel_rfl) (hr : (Region.ready md ops listed).contains i = true := by kernel_rfl)
  (hq : ∀ c a w, Q (.panic c) (a.put (some s) v) w → Q (.panic c) a w := by exact fun _ _ _ h => h) (hw : Region.wanted ⟨some s, o, t, p, af, gd⟩ (yielded ops a.tmps) = true := by rfl) : wpAnyH P md ops Q S (fuel + 1) listed a w :=
 wpAnyH_take hi hs hf hr hq (.inl ⟨hw, hy⟩) hS h
theorem r1 (i : Nat) (d : Option Nat) {o : Op} {t : TypeId} {p : String} {af : Array Edge} {gd : Option (Nat × Bool)} (hi : ops[i]? = some ⟨d, o, t, p, af, gd⟩)
  (h : ∀ K' : Act → World → Prop, Shut (∀ a w, S w → (S w → wpAnyH P md ops Q S fuel (listed.setIfInBounds i true) a w) → K' a w) → if Region.wanted ⟨d, o, t, p, af, gd⟩ (yielded ops a.tmps) = true then Oper.wp P ⟨d, o, t, p, af, gd⟩ a w K' Q else K' (a.put d undef) w)
  (hr : Region.ready md ops listed = [i] := by kernel_rfl) : wpAnyH P md ops Q S (fuel + 1) listed a w := wpAnyH_ready hr (by simp) (AllReadyH.cons hi h AllReadyH.nil)
theorem pa {α : Type} {l : List α} {i : Nat} {x : α} : l.toArray.setIfInBounds i x = (l.set i x).toArray := List.setIfInBounds_toArray ..
theorem pb {α : Type} {l : List α} {x y : α} : (y :: l).set 0 x = x :: l := rfl
theorem gz {α : Type} {l : List α} {x : α} : (x :: l)[0]? = some x := rfl
theorem gs {α : Type} {l : List α} {x : α} {i : Nat} : (x :: l)[i + 1]? = l[i]? := rfl
theorem pc {α : Type} {l : List α} {x y : α} {i : Nat} : (y :: l).set (i + 1) x = y :: l.set i x := rfl
end
section
variable {w0 W : World} {L : List It}
def pk (L : List It) : List Nat → List It
 | [] => []
 | k :: ks => match L[k]? with | some x => x :: pk L ks | none => pk L ks
theorem pk_ok {L : List It} : ∀ {ks : List Nat}, (∀ k ∈ ks, k < L.length) → ks.map (fun k => L[k]?) = (pk L ks).map some
 | [], _ => rfl
 | k :: ks, h => by
  have hk := h k (by simp)
  rw [pk, List.getElem?_eq_getElem hk]
  simp only [List.map_cons, List.getElem?_eq_getElem hk]
  rw [pk_ok (fun q hq => h q (by simp [hq]))]
theorem Ms.pk (h : Ms w0 L W) (ks : List Nat) (hn : ks.Nodup) (hl : ∀ k ∈ ks, k < L.length) : Ms w0 (low.pk L ks) W := h.pick hn (pk_ok hl)
theorem Ms.c1 {g : Nat} {T : TypeId} {a : Value} (h : Ms w0 L W) (i : Nat) (hi : L[i]? = some (.bx g (.cells #[a] T (0, 0)))) : W.cell? ⟨g, 0, none⟩ = some a := h.cell (j := 0) hi rfl
theorem Ms.f1 {g : Nat} {T : TypeId} {a : Value} (h : Ms w0 L W) (i : Nat) (hi : L[i]? = some (.bx g (.cells #[a] T (0, 0)))) : W.frozen? ⟨g, 0, none⟩ = false := h.free (j := 0) hi
theorem Ms.c2 {g : Nat} {T : TypeId} {a b : Value} (h : Ms w0 L W) (i : Nat) (hi : L[i]? = some (.bx g (.cells #[a, b] T (0, 0)))) : W.cell? ⟨g, 0, none⟩ = some a ∧ W.cell? ⟨g, 1, none⟩ = some b := ⟨h.cell (j := 0) hi rfl, h.cell (j := 1) hi rfl⟩
theorem Ms.f2 {g : Nat} {T : TypeId} {a b : Value} (h : Ms w0 L W) (i : Nat) (hi : L[i]? = some (.bx g (.cells #[a, b] T (0, 0)))) : W.frozen? ⟨g, 0, none⟩ = false ∧ W.frozen? ⟨g, 1, none⟩ = false := ⟨h.free (j := 0) hi, h.free (j := 1) hi⟩
theorem Ms.c3 {g : Nat} {T : TypeId} {a b c : Value} (h : Ms w0 L W) (i : Nat) (hi : L[i]? = some (.bx g (.cells #[a, b, c] T (0, 0)))) : W.cell? ⟨g, 0, none⟩ = some a ∧ W.cell? ⟨g, 1, none⟩ = some b ∧ W.cell? ⟨g, 2, none⟩ = some c := ⟨h.cell (j := 0) hi rfl, h.cell (j := 1) hi rfl, h.cell (j := 2) hi rfl⟩
theorem Ms.f3 {g : Nat} {T : TypeId} {a b c : Value} (h : Ms w0 L W) (i : Nat) (hi : L[i]? = some (.bx g (.cells #[a, b, c] T (0, 0)))) : W.frozen? ⟨g, 0, none⟩ = false ∧ W.frozen? ⟨g, 1, none⟩ = false ∧ W.frozen? ⟨g, 2, none⟩ = false := ⟨h.free (j := 0) hi, h.free (j := 1) hi, h.free (j := 2) hi⟩
theorem Ms.c4 {g : Nat} {T : TypeId} {a b c d : Value} (h : Ms w0 L W) (i : Nat) (hi : L[i]? = some (.bx g (.cells #[a, b, c, d] T (0, 0)))) : W.cell? ⟨g, 0, none⟩ = some a ∧ W.cell? ⟨g, 1, none⟩ = some b ∧ W.cell? ⟨g, 2, none⟩ = some c ∧ W.cell? ⟨g, 3, none⟩ = some d := ⟨h.cell (j := 0) hi rfl, h.cell (j := 1) hi rfl, h.cell (j := 2) hi rfl, h.cell (j := 3) hi rfl⟩
theorem Ms.f4 {g : Nat} {T : TypeId} {a b c d : Value} (h : Ms w0 L W) (i : Nat) (hi : L[i]? = some (.bx g (.cells #[a, b, c, d] T (0, 0)))) : W.frozen? ⟨g, 0, none⟩ = false ∧ W.frozen? ⟨g, 1, none⟩ = false ∧ W.frozen? ⟨g, 2, none⟩ = false ∧ W.frozen? ⟨g, 3, none⟩ = false := ⟨h.free (j := 0) hi, h.free (j := 1) hi, h.free (j := 2) hi, h.free (j := 3) hi⟩
theorem Ms.c5 {g : Nat} {T : TypeId} {a b c d e : Value} (h : Ms w0 L W) (i : Nat) (hi : L[i]? = some (.bx g (.cells #[a, b, c, d, e] T (0, 0)))) : W.cell? ⟨g, 0, none⟩ = some a ∧ W.cell? ⟨g, 1, none⟩ = some b ∧ W.cell? ⟨g, 2, none⟩ = some c ∧ W.cell? ⟨g, 3, none⟩ = some d ∧ W.cell? ⟨g, 4, none⟩ = some e := ⟨h.cell (j := 0) hi rfl, h.cell (j := 1) hi rfl, h.cell (j := 2) hi rfl, h.cell (j := 3) hi rfl, h.cell (j := 4) hi rfl⟩
theorem Ms.c6 {g : Nat} {T : TypeId} {a b c d e f : Value} (h : Ms w0 L W) (i : Nat) (hi : L[i]? = some (.bx g (.cells #[a, b, c, d, e, f] T (0, 0)))) : W.cell? ⟨g, 0, none⟩ = some a ∧ W.cell? ⟨g, 1, none⟩ = some b ∧ W.cell? ⟨g, 2, none⟩ = some c ∧ W.cell? ⟨g, 3, none⟩ = some d ∧ W.cell? ⟨g, 4, none⟩ = some e ∧ W.cell? ⟨g, 5, none⟩ = some f := ⟨h.cell (j := 0) hi rfl, h.cell (j := 1) hi rfl, h.cell (j := 2) hi rfl, h.cell (j := 3) hi rfl, h.cell (j := 4) hi rfl, h.cell (j := 5) hi rfl⟩
theorem Ms.apart (h : Ms w0 L W) {i j : Nat} {x y : It} (hi : L[i]? = some x) (hj : L[j]? = some y) (hij : ¬ i = j) {q : Nat} (hq : q ∈ x.bs) (hq' : q ∈ y.bs) : False := by
 have key : ∀ (L : List It) (i j : Nat) (x y : It), i < j → (L.flatMap It.bs).Nodup → L[i]? = some x → L[j]? = some y → q ∈ x.bs → q ∈ y.bs → False := by
  intro L
  induction L with
  | nil => intro i j x y _ _ hi; simp at hi
  | cons z L ih =>
   intro i j x y hij hnd hi hj hq hq'
   rw [List.flatMap_cons, List.nodup_append] at hnd
   cases j with
   | zero => omega
   | succ j =>
    simp only [List.getElem?_cons_succ] at hj
    cases i with
    | zero =>
     simp only [List.getElem?_cons_zero, Option.some.injEq] at hi
     subst hi
     exact hnd.2.2 q hq q (List.mem_flatMap.2 ⟨_, List.mem_of_getElem? hj, hq'⟩) rfl
    | succ i =>
     simp only [List.getElem?_cons_succ] at hi
     exact ih i j x y (by omega) hnd.2.1 hi hj hq hq'
 rcases Nat.lt_or_gt_of_ne hij with hlt | hlt
 ·exact key L i j x y hlt h.nd hi hj hq hq'
 ·exact key L j i y x hlt h.nd hj hi hq' hq
theorem Ms.name (h : Ms w0 L W) : ∃ W', W' = W ∧ Ms w0 L W' := ⟨W, rfl, h⟩
end
theorem SmDo.nameL {x : Do} (h : SmDo x) : x.name.size ≤ 1048576 := by unfold SmDo totDo at h; omega
structure SmD4 (x : Do) : Prop where
 nameL : x.name.size ≤ 1048576
 text : SmI x.text
 list : SmEns x.list
 seen : SmSes x.seen
def CoR (K : Fx) (go : Nat) (w0 w' : World) : Prop := ∃ O L RX RY, CB K go 94 O L w' none none RX RY ∧ CInv K.a K.b RX RY L ∧ Below K.lo w0 w'
theorem CoR.mk {K : Fx} {go : Nat} {w0 w' : World} {O : Nat → Prop} {L : List Pt} {RX RY : List U} (h : CB K go 94 O L w' none none RX RY) (hi : CInv K.a K.b RX RY L) (D : Below K.lo w0 w') : CoR K go w0 w' := ⟨O, L, RX, RY, h, hi, D⟩
theorem heap_old (w : World) (o : Obj) {g : Nat} {x : Obj} (h : w.heap[g]? = some x) : (w.alloc o).heap[g]? = some x := by
 rw [Below.heap_alloc _ _ _ (lt_of_some h)]
 exact h
theorem cur_new {w : World} {g : Nat} {T : TypeId} {A : Option Addr} {c : Nat} {ps : List Pt} (h : w.heap[g]? = some (.cells #[.slice A ps.length c, .int .i64 0, .int .i64 0] T (0, 0))) : ∃ i d, Cur g T w A c ps i d ∧ rem ps i d = units ps ∧ Sett ps i d none :=
 ⟨0, 0, ⟨h, Nat.zero_le _, fun _ _ => Nat.zero_le _, fun _ => rfl⟩, by simp [rem], trivial⟩
theorem Cs.new {w w' : World} {A B : Option Addr} {ca cb lo : Nat} {a b : List Pt} {TC : TypeId} (hlo : lo ≤ w.heap.size) (ra : RdC w lo (encPs a) (.slice A a.length ca)) (rb : RdC w lo (encPs b) (.slice B b.length cb)) (sa : ∀ p ∈ a, szP_ p) (sb : ∀ p ∈ b, szP_ p) (na : a.length ≤ 1048576) (nb : b.length ≤ 1048576)
  (hx : w'.heap[w.heap.size]? = some (.cells #[.slice A a.length ca, .int .i64 0, .int .i64 0] TC (0, 0))) (hy : w'.heap[w.heap.size + 1]? = some (.cells #[.slice B b.length cb, .int .i64 0, .int .i64 0] TC (0, 0))) (hb : Below lo w w') : Cs ⟨lo, w.heap.size, w.heap.size + 1, TC, A, ca, a, B, cb, b⟩ w' none none (units a) (units b) :=
 ⟨cur_new hx, cur_new hy, ra.below hb, rb.below hb, by simp, hlo, Nat.le_succ_of_le hlo, sa, sb, na, nb⟩
theorem CB.new {w : World} {A B : Option Addr} {ca cb lo : Nat} {a b : List Pt} {TC TB : TypeId} (hlo : lo ≤ w.heap.size) (ra : RdC w lo (encPs a) (.slice A a.length ca)) (rb : RdC w lo (encPs b) (.slice B b.length cb)) (sa : ∀ p ∈ a, szP_ p) (sb : ∀ p ∈ b, szP_ p) (na : a.length ≤ 1048576) (nb : b.length ≤ 1048576) :
  CB ⟨lo, w.heap.size, w.heap.size + 1, TC, A, ca, a, B, cb, b⟩ (w.heap.size + 1 + 1) TB (fun q => q = w.heap.size + 1 + 1) [] (((w.alloc (.cells #[.slice A a.length ca, .int .i64 0, .int .i64 0] TC)).alloc (.cells #[.slice B b.length cb, .int .i64 0, .int .i64 0] TC)).alloc (.cells #[.slice none 0 0, .slice none 0 0, .int .i64 0] TB)) none none (units a) (units b) ∧
  Below lo w (((w.alloc (.cells #[.slice A a.length ca, .int .i64 0, .int .i64 0] TC)).alloc (.cells #[.slice B b.length cb, .int .i64 0, .int .i64 0] TC)).alloc (.cells #[.slice none 0 0, .slice none 0 0, .int .i64 0] TB)) := by
 have s1 : (w.alloc (.cells #[.slice A a.length ca, .int .i64 0, .int .i64 0] TC)).heap.size = w.heap.size + 1 := Array.size_push ..
 have s2 : ((w.alloc (.cells #[.slice A a.length ca, .int .i64 0, .int .i64 0] TC)).alloc (.cells #[.slice B b.length cb, .int .i64 0, .int .i64 0] TC)).heap.size = w.heap.size + 1 + 1 := by rw [← s1]; exact Array.size_push ..
 have b1 := (((alloc_below w (.cells #[.slice A a.length ca, .int .i64 0, .int .i64 0] TC)).mono hlo).alloc (by rw [s1]; omega) (.cells #[.slice B b.length cb, .int .i64 0, .int .i64 0] TC)).alloc (by rw [s2]; omega) (.cells #[.slice none 0 0, .slice none 0 0, .int .i64 0] TB)
 have hb := Bld.new lo TB ((w.alloc (.cells #[.slice A a.length ca, .int .i64 0, .int .i64 0] TC)).alloc (.cells #[.slice B b.length cb, .int .i64 0, .int .i64 0] TC)) (by rw [s2]; omega)
 rw [s2] at hb
 exact ⟨⟨Cs.new hlo ra rb sa sb na nb (heap_old _ _ (heap_old _ _ (heap_alloc_new w _))) (heap_old _ _ (by rw [← s1]; exact heap_alloc_new _ _)) b1, hb, by show ¬ w.heap.size = _; omega, by show ¬ w.heap.size + 1 = _; omega⟩, b1⟩
def made (us : List U) : List Pt := doneN (foldU us)
theorem signs_put : ∀ {ps : List Pt}, okPs ps = true → (signsIn ps : Int) = sumOf putOf ps
 | [], _ => by simp [signsIn, sumOf]
 | p :: ps, h => by
  unfold okPs at h
  rw [List.all_cons, Bool.and_eq_true] at h
  have ih := signs_put (ps := ps) h.2
  have e1 : signsIn (p :: ps) = p.signs.length + signsIn ps := by simp [signsIn]
  have e2 : sumOf putOf (p :: ps) = putOf p + sumOf putOf ps := by simp [sumOf]
  rw [e1, e2, ← ih]
  have := of_okPt h.1
  unfold putOf
  split <;> omega
theorem op_800 {o : List Pt} (h : okOp o = true) : o.length + signsIn o ≤ 800 := by
 have hh := h
 unfold okOp at h
 rw [Bool.and_eq_true, Bool.and_eq_true] at h
 obtain ⟨⟨h1, _⟩, h3⟩ := h
 have h3 := of_decide_eq_true h3
 obtain ⟨t1, t2, _⟩ := sum_t h1
 unfold partsB at h1
 rw [Bool.and_eq_true] at h1
 have h4 := of_decide_eq_true h1.2
 have hb := sums_bd h1.1 h4
 have hs := signs_put h1.1
 rw [t1, t2] at h3
 omega
theorem isNorm_800 {o : List Pt} (h : isNormL o = true) : o.length + signsIn o ≤ 800 := by
 unfold isNormL at h
 rw [Bool.and_eq_true] at h
 exact op_800 h.1
structure DocIn (x : Do) : Prop where
 name : x.name.size ≤ 8
 from0 : 0 ≤ x.from_
 from1 : x.from_ ≤ 999999000
 text : x.text.length ≤ 200
 list : x.list.length ≤ 8
 ops : sumN totEn x.list ≤ 6400
 seen : x.seen.length ≤ 8
 head : headRevT x = x.from_ + (x.list.length : Int)
def ringB (x : Ri) : Bool := x.list.all entryB && (inB x.cap 1 6 && (inB x.next 1 1000000000 && (decide ((x.list.length : Int) ≤ x.cap) && (!x.out || decide ((x.list.length : Int) = 0)))))
def ringPushT (x : Ri) (e : En) : Ri := if ringB x = true ∧ entryB e = true ∧ x.out = false then (if (x.list.length : Int) = x.cap then ⟨x.cap, x.next, true, []⟩ else ⟨x.cap, x.next, x.out, x.list ++ [e]⟩) else x
theorem ringB_of {x : Ri} (h : ringB x = true) : x.list.all entryB = true ∧ 1 ≤ x.cap ∧ x.cap ≤ 6 ∧ 1 ≤ x.next ∧ x.next ≤ 1000000000 ∧ (x.list.length : Int) ≤ x.cap ∧ (x.out = true → x.list = []) := by
 unfold ringB inB at h
 simp only [Bool.and_eq_true, decide_eq_true_eq, Bool.or_eq_true, Bool.not_eq_true'] at h
 obtain ⟨h1, h2, h3, h4, h5⟩ := h
 refine ⟨h1, by omega, by omega, by omega, by omega, h4, fun ho => ?_⟩
 rcases h5 with h5 | h5
 ·rw [ho] at h5; cases h5
 ·exact List.eq_nil_of_length_eq_zero (by omega)
theorem entry_800 {e : En} (h : entryB e = true) : totEn e ≤ 800 := by
 unfold entryB at h
 rw [Bool.and_eq_true] at h
 exact isNorm_800 h.2
theorem all_800 : ∀ {l : List En}, l.all entryB = true → sumN totEn l ≤ 800 * l.length
 | [], _ => by simp [sumN]
 | e :: l, h => by
  rw [List.all_cons, Bool.and_eq_true] at h
  have h1 := entry_800 h.1
  have h2 := all_800 h.2
  rw [sumN_cons, List.length_cons]
  omega
theorem ringPush_small {x : Ri} {e : En} (hs : SmRi x) (he : SmEn e) : SmRi (ringPushT x e) := by
 unfold ringPushT
 split
 ·rename_i h
  obtain ⟨h1, h2, h3⟩ := h
  have hr := ringB_of h1
  split
  ·simp [SmRi, totRi, totEns, sumN]
  ·have := all_800 (l := x.list ++ [e]) (by rw [List.all_append, hr.1]; simp [h2])
   show totEns (x.list ++ [e]) ≤ 1048576
   unfold totEns
   rw [List.length_append] at this ⊢
   simp only [List.length_singleton] at this ⊢
   omega
 ·exact hs
theorem two_boxes2 (w : World) (c1 c2 : Array Value) (T T' : TypeId) : ((w.alloc (.cells c1 T)).alloc (.cells c2 T')).heap[w.heap.size]? = some (.cells c1 T (0, 0)) ∧ ((w.alloc (.cells c1 T)).alloc (.cells c2 T')).heap[w.heap.size + 1]? = some (.cells c2 T' (0, 0)) ∧ Below w.heap.size w ((w.alloc (.cells c1 T)).alloc (.cells c2 T')) := by
 have s1 : (w.alloc (.cells c1 T)).heap.size = w.heap.size + 1 := World.size_alloc _ _
 exact ⟨heap_kept _ _ (heap_alloc_new w _), by rw [← s1]; exact heap_alloc_new _ _, ((Below.refl _ _).alloc (Nat.le_refl _) _).alloc (by omega) _⟩
theorem OwB.apartG {lo hi : Nat} {w w' : World} {d : Dat} {v : Value} {b : List Nat} {r : Option Nat} (h : OwB lo hi w d v b) (hg : w.grownBy w' r) (hr : ∀ k, r = some k → k < lo ∨ hi ≤ k) : OwB lo hi w' d v b :=
 ⟨OwC.keep d v b h.ow (fun x hx => hg.block x (OwC.lt d v b h.ow x hx) (fun e => by have := h.rng x hx; have := hr x e.symm; omega)), h.nd, h.rng, Nat.le_trans h.top hg.size, h.le⟩
theorem Grew.cellOut {O O' : Nat → Prop} {w w' : World} (h : Grew O O' w w') {p : Addr} (hb : p.block < w.heap.size) (hn : ¬ O p.block) : w'.cell? p = w.cell? p := World.cell?_of_block (w := w) (h.block p.block hb hn)
theorem step_append_zero {P : Program} {w : World} {ops : Array Oper} {o : Oper} {a : Act} {KN : Act → World → Prop} {Q : Exit → Act → World → Prop} {E : Prop} (hgd : o.guard = none) (s x : Operand) (t : TypeId)
  (ho : o.op = .call { callee := .builtin .append, args := #[s, x], argTypes := #[t, t] })
  (base : Nat) (e : TypeId) (i : TypeInfo) (size : Nat) (ht : P.underlying t = some (.slice e)) (hi : P.info? e = some i)
  (v : Value) (n : Nat) (xs : List Value) (hs : a.eval s = v) (hown : w.ownsRow base e size v n xs) (A : Option Addr) (c : Nat) (hx : a.eval x = .slice A 0 c)
  (h : KN (a.put o.dst v) w) : if Region.wanted o (yielded ops a.tmps) = true then Oper.wp P o a w KN Q else E := by
 have hw : Region.wanted o (yielded ops a.tmps) = true := by simp [Region.wanted, hgd]
 rw [if_pos hw]
 have hrun := run_append_zero (P := P) (w := w) base t o.type e i size ht hi v n xs hown A c
 unfold Oper.wp
 simp [execOp, ho, resolve, invoke, builtin, hs, hx, hrun, Result.andThen]
 exact h
theorem step_append_ints {w : World} {ops : Array Oper} {o : Oper} {a : Act} {KN : Act → World → Prop} {Q : Exit → Act → World → Prop} {E : Prop} (hgd : o.guard = none) (s x : Operand)
  (ho : o.op = .call { callee := .builtin .append, args := #[s, x], argTypes := #[66, 66] })
  (base : Nat) (v : Value) (zs : List Int) (hs : a.eval s = v) (hown : w.ownsRow base 3 1 v zs.length (zs.map (Value.int .i64)))
  (A : Option Addr) (m c : Nat) (ys : List Int) (hx : a.eval x = .slice A m c) (hm : ys.length = m) (hr : Row (Value.int .i64) w w.heap.size A ys)
  (h63 : zs.length + m ≤ 1000000000) (hbase : base ≤ w.heap.size)
  (h : ∀ A' c' w', w'.ownsRow base 3 1 (.slice A' (zs.length + m) c') (zs ++ ys).length ((zs ++ ys).map (Value.int .i64)) → w.grownBy w' v.ownBlock → KN (a.put o.dst (.slice A' (zs.length + m) c')) w') : if Region.wanted o (yielded ops a.tmps) = true then Oper.wp Tryz.prog o a w KN Q else E := by
 obtain ⟨i0, hi0, hz0, hz1, hz2⟩ := info_parts ints_info
 by_cases h0 : 0 < m
 ·obtain ⟨ad, rfl, hbk, hcs⟩ := hr (by omega)
  refine step_append_lies _ hgd s x 66 ho base 3 i0 (.int .i64 0) 1 8 Tryz.underlying66 hi0 hz0 hz1 hz2 rfl (by decide) v zs.length (zs.map (Value.int .i64)) hs hown ad m c (ys.map (Value.int .i64)) hx (by simp [hm]) (fun j u hu => ?_) (by simp [Value.oneCell']) h0 (by unfold maxLen; omega) (by omega) hbase w.heap.size rfl ?_
  ·rw [List.getElem?_map] at hu
   obtain ⟨z, hz, rfl⟩ := Option.map_eq_some_iff.1 hu
   exact hcs j z hz
  ·intro g cap w' hown' hg _ _
   exact h _ cap w' (by simpa [hm] using hown') hg
 ·have e0 : ys = [] := List.eq_nil_of_length_eq_zero (by omega)
  subst e0
  obtain rfl : m = 0 := by omega
  refine step_append_zero hgd s x 66 ho base 3 i0 1 Tryz.underlying66 hi0 v zs.length (zs.map (Value.int .i64)) hs hown A c hx ?_
  obtain ⟨Av, cv, rfl⟩ := own_form hown
  exact h Av cv w (by simpa using hown) (grown_refl _ _)
theorem step_append_row {w : World} {ops : Array Oper} {o : Oper} {a : Act} {KN : Act → World → Prop} {Q : Exit → Act → World → Prop} {E : Prop} (hgd : o.guard = none) (s x : Operand) (t : TypeId)
  (ho : o.op = .call { callee := .builtin .append, args := #[s, x], argTypes := #[t, t] }) (e : TypeId) (i : TypeInfo) (z : Value) (sz bytes : Nat) (ht : Tryz.prog.underlying t = some (.slice e)) (hi : Tryz.prog.info? e = some i) (hz : i.zero = some z) (hsize : i.size = sz) (hby : i.bytes = bytes) (hzs : z.cells.size = sz) (hsz : 0 < sz) (hbm : bytes ≤ 100000)
  (lo hi' : Nat) (v : Value) (ds : List (List Dat)) (b : List Nat) (h : OwB lo hi' w (.rows e sz ds) v b) (hs : a.eval s = v) (hlen : ds.length ≤ 2000000)
  (ad : Addr) (c0 : Nat) (ys : List Value) (hx : a.eval x = .slice (some ad) 1 c0) (hl : ys.length = sz) (hnews : ∀ j u, ys[j]? = some u → w.cell? (ad.add j) = some u) (h1 : ∀ u ∈ ys, u.oneCell' = true)
  (r : List Dat) (c : List Nat) (hr : OwL w r ys c) (hcn : c.Nodup) (hbc : ∀ q ∈ b, q ∉ c) (hcr : ∀ q ∈ c, lo ≤ q)
  (K : ∀ A' c' w' b', OwB lo w'.heap.size w' (.rows e sz (ds ++ [r])) (.slice A' (ds.length + 1) c') b' → (∀ q ∈ b', q ∈ b ∨ q ∈ c ∨ w.heap.size ≤ q) → Grew (fun q => q ∈ b) (fun q => q ∈ b ∨ w.heap.size ≤ q) w w' → Below lo w w' → KN (a.put o.dst (.slice A' (ds.length + 1) c')) w') : if Region.wanted o (yielded ops a.tmps) = true then Oper.wp Tryz.prog o a w KN Q else E := by
 have hnd := h.nd
 have hrg := h.rng
 obtain ⟨xs, cs, ho', hor, hb⟩ := h.ow
 refine step_append_lies _ hgd s x t ho 0 e i z sz bytes ht hi hz hsize hby hzs hsz v ds.length xs hs ho' ad 1 c0 ys hx (by simp [hl]) hnews h1 (by omega) (by unfold maxLen; omega) ?_ (Nat.zero_le _) _ rfl ?_
 ·have : (ds.length + 1) * bytes ≤ 2000001 * 100000 := Nat.mul_le_mul (by omega) hbm
  omega
 intro g cap w' hown hg hat hlt
 rw [hb] at hnd
 obtain ⟨n1, n2, n3⟩ := List.nodup_append.1 hnd
 have own_mem : ∀ q, v.ownBlock = some q → q ∈ b := fun q hq => by rw [hb, hq]; simp
 have hcs : ∀ q ∈ cs, w'.heap[q]? = w.heap[q]? := fun q hq => hg.block q (OwR.lt sz _ _ _ hor q hq) (fun e => n3 q (by rw [← e]; simp) q hq rfl)
 have hcc : ∀ q ∈ c, w'.heap[q]? = w.heap[q]? := fun q hq => hg.block q (OwL.lt _ _ _ hr q hq) (fun e => hbc q (own_mem q e.symm) hq)
 have hor' := (OwR.keep sz _ _ _ hor hcs).append (OwR.one (OwL.keep _ _ _ hr hcc) hl)
 have g1 : g ∉ cs := fun hq => by
  rcases hat with e | e
  ·exact n3 g (by rw [e]; simp) g hq rfl
  ·have := OwR.lt sz _ _ _ hor g hq; omega
 have g2 : g ∉ c := fun hq => by
  rcases hat with e | e
  ·exact hbc g (own_mem g e) hq
  ·have := OwL.lt _ _ _ hr g hq; omega
 have g3 : lo ≤ g ∧ (g ∈ b ∨ w.heap.size ≤ g) := by
  rcases hat with e | e
  ·exact ⟨(hrg g (own_mem g e)).1, .inl (own_mem g e)⟩
  ·have := h.top; have := h.le; exact ⟨by omega, .inr (by omega)⟩
 have hsz' := hg.size
 have ht' := h.top
 refine K _ cap w' (g :: (cs ++ c)) ⟨⟨xs ++ ys, cs ++ c, by rw [List.length_append]; exact hown, hor', rfl⟩, ?_, ?_, Nat.le_refl _, by have := h.le; omega⟩ ?_ ⟨hg.size, fun q hq hn => hg.block q hq (fun e => hn (own_mem q e.symm)), fun q hq => hq⟩ ?_
 ·refine List.nodup_cons.2 ⟨fun hq => ?_, List.nodup_append.2 ⟨n2, hcn, fun q hq q' hq' e => ?_⟩⟩
  ·rcases List.mem_append.1 hq with hq | hq
   ·exact g1 hq
   ·exact g2 hq
  ·subst e
   exact hbc q (by rw [hb]; simp [hq]) hq'
 ·intro q hq
  rcases List.mem_cons.1 hq with rfl | hq
  ·exact ⟨g3.1, hlt⟩
  ·rcases List.mem_append.1 hq with hq | hq
   ·have := hrg q (by rw [hb]; simp [hq]); exact ⟨this.1, by omega⟩
   ·have := OwL.lt _ _ _ hr q hq; exact ⟨hcr q hq, by omega⟩
 ·intro q hq
  rcases List.mem_cons.1 hq with rfl | hq
  ·rcases g3.2 with h | h
   ·exact .inl h
   ·exact .inr (.inr h)
  ·rcases List.mem_append.1 hq with hq | hq
   ·exact .inl (by rw [hb]; simp [hq])
   ·exact .inr (.inl hq)
 ·exact (Below.refl lo w).grown hg (by have := h.le; omega) (fun k hk => (hrg k (own_mem k hk)).1)
theorem specCopy_d (v : Value) (ps : List Pt) (w : World) (h : RdC w w.heap.size (encPs ps) v) (hs : SmP ps) : Calls Tryz.prog 43 #[v] w (OwnPost (encPs ps) w) := by
 obtain ⟨A, c, rfl, hr, _⟩ := parts_rd h
 have hl := hs.1
 obtain ⟨i0, hi0, hz0, hz1, hz2⟩ := info_parts part_info
 have ob : OwB w.heap.size (w.heap.size + 1) (w.alloc (.cells #[] 72)) (encPs []) (.slice (some ⟨w.heap.size, 0, none⟩) 0 0) [w.heap.size] := ⟨⟨[], [], ⟨rfl, .inr ⟨w.heap.size, 0, #[], rfl, Nat.zero_le _, heap_alloc_new w _, Nat.le_refl _, by unfold maxLen; omega, rfl, rfl⟩⟩, ⟨rfl, rfl⟩, rfl⟩, by simp, fun q hq => by simp at hq; omega, by rw [World.size_alloc]; exact Nat.le_refl _, by omega⟩
 have b0 := alloc_below w (.cells #[] 72)
 have z0 : (w.alloc (.cells #[] 72)).heap.size = w.heap.size + 1 := World.size_alloc _ _
 rw [← z0] at ob
 have OB := Lib.hid ob
 clear ob z0
 go_enter Tryz.func43, Tryz.ntmps43
 go_wp2
 go_loopw [3, 9] (fun ov i wr => ∃ (j : Nat) (A1 : Option Addr) (c1 : Nat) (bs : List Nat), j ≤ ps.length ∧ i = .int .i64 (j : Int) ∧ ov = .slice A1 j c1 ∧ OwB w.heap.size wr.heap.size wr (encPs (ps.take j)) ov bs ∧ Below w.heap.size w wr) (fun _ i _ => ps.length - (intOf i).toNat)
 case atStart => exact ⟨0, _, _, _, Nat.zero_le _, rfl, rfl, OB.out, b0⟩
 case round =>
  obtain ⟨j, A1, c1, bs, hj, rfl, rfl, ho, hbel⟩ := hrel
  clear OB b0
  have HO := Lib.hid ho
  clear ho
  by_cases hlt : j < ps.length
  ·obtain ⟨b, off, p, rfl, hbb, hp, hc⟩ := hr.at_ hlt
   obtain ⟨x0, x1, A5, c5, x2, r1⟩ := hc.keep (w' := wr) hbb (fun _ hq => hbel.cell hq)
   have hsp := hs.all p (List.mem_of_getElem? hp)
   have HT := Lib.hid (show ps.take (j + 1) = ps.take j ++ [p] by rw [List.take_add_one, hp]; rfl)
   clear hp hc
   have bA := alloc_below wr (.cells #[.int .i64 p.kind, .int .i64 p.n, .slice A5 p.signs.length c5] 72)
   have bxP := Bx.new wr #[.int .i64 p.kind, .int .i64 p.n, .slice A5 p.signs.length c5] 72
   have HO1 := Lib.hid (HO.out.past bA)
   have zA : (wr.alloc (.cells #[.int .i64 p.kind, .int .i64 p.n, .slice A5 p.signs.length c5] 72)).heap.size = wr.heap.size + 1 := World.size_alloc _ _
   go_wp2
   generalize wr.alloc (.cells #[.int .i64 p.kind, .int .i64 p.n, .slice A5 p.signs.length c5] 72) = W1 at bA bxP HO1 zA ⊢
   have lP := bxP.lt
   have hS0 : W1.drew.cell? ⟨wr.heap.size, 0, none⟩ = some (.int .i64 p.kind) ∧ W1.drew.cell? ⟨wr.heap.size, 1, none⟩ = some (.int .i64 p.n) ∧ W1.drew.cell? ⟨wr.heap.size, 2, none⟩ = some (.slice A5 p.signs.length c5) := ⟨bxP.cell (j := 0) rfl, bxP.cell (j := 1) rfl, bxP.cell (j := 2) rfl⟩
   refine wp_region_held_drew (S := fun W => W.cell? ⟨wr.heap.size, 0, none⟩ = some (.int .i64 p.kind) ∧ W.cell? ⟨wr.heap.size, 1, none⟩ = some (.int .i64 p.n) ∧ W.cell? ⟨wr.heap.size, 2, none⟩ = some (.slice A5 p.signs.length c5)) (by kernel_rfl) hS0 (fun hS => ?_)
   clear hS0
   have bA := bA.trans ((Below.refl _ _).drew.mono bA.size)
   have HO1 := Lib.hid (HO1.out.past (Below.refl _ _).drew)
   have zA : W1.drew.heap.size = wr.heap.size + 1 := zA
   have lP : wr.heap.size < W1.drew.heap.size := lP
   clear bxP
   generalize W1.drew = WD at hS bA HO1 zA lP ⊢
   refine tk (v := .slice A1 j c1) 0 13 rfl (fun w' hS' => ?_) (by assumption) ?_
   ·(try dsimp only at hS'); go_simp
   try simp only [Act.put, pa, pb, pc]
   refine tk (v := .pointer (some ⟨wr.heap.size, 0, none⟩)) 1 14 rfl (fun w' hS' => ?_) (by assumption) ?_
   ·(try dsimp only at hS'); go_simp
   try simp only [Act.put, pa, pb, pc]
   refine tk (v := .int .i64 p.kind) 2 15 rfl (fun w' hS' => ?_) (by assumption) ?_
   ·(try dsimp only at hS'); go_simp
   try simp only [Act.put, pa, pb, pc]
   refine tk (v := .pointer (some ⟨wr.heap.size, 1, none⟩)) 3 16 rfl (fun w' hS' => ?_) (by assumption) ?_
   ·(try dsimp only at hS'); go_simp
   try simp only [Act.put, pa, pb, pc]
   refine tk (v := .int .i64 p.n) 4 17 rfl (fun w' hS' => ?_) (by assumption) ?_
   ·(try dsimp only at hS'); go_simp
   try simp only [Act.put, pa, pb, pc]
   refine tk (v := .pointer (some ⟨wr.heap.size, 2, none⟩)) 6 19 rfl (fun w' hS' => ?_) (by assumption) ?_
   ·(try dsimp only at hS'); go_simp
   try simp only [Act.put, pa, pb, pc]
   refine tk (v := .slice A5 p.signs.length c5) 7 20 rfl (fun w' hS' => ?_) (by assumption) ?_
   ·(try dsimp only at hS'); go_simp
   try simp only [Act.put, pa, pb, pc]
   refine low.r1 5 (some 18) rfl (fun K hK => ?_)
   go_simp
   have hS1 : (WD.alloc (.cells #[] 3)).cell? ⟨wr.heap.size, 0, none⟩ = some (.int .i64 p.kind) ∧ (WD.alloc (.cells #[] 3)).cell? ⟨wr.heap.size, 1, none⟩ = some (.int .i64 p.n) ∧ (WD.alloc (.cells #[] 3)).cell? ⟨wr.heap.size, 2, none⟩ = some (.slice A5 p.signs.length c5) := ⟨((alloc_below WD (.cells #[] 3)).cell (p := ⟨wr.heap.size, 0, none⟩) lP).trans hS.1, ((alloc_below WD (.cells #[] 3)).cell (p := ⟨wr.heap.size, 1, none⟩) lP).trans hS.2.1, ((alloc_below WD (.cells #[] 3)).cell (p := ⟨wr.heap.size, 2, none⟩) lP).trans hS.2.2⟩
   refine hK.out _ _ hS1 (fun hS => ?_)
   clear hK K hS1
   try simp only [Act.put, pa, pb, pc]
   have bD : Below WD.heap.size WD (WD.alloc (.cells #[] 3)) := alloc_below WD (.cells #[] 3)
   have hib : (WD.alloc (.cells #[] 3)).ownsRow (wr.heap.size + 1) 3 1 (.slice (some ⟨wr.heap.size + 1, 0, none⟩) 0 0) 0 [] := ⟨rfl, .inr ⟨wr.heap.size + 1, 0, #[], rfl, Nat.le_refl _, by rw [← zA]; exact heap_alloc_new WD _, Nat.le_refl _, by unfold maxLen; omega, rfl, rfl⟩⟩
   have zD : (WD.alloc (.cells #[] 3)).heap.size = wr.heap.size + 2 := by rw [World.size_alloc]; omega
   have hrow := (((r1.more hbel.size).past bA).past bD)
   have HO2 := Lib.hid (HO1.out.past bD)
   generalize WD.alloc (.cells #[] 3) = W2 at hS bD hib zD hrow HO2 ⊢
   refine low.r1 8 (some 21) rfl (fun K hK => ?_)
   refine step_append_ints (by rfl) (.tmp 18) (.tmp 20) (by rfl) (wr.heap.size + 1) (.slice (some ⟨wr.heap.size + 1, 0, none⟩) 0 0) [] (by rfl) hib A5 p.signs.length c5 p.signs (by rfl) rfl hrow (by simp; omega) (by omega) ?_
   intro An cn wn hon hgn
   simp only [List.nil_append, List.length_nil, Nat.zero_add] at hon ⊢
   have hS1 : wn.cell? ⟨wr.heap.size, 0, none⟩ = some (.int .i64 p.kind) ∧ wn.cell? ⟨wr.heap.size, 1, none⟩ = some (.int .i64 p.n) ∧ wn.cell? ⟨wr.heap.size, 2, none⟩ = some (.slice A5 p.signs.length c5) := ⟨(grown_cell (p := ⟨wr.heap.size, 0, none⟩) hgn (by simp only; omega) (by simp [Value.ownBlock])).trans hS.1, (grown_cell (p := ⟨wr.heap.size, 1, none⟩) hgn (by simp only; omega) (by simp [Value.ownBlock])).trans hS.2.1, (grown_cell (p := ⟨wr.heap.size, 2, none⟩) hgn (by simp only; omega) (by simp [Value.ownBlock])).trans hS.2.2⟩
   refine hK.out _ _ hS1 (fun hS => ?_)
   clear hK K hS1
   try simp only [Act.put, pa, pb, pc]
   have zn : wr.heap.size + 2 ≤ wn.heap.size := by have := hgn.size; omega
   have on := ownInts hon (by omega)
   have HO3 := Lib.hid (HO2.out.apartG hgn (fun k hk => by simp [Value.ownBlock] at hk; omega))
   have bn : Below wr.heap.size W2 wn := (Below.refl _ _).grown hgn (by omega) (fun q hq => by have := own_ge hib q hq; omega)
   have dn : Below w.heap.size w wn := hbel.trans (((bA.trans (bD.mono bA.size)).trans bn).mono hbel.size)
   clear hon hgn hib hrow HO2 bn bD
   refine tk (v := .agg #[.int .i64 p.kind, .int .i64 p.n, .slice An p.signs.length cn]) 9 22 rfl (fun w' hS' => ?_) (by assumption) ?_
   ·(try dsimp only at hS'); go_simp
   try simp only [Act.put, pa, pb, pc]
   refine low.r1 10 (some 23) rfl (fun K hK => ?_)
   go_simp
   have hS1 : (wn.alloc (.cells #[.int .i64 p.kind, .int .i64 p.n, .slice An p.signs.length cn] 72)).cell? ⟨wr.heap.size, 0, none⟩ = some (.int .i64 p.kind) ∧ (wn.alloc (.cells #[.int .i64 p.kind, .int .i64 p.n, .slice An p.signs.length cn] 72)).cell? ⟨wr.heap.size, 1, none⟩ = some (.int .i64 p.n) ∧ (wn.alloc (.cells #[.int .i64 p.kind, .int .i64 p.n, .slice An p.signs.length cn] 72)).cell? ⟨wr.heap.size, 2, none⟩ = some (.slice A5 p.signs.length c5) := ⟨((alloc_below wn (.cells #[.int .i64 p.kind, .int .i64 p.n, .slice An p.signs.length cn] 72)).cell (p := ⟨wr.heap.size, 0, none⟩) (by simp only; omega)).trans hS.1, ((alloc_below wn (.cells #[.int .i64 p.kind, .int .i64 p.n, .slice An p.signs.length cn] 72)).cell (p := ⟨wr.heap.size, 1, none⟩) (by simp only; omega)).trans hS.2.1, ((alloc_below wn (.cells #[.int .i64 p.kind, .int .i64 p.n, .slice An p.signs.length cn] 72)).cell (p := ⟨wr.heap.size, 2, none⟩) (by simp only; omega)).trans hS.2.2⟩
   refine hK.out _ _ hS1 (fun hS => ?_)
   clear hK K hS1
   try simp only [Act.put, pa, pb, pc]
   have bP := alloc_below wn (.cells #[.int .i64 p.kind, .int .i64 p.n, .slice An p.signs.length cn] 72)
   have HN := Lib.hid (World.news_of_block (cs := #[.int .i64 p.kind, .int .i64 p.n, .slice An p.signs.length cn]) (t := 72) (fr := (0, 0)) (heap_alloc_new wn (.cells #[.int .i64 p.kind, .int .i64 p.n, .slice An p.signs.length cn] 72)))
   obtain ⟨cs, ox⟩ := (on.past bP).blocks
   have OX := Lib.hid ox
   have HO4 := Lib.hid (HO3.out.past bP)
   have zP : (wn.alloc (.cells #[.int .i64 p.kind, .int .i64 p.n, .slice An p.signs.length cn] 72)).heap.size = wn.heap.size + 1 := World.size_alloc _ _
   have d4 := dn.trans (bP.mono dn.size)
   have e1 : ((ps.take j).map encPt).length = j := by simp; omega
   generalize wn.alloc (.cells #[.int .i64 p.kind, .int .i64 p.n, .slice An p.signs.length cn] 72) = W4 at hS HN OX HO4 zP d4 ⊢
   clear on ox bP dn
   refine low.r1 11 (some 24) rfl (fun K hK => ?_)
   refine step_append_row (by rfl) (.tmp 13) (.tmp 23) 35 (by rfl) 72 i0 _ 3 40 Tryz.underlying35 hi0 hz0 hz1 hz2 rfl (by decide) (by decide) w.heap.size _ (.slice A1 j c1) ((ps.take j).map encPt) bs HO4.out (by rfl) (by omega) ⟨wn.heap.size, 0, none⟩ 1 [.int .i64 p.kind, .int .i64 p.n, .slice An p.signs.length cn] (by rfl) rfl HN.out (by simp [Value.oneCell']) (encPt p) cs ⟨_, _, [], cs, rfl, by simp, ⟨rfl, rfl⟩, _, _, [], cs, rfl, by simp, ⟨rfl, rfl⟩, _, [], cs, [], rfl, by simp, OX.out.ow, rfl, rfl⟩ OX.out.nd (fun q hq hq' => by have q1 := (HO4.out.rng q hq).2; have q2 := (OX.out.rng q hq').1; omega) (fun q hq => by have q2 := (OX.out.rng q hq).1; have := hbel.size; omega) ?_
   intro A7 c7 w7 b7 o7 in7 g7 bl7
   rw [e1]
   have hS1 : w7.cell? ⟨wr.heap.size, 0, none⟩ = some (.int .i64 p.kind) ∧ w7.cell? ⟨wr.heap.size, 1, none⟩ = some (.int .i64 p.n) ∧ w7.cell? ⟨wr.heap.size, 2, none⟩ = some (.slice A5 p.signs.length c5) := ⟨(g7.cellOut (p := ⟨wr.heap.size, 0, none⟩) (by simp only; omega) (fun hq => by have := (HO4.out.rng _ hq).2; simp only at this; omega)).trans hS.1, (g7.cellOut (p := ⟨wr.heap.size, 1, none⟩) (by simp only; omega) (fun hq => by have := (HO4.out.rng _ hq).2; simp only at this; omega)).trans hS.2.1, (g7.cellOut (p := ⟨wr.heap.size, 2, none⟩) (by simp only; omega) (fun hq => by have := (HO4.out.rng _ hq).2; simp only at this; omega)).trans hS.2.2⟩
   refine hK.out _ _ hS1 (fun hS => ?_)
   clear hK K hS1
   try simp only [Act.put, pa, pb, pc]
   refine tk (v := .slice A7 (j + 1) c7) 12 3 rfl (fun w' hS' => ?_) (by assumption) ?_
   ·(try dsimp only at hS'); go_simp
   try simp only [Act.put, pa, pb, pc]
   refine wpAnyH_done (by kernel_rfl) ?_ _
   have O7 := Lib.hid (show OwB w.heap.size w7.heap.size w7 (encPs (ps.take (j + 1))) (.slice A7 (j + 1) c7) b7 by rw [HT.out]; rw [e1] at o7; unfold encPs; rw [List.map_append]; exact o7)
   have d7 := d4.trans bl7
   clear o7 hS
   go_wp2
   go_roundw
   case rel => exact ⟨j + 1, A7, c7, b7, by omega, by go_num, rfl, O7.out, d7⟩
   case measure => simp [intOf]; omega
  ·obtain rfl : j = ps.length := by omega
   have k1 := HO.out
   rw [List.take_length] at k1
   have K1 := Lib.hid k1
   clear k1
   go_wp2
   go_ret
   exact ⟨_, rfl, ⟨bs, K1.out.ow, K1.out.nd, K1.out.rng, Nat.le_refl _, K1.out.le⟩, hbel⟩
end Go.Proofs.YtglklgnggkenhaaGreat.low
namespace Go.Proofs.YtglklgnggkenhaaGreat.low
set_option linter.unusedVariables false
end Go.Proofs.YtglklgnggkenhaaGreat.low
namespace Go.Proofs.YtglklgnggkenhaaGreat.low
open Go.RowKit
set_option linter.unusedVariables false
theorem elt_of {t e : TypeId} {z : Value} {sz bytes : Nat} (hu : Tryz.prog.underlying t = some (.slice e)) (hi : (Tryz.prog.info? e).map (fun i => (i.zero, i.size, i.bytes)) = some (some z, sz, bytes)) (h1 : z.cells.size = sz) (h2 : 0 < sz) (h3 : bytes ≤ 100000) : Elt t e z sz bytes := by
 obtain ⟨i, k1, k2⟩ := Option.map_eq_some_iff.1 hi
 simp only [Prod.mk.injEq] at k2
 exact ⟨i, hu, k1, k2.1, k2.2.1, k2.2.2, h1, h2, h3⟩
theorem eltInt : Elt 66 3 (.int .i64 0) 1 8 := elt_of (by kernel_rfl) (by kernel_rfl) rfl (by omega) (by omega)
theorem eltEn : Elt 30 37 (.agg #[.int .i64 0, .int .i64 0, .slice none 0 0]) 3 40 := elt_of (by kernel_rfl) (by kernel_rfl) rfl (by omega) (by omega)
theorem flatI (zs : List Int) : FlatR (zs.map fun z => [.int z]) 1 := fun r hr => by
 obtain ⟨z, _, rfl⟩ := List.mem_map.1 hr
 exact ⟨rfl, fun d hd => by rw [List.mem_singleton] at hd; subst hd; exact ⟨_, rfl, rfl⟩⟩
theorem specEntryC_d (v : Value) (x : En) (w : World) (h : RdC w w.heap.size (datEn x) v) (hs : SmEn x) : Calls Tryz.prog 26 #[v] w (OwnPost (datEn x) w) := by
 obtain ⟨A2, c2, rfl, r2⟩ := aggEn h
 have HR := Lib.hid r2
 clear h r2
 have HM := Lib.hid (Ms.start w)
 replace HM := Lib.hid (HM.out.new #[.int .i64 x.client, .int .i64 x.seq, .slice A2 x.o.length c2] 37)
 have hm := HM.out.new #[.int .i64 0, .int .i64 0, .slice none 0 0] 37
 simp only [World.size_alloc] at hm
 replace HM := Lib.hid hm
 clear hm
 go_enter Tryz.func26, Tryz.ntmps26
 go_wp2
 obtain ⟨W1, hW, hm⟩ := HM.out.name
 rw [← hW]
 replace HM := Lib.hid hm
 clear hm hW
 replace HM := Lib.hid (HM.out.drew)
 refine wp_region_held_drew (S := fun W => Ms w [.bx w.heap.size (.cells #[.int .i64 x.client, .int .i64 x.seq, .slice A2 x.o.length c2] 37 (0, 0))] W) (by kernel_rfl) (HM.out.pick (ks := [1]) (by decide) rfl) (fun hS => ?_)
 generalize W1.drew = W2 at HM hS  ⊢
 refine tk (v := ?_) 0 3 rfl (fun w' hS' => ?_) hS ?_
 rotate_left
 ·go_simp; all_goals (with_reducible rfl)
 try simp only [Act.put, pa, pb, pc]
 refine tk (v := ?_) 1 4 rfl (fun w' hS' => ?_) hS ?_
 rotate_left
 ·(try dsimp only at hS'); obtain ⟨q0, q1, q2⟩ := hS'.c3 0 rfl; go_simp; all_goals (with_reducible rfl)
 try simp only [Act.put, pa, pb, pc]
 refine tk (v := ?_) 2 5 rfl (fun w' hS' => ?_) hS ?_
 rotate_left
 ·go_simp; all_goals (with_reducible rfl)
 try simp only [Act.put, pa, pb, pc]
 refine tk (v := ?_) 3 6 rfl (fun w' hS' => ?_) hS ?_
 rotate_left
 ·(try dsimp only at hS'); obtain ⟨q0, q1, q2⟩ := hS'.c3 0 rfl; go_simp; all_goals (with_reducible rfl)
 try simp only [Act.put, pa, pb, pc]
 refine tk (v := ?_) 4 7 rfl (fun w' hS' => ?_) hS ?_
 rotate_left
 ·go_simp; all_goals (with_reducible rfl)
 try simp only [Act.put, pa, pb, pc]
 refine tk (v := ?_) 5 8 rfl (fun w' hS' => ?_) hS ?_
 rotate_left
 ·(try dsimp only at hS'); obtain ⟨q0, q1, q2⟩ := hS'.c3 0 rfl; go_simp; all_goals (with_reducible rfl)
 try simp only [Act.put, pa, pb, pc]
 refine r1 6 (some 9) rfl (fun K hK => ?_)
 go_simp
 refine (specCopy_d _ x.o _ (HM.out.arg HR.out) hs.o).mono ?_
 rintro e' W3 ⟨v', rfl, o', b'⟩
 obtain ⟨An, cn, rfl⟩ := sliceP o'.read
 obtain ⟨bo, hm⟩ := HM.out.got o' b'
 clear o' b'
 replace HM := Lib.hid hm
 clear hm
 clear hS
 refine hK.out _ _ (HM.out.pick (ks := [2]) (by decide) rfl) (fun hS => ?_)
 clear hK K
 try simp only [Act.put, pa, pb, pc]
 refine tk (v := ?_) 7 10 rfl (fun w' hS' => ?_) hS ?_
 rotate_left
 ·go_simp; all_goals (with_reducible rfl)
 try simp only [Act.put, pa, pb, pc]
 refine r1 8 none rfl (fun K hK => ?_)
 obtain ⟨kr0, kr1, kr2⟩ := HM.out.c3 1 rfl
 obtain ⟨fr0, fr1, fr2⟩ := HM.out.f3 1 rfl
 go_simp
 clear hS kr0 kr1 kr2 fr0 fr1 fr2
 have hm := HM.out.pk [1, 0, 2] (by decide) (by simp)
 simp only [low.pk, low.gz, low.gs] at hm
 replace HM := Lib.hid hm
 clear hm
 have hm := HM.out.putRow (ys := [.int .i64 x.client, .int .i64 x.seq, .slice An x.o.length cn]) rfl
 simp only [low.putRow, Nat.zero_add, Nat.reduceAdd] at hm
 replace HM := Lib.hid hm
 clear hm
 obtain ⟨W4, hW, hm⟩ := HM.out.name
 rw [← hW]
 replace HM := Lib.hid hm
 clear hm hW
 refine hK.out _ _ (HM.out.pick (ks := [2]) (by decide) rfl) (fun hS => ?_)
 clear hK K
 try simp only [Act.put]
 refine wpAnyH_done (by kernel_rfl) ?_ _
 clear hS
 go_wp2
 obtain ⟨kr0, kr1, kr2⟩ := HM.out.c3 0 rfl
 have hm := HM.out.pk [1, 0, 2] (by decide) (by simp)
 simp only [low.pk, low.gz, low.gs] at hm
 replace HM := Lib.hid hm
 clear hm
 exact bodyPost_ret (v := .agg #[.int .i64 x.client, .int .i64 x.seq, .slice An x.o.length cn]) (by simp [results, Tryz.results26, go_sem, kr0, kr1, kr2]) rfl (show Ms w (.dt (datEn x) (.agg #[.int .i64 x.client, .int .i64 x.seq, .slice An x.o.length cn]) (bo ++ []) :: _) _ from (HM.out.pk0.pkO.pkF rfl).pkF rfl).post
theorem specEntriesC_d (v : Value) (l : List En) (w : World) (h : RdC w w.heap.size (encEns l) v) (hs : SmEns l) : Calls Tryz.prog 37 #[v] w (OwnPost (encEns l) w) := by
 obtain ⟨A, c, rfl⟩ := sliceEns h
 have hl := hs.len
 have HR := Lib.hid h
 clear h
 have HM := Lib.hid (Ms.start w)
 replace HM := Lib.hid (HM.out.empty 37 3)
 go_enter Tryz.func37, Tryz.ntmps37
 go_wp2
 go_loopw [3, 9] (fun ov i wr => ∃ (j : Nat) (A1 : Option Addr) (c1 : Nat) (bs : List Nat), j ≤ l.length ∧ i = .int .i64 (j : Int) ∧ ov = .slice A1 j c1 ∧ Ms w [.dt (.rows 37 3 ((l.take j).map encEn)) (.slice A1 j c1) bs] wr) (fun _ i _ => l.length - (intOf i).toNat)
 case atStart => exact ⟨0, _, _, _, Nat.zero_le _, rfl, rfl, HM.out⟩
 case round =>
  obtain ⟨j, A1, c1, bs, hj, rfl, rfl, hm⟩ := hrel
  clear HM
  have HM := Lib.hid hm
  clear hm
  by_cases hlt : j < l.length
  ·obtain ⟨b, off, e, A5, c5, rfl, hbb, hp, y0, y1, y2, q2⟩ := atEns HR.out hlt
   have x0 := (HM.out.bl.cell (p := ⟨b, off + j * 3, none⟩) hbb).trans y0
   have x1 := (HM.out.bl.cell (p := ⟨b, off + j * 3 + 1, none⟩) hbb).trans y1
   have x2 := (HM.out.bl.cell (p := ⟨b, off + j * 3 + 2, none⟩) hbb).trans y2
   clear y0 y1 y2
   have hse := hs.at_ (List.mem_of_getElem? hp)
   have HT := Lib.hid (show (l.take (j + 1)).map encEn = (l.take j).map encEn ++ [encEn e] by rw [List.take_add_one, hp]; simp)
   clear hp
   replace HM := Lib.hid (HM.out.new #[.int .i64 e.client, .int .i64 e.seq, .slice A5 e.o.length c5] 37)
   go_wp2_with fail
   obtain ⟨W1, hW, hm⟩ := HM.out.name
   rw [← hW]
   replace HM := Lib.hid hm
   clear hm hW
   refine (specEntryC_d _ e _ (rdEn e (HM.out.arg q2)) hse).mono ?_
   rintro e' W2 ⟨v', rfl, o', b'⟩
   obtain ⟨A6, c6, rfl, -⟩ := aggEn o'.read
   obtain ⟨bn, hm⟩ := HM.out.got o' b'
   clear o' b'
   replace HM := Lib.hid hm
   clear hm
   clear x0 x1 x2
   replace HM := Lib.hid (HM.out.new #[.int .i64 e.client, .int .i64 e.seq, .slice A6 e.o.length c6] 37)
   have hm := HM.out.pk [3, 1, 0, 2] (by decide) (by simp)
   simp only [low.pk, low.gz, low.gs] at hm
   replace HM := Lib.hid hm
   clear hm
   go_wp2_with (at_builtin; refine wpList_ms1 rfl (.tmp 13) (.tmp 16) 30 rfl eltEn HM.out rfl (by simp; omega) W2.heap.size _ rfl (HM.out.at_ (i := 2) rfl) rfl (by simp [Value.oneCell']) ?_; intro A7 c7 w7 b7 hm)
   have e1 : ((l.take j).map encEn).length = j := by simp; omega
   rw [e1] at hm
   try rw [e1]
   rw [HT.out.symm] at hm
   have HM7 := Lib.hid hm
   clear hm e1 HM
   go_wp2
   go_roundw
   case rel => exact ⟨j + 1, A7, c7, b7, by omega, by go_num, rfl, HM7.out.pick (ks := [0]) (by decide) rfl⟩
   case measure => simp [intOf]; omega
  ·obtain rfl : j = l.length := by omega
   have hm := HM.out
   rw [List.take_length] at hm
   have HM7 := Lib.hid hm
   clear hm HM
   go_wp2
   go_ret
   exact (show Ms w [.dt (encEns l) _ _] _ from HM7.out).post
structure RdB (lo hi : Nat) (w : World) (d : Dat) (v : Value) (b : List Nat) : Prop where
 rd : ∀ W' : World, (∀ q ∈ b, W'.heap[q]? = w.heap[q]?) → ∀ B, (∀ q ∈ b, q < B) → RdC W' B d v
 rng : ∀ q ∈ b, lo ≤ q ∧ q < hi
 top : hi ≤ w.heap.size
 le : lo ≤ hi
def RdOwn (lo hi : Nat) (w : World) (d : Dat) (v : Value) : Prop := ∃ b, RdB lo hi w d v b
theorem RdOwn.blocks {lo hi : Nat} {w : World} {d : Dat} {v : Value} (h : RdOwn lo hi w d v) : ∃ b, RdB lo hi w d v b := h
theorem RdB.read {lo hi : Nat} {w : World} {d : Dat} {v : Value} {b : List Nat} (h : RdB lo hi w d v b) : RdC w w.heap.size d v := h.rd w (fun _ _ => rfl) _ (fun q hq => Nat.lt_of_lt_of_le (h.rng q hq).2 h.top)
theorem RdOwn.read {lo hi : Nat} {w : World} {d : Dat} {v : Value} (h : RdOwn lo hi w d v) : RdC w w.heap.size d v := by obtain ⟨b, h⟩ := h; exact h.read
theorem RdB.keep {lo hi : Nat} {w w' : World} {d : Dat} {v : Value} {b : List Nat} (h : RdB lo hi w d v b) (hk : ∀ q ∈ b, w'.heap[q]? = w.heap[q]?) (hs : w.heap.size ≤ w'.heap.size) : RdB lo hi w' d v b :=
 ⟨fun W2 h2 => h.rd W2 (fun q hq => (h2 q hq).trans (hk q hq)), h.rng, Nat.le_trans h.top hs, h.le⟩
theorem RdB.past {lo hi : Nat} {w w' : World} {d : Dat} {v : Value} {b : List Nat} (h : RdB lo hi w d v b) (hb : Below w.heap.size w w') : RdB lo hi w' d v b := h.keep (fun q hq => hb.block q (Nat.lt_of_lt_of_le (h.rng q hq).2 h.top)) hb.size
theorem RdB.touch {lo hi : Nat} {w w' : World} {d : Dat} {v : Value} {b : List Nat} {T : Nat → Prop} (h : RdB lo hi w d v b) (ht : Touch T w w') (hn : ∀ x ∈ b, ¬ T x) : RdB lo hi w' d v b := h.keep (fun q hq => ht.block q (hn q hq)) (Nat.le_of_eq ht.size.symm)
theorem RdB.apart {lo hi lo' hi' : Nat} {w w' : World} {d d' : Dat} {v v' : Value} {b b' : List Nat} {w0 : World} (h : RdB lo hi w d v b) (h' : OwB lo' hi' w0 d' v' b') (ht : Touch (fun x => x ∈ b') w w') (hd : hi ≤ lo' ∨ hi' ≤ lo) : RdB lo hi w' d v b :=
 h.touch ht (fun x hx hx' => by have h1 := h.rng x hx; have h2 := h'.rng x hx'; omega)
section
variable {w0 W W' : World} {L L' : List It} {x y : It}
end
theorem specRingOk_d (v : Value) (x : Ri) (w : World) (h : RdC w w.heap.size (datRi x) v) (hs : SmRi x) : Calls Tryz.prog 24 #[v] w (Tells (ringB x) w) := by
 have HR := Lib.hid h
 obtain ⟨A3, c3, rfl, r3⟩ := aggRi h
 have R3 := Lib.hid r3
 have hl := hs.list.len
 clear h r3
 have HM := Lib.hid (Ms.start w)
 replace HM := Lib.hid (HM.out.new #[.int .i64 x.cap, .int .i64 x.next, .bool x.out, .slice A3 x.list.length c3] 32)
 go_enter Tryz.func24, Tryz.ntmps24
 go_wp2_with fail
 obtain ⟨W1, hW, hm⟩ := HM.out.name
 rw [← hW]
 replace HM := Lib.hid hm
 clear hm hW
 go_loopw [8] (fun i wr => ∃ j : Nat, j ≤ x.list.length ∧ i = .int .i64 (j : Int) ∧ (x.list.take j).all entryB = true ∧ Ms w [.bx w.heap.size (.cells #[.int .i64 x.cap, .int .i64 x.next, .bool x.out, .slice A3 x.list.length c3] 32 (0, 0))] wr) (fun i _ => x.list.length - (intOf i).toNat)
 case atStart => exact ⟨0, Nat.zero_le _, rfl, by simp, HM.out⟩
 case round =>
  obtain ⟨j, hj, rfl, hi, hm⟩ := hrel
  clear HM
  have HM := Lib.hid hm
  have HI := Lib.hid hi
  clear hm hi
  by_cases hlt : j < x.list.length
  ·obtain ⟨b, off, e, A5, c5, rfl, hbb, hp, y0, y1, y2, q2⟩ := atEns R3.out hlt
   have x0 := (HM.out.bl.cell (p := ⟨b, off + j * 3, none⟩) hbb).trans y0
   have x1 := (HM.out.bl.cell (p := ⟨b, off + j * 3 + 1, none⟩) hbb).trans y1
   have x2 := (HM.out.bl.cell (p := ⟨b, off + j * 3 + 2, none⟩) hbb).trans y2
   clear y0 y1 y2
   have hse := hs.list.at_ (List.mem_of_getElem? hp)
   have HT := Lib.hid (show (x.list.take (j + 1)).all entryB = entryB e by rw [List.take_add_one, hp, List.all_append, HI.out]; simp)
   have HF := Lib.hid (show entryB e = false → x.list.all entryB = false from fun e1 => Bool.eq_false_iff.2 (fun e2 => by rw [List.all_eq_true.1 e2 e (List.mem_of_getElem? hp)] at e1; cases e1))
   clear hp
   replace HM := Lib.hid (HM.out.new #[.int .i64 e.client, .int .i64 e.seq, .slice A5 e.o.length c5] 37)
   go_wp2_with fail
   obtain ⟨W2, hW, hm⟩ := HM.out.name
   rw [← hW]
   replace HM := Lib.hid hm
   clear hm hW
   refine (specEntryOk_d _ e _ (rdEn e (HM.out.arg q2)) hse).mono ?_
   rintro e' W3 ⟨rfl, b'⟩
   replace HM := Lib.hid (HM.out.past b')
   clear b'
   clear x0 x1 x2 hse
   cases h1 : entryB e
   ·go_wp2
    go_ret
    exact ⟨ret_b (by unfold ringB; rw [HF.out h1]; rfl), HM.out.bl⟩
   go_wp2
   go_roundw
   case rel => exact ⟨j + 1, by omega, by go_num, by rw [HT.out, h1], HM.out.pick (ks := [1]) (by decide) rfl⟩
   case measure => simp [intOf]; omega
  ·obtain rfl : j = x.list.length := by omega
   have HI2 := Lib.hid (show x.list.all entryB = true by have := HI.out; rwa [List.take_length] at this)
   clear HI
   obtain ⟨kx0, kx1, kx2, kx3⟩ := HM.out.c4 0 rfl
   go_wp2_with fail
   refine (in_any _ _ _ _).mono ?_
   rintro e w1 ⟨rfl, rfl⟩
   cases h1 : inB x.cap 1 6
   ·go_wp2
    go_ret
    exact ⟨ret_b (by unfold ringB; rw [HI2.out, h1]; rfl), HM.out.bl⟩
   go_wp2_with fail
   refine (in_any _ _ _ _).mono ?_
   rintro e w1 ⟨rfl, rfl⟩
   cases h2 : inB x.next 1 1000000000
   ·go_wp2
    go_ret
    exact ⟨ret_b (by unfold ringB; rw [HI2.out, h1, h2]; rfl), HM.out.bl⟩
   by_cases h3 : (x.list.length : Int) ≤ x.cap
   rotate_left
   ·have g3 : decide ((x.list.length : Int) ≤ x.cap) = false := decide_eq_false h3
    go_wp2
    go_ret
    exact ⟨ret_b (by unfold ringB; rw [HI2.out, h1, h2, g3]; rfl), HM.out.bl⟩
   have g3 : decide ((x.list.length : Int) ≤ x.cap) = true := decide_eq_true h3
   cases h4 : x.out
   ·rw [h4] at kx2
    go_wp2
    go_ret
    exact ⟨ret_b (by unfold ringB; rw [HI2.out, h1, h2, g3, h4]; rfl), HM.out.bl⟩
   rw [h4] at kx2
   have HQ := Lib.hid (show ringB x = decide ((x.list.length : Int) = 0) by unfold ringB; rw [HI2.out, h1, h2, g3, h4]; rfl)
   by_cases h5 : x.list.length = 0
   ·have g5 : ((x.list.length : Int) == 0) = true := by simp [h5]
    have HQ2 := Lib.hid (show ringB x = true by rw [HQ.out]; simp [h5])
    clear h5
    go_wp2
    go_ret
    exact ⟨ret_b HQ2.out.symm, HM.out.bl⟩
   have g5 : ((x.list.length : Int) == 0) = false := by rw [beq_eq_false_iff_ne]; omega
   have HQ2 := Lib.hid (show ringB x = false by rw [HQ.out]; exact decide_eq_false (by omega))
   clear h5
   go_wp2
   go_ret
   exact ⟨ret_b HQ2.out.symm, HM.out.bl⟩
theorem specCopyR_d (v : Value) (x : Ri) (w : World) (h : RdC w w.heap.size (datRi x) v) (hs : SmRi x) : Calls Tryz.prog 23 #[v] w (OwnPost (datRi x) w) := by
 have HR := Lib.hid h
 obtain ⟨A3, c3, rfl, r3⟩ := aggRi h
 have R3 := Lib.hid r3
 have hl := hs.list.len
 clear h r3
 have HM := Lib.hid (Ms.start w)
 replace HM := Lib.hid (HM.out.new #[.int .i64 x.cap, .int .i64 x.next, .bool x.out, .slice A3 x.list.length c3] 32)
 have hm := HM.out.new #[.int .i64 0, .int .i64 0, .bool false, .slice none 0 0] 32
 simp only [World.size_alloc] at hm
 replace HM := Lib.hid hm
 clear hm
 go_enter Tryz.func23, Tryz.ntmps23
 go_wp2
 obtain ⟨W1, hW, hm⟩ := HM.out.name
 rw [← hW]
 replace HM := Lib.hid hm
 clear hm hW
 replace HM := Lib.hid (HM.out.drew)
 refine wp_region_held_drew (S := fun W => Ms w [.bx w.heap.size (.cells #[.int .i64 x.cap, .int .i64 x.next, .bool x.out, .slice A3 x.list.length c3] 32 (0, 0))] W) (by kernel_rfl) (HM.out.pick (ks := [1]) (by decide) rfl) (fun hS => ?_)
 generalize W1.drew = W2 at HM hS  ⊢
 refine tk (v := ?_) 0 3 rfl (fun w' hS' => ?_) hS ?_
 rotate_left
 ·go_simp; all_goals (with_reducible rfl)
 try simp only [Act.put, pa, pb, pc]
 refine tk (v := ?_) 1 4 rfl (fun w' hS' => ?_) hS ?_
 rotate_left
 ·(try dsimp only at hS'); obtain ⟨q0, q1, q2, q3⟩ := hS'.c4 0 rfl; go_simp; all_goals (with_reducible rfl)
 try simp only [Act.put, pa, pb, pc]
 refine tk (v := ?_) 2 5 rfl (fun w' hS' => ?_) hS ?_
 rotate_left
 ·go_simp; all_goals (with_reducible rfl)
 try simp only [Act.put, pa, pb, pc]
 refine tk (v := ?_) 3 6 rfl (fun w' hS' => ?_) hS ?_
 rotate_left
 ·(try dsimp only at hS'); obtain ⟨q0, q1, q2, q3⟩ := hS'.c4 0 rfl; go_simp; all_goals (with_reducible rfl)
 try simp only [Act.put, pa, pb, pc]
 refine tk (v := ?_) 4 7 rfl (fun w' hS' => ?_) hS ?_
 rotate_left
 ·go_simp; all_goals (with_reducible rfl)
 try simp only [Act.put, pa, pb, pc]
 refine tk (v := ?_) 5 8 rfl (fun w' hS' => ?_) hS ?_
 rotate_left
 ·(try dsimp only at hS'); obtain ⟨q0, q1, q2, q3⟩ := hS'.c4 0 rfl; go_simp; all_goals (with_reducible rfl)
 try simp only [Act.put, pa, pb, pc]
 refine tk (v := ?_) 6 9 rfl (fun w' hS' => ?_) hS ?_
 rotate_left
 ·go_simp; all_goals (with_reducible rfl)
 try simp only [Act.put, pa, pb, pc]
 refine tk (v := ?_) 7 10 rfl (fun w' hS' => ?_) hS ?_
 rotate_left
 ·(try dsimp only at hS'); obtain ⟨q0, q1, q2, q3⟩ := hS'.c4 0 rfl; go_simp; all_goals (with_reducible rfl)
 try simp only [Act.put, pa, pb, pc]
 refine r1 8 (some 11) rfl (fun K hK => ?_)
 go_simp
 refine (specEntriesC_d _ x.list _ (HM.out.arg R3.out) hs.list).mono ?_
 rintro e' W3 ⟨v', rfl, o', b'⟩
 obtain ⟨Al, cl, rfl⟩ := sliceEns o'.read
 obtain ⟨bl, hm⟩ := HM.out.got o' b'
 clear o' b'
 replace HM := Lib.hid hm
 clear hm
 clear hS
 refine hK.out _ _ (HM.out.pick (ks := [2]) (by decide) rfl) (fun hS => ?_)
 clear hK K
 try simp only [Act.put, pa, pb, pc]
 refine tk (v := ?_) 9 12 rfl (fun w' hS' => ?_) hS ?_
 rotate_left
 ·go_simp; all_goals (with_reducible rfl)
 try simp only [Act.put, pa, pb, pc]
 refine r1 10 none rfl (fun K hK => ?_)
 obtain ⟨kr0, kr1, kr2, kr3⟩ := HM.out.c4 1 rfl
 obtain ⟨fr0, fr1, fr2, fr3⟩ := HM.out.f4 1 rfl
 go_simp
 clear hS kr0 kr1 kr2 kr3 fr0 fr1 fr2 fr3
 have hm := HM.out.pk [1, 0, 2] (by decide) (by simp)
 simp only [low.pk, low.gz, low.gs] at hm
 replace HM := Lib.hid hm
 clear hm
 have hm := HM.out.putRow (ys := [.int .i64 x.cap, .int .i64 x.next, .bool x.out, .slice Al x.list.length cl]) rfl
 simp only [low.putRow, Nat.zero_add, Nat.reduceAdd] at hm
 replace HM := Lib.hid hm
 clear hm
 obtain ⟨W4, hW, hm⟩ := HM.out.name
 rw [← hW]
 replace HM := Lib.hid hm
 clear hm hW
 refine hK.out _ _ (HM.out.pick (ks := [2]) (by decide) rfl) (fun hS => ?_)
 clear hK K
 try simp only [Act.put]
 refine wpAnyH_done (by kernel_rfl) ?_ _
 clear hS
 go_wp2
 obtain ⟨kr0, kr1, kr2, kr3⟩ := HM.out.c4 0 rfl
 have hm := HM.out.pk [1, 0, 2] (by decide) (by simp)
 simp only [low.pk, low.gz, low.gs] at hm
 replace HM := Lib.hid hm
 clear hm
 exact bodyPost_ret (v := .agg #[.int .i64 x.cap, .int .i64 x.next, .bool x.out, .slice Al x.list.length cl]) (by simp [results, Tryz.results23, go_sem, kr0, kr1, kr2, kr3]) rfl (show Ms w (.dt (datRi x) (.agg #[.int .i64 x.cap, .int .i64 x.next, .bool x.out, .slice Al x.list.length cl]) _ :: _) _ from ((HM.out.pk0.pkO.pkF rfl).pkF rfl).pkF rfl).post
theorem ringPush_no {x : Ri} {e : En} (h : ringB x = false ∨ entryB e = false ∨ x.out = true) : ringPushT x e = x := by
 unfold ringPushT
 rw [if_neg]
 rintro ⟨h1, h2, h3⟩
 rcases h with h | h | h
 ·rw [h] at h1; cases h1
 ·rw [h] at h2; cases h2
 ·rw [h] at h3; cases h3
theorem ringPush_full {x : Ri} {e : En} (h1 : ringB x = true) (h2 : entryB e = true) (h3 : x.out = false) (h4 : (x.list.length : Int) = x.cap) : ringPushT x e = ⟨x.cap, x.next, true, []⟩ := by
 unfold ringPushT
 rw [if_pos ⟨h1, h2, h3⟩, if_pos h4]
theorem ringPush_room {x : Ri} {e : En} (h1 : ringB x = true) (h2 : entryB e = true) (h3 : x.out = false) (h4 : ¬ (x.list.length : Int) = x.cap) : ringPushT x e = ⟨x.cap, x.next, x.out, x.list ++ [e]⟩ := by
 unfold ringPushT
 rw [if_pos ⟨h1, h2, h3⟩, if_neg h4]
theorem Ms.unRi {w0 W : World} {L : List It} {x : Ri} {v : Value} {b : List Nat} (h : Ms w0 (.dt (datRi x) (.agg #[.int .i64 x.cap, .int .i64 x.next, .bool x.out, v]) b :: L) W) : ∃ c, Ms w0 (.dt (encEns x.list) v c :: L) W := by
 obtain ⟨d1, d2, h1⟩ := (show Ms w0 (.dt (.agg (encRi x)) (.agg ([.int .i64 x.cap, .int .i64 x.next, .bool x.out, v] : List Value).toArray) b :: L) W from h).un
 obtain ⟨d3, d4, h2⟩ := h1.tail.un
 obtain ⟨d5, d6, h3⟩ := h2.tail.un
 obtain ⟨d7, d8, h4⟩ := h3.tail.un
 exact ⟨d7, (h4.perm (.swap _ _ _)).tail⟩
theorem Ms.pkRi {w0 W : World} {L : List It} {cap next : Int} {out : Bool} {l : List En} {v : Value} {b : List Nat} (h : Ms w0 (.dt (encEns l) v b :: L) W) : Ms w0 (.dt (datRi ⟨cap, next, out, l⟩) (.agg #[.int .i64 cap, .int .i64 next, .bool out, v]) (b ++ []) :: L) W := ((h.pk0.pkO.pkF rfl).pkF rfl).pkF rfl
theorem specRingPush_d (v v' : Value) (x : Ri) (e : En) (w : World) (h : RdC w w.heap.size (datRi x) v) (h' : RdC w w.heap.size (datEn e) v') (hs : SmRi x) (hs' : SmEn e) : Calls Tryz.prog 7 #[v, v'] w (OwnPost (datRi (ringPushT x e)) w) := by
 have HR := Lib.hid h
 have HE := Lib.hid h'
 obtain ⟨A3, c3, rfl, r3⟩ := aggRi h
 obtain ⟨A2, c2, rfl, r2⟩ := aggEn h'
 have R3 := Lib.hid r3
 have hl := hs.list.len
 clear h h' r3 r2
 have HM := Lib.hid (Ms.start w)
 replace HM := Lib.hid (HM.out.new #[.int .i64 x.cap, .int .i64 x.next, .bool x.out, .slice A3 x.list.length c3] 32)
 have hm := HM.out.new #[.int .i64 e.client, .int .i64 e.seq, .slice A2 e.o.length c2] 37
 simp only [World.size_alloc] at hm
 replace HM := Lib.hid hm
 clear hm
 have hm := HM.out.new #[.int .i64 0, .int .i64 0, .bool false, .slice none 0 0] 32
 simp only [World.size_alloc] at hm
 replace HM := Lib.hid hm
 clear hm
 go_enter Tryz.func7, Tryz.ntmps7
 go_wp2_with fail
 obtain ⟨W1, hW, hm⟩ := HM.out.name
 rw [← hW]
 replace HM := Lib.hid hm
 clear hm hW
 refine (specCopyR_d _ x _ (HM.out.arg HR.out) hs).mono ?_
 rintro e' W2 ⟨v', rfl, o', b'⟩
 obtain ⟨Al, cl, rfl, -⟩ := aggRi o'.read
 obtain ⟨bl, hm⟩ := HM.out.got o' b'
 clear o' b'
 replace HM := Lib.hid hm
 clear hm
 replace HM := Lib.hid (HM.out.new #[.int .i64 x.cap, .int .i64 x.next, .bool x.out, .slice Al x.list.length cl] 32)
 obtain ⟨kx0, kx1, kx2, kx3⟩ := HM.out.c4 4 rfl
 go_wp2_with fail
 clear kx0 kx1 kx2 kx3
 obtain ⟨W3, hW, hm⟩ := HM.out.name
 rw [← hW]
 replace HM := Lib.hid hm
 clear hm hW
 refine (specRingOk_d _ x _ (HM.out.arg HR.out) hs).mono ?_
 rintro e' W4 ⟨rfl, b'⟩
 replace HM := Lib.hid (HM.out.past b')
 clear b'
 cases hb : ringB x
 ·obtain ⟨ko0, ko1, ko2, ko3⟩ := HM.out.c4 0 rfl
  obtain ⟨kr0, kr1, kr2, kr3⟩ := HM.out.c4 2 rfl
  obtain ⟨fr0, fr1, fr2, fr3⟩ := HM.out.f4 2 rfl
  go_wp2
  clear ko0 ko1 ko2 ko3 kr0 kr1 kr2 kr3 fr0 fr1 fr2 fr3
  have hm := HM.out.pk [2, 0, 1, 3, 4] (by decide) (by simp)
  simp only [low.pk, low.gz, low.gs] at hm
  replace HM := Lib.hid hm
  clear hm
  have hm := HM.out.putRow (ys := [.int .i64 x.cap, .int .i64 x.next, .bool x.out, .slice Al x.list.length cl]) rfl
  simp only [low.putRow, Nat.zero_add, Nat.reduceAdd] at hm
  replace HM := Lib.hid hm
  clear hm
  obtain ⟨W5, hW, hm⟩ := HM.out.name
  rw [← hW]
  replace HM := Lib.hid hm
  clear hm hW
  obtain ⟨kr0, kr1, kr2, kr3⟩ := HM.out.c4 0 rfl
  have hm := HM.out.pk [2, 0, 1, 3, 4] (by decide) (by simp)
  simp only [low.pk, low.gz, low.gs] at hm
  replace HM := Lib.hid hm
  clear hm
  rw [ringPush_no (.inl hb)]
  exact bodyPost_ret (v := .agg #[.int .i64 x.cap, .int .i64 x.next, .bool x.out, .slice Al x.list.length cl]) (by simp [results, Tryz.results7, go_sem, kr0, kr1, kr2, kr3]) rfl HM.out.post
 obtain ⟨ke0, ke1, ke2⟩ := HM.out.c3 3 rfl
 go_wp2_with fail
 clear ke0 ke1 ke2
 refine (specEntryOk_d _ e _ (HM.out.arg HE.out) hs').mono ?_
 rintro e' W6 ⟨rfl, b'⟩
 replace HM := Lib.hid (HM.out.past b')
 clear b'
 cases he : entryB e
 ·obtain ⟨ko0, ko1, ko2, ko3⟩ := HM.out.c4 0 rfl
  obtain ⟨kr0, kr1, kr2, kr3⟩ := HM.out.c4 2 rfl
  obtain ⟨fr0, fr1, fr2, fr3⟩ := HM.out.f4 2 rfl
  go_wp2
  clear ko0 ko1 ko2 ko3 kr0 kr1 kr2 kr3 fr0 fr1 fr2 fr3
  have hm := HM.out.pk [2, 0, 1, 3, 4] (by decide) (by simp)
  simp only [low.pk, low.gz, low.gs] at hm
  replace HM := Lib.hid hm
  clear hm
  have hm := HM.out.putRow (ys := [.int .i64 x.cap, .int .i64 x.next, .bool x.out, .slice Al x.list.length cl]) rfl
  simp only [low.putRow, Nat.zero_add, Nat.reduceAdd] at hm
  replace HM := Lib.hid hm
  clear hm
  obtain ⟨W7, hW, hm⟩ := HM.out.name
  rw [← hW]
  replace HM := Lib.hid hm
  clear hm hW
  obtain ⟨kr0, kr1, kr2, kr3⟩ := HM.out.c4 0 rfl
  have hm := HM.out.pk [2, 0, 1, 3, 4] (by decide) (by simp)
  simp only [low.pk, low.gz, low.gs] at hm
  replace HM := Lib.hid hm
  clear hm
  rw [ringPush_no (.inr (.inl he))]
  exact bodyPost_ret (v := .agg #[.int .i64 x.cap, .int .i64 x.next, .bool x.out, .slice Al x.list.length cl]) (by simp [results, Tryz.results7, go_sem, kr0, kr1, kr2, kr3]) rfl HM.out.post
 obtain ⟨kx0, kx1, kx2, kx3⟩ := HM.out.c4 4 rfl
 rcases (show x.out = true ∨ x.out = false by cases x.out <;> simp) with hO | hO
 ·rw [hO] at kx2
  replace hO := Lib.hid hO
  obtain ⟨ko0, ko1, ko2, ko3⟩ := HM.out.c4 0 rfl
  obtain ⟨kr0, kr1, kr2, kr3⟩ := HM.out.c4 2 rfl
  obtain ⟨fr0, fr1, fr2, fr3⟩ := HM.out.f4 2 rfl
  go_wp2
  clear ko0 ko1 ko2 ko3 kr0 kr1 kr2 kr3 fr0 fr1 fr2 fr3
  have hm := HM.out.pk [2, 0, 1, 3, 4] (by decide) (by simp)
  simp only [low.pk, low.gz, low.gs] at hm
  replace HM := Lib.hid hm
  clear hm
  have hm := HM.out.putRow (ys := [.int .i64 x.cap, .int .i64 x.next, .bool x.out, .slice Al x.list.length cl]) rfl
  simp only [low.putRow, Nat.zero_add, Nat.reduceAdd] at hm
  replace HM := Lib.hid hm
  clear hm
  obtain ⟨W8, hW, hm⟩ := HM.out.name
  rw [← hW]
  replace HM := Lib.hid hm
  clear hm hW
  obtain ⟨kr0, kr1, kr2, kr3⟩ := HM.out.c4 0 rfl
  have hm := HM.out.pk [2, 0, 1, 3, 4] (by decide) (by simp)
  simp only [low.pk, low.gz, low.gs] at hm
  replace HM := Lib.hid hm
  clear hm
  rw [ringPush_no (.inr (.inr hO.out))]
  exact bodyPost_ret (v := .agg #[.int .i64 x.cap, .int .i64 x.next, .bool x.out, .slice Al x.list.length cl]) (by simp [results, Tryz.results7, go_sem, kr0, kr1, kr2, kr3]) rfl HM.out.post
 rw [hO] at kx2
 replace hO := Lib.hid hO
 by_cases h4 : (x.list.length : Int) = x.cap
 ·have g4 : ((x.list.length : Int) == x.cap) = true := by simp [h4]
  replace h4 := Lib.hid h4
  obtain ⟨ko0, ko1, ko2, ko3⟩ := HM.out.c4 0 rfl
  obtain ⟨fo0, fo1, fo2, fo3⟩ := HM.out.f4 0 rfl
  obtain ⟨kr0, kr1, kr2, kr3⟩ := HM.out.c4 2 rfl
  obtain ⟨fr0, fr1, fr2, fr3⟩ := HM.out.f4 2 rfl
  obtain ⟨nor, nro⟩ := HM.out.ne (i := 0) (j := 2) rfl rfl (by omega)
  go_wp2
  clear ko0 ko1 ko2 ko3 fo0 fo1 fo2 fo3 kr0 kr1 kr2 kr3 fr0 fr1 fr2 fr3 kx0 kx1 kx2 kx3
  have hm := HM.out.set (j := 2) (.bool true)
  simp only [pa, pb, pc] at hm
  replace HM := Lib.hid hm
  clear hm
  have hm := HM.out.set (j := 3) (.slice none 0 0)
  simp only [pa, pb, pc] at hm
  replace HM := Lib.hid hm
  clear hm
  have hm := HM.out.pk [2, 0, 1, 3, 4] (by decide) (by simp)
  simp only [low.pk, low.gz, low.gs] at hm
  replace HM := Lib.hid hm
  clear hm
  have hm := HM.out.putRow (ys := [.int .i64 x.cap, .int .i64 x.next, .bool true, .slice none 0 0]) rfl
  simp only [low.putRow, Nat.zero_add, Nat.reduceAdd] at hm
  replace HM := Lib.hid hm
  clear hm
  obtain ⟨W9, hW, hm⟩ := HM.out.name
  rw [← hW]
  replace HM := Lib.hid hm
  clear hm hW
  obtain ⟨kr0, kr1, kr2, kr3⟩ := HM.out.c4 0 rfl
  rw [ringPush_full hb he hO.out h4.out]
  exact bodyPost_ret (v := .agg #[.int .i64 x.cap, .int .i64 x.next, .bool true, .slice none 0 0]) (by simp [results, Tryz.results7, go_sem, kr0, kr1, kr2, kr3]) rfl (show Ms w (.dt (datRi ⟨x.cap, x.next, true, []⟩) (.agg #[.int .i64 x.cap, .int .i64 x.next, .bool true, .slice none 0 0]) _ :: _) _ from (HM.out.nil 37 3).pkRi).post
 have g4 : ((x.list.length : Int) == x.cap) = false := by rw [beq_eq_false_iff_ne]; exact h4
 replace h4 := Lib.hid h4
 go_wp2
 clear g4 kx0 kx1 kx2 kx3
 have hm := HM.out.pk [1, 4, 3, 2, 0] (by decide) (by simp)
 simp only [low.pk, low.gz, low.gs] at hm
 replace HM := Lib.hid hm
 clear hm
 obtain ⟨bl2, hm⟩ := HM.out.unRi
 replace HM := Lib.hid hm
 clear hm
 have HCAT := Lib.hid (show encEns (x.list ++ [e]) = .rows 37 3 (x.list.map encEn ++ [encEn e]) by unfold encEns; rw [List.map_append]; rfl)
 replace HM := Lib.hid (HM.out.drew)
 refine wp_region_held_drew (S := fun W => Ms w [.bx (w.heap.size + 1) (.cells #[.int .i64 e.client, .int .i64 e.seq, .slice A2 e.o.length c2] 37 (0, 0))] W) (by kernel_rfl) (HM.out.pick (ks := [2]) (by decide) rfl) (fun hS => ?_)
 generalize W6.drew = W10 at HM hS  ⊢
 refine tk (v := ?_) 0 30 rfl (fun w' hS' => ?_) hS ?_
 rotate_left
 ·go_simp; all_goals (with_reducible rfl)
 try simp only [Act.put, pa, pb, pc]
 refine tk (v := ?_) 2 32 rfl (fun w' hS' => ?_) hS ?_
 rotate_left
 ·(try dsimp only at hS'); obtain ⟨p0, p1, p2⟩ := hS'.c3 0 rfl; go_simp; all_goals (with_reducible rfl)
 try simp only [Act.put, pa, pb, pc]
 refine wpAnyH_ready (rs := [1, 3]) (by kernel_rfl) (by simp) ?_
 refine AllReadyH.cons (o := ⟨some 31, _, _, _, _, _⟩) rfl (fun K hK => ?_) ?_
 ·obtain ⟨ko0, ko1, ko2, ko3⟩ := HM.out.c4 4 rfl
  go_simp
  clear hS ko0 ko1 ko2 ko3
  refine hK.out _ _ (HM.out.pick (ks := [2]) (by decide) rfl) (fun hS => ?_)
  clear hK K
  try simp only [Act.put, pa, pb, pc]
  refine r1 3 (some 33) rfl (fun K hK => ?_)
  go_simp
  refine (specEntryC_d _ e _ (HM.out.arg HE.out) hs').mono ?_
  rintro e' W11 ⟨v', rfl, o', b'⟩
  obtain ⟨An, cn, rfl, -⟩ := aggEn o'.read
  obtain ⟨bn, hm⟩ := HM.out.got o' b'
  clear o' b'
  replace HM := Lib.hid hm
  clear hm
  clear hS
  refine hK.out _ _ (HM.out.pick (ks := [3]) (by decide) rfl) (fun hS => ?_)
  clear hK K
  try simp only [Act.put, pa, pb, pc]
  refine r1 4 (some 34) rfl (fun K hK => ?_)
  go_simp
  replace HM := Lib.hid (HM.out.new #[.int .i64 e.client, .int .i64 e.seq, .slice An e.o.length cn] 37)
  obtain ⟨W12, hW, hm⟩ := HM.out.name
  rw [← hW]
  replace HM := Lib.hid hm
  clear hm hW
  clear hS
  refine hK.out _ _ (HM.out.pick (ks := [4]) (by decide) rfl) (fun hS => ?_)
  clear hK K
  try simp only [Act.put, pa, pb, pc]
  refine r1 5 (some 35) rfl (fun K hK => ?_)
  have hm := HM.out.pk [2, 1, 0, 3, 4, 5, 6] (by decide) (by simp)
  simp only [low.pk, low.gz, low.gs] at hm
  replace HM := Lib.hid hm
  clear hm
  refine step_ms1 (by rfl) (.tmp 31) (.tmp 34) 30 (by rfl) eltEn (show Ms w (.dt (.rows 37 3 (x.list.map encEn)) _ _ :: .dt (.agg (encEn e)) (.agg ([.int .i64 e.client, .int .i64 e.seq, .slice An e.o.length cn] : List Value).toArray) _ :: _) _ from HM.out) (by rfl) (by simp; omega) (W11.heap.size) _ (by rfl) (HM.out.at_ (i := 2) rfl) (by rfl) (by simp [Value.oneCell']) ?_
  intro A7 c7 W13 b7 hm
  rw [← HCAT.out, show (x.list.map encEn).length = x.list.length from List.length_map _] at hm
  try rw [show (x.list.map encEn).length = x.list.length from List.length_map _]
  replace HM := Lib.hid hm
  clear hm
  clear hS
  refine hK.out _ _ (HM.out.pick (ks := [3]) (by decide) rfl) (fun hS => ?_)
  clear hK K
  try simp only [Act.put, pa, pb, pc]
  refine tk (v := ?_) 6 36 rfl (fun w' hS' => ?_) hS ?_
  rotate_left
  ·go_simp; all_goals (with_reducible rfl)
  try simp only [Act.put, pa, pb, pc]
  refine r1 7 none rfl (fun K hK => ?_)
  obtain ⟨ko0, ko1, ko2, ko3⟩ := HM.out.c4 5 rfl
  obtain ⟨fo0, fo1, fo2, fo3⟩ := HM.out.f4 5 rfl
  go_simp
  clear hS ko0 ko1 ko2 ko3 fo0 fo1 fo2 fo3
  have hm := HM.out.pk [5, 0, 1, 2, 3, 4] (by decide) (by simp)
  simp only [low.pk, low.gz, low.gs] at hm
  replace HM := Lib.hid hm
  clear hm
  have hm := HM.out.set (j := 3) (.slice A7 (x.list.length + 1) c7)
  simp only [pa, pb, pc] at hm
  replace HM := Lib.hid hm
  clear hm
  obtain ⟨W14, hW, hm⟩ := HM.out.name
  rw [← hW]
  replace HM := Lib.hid hm
  clear hm hW
  refine hK.out _ _ (HM.out.pick (ks := [4]) (by decide) rfl) (fun hS => ?_)
  clear hK K
  try simp only [Act.put]
  refine wpAnyH_done (by kernel_rfl) ?_ _
  clear hS
  obtain ⟨ko0, ko1, ko2, ko3⟩ := HM.out.c4 0 rfl
  obtain ⟨kr0, kr1, kr2, kr3⟩ := HM.out.c4 5 rfl
  obtain ⟨fr0, fr1, fr2, fr3⟩ := HM.out.f4 5 rfl
  go_wp2
  clear ko0 ko1 ko2 ko3 kr0 kr1 kr2 kr3 fr0 fr1 fr2 fr3
  have hm := HM.out.pk [5, 0, 1, 2, 3, 4] (by decide) (by simp)
  simp only [low.pk, low.gz, low.gs] at hm
  replace HM := Lib.hid hm
  clear hm
  have hm := HM.out.putRow (ys := [.int .i64 x.cap, .int .i64 x.next, .bool x.out, .slice A7 (x.list.length + 1) c7]) rfl
  simp only [low.putRow, Nat.zero_add, Nat.reduceAdd] at hm
  replace HM := Lib.hid hm
  clear hm
  obtain ⟨W15, hW, hm⟩ := HM.out.name
  rw [← hW]
  replace HM := Lib.hid hm
  clear hm hW
  obtain ⟨kr0, kr1, kr2, kr3⟩ := HM.out.c4 0 rfl
  have hm := HM.out.pk [2, 0, 1, 3, 4, 5] (by decide) (by simp)
  simp only [low.pk, low.gz, low.gs] at hm
  replace HM := Lib.hid hm
  clear hm
  rw [ringPush_room hb he hO.out h4.out]
  exact bodyPost_ret (v := .agg #[.int .i64 x.cap, .int .i64 x.next, .bool x.out, .slice A7 (x.list.length + 1) c7]) (by simp [results, Tryz.results7, go_sem, kr0, kr1, kr2, kr3]) rfl (show Ms w (.dt (datRi ⟨x.cap, x.next, x.out, x.list ++ [e]⟩) (.agg #[.int .i64 x.cap, .int .i64 x.next, .bool x.out, .slice A7 (x.list.length + 1) c7]) _ :: _) _ from HM.out.pkRi).post
 refine AllReadyH.cons (o := ⟨some 33, _, _, _, _, _⟩) rfl (fun K hK => ?_) AllReadyH.nil
 go_simp
 refine (specEntryC_d _ e _ (HM.out.arg HE.out) hs').mono ?_
 rintro e' W16 ⟨v', rfl, o', b'⟩
 obtain ⟨An, cn, rfl, -⟩ := aggEn o'.read
 obtain ⟨bn, hm⟩ := HM.out.got o' b'
 clear o' b'
 replace HM := Lib.hid hm
 clear hm
 clear hS
 refine hK.out _ _ (HM.out.pick (ks := [3]) (by decide) rfl) (fun hS => ?_)
 clear hK K
 try simp only [Act.put, pa, pb, pc]
 refine wpAnyH_ready (rs := [1, 4]) (by kernel_rfl) (by simp) ?_
 refine AllReadyH.cons (o := ⟨some 31, _, _, _, _, _⟩) rfl (fun K hK => ?_) ?_
 ·obtain ⟨ko0, ko1, ko2, ko3⟩ := HM.out.c4 5 rfl
  go_simp
  clear hS ko0 ko1 ko2 ko3
  refine hK.out _ _ (HM.out.pick (ks := [3]) (by decide) rfl) (fun hS => ?_)
  clear hK K
  try simp only [Act.put, pa, pb, pc]
  refine r1 4 (some 34) rfl (fun K hK => ?_)
  go_simp
  replace HM := Lib.hid (HM.out.new #[.int .i64 e.client, .int .i64 e.seq, .slice An e.o.length cn] 37)
  obtain ⟨W17, hW, hm⟩ := HM.out.name
  rw [← hW]
  replace HM := Lib.hid hm
  clear hm hW
  clear hS
  refine hK.out _ _ (HM.out.pick (ks := [4]) (by decide) rfl) (fun hS => ?_)
  clear hK K
  try simp only [Act.put, pa, pb, pc]
  refine r1 5 (some 35) rfl (fun K hK => ?_)
  have hm := HM.out.pk [2, 1, 0, 3, 4, 5, 6] (by decide) (by simp)
  simp only [low.pk, low.gz, low.gs] at hm
  replace HM := Lib.hid hm
  clear hm
  refine step_ms1 (by rfl) (.tmp 31) (.tmp 34) 30 (by rfl) eltEn (show Ms w (.dt (.rows 37 3 (x.list.map encEn)) _ _ :: .dt (.agg (encEn e)) (.agg ([.int .i64 e.client, .int .i64 e.seq, .slice An e.o.length cn] : List Value).toArray) _ :: _) _ from HM.out) (by rfl) (by simp; omega) (W16.heap.size) _ (by rfl) (HM.out.at_ (i := 2) rfl) (by rfl) (by simp [Value.oneCell']) ?_
  intro A7 c7 W18 b7 hm
  rw [← HCAT.out, show (x.list.map encEn).length = x.list.length from List.length_map _] at hm
  try rw [show (x.list.map encEn).length = x.list.length from List.length_map _]
  replace HM := Lib.hid hm
  clear hm
  clear hS
  refine hK.out _ _ (HM.out.pick (ks := [3]) (by decide) rfl) (fun hS => ?_)
  clear hK K
  try simp only [Act.put, pa, pb, pc]
  refine tk (v := ?_) 6 36 rfl (fun w' hS' => ?_) hS ?_
  rotate_left
  ·go_simp; all_goals (with_reducible rfl)
  try simp only [Act.put, pa, pb, pc]
  refine r1 7 none rfl (fun K hK => ?_)
  obtain ⟨ko0, ko1, ko2, ko3⟩ := HM.out.c4 5 rfl
  obtain ⟨fo0, fo1, fo2, fo3⟩ := HM.out.f4 5 rfl
  go_simp
  clear hS ko0 ko1 ko2 ko3 fo0 fo1 fo2 fo3
  have hm := HM.out.pk [5, 0, 1, 2, 3, 4] (by decide) (by simp)
  simp only [low.pk, low.gz, low.gs] at hm
  replace HM := Lib.hid hm
  clear hm
  have hm := HM.out.set (j := 3) (.slice A7 (x.list.length + 1) c7)
  simp only [pa, pb, pc] at hm
  replace HM := Lib.hid hm
  clear hm
  obtain ⟨W19, hW, hm⟩ := HM.out.name
  rw [← hW]
  replace HM := Lib.hid hm
  clear hm hW
  refine hK.out _ _ (HM.out.pick (ks := [4]) (by decide) rfl) (fun hS => ?_)
  clear hK K
  try simp only [Act.put]
  refine wpAnyH_done (by kernel_rfl) ?_ _
  clear hS
  obtain ⟨ko0, ko1, ko2, ko3⟩ := HM.out.c4 0 rfl
  obtain ⟨kr0, kr1, kr2, kr3⟩ := HM.out.c4 5 rfl
  obtain ⟨fr0, fr1, fr2, fr3⟩ := HM.out.f4 5 rfl
  go_wp2
  clear ko0 ko1 ko2 ko3 kr0 kr1 kr2 kr3 fr0 fr1 fr2 fr3
  have hm := HM.out.pk [5, 0, 1, 2, 3, 4] (by decide) (by simp)
  simp only [low.pk, low.gz, low.gs] at hm
  replace HM := Lib.hid hm
  clear hm
  have hm := HM.out.putRow (ys := [.int .i64 x.cap, .int .i64 x.next, .bool x.out, .slice A7 (x.list.length + 1) c7]) rfl
  simp only [low.putRow, Nat.zero_add, Nat.reduceAdd] at hm
  replace HM := Lib.hid hm
  clear hm
  obtain ⟨W20, hW, hm⟩ := HM.out.name
  rw [← hW]
  replace HM := Lib.hid hm
  clear hm hW
  obtain ⟨kr0, kr1, kr2, kr3⟩ := HM.out.c4 0 rfl
  have hm := HM.out.pk [2, 0, 1, 3, 4, 5] (by decide) (by simp)
  simp only [low.pk, low.gz, low.gs] at hm
  replace HM := Lib.hid hm
  clear hm
  rw [ringPush_room hb he hO.out h4.out]
  exact bodyPost_ret (v := .agg #[.int .i64 x.cap, .int .i64 x.next, .bool x.out, .slice A7 (x.list.length + 1) c7]) (by simp [results, Tryz.results7, go_sem, kr0, kr1, kr2, kr3]) rfl (show Ms w (.dt (datRi ⟨x.cap, x.next, x.out, x.list ++ [e]⟩) (.agg #[.int .i64 x.cap, .int .i64 x.next, .bool x.out, .slice A7 (x.list.length + 1) c7]) _ :: _) _ from HM.out.pkRi).post
 refine AllReadyH.cons (o := ⟨some 34, _, _, _, _, _⟩) rfl (fun K hK => ?_) AllReadyH.nil
 go_simp
 replace HM := Lib.hid (HM.out.new #[.int .i64 e.client, .int .i64 e.seq, .slice An e.o.length cn] 37)
 obtain ⟨W21, hW, hm⟩ := HM.out.name
 rw [← hW]
 replace HM := Lib.hid hm
 clear hm hW
 clear hS
 refine hK.out _ _ (HM.out.pick (ks := [4]) (by decide) rfl) (fun hS => ?_)
 clear hK K
 try simp only [Act.put, pa, pb, pc]
 refine r1 1 (some 31) rfl (fun K hK => ?_)
 obtain ⟨ko0, ko1, ko2, ko3⟩ := HM.out.c4 6 rfl
 go_simp
 clear hS ko0 ko1 ko2 ko3
 refine hK.out _ _ (HM.out.pick (ks := [4]) (by decide) rfl) (fun hS => ?_)
 clear hK K
 try simp only [Act.put, pa, pb, pc]
 refine r1 5 (some 35) rfl (fun K hK => ?_)
 have hm := HM.out.pk [2, 1, 0, 3, 4, 5, 6] (by decide) (by simp)
 simp only [low.pk, low.gz, low.gs] at hm
 replace HM := Lib.hid hm
 clear hm
 refine step_ms1 (by rfl) (.tmp 31) (.tmp 34) 30 (by rfl) eltEn (show Ms w (.dt (.rows 37 3 (x.list.map encEn)) _ _ :: .dt (.agg (encEn e)) (.agg ([.int .i64 e.client, .int .i64 e.seq, .slice An e.o.length cn] : List Value).toArray) _ :: _) _ from HM.out) (by rfl) (by simp; omega) (W16.heap.size) _ (by rfl) (HM.out.at_ (i := 2) rfl) (by rfl) (by simp [Value.oneCell']) ?_
 intro A7 c7 W22 b7 hm
 rw [← HCAT.out, show (x.list.map encEn).length = x.list.length from List.length_map _] at hm
 try rw [show (x.list.map encEn).length = x.list.length from List.length_map _]
 replace HM := Lib.hid hm
 clear hm
 clear hS
 refine hK.out _ _ (HM.out.pick (ks := [3]) (by decide) rfl) (fun hS => ?_)
 clear hK K
 try simp only [Act.put, pa, pb, pc]
 refine tk (v := ?_) 6 36 rfl (fun w' hS' => ?_) hS ?_
 rotate_left
 ·go_simp; all_goals (with_reducible rfl)
 try simp only [Act.put, pa, pb, pc]
 refine r1 7 none rfl (fun K hK => ?_)
 obtain ⟨ko0, ko1, ko2, ko3⟩ := HM.out.c4 5 rfl
 obtain ⟨fo0, fo1, fo2, fo3⟩ := HM.out.f4 5 rfl
 go_simp
 clear hS ko0 ko1 ko2 ko3 fo0 fo1 fo2 fo3
 have hm := HM.out.pk [5, 0, 1, 2, 3, 4] (by decide) (by simp)
 simp only [low.pk, low.gz, low.gs] at hm
 replace HM := Lib.hid hm
 clear hm
 have hm := HM.out.set (j := 3) (.slice A7 (x.list.length + 1) c7)
 simp only [pa, pb, pc] at hm
 replace HM := Lib.hid hm
 clear hm
 obtain ⟨W23, hW, hm⟩ := HM.out.name
 rw [← hW]
 replace HM := Lib.hid hm
 clear hm hW
 refine hK.out _ _ (HM.out.pick (ks := [4]) (by decide) rfl) (fun hS => ?_)
 clear hK K
 try simp only [Act.put]
 refine wpAnyH_done (by kernel_rfl) ?_ _
 clear hS
 obtain ⟨ko0, ko1, ko2, ko3⟩ := HM.out.c4 0 rfl
 obtain ⟨kr0, kr1, kr2, kr3⟩ := HM.out.c4 5 rfl
 obtain ⟨fr0, fr1, fr2, fr3⟩ := HM.out.f4 5 rfl
 go_wp2
 clear ko0 ko1 ko2 ko3 kr0 kr1 kr2 kr3 fr0 fr1 fr2 fr3
 have hm := HM.out.pk [5, 0, 1, 2, 3, 4] (by decide) (by simp)
 simp only [low.pk, low.gz, low.gs] at hm
 replace HM := Lib.hid hm
 clear hm
 have hm := HM.out.putRow (ys := [.int .i64 x.cap, .int .i64 x.next, .bool x.out, .slice A7 (x.list.length + 1) c7]) rfl
 simp only [low.putRow, Nat.zero_add, Nat.reduceAdd] at hm
 replace HM := Lib.hid hm
 clear hm
 obtain ⟨W24, hW, hm⟩ := HM.out.name
 rw [← hW]
 replace HM := Lib.hid hm
 clear hm hW
 obtain ⟨kr0, kr1, kr2, kr3⟩ := HM.out.c4 0 rfl
 have hm := HM.out.pk [2, 0, 1, 3, 4, 5] (by decide) (by simp)
 simp only [low.pk, low.gz, low.gs] at hm
 replace HM := Lib.hid hm
 clear hm
 rw [ringPush_room hb he hO.out h4.out]
 exact bodyPost_ret (v := .agg #[.int .i64 x.cap, .int .i64 x.next, .bool x.out, .slice A7 (x.list.length + 1) c7]) (by simp [results, Tryz.results7, go_sem, kr0, kr1, kr2, kr3]) rfl (show Ms w (.dt (datRi ⟨x.cap, x.next, x.out, x.list ++ [e]⟩) (.agg #[.int .i64 x.cap, .int .i64 x.next, .bool x.out, .slice A7 (x.list.length + 1) c7]) _ :: _) _ from HM.out.pkRi).post
def Raw (W : World) (g k : Nat) (raw : List Value) : Prop := ∃ cur T, W.heap[g]? = some (.cells cur T (0, 0)) ∧ ∀ t u, k ≤ t → raw[t]? = some u → cur[t]? = some u
theorem Raw.cell {W : World} {g k t : Nat} {raw : List Value} {u : Value} (h : Raw W g k raw) (hk : k ≤ t) (hu : raw[t]? = some u) : W.cell? ⟨g, t, none⟩ = some u := by
 obtain ⟨cur, T, hh, hc⟩ := h
 exact bxcell hh (hc t u hk hu)
theorem Raw.free {W : World} {g k t : Nat} {raw : List Value} (h : Raw W g k raw) : W.frozen? ⟨g, t, none⟩ = false := by
 obtain ⟨cur, T, hh, hc⟩ := h
 exact bxfree hh
theorem Raw.keep {W W' : World} {g k : Nat} {raw : List Value} (h : Raw W g k raw) (hk : W'.heap[g]? = W.heap[g]?) : Raw W' g k raw := by
 obtain ⟨cur, T, hh, hc⟩ := h
 exact ⟨cur, T, hk.trans hh, hc⟩
theorem Raw.lt {W : World} {g k : Nat} {raw : List Value} (h : Raw W g k raw) : g < W.heap.size := by
 obtain ⟨cur, T, hh, hc⟩ := h
 exact lt_of_some hh
theorem Raw.past {W W' : World} {g k : Nat} {raw : List Value} (h : Raw W g k raw) (hb : Below W.heap.size W W') : Raw W' g k raw := h.keep (hb.block g h.lt)
theorem Raw.set {W : World} {g k k' : Nat} {raw : List Value} (h : Raw W g k raw) (o : Nat) (u : Value) (h1 : k ≤ k') (h2 : o < k') : Raw (W.setCell ⟨g, o, none⟩ u) g k' raw := by
 obtain ⟨cur, T, hh, hc⟩ := h
 refine ⟨_, T, bxset (j := o) hh u, fun t v ht hv => ?_⟩
 rw [Array.getElem?_setIfInBounds_ne (by omega)]
 exact hc t v (by omega) hv
section
variable {w0 W : World} {L : List It}
theorem Ms.fill3 {g n cap : Nat} {e : TypeId} {ds : List (List Dat)} {d : Dat} {v : Value} {b c : List Nat} {x y : Int} {raw : List Value} (h : Ms w0 (.dt (.rows e 3 ds) (.slice (some ⟨g, 0, none⟩) n cap) b :: .dt d v c :: L) W) (hn : n = ds.length) (hcap : n < cap)
  (hr : Raw W g (n * 3) raw) (hx : raw[n * 3]? = some (.int .i64 x)) (hy : raw[n * 3 + 1]? = some (.int .i64 y)) :
  ∃ b', Ms w0 (.dt (.rows e 3 (ds ++ [[.int x, .int y, d]])) (.slice (some ⟨g, 0, none⟩) (n + 1) cap) b' :: L) (W.setCell ⟨g, n * 3 + 2, none⟩ v) := by
 subst hn
 have hd : OwC W d v c := h.at_ (i := 1) rfl
 have hrow : OwR W 3 [[.int x, .int y, d]] [.int .i64 x, .int .i64 y, v] c := OwR.one ⟨_, _, [], c, rfl, rfl, ⟨rfl, rfl⟩, _, _, [], c, rfl, rfl, ⟨rfl, rfl⟩, v, [], c, [], rfl, by simp, hd, rfl, rfl⟩ rfl
 obtain ⟨xs, hown, grow⟩ := Ms.grow (Y := [.dt d v c]) h hrow (h.ndAt (i := 1) (x := .dt d v c) rfl) (fun q hq => by simpa [It.bs] using hq)
 obtain ⟨hxs, hcase⟩ := hown
 rcases hcase with ⟨h0, _⟩ | ⟨g', cap', cur, hv, _, hh, hnc, hcm, hcs, htk⟩
 ·cases h0
 injection hv with hv1 _ hv3
 injection hv1 with hv1
 injection hv1 with hv1 _ _
 subst hv1 hv3
 obtain ⟨cur', T', hh', hc'⟩ := hr
 rw [hh] at hh'
 injection hh' with hh'
 injection hh' with e1 e2 _
 subst e1 e2
 have q0 := hc' _ _ (Nat.le_refl _) hx
 have q1 := hc' _ _ (by omega) hy
 have hb := Below.heap_setCell W ⟨g, ds.length * 3 + 2, none⟩ v
 refine grow g (ds.length + 1) cap _ ?_ ⟨rfl, rfl, rfl, by simp [World.setCell], fun k hk hne => Below.heap_setCell _ _ _ _ (fun e => hne (by rw [e]; rfl))⟩ (.inl rfl) (by simp only [World.setCell, Array.size_modify]; exact lt_of_some hh)
 refine ⟨by simp [hxs]; omega, .inr ⟨g, cap, cur.setIfInBounds (ds.length * 3 + 2) v, by simp, Nat.zero_le _, bxset hh v, by simp; omega, hcm, by simpa using hcs, ?_⟩⟩
 have hsz : ds.length * 3 + 3 ≤ cur.toList.length := by
  have e : cur.toList.length = cap * 3 := by rw [Array.length_toList]; exact hcs
  rw [e]
  have : (ds.length + 1) * 3 ≤ cap * 3 := Nat.mul_le_mul_right 3 hcap
  omega
 rw [Array.toList_setIfInBounds, List.length_append, List.length_singleton, Nat.add_mul, Nat.one_mul]
 have l0 : cur.toList[ds.length * 3]? = some (.int .i64 x) := by rw [Array.getElem?_toList]; exact q0
 have l1 : cur.toList[ds.length * 3 + 1]? = some (.int .i64 y) := by rw [Array.getElem?_toList]; exact q1
 apply List.ext_getElem?
 intro t
 rw [List.getElem?_take]
 by_cases ht : t < ds.length * 3
 ·rw [if_pos (by omega), List.getElem?_set_ne (by omega), List.getElem?_append_left (by rw [hxs]; exact ht), ← htk, List.getElem?_take, if_pos ht]
 ·rw [List.getElem?_append_right (by rw [hxs]; omega), hxs]
  by_cases h3 : t < ds.length * 3 + 3
  ·rw [if_pos h3]
   obtain ⟨k, rfl⟩ : ∃ k, t = ds.length * 3 + k := ⟨t - ds.length * 3, by omega⟩
   rw [Nat.add_sub_cancel_left]
   have hk : k = 0 ∨ k = 1 ∨ k = 2 := by omega
   rcases hk with rfl | rfl | rfl
   ·rw [List.getElem?_set_ne (by omega), Nat.add_zero, l0]
    rfl
   ·rw [List.getElem?_set_ne (by omega), l1]
    rfl
   ·rw [List.getElem?_set_self (by omega)]
    rfl
  ·rw [if_neg h3, List.getElem?_eq_none (by simp; omega)]
end
theorem RdL.vals {w : World} {B : Nat} {ad : Addr} : ∀ {r : List Dat} {o : Nat}, RdL w B ad o r → ∃ ys : List Value, ys.length = r.length ∧ RdV w B r ys ∧ ∀ j u, ys[j]? = some u → w.cell? (ad.add (o + j)) = some u
 | [], o, _ => ⟨[], rfl, rfl, fun j u h => by simp at h⟩
 | d :: r, o, h => by
  obtain ⟨⟨v, hv, hd⟩, h2⟩ := h
  obtain ⟨ys, h3, h4, h5⟩ := RdL.vals h2
  refine ⟨v :: ys, by simp [h3], ⟨v, ys, rfl, hd, h4⟩, fun j u hu => ?_⟩
  cases j with
  | zero => simp at hu; subst hu; exact hv
  | succ j =>
   have := h5 j u (by simpa using hu)
   rwa [show o + (j + 1) = o + 1 + j by omega]
theorem RdR.vals {w : World} {B sz : Nat} {ad : Addr} : ∀ {rs : List (List Dat)} {o : Nat}, (∀ r ∈ rs, r.length = sz) → RdR w B sz ad o rs → ∃ ys : List Value, ys.length = rs.length * sz ∧ (∀ i r, rs[i]? = some r → ∃ y, RdV w B r y ∧ y.length = sz ∧ ∀ k u, y[k]? = some u → ys[i * sz + k]? = some u) ∧ ∀ j u, ys[j]? = some u → w.cell? (ad.add (o + j)) = some u
 | [], o, _, _ => ⟨[], by simp, fun i r h => by simp at h, fun j u h => by simp at h⟩
 | r :: rs, o, hl, h => by
  obtain ⟨y, y1, y2, y3⟩ := RdL.vals h.1
  obtain ⟨ys, h3, h4, h5⟩ := RdR.vals (rs := rs) (fun q hq => hl q (by simp [hq])) h.2
  have hy : y.length = sz := by rw [y1]; exact hl r (by simp)
  refine ⟨y ++ ys, by rw [List.length_append, hy, h3, List.length_cons, Nat.add_mul]; omega, fun i q hq => ?_, fun j u hu => ?_⟩
  ·cases i with
   | zero =>
    simp at hq
    subst hq
    refine ⟨y, y2, hy, fun k u hu => ?_⟩
    rw [Nat.zero_mul, Nat.zero_add, List.getElem?_append_left (idx_lt hu)]
    exact hu
   | succ i =>
    obtain ⟨z, z1, z2, z3⟩ := h4 i q (by simpa using hq)
    refine ⟨z, z1, z2, fun k u hu => ?_⟩
    rw [List.getElem?_append_right (by rw [hy, Nat.add_mul]; omega), hy, show (i + 1) * sz + k - sz = i * sz + k by rw [Nat.add_mul]; omega]
    exact z3 k u hu
  ·by_cases hj : j < sz
   ·rw [List.getElem?_append_left (by omega)] at hu
    exact y3 j u hu
   ·rw [List.getElem?_append_right (by omega), hy] at hu
    have := h5 (j - sz) u hu
    rwa [show o + sz + (j - sz) = o + j by omega] at this
def Dat.one : Dat → Bool
 | .agg _ => false
 | _ => true
theorem RdC.oneCell {w : World} {B : Nat} {d : Dat} {v : Value} (h : RdC w B d v) (hd : d.one = true) : v.oneCell' = true := by
 cases d with
 | int n => have h : v = .int .i64 n := h; rw [h]; rfl
 | bool b => have h : v = .bool b := h; rw [h]; rfl
 | str s => have h : v = .string s := h; rw [h]; rfl
 | rows e sz ds => obtain ⟨A, c, rfl, _⟩ := h; rfl
 | agg ds => cases hd
theorem RdV.ones {w : World} {B : Nat} : ∀ {r : List Dat} {ys : List Value}, (∀ d ∈ r, d.one = true) → RdV w B r ys → ∀ u ∈ ys, u.oneCell' = true
 | [], ys, _, h, u, hu => by
  have h : ys = [] := h
  subst h
  simp at hu
 | d :: r, ys, hd, h, u, hu => by
  obtain ⟨x, xs, rfl, h1, h2⟩ := h
  rcases List.mem_cons.1 hu with rfl | hu
  ·exact h1.oneCell (hd d (by simp))
  ·exact RdV.ones (fun q hq => hd q (by simp [hq])) h2 u hu
theorem RdR.ones {w : World} {B sz : Nat} {ad : Addr} : ∀ {rs : List (List Dat)} {o : Nat}, (∀ r ∈ rs, r.length = sz ∧ ∀ d ∈ r, d.one = true) → RdR w B sz ad o rs → ∃ ys : List Value, ys.length = rs.length * sz ∧ (∀ i r, rs[i]? = some r → ∃ y, RdV w B r y ∧ y.length = sz ∧ ∀ k u, y[k]? = some u → ys[i * sz + k]? = some u) ∧ (∀ u ∈ ys, u.oneCell' = true) ∧ ∀ j u, ys[j]? = some u → w.cell? (ad.add (o + j)) = some u
 | [], o, _, _ => ⟨[], by simp, fun i r h => by simp at h, by simp, fun j u h => by simp at h⟩
 | r :: rs, o, hl, h => by
  obtain ⟨y, y1, y2, y3⟩ := RdL.vals h.1
  obtain ⟨ys, h3, h4, h5, h6⟩ := RdR.ones (rs := rs) (fun q hq => hl q (by simp [hq])) h.2
  have hy : y.length = sz := by rw [y1]; exact (hl r (by simp)).1
  refine ⟨y ++ ys, by rw [List.length_append, hy, h3, List.length_cons, Nat.add_mul]; omega, fun i q hq => ?_, fun u hu => ?_, fun j u hu => ?_⟩
  ·cases i with
   | zero =>
    simp at hq
    subst hq
    refine ⟨y, y2, hy, fun k u hu => ?_⟩
    rw [Nat.zero_mul, Nat.zero_add, List.getElem?_append_left (idx_lt hu)]
    exact hu
   | succ i =>
    obtain ⟨z, z1, z2, z3⟩ := h4 i q (by simpa using hq)
    refine ⟨z, z1, z2, fun k u hu => ?_⟩
    rw [List.getElem?_append_right (by rw [hy, Nat.add_mul]; omega), hy, show (i + 1) * sz + k - sz = i * sz + k by rw [Nat.add_mul]; omega]
    exact z3 k u hu
  ·rcases List.mem_append.1 hu with hu | hu
   ·exact RdV.ones (hl r (by simp)).2 y2 u hu
   ·exact h5 u hu
  ·by_cases hj : j < sz
   ·rw [List.getElem?_append_left (by omega)] at hu
    exact y3 j u hu
   ·rw [List.getElem?_append_right (by omega), hy] at hu
    have := h6 (j - sz) u hu
    rwa [show o + sz + (j - sz) = o + j by omega] at this
def Cells (w : World) (rs : List (List Dat)) (ys : List Value) : Prop := ∀ i r, rs[i]? = some r → ∃ y, RdV w w.heap.size r y ∧ y.length = 3 ∧ ∀ k u, y[k]? = some u → ys[i * 3 + k]? = some u
section
variable {w0 W : World} {L : List It}
theorem wpList_raw {ops : Array Oper} {rest : List Oper} {o : Oper} {a : Act} {Q : Exit → Act → World → Prop} (hgd : o.guard = none) (s x : Operand) (t : TypeId)
  (ho : o.op = .call { callee := .builtin .append, args := #[s, x], argTypes := #[t, t] }) {e : TypeId} {z : Value} {bytes : Nat} (he : Elt t e z 3 bytes) {rs : List (List Dat)} {g0 c1 : Nat} {b : List Nat}
  (h : Ms w0 (.dt (.rows e 3 []) (.slice (some ⟨g0, 0, none⟩) 0 c1) b :: L) W) (hs : a.eval s = .slice (some ⟨g0, 0, none⟩) 0 c1) (A : Option Addr) (m c0 : Nat) (hx : a.eval x = .slice A m c0) (hrd : RdC w0 w0.heap.size (.rows e 3 rs) (.slice A m c0)) (hone : ∀ r ∈ rs, r.length = 3 ∧ ∀ d ∈ r, d.one = true) (hlen : rs.length ≤ 2000000)
  (K : ∀ g cap W' b' ys, m ≤ cap → Ms w0 (.dt (.rows e 3 []) (.slice (some ⟨g, 0, none⟩) 0 cap) b' :: L) W' → Raw W' g 0 ys → Cells w0 rs ys → wpList Tryz.prog ops Q rest (a.put o.dst (.slice (some ⟨g, 0, none⟩) m cap)) W') : wpList Tryz.prog ops Q (o :: rest) a W := by
 obtain ⟨i, ht, hi, hz, hsize, hby, hzs, hsz, hbm⟩ := he
 obtain ⟨A', c', hv, hc, hrd⟩ := hrd
 injection hv with e1 e2 e3
 subst e1 e2 e3
 by_cases h0 : 0 < rs.length
 ·obtain ⟨ad, rfl, hbk, hsp, hrr⟩ := hrd h0
  obtain ⟨ys, k1, k2, k3, k4⟩ := RdR.ones hone hrr
  obtain ⟨xs, hown, grow⟩ := Ms.grow (Y := []) (rs := []) (news := []) (c := []) h ⟨rfl, rfl⟩ (by simp) (by simp)
  have hx0 : xs = [] := List.eq_nil_of_length_eq_zero (by rw [hown.1]; simp)
  subst hx0
  refine wpList_append_lies _ hgd s x t ho 0 e i z 3 bytes ht hi hz hsize hby hzs hsz _ 0 [] hs hown ad rs.length c0 ys hx k1 (fun j u hu => by have := k4 j u hu; rw [Nat.zero_add] at this; exact (h.bl.cell (p := ad.add j) (by rw [block_of_add]; exact hbk)).trans this) k3 h0 (by unfold maxLen; omega) ?_ (Nat.zero_le _) _ rfl ?_
  ·exact bytes_fit (by omega) hbm
  ·intro g cap W' hown' hg hat hlt
   rw [Nat.zero_add, List.nil_append] at hown'
   rcases hown'.2 with ⟨e0, _⟩ | ⟨g', cap', cur, e0, q1, q2, q3, q4, q5, q6⟩
   ·cases e0
   injection e0 with e1 _ e3
   injection e1 with e1
   injection e1 with e1
   subst e1 e3
   obtain ⟨b', hm⟩ := grow g 0 cap W' ⟨by simp, .inr ⟨g, cap, cur, rfl, Nat.zero_le _, q2, Nat.zero_le _, q4, q5, by simp⟩⟩ hg hat hlt
   have hraw : Raw W' g 0 ys := by
    refine ⟨cur, e, q2, fun t u _ hu => ?_⟩
    rw [← q6, List.getElem?_take] at hu
    split at hu
    ·rwa [Array.getElem?_toList] at hu
    ·cases hu
   rw [Nat.zero_add]
   exact K g cap W' b' ys q3 (by simpa using hm) hraw k2
 ·obtain rfl : rs = [] := List.eq_nil_of_length_eq_zero (by omega)
  obtain ⟨xs, cs, hown, _⟩ : OwC W (.rows e 3 []) (.slice (some ⟨g0, 0, none⟩) 0 c1) b := h.at_ (i := 0) rfl
  refine wpList_append_zero hgd s x t ho 0 e i 3 ht hi _ 0 xs hs hown A c0 hx ?_
  rcases hown.2 with ⟨e0, _⟩ | ⟨g', cap', cur, e0, q1, q2, q3⟩
  ·cases e0
  injection e0 with e1 _ e3
  injection e1 with e1
  injection e1 with e1
  subst e1 e3
  exact K g0 c1 W b [] (Nat.zero_le _) h ⟨cur, e, q2, fun t u _ hu => by simp at hu⟩ (fun i r hr => by simp at hr)
end
def RawPost (e : TypeId) (rs : List (List Dat)) (w : World) (E : Ending) (w' : World) : Prop := (rs = [] ∧ E = .returned (.slice none 0 0) ∧ w = w') ∨
 ∃ g cap ys, E = .returned (.slice (some ⟨g, 0, none⟩) rs.length cap) ∧ rs.length ≤ cap ∧ Own w.heap.size w'.heap.size w' (.rows e 3 []) (.slice (some ⟨g, 0, none⟩) 0 cap) ∧ Raw w' g 0 ys ∧ Cells w rs ys ∧ Below w.heap.size w w'
section
variable {w0 W W' : World} {L : List It}
theorem Ms.hasC {g n cap sz : Nat} {e : TypeId} {ds : List (List Dat)} {b : List Nat} (h : Ms w0 (.dt (.rows e sz ds) (.slice (some ⟨g, 0, none⟩) n cap) b :: L) W) {o : Nat} (ho : o < cap * sz) : (∃ u, W.cell? ⟨g, o, none⟩ = some u) ∧ W.frozen? ⟨g, o, none⟩ = false := by
 obtain ⟨xs, cs, hown, _, _⟩ : OwC W (.rows e sz ds) (.slice (some ⟨g, 0, none⟩) n cap) b := h.at_ (i := 0) rfl
 obtain ⟨hxs, hcase⟩ := hown
 rcases hcase with ⟨h0, _⟩ | ⟨g', cap', cur, hv, _, hh, hnc, hcm, hcs, htk⟩
 ·cases h0
 injection hv with hv1 _ hv3
 injection hv1 with hv1
 injection hv1 with hv1 _ _
 subst hv1 hv3
 have ho2 : o < cur.size := by rw [hcs]; exact ho
 exact ⟨⟨cur[o], bxcell hh (Array.getElem?_eq_getElem ho2)⟩, bxfree hh⟩
theorem Ms.fillA {g n cap : Nat} {e : TypeId} {ds : List (List Dat)} {d : Dat} {v : Value} {b c : List Nat} (x y : Int) (h : Ms w0 (.dt (.rows e 3 ds) (.slice (some ⟨g, 0, none⟩) n cap) b :: .dt d v c :: L) W) (hn : n = ds.length) (hcap : n < cap) :
  ∃ b', Ms w0 (.dt (.rows e 3 (ds ++ [[.int x, .int y, d]])) (.slice (some ⟨g, 0, none⟩) (n + 1) cap) b' :: L) (((W.setCell ⟨g, n * 3, none⟩ (.int .i64 x)).setCell ⟨g, n * 3 + 1, none⟩ (.int .i64 y)).setCell ⟨g, n * 3 + 2, none⟩ v) := by
 subst hn
 have hd : OwC W d v c := h.at_ (i := 1) rfl
 have hrow : OwR W 3 [[.int x, .int y, d]] [.int .i64 x, .int .i64 y, v] c := OwR.one ⟨_, _, [], c, rfl, rfl, ⟨rfl, rfl⟩, _, _, [], c, rfl, rfl, ⟨rfl, rfl⟩, v, [], c, [], rfl, by simp, hd, rfl, rfl⟩ rfl
 obtain ⟨xs, hown, grow⟩ := Ms.grow (Y := [.dt d v c]) h hrow (h.ndAt (i := 1) (x := .dt d v c) rfl) (fun q hq => by simpa [It.bs] using hq)
 obtain ⟨hxs, hcase⟩ := hown
 rcases hcase with ⟨h0, _⟩ | ⟨g', cap', cur, hv, _, hh, hnc, hcm, hcs, htk⟩
 ·cases h0
 injection hv with hv1 _ hv3
 injection hv1 with hv1
 injection hv1 with hv1 _ _
 subst hv1 hv3
 refine grow g (ds.length + 1) cap _ ?_ ⟨rfl, rfl, rfl, by simp [World.setCell], fun k hk hne => ?_⟩ (.inl rfl) (by simp only [World.setCell, Array.size_modify]; exact lt_of_some hh)
 rotate_left
 ·have hne' : k ≠ g := fun e => hne (by rw [e]; rfl)
  exact ((Below.heap_setCell _ _ _ _ hne').trans (Below.heap_setCell _ _ _ _ hne')).trans (Below.heap_setCell _ _ _ _ hne')
 refine ⟨by simp [hxs]; omega, .inr ⟨g, cap, ((cur.setIfInBounds (ds.length * 3) (.int .i64 x)).setIfInBounds (ds.length * 3 + 1) (.int .i64 y)).setIfInBounds (ds.length * 3 + 2) v, by simp, Nat.zero_le _, bxset (bxset (bxset hh _) _) v, by simp; omega, hcm, by simpa using hcs, ?_⟩⟩
 have hsz : ds.length * 3 + 3 ≤ cur.toList.length := by
  have e : cur.toList.length = cap * 3 := by rw [Array.length_toList]; exact hcs
  rw [e]
  have : (ds.length + 1) * 3 ≤ cap * 3 := Nat.mul_le_mul_right 3 hcap
  omega
 rw [Array.toList_setIfInBounds, Array.toList_setIfInBounds, Array.toList_setIfInBounds, List.length_append, List.length_singleton, Nat.add_mul, Nat.one_mul]
 apply List.ext_getElem?
 intro t
 rw [List.getElem?_take]
 by_cases ht : t < ds.length * 3
 ·rw [if_pos (by omega), List.getElem?_set_ne (by omega), List.getElem?_set_ne (by omega), List.getElem?_set_ne (by omega), List.getElem?_append_left (by rw [hxs]; exact ht), ← htk, List.getElem?_take, if_pos ht]
 ·rw [List.getElem?_append_right (by rw [hxs]; omega), hxs]
  by_cases h3 : t < ds.length * 3 + 3
  ·rw [if_pos h3]
   obtain ⟨k, rfl⟩ : ∃ k, t = ds.length * 3 + k := ⟨t - ds.length * 3, by omega⟩
   rw [Nat.add_sub_cancel_left]
   have hk : k = 0 ∨ k = 1 ∨ k = 2 := by omega
   rcases hk with rfl | rfl | rfl
   ·rw [List.getElem?_set_ne (by omega), List.getElem?_set_ne (by omega), Nat.add_zero, List.getElem?_set_self (by omega)]
    rfl
   ·rw [List.getElem?_set_ne (by omega), List.getElem?_set_self (by simp; omega)]
    rfl
   ·rw [List.getElem?_set_self (by simp; omega)]
    rfl
  ·rw [if_neg h3, List.getElem?_eq_none (by simp; omega)]
theorem Ms.unEn {x : En} {v : Value} {b : List Nat} (h : Ms w0 (.dt (datEn x) (.agg #[.int .i64 x.client, .int .i64 x.seq, v]) b :: L) W) : ∃ c, Ms w0 (.dt (encPs x.o) v c :: L) W := by
 obtain ⟨d1, d2, h1⟩ := (show Ms w0 (.dt (.agg (encEn x)) (.agg ([.int .i64 x.client, .int .i64 x.seq, v] : List Value).toArray) b :: L) W from h).un
 obtain ⟨d3, d4, h2⟩ := h1.tail.un
 obtain ⟨d5, d6, h3⟩ := h2.tail.un
 exact ⟨d5, (h3.perm (.swap _ _ _)).tail⟩
theorem Ms.made {n sz : Nat} {e : TypeId} {xs : List Value} (h : Ms w0 L W) (ho : W'.ownsRow W.heap.size e sz (.slice (some ⟨W.heap.size, 0, none⟩) n n) n xs) (hg : Below W.heap.size W W') : Ms w0 (.dt (.rows e sz []) (.slice (some ⟨W.heap.size, 0, none⟩) 0 n) [W.heap.size] :: L) W' := by
 obtain ⟨hxs, hcase⟩ := ho
 rcases hcase with ⟨h0, _⟩ | ⟨g', cap', cur, hv, _, hh, hnc, hcm, hcs, htk⟩
 ·cases h0
 injection hv with hv1 _ hv3
 injection hv1 with hv1
 injection hv1 with hv1 _ _
 subst hv1 hv3
 refine h.cons hg ⟨[], [], ⟨by simp, .inr ⟨_, n, cur, rfl, Nat.zero_le _, hh, Nat.zero_le _, hcm, hcs, by simp⟩⟩, ⟨rfl, rfl⟩, rfl⟩ (by simp [It.bs]) (fun q hq => by simp [It.bs] at hq; omega)
end
end Go.Proofs.YtglklgnggkenhaaGreat.low
