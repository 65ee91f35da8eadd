/-
  Contracts of the specification's builder: spec.l02Flush, l02Keep, l02Put, l02Drop, l02Done.
-/
import Derived.Test.YteokiohfebklmaaBuild
import Derived.Deep.RegionLaw
namespace Go.Proofs.Yteokiohfebklmaa.low
open Go.RowKit
set_option linter.unusedVariables false

theorem free_grown {w w0 w1 : World} {g o : Nat} {cs : Array Value} {T : TypeId} {r : Option Nat} (hg : w.heap[g]? = some (.cells cs T (0, 0))) (h0 : Below w.heap.size w w0) (hgrow : w0.grownBy w1 r) (hne : ¬ r = some g) : w1.frozen? ⟨g, o, none⟩ = false := by
  have hlt := lt_of_some hg
  have : w1.heap[g]? = some (.cells cs T (0, 0)) := by rw [hgrow.block g (Nat.lt_of_lt_of_le hlt h0.size) (fun e => hne e.symm), h0.block g hlt]; exact hg
  simp [World.frozen?, this]
theorem below_made (w : World) (o : Obj) : Below w.heap.size w (w.alloc o).drew := ((Below.refl _ _).alloc (Nat.le_refl _) o).drew
theorem cell_grown {w w0 w1 : World} {g : Nat} {cs : Array Value} {T : TypeId} {r : Option Nat} (o : Nat) (hg : w.heap[g]? = some (.cells cs T (0, 0))) (h0 : Below w.heap.size w w0) (hgrow : w0.grownBy w1 r) (hne : ¬ r = some g) : w1.cell? ⟨g, o, none⟩ = cs[o]? := by
  have hlt := lt_of_some hg
  have : w1.heap[g]? = some (.cells cs T (0, 0)) := by rw [hgrow.block g (Nat.lt_of_lt_of_le hlt h0.size) (fun e => hne e.symm), h0.block g hlt]; exact hg
  exact cell_of_row _ _ o _ _ _ this
theorem Box.drew {lo g : Nat} {T : TypeId} {w : World} {v u : Value} {d : Int} {ps : List Pt} {us : List Value} (h : Box lo g T w v u d ps us) : Box lo g T w.drew v u d ps us := ⟨h.box, h.row.drew, h.len, h.low⟩
theorem Apart.drew {lo hi : Nat} {w : World} {ps : List Pt} {us : List Value} (h : Apart lo hi w ps us) : Apart lo hi w.drew ps us := h.keep (Nat.le_refl _) (fun _ _ _ _ _ _ => rfl)
theorem Apart.drewS {lo : Nat} {w : World} {ps : List Pt} {us : List Value} (h : Apart lo w.heap.size w ps us) : Apart lo w.drew.heap.size w.drew ps us := h.drew

def putL (put : List Int) : List Pt := if put.length = 0 then [] else [⟨2, 0, put⟩]
def dropL (d : Int) : List Pt := if 0 < d then [⟨3, d, []⟩] else []
/-- the builder: its parts, what is to be put, what is dropped -/
def BAt (lo g : Nat) (T : TypeId) (w : World) (ps : List Pt) (put : List Int) (d : Int) : Prop :=
  ∃ v u us, Box lo g T w v u d ps us ∧ Apart lo w.heap.size w (ps ++ [⟨2, 0, put⟩]) (us ++ [u])
/-- the function returns nothing and leaves the builder so -/
def Built (lo g : Nat) (T : TypeId) (w : World) (ps : List Pt) (put : List Int) (d : Int) (e : Ending) (w' : World) : Prop := e = .returned (.tuple #[]) ∧ BAt lo g T w' ps put d ∧ Below lo w w'

theorem Apart.init {lo hi : Nat} {w : World} {ps : List Pt} {us : List Value} {p : Pt} {u : Value} (h : Apart lo hi w (ps ++ [p]) (us ++ [u])) (hl : us.length = ps.length) : Apart lo hi w ps us := by
  obtain ⟨h1, h2, h3⟩ := h
  refine ⟨hl, fun i q x hq hx => h2 i q x ?_ ?_, fun i j k a b ha hb => h3 i j k a b ?_ ?_⟩
  · rw [List.getElem?_append_left (idx_lt hq)]; exact hq
  · rw [List.getElem?_append_left (idx_lt hx)]; exact hx
  · rw [List.getElem?_append_left (idx_lt ha)]; exact ha
  · rw [List.getElem?_append_left (idx_lt hb)]; exact hb
theorem Apart.last {lo hi : Nat} {w : World} {ps : List Pt} {us : List Value} {p : Pt} {u : Value} (h : Apart lo hi w (ps ++ [p]) (us ++ [u])) (hl : us.length = ps.length) : w.ownsRow lo 3 1 u p.signs.length (p.signs.map (Value.int .i64)) := by
  have := (h.2.1 ps.length p u (by simp) (by rw [← hl]; simp)).1
  exact this
theorem Apart.bare {lo hi : Nat} {w : World} {ps : List Pt} {us : List Value} (k n : Int) (h : Apart lo hi w ps us) : Apart lo hi w (ps ++ [⟨k, n, []⟩]) (us ++ [.slice none 0 0]) :=
  h.snoc (World.ownsRow_nil _ _ _ _) (fun k hk => by simp [Value.ownBlock] at hk) (fun i v k _ _ he => by simp [Value.ownBlock] at he)

/-- the builder with nothing pending -/
def BNil (lo g : Nat) (T : TypeId) (w : World) (ps : List Pt) : Prop := ∃ v us, Box lo g T w v (.slice none 0 0) 0 ps us ∧ Apart lo w.heap.size w ps us
theorem BNil.at_ {lo g : Nat} {T : TypeId} {w : World} {ps : List Pt} (h : BNil lo g T w ps) : BAt lo g T w ps [] 0 := by
  obtain ⟨v, us, hx, ha⟩ := h
  exact ⟨v, _, us, hx, Apart.bare 2 0 ha⟩
def Flushed (lo g : Nat) (T : TypeId) (w : World) (ps : List Pt) (e : Ending) (w' : World) : Prop := e = .returned (.tuple #[]) ∧ BNil lo g T w' ps ∧ Below lo w w'
theorem Box.clear {lo g : Nat} {T : TypeId} {w : World} {v u : Value} {d : Int} {ps : List Pt} {us : List Value} (h : Box lo g T w v u d ps us) (hT1 : ¬ T = 3) (hT2 : ¬ T = 27) (ha : Apart lo w.heap.size w ps us) :
    BNil lo g T ((w.setCell ⟨g, 1, none⟩ (.slice none 0 0)).setCell ⟨g, 2, none⟩ (.int .i64 0)) ps ∧ Below lo w ((w.setCell ⟨g, 1, none⟩ (.slice none 0 0)).setCell ⟨g, 2, none⟩ (.int .i64 0)) := by
  refine ⟨⟨v, us, ⟨?_, ?_, h.len, h.low⟩, ?_⟩, ((Below.refl _ _).setCell h.low _).setCell h.low _⟩
  · rw [heap_setCell_same _ _ _ _ _ _ (heap_setCell_same _ _ _ _ _ _ h.box)]; rfl
  · exact ownsRow_setCell_other (ownsRow_setCell_other h.row (own_far h.row h.box hT2) _) (own_far h.row h.box hT2) _
  · refine ha.keep (by simp) (fun i x k hx hk1 hk2 => ?_)
    obtain ⟨q, hq⟩ := idx_some (l := ps) (i := i) (by rw [← ha.1]; exact idx_lt hx)
    have hkg : ¬ k = g := fun e => own_far (ha.2.1 i q x hq hx).1 h.box hT1 (by rw [hk1, e])
    rw [Below.heap_setCell _ _ _ _ hkg, Below.heap_setCell _ _ _ _ hkg]

set_option maxRecDepth 100000 in
set_option maxHeartbeats 3200000 in
theorem specFlush_any (lo g : Nat) (ps : List Pt) (put : List Int) (d : Int) (w : World) (hb : BAt lo g 53 w ps put d) (hl : ps.length ≤ 4294967296) (hp : put.length ≤ 4294967296) :
    Calls Try.prog 66 #[.pointer (some ⟨g, 0, none⟩)] w (Flushed lo g 53 w (ps ++ putL put ++ dropL d)) := by
  obtain ⟨i0, hi0, hz0, hz1, hz2⟩ := info_parts part_info
  obtain ⟨v, u, us, hx, ha⟩ := hb
  have ha0 := ha.init hx.len
  obtain ⟨A, c, rfl⟩ := own_form (ha.last hx.len)
  have c0 := hx.cell0
  have c1 := hx.cell1
  have c2 := hx.cell2
  have f0 := hx.free 0
  have f1 := hx.free 1
  have f2 := hx.free 2
  have HX := Lib.hid hx
  have HA := Lib.hid ha
  have HA0 := Lib.hid ha0
  clear hx ha ha0
  by_cases hput : put.length = 0
  · have e1 : putL put = [] := by simp [putL, hput]
    rw [e1, List.append_nil]
    by_cases hd : 0 < d
    · have e2 : dropL d = [⟨3, d, []⟩] := by simp [dropL, hd]
      rw [e2]
      go_enter Try.func66, Try.ntmps66
      go_wp2_with fail
      have lg := HX.out.lt
      have hlo : lo ≤ w.heap.size := Nat.le_trans HX.out.low (Nat.le_of_lt lg)
      have hne := own_far HX.out.row HX.out.box (by decide)
      go_region_law ((refine step_append_lies _ (by rfl) (.tmp 31) (.tmp 37) 34 (by rfl) lo 27 i0 _ 3 40 Try.underlying34 hi0 hz0 hz1 hz2 rfl (by omega) v ps.length (cellsOf ps us) (by rfl) ((HX.out.row.alloc _).drew) ⟨w.heap.size, 0, none⟩ 1 1 [.int .i64 3, .int .i64 d, .slice none 0 0] (by rfl) (by rfl) (World.news_of_block (cs := #[.int .i64 3, .int .i64 d, .slice none 0 0]) (t := 27) (fr := (0, 0)) (heap_alloc_new w _)) (by simp [Value.oneCell']) (by omega) (by unfold maxLen; omega) (by omega) (by simp; omega) (w.heap.size + 1) (by simp) ?_; intro gg cap w1 hown1 hgrow hat hlt; have hf := free_grown (o := 0) HX.out.box (below_made w _) hgrow hne; have hf1 := free_grown (o := 1) HX.out.box (below_made w _) hgrow hne; have hf2 := free_grown (o := 2) HX.out.box (below_made w _) hgrow hne; have hc : w1.cell? ⟨g, 0, none⟩ = some v := cell_grown 0 HX.out.box (below_made w _) hgrow hne; have hc1 : w1.cell? ⟨g, 1, none⟩ = some (.slice A put.length c) := cell_grown 1 HX.out.box (below_made w _) hgrow hne; have hc2 : w1.cell? ⟨g, 2, none⟩ = some (.int .i64 d) := cell_grown 2 HX.out.box (below_made w _) hgrow hne))
      all_goals
        obtain ⟨hx2, ha2, b2⟩ := Box.push (p := ⟨3, d, []⟩) HX.out (by decide) (by decide) (Apart.bare 3 d HA0.out) (below_made w _) hown1 hgrow
        have HX2 := Lib.hid hx2
        have HA2 := Lib.hid ha2
        have HB2 := Lib.hid b2
        clear hx2 ha2 b2
        go_wp2
        go_end0
        obtain ⟨r1, r2⟩ := HX2.out.clear (by decide) (by decide) HA2.out
        exact ⟨rfl, r1, HB2.out.trans r2⟩

    · have e2 : dropL d = [] := by simp [dropL]; omega
      rw [e2, List.append_nil]
      go_enter Try.func66, Try.ntmps66
      go_wp2_with fail
      go_end0
      obtain ⟨r1, r2⟩ := HX.out.clear (by decide) (by decide) HA0.out
      exact ⟨rfl, r1, r2⟩
  · have hput' : (0 : Int) < (put.length : Int) := by omega
    have e1 : putL put = [⟨2, 0, put⟩] := by simp [putL, hput]
    rw [e1]
    by_cases hd : 0 < d
    · have e2 : dropL d = [⟨3, d, []⟩] := by simp [dropL, hd]
      rw [e2]
      generalize hQ : ps ++ [⟨2, 0, put⟩] ++ [⟨3, d, []⟩] = Q
      have HQ := Lib.hid hQ
      clear hQ
      go_enter Try.func66, Try.ntmps66
      go_wp2_with fail
      have lg := HX.out.lt
      have hlo : lo ≤ w.heap.size := Nat.le_trans HX.out.low (Nat.le_of_lt lg)
      have hne := own_far HX.out.row HX.out.box (by decide)
      go_region_law ((refine step_append_lies _ (by rfl) (.tmp 12) (.tmp 18) 34 (by rfl) lo 27 i0 _ 3 40 Try.underlying34 hi0 hz0 hz1 hz2 rfl (by omega) v ps.length (cellsOf ps us) (by rfl) ((HX.out.row.alloc _).drew) ⟨w.heap.size, 0, none⟩ 1 1 [.int .i64 2, .int .i64 0, .slice A put.length c] (by rfl) (by rfl) (World.news_of_block (cs := #[.int .i64 2, .int .i64 0, .slice A put.length c]) (t := 27) (fr := (0, 0)) (heap_alloc_new w _)) (by simp [Value.oneCell']) (by omega) (by unfold maxLen; omega) (by omega) (by simp; omega) (w.heap.size + 1) (by simp) ?_; intro gg cap w1 hown1 hgrow hat hlt; have hf := free_grown (o := 0) HX.out.box (below_made w _) hgrow hne; have hf1 := free_grown (o := 1) HX.out.box (below_made w _) hgrow hne; have hf2 := free_grown (o := 2) HX.out.box (below_made w _) hgrow hne; have hc : w1.cell? ⟨g, 0, none⟩ = some v := cell_grown 0 HX.out.box (below_made w _) hgrow hne; have hc1 : w1.cell? ⟨g, 1, none⟩ = some (.slice A put.length c) := cell_grown 1 HX.out.box (below_made w _) hgrow hne; have hc2 : w1.cell? ⟨g, 2, none⟩ = some (.int .i64 d) := cell_grown 2 HX.out.box (below_made w _) hgrow hne))
      all_goals

        obtain ⟨hx1, ha1, b1⟩ := Box.push (p := ⟨2, 0, put⟩) HX.out (by decide) (by decide) HA.out (below_made w _) hown1 hgrow
        clear hown1 hgrow hat hlt hlo hne lg c0 c1 c2 f0 f1 f2
        have HX1 := Lib.hid hx1
        have HA1 := Lib.hid ha1
        have HB1 := Lib.hid b1
        clear hx1 ha1 b1
        go_wp2_with fail
        clear hf hf1 hf2 hc hc1 hc2
        generalize (Value.slice (some ⟨gg, 0, none⟩) (ps.length + 1) cap) = v1 at *
        generalize w1.setCell ⟨g, 0, none⟩ v1 = W1 at *
        have c0 := HX1.out.cell0
        have c1 := HX1.out.cell1
        have c2 := HX1.out.cell2
        have f0 := HX1.out.free 0
        have f1 := HX1.out.free 1
        have f2 := HX1.out.free 2
        generalize hps : ps ++ [⟨2, 0, put⟩] = ps1 at *
        have hl1 : ps1.length ≤ 4294967297 := by rw [← hps]; simp; omega
        clear hps
        generalize us ++ [Value.slice A put.length c] = us1 at *
        have lg := HX1.out.lt
        have hlo : lo ≤ W1.heap.size := Nat.le_trans HX1.out.low (Nat.le_of_lt lg)
        have hne := own_far HX1.out.row HX1.out.box (by decide)
        go_region_law ((refine step_append_lies _ (by rfl) (.tmp 31) (.tmp 37) 34 (by rfl) lo 27 i0 _ 3 40 Try.underlying34 hi0 hz0 hz1 hz2 rfl (by omega) v1 ps1.length (cellsOf ps1 us1) (by rfl) ((HX1.out.row.alloc _).drew) ⟨W1.heap.size, 0, none⟩ 1 1 [.int .i64 3, .int .i64 d, .slice none 0 0] (by rfl) (by rfl) (World.news_of_block (cs := #[.int .i64 3, .int .i64 d, .slice none 0 0]) (t := 27) (fr := (0, 0)) (heap_alloc_new W1 _)) (by simp [Value.oneCell']) (by omega) (by unfold maxLen; omega) (by omega) (by simp; omega) (W1.heap.size + 1) (by simp) ?_; intro gg cap w1 hown1 hgrow hat hlt; have hf := free_grown (o := 0) HX1.out.box (below_made W1 _) hgrow hne; have hf1 := free_grown (o := 1) HX1.out.box (below_made W1 _) hgrow hne; have hf2 := free_grown (o := 2) HX1.out.box (below_made W1 _) hgrow hne; have hc : w1.cell? ⟨g, 0, none⟩ = some v1 := cell_grown 0 HX1.out.box (below_made W1 _) hgrow hne; have hc1 : w1.cell? ⟨g, 1, none⟩ = some (.slice A put.length c) := cell_grown 1 HX1.out.box (below_made W1 _) hgrow hne; have hc2 : w1.cell? ⟨g, 2, none⟩ = some (.int .i64 d) := cell_grown 2 HX1.out.box (below_made W1 _) hgrow hne))
        all_goals
          obtain ⟨hx2, ha2, b2⟩ := Box.push (p := ⟨3, d, []⟩) HX1.out (by decide) (by decide) (Apart.bare 3 d HA1.out) (below_made W1 _) hown1 hgrow
          have HX2 := Lib.hid hx2
          have HA2 := Lib.hid ha2
          have HB2 := Lib.hid b2
          clear hx2 ha2 b2
          go_wp2
          go_end0
          obtain ⟨r1, r2⟩ := HX2.out.clear (by decide) (by decide) HA2.out
          exact ⟨rfl, by rw [← HQ.out]; exact r1, HB1.out.trans (HB2.out.trans r2)⟩

    · have e2 : dropL d = [] := by simp [dropL]; omega
      rw [e2, List.append_nil]
      go_enter Try.func66, Try.ntmps66
      go_wp2_with fail
      have lg := HX.out.lt
      have hlo : lo ≤ w.heap.size := Nat.le_trans HX.out.low (Nat.le_of_lt lg)
      have hne := own_far HX.out.row HX.out.box (by decide)
      go_region_law ((refine step_append_lies _ (by rfl) (.tmp 12) (.tmp 18) 34 (by rfl) lo 27 i0 _ 3 40 Try.underlying34 hi0 hz0 hz1 hz2 rfl (by omega) v ps.length (cellsOf ps us) (by rfl) ((HX.out.row.alloc _).drew) ⟨w.heap.size, 0, none⟩ 1 1 [.int .i64 2, .int .i64 0, .slice A put.length c] (by rfl) (by rfl) (World.news_of_block (cs := #[.int .i64 2, .int .i64 0, .slice A put.length c]) (t := 27) (fr := (0, 0)) (heap_alloc_new w _)) (by simp [Value.oneCell']) (by omega) (by unfold maxLen; omega) (by omega) (by simp; omega) (w.heap.size + 1) (by simp) ?_; intro gg cap w1 hown1 hgrow hat hlt; have hf := free_grown (o := 0) HX.out.box (below_made w _) hgrow hne; have hf1 := free_grown (o := 1) HX.out.box (below_made w _) hgrow hne; have hf2 := free_grown (o := 2) HX.out.box (below_made w _) hgrow hne; have hc : w1.cell? ⟨g, 0, none⟩ = some v := cell_grown 0 HX.out.box (below_made w _) hgrow hne; have hc1 : w1.cell? ⟨g, 1, none⟩ = some (.slice A put.length c) := cell_grown 1 HX.out.box (below_made w _) hgrow hne; have hc2 : w1.cell? ⟨g, 2, none⟩ = some (.int .i64 d) := cell_grown 2 HX.out.box (below_made w _) hgrow hne))
      all_goals

        obtain ⟨hx1, ha1, b1⟩ := Box.push (p := ⟨2, 0, put⟩) HX.out (by decide) (by decide) HA.out (below_made w _) hown1 hgrow
        have HX2 := Lib.hid hx1
        have HA2 := Lib.hid ha1
        have HB2 := Lib.hid b1
        clear hx1 ha1 b1
        go_wp2
        go_end0
        obtain ⟨r1, r2⟩ := HX2.out.clear (by decide) (by decide) HA2.out
        exact ⟨rfl, r1, HB2.out.trans r2⟩
end Go.Proofs.Yteokiohfebklmaa.low
